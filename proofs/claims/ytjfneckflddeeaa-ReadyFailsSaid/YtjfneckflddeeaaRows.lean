/-
  No cell of these rows narrows 'for every input' (looked for: loops, veiled, ifaces, maps, wideKeys, modest, calm, conditions, laid).
  DERIVED. THE GIVEN ROWS OF THIS SEAT. 6 by the template 'for every input the law returns true; each argument reads behind the call as it read before'; 0 by the template 'total and deterministic' (their statements: YtjfneckflddeeaaTotals.lean).
  GIVEN WITH THE SEED: the statements are not yours to turn. If you find one false, say at which input.
  Laid BY PROGRAM, IN A SANDBOX (cutbox-rows.mjs): the forced cells as the released guide's own fill.sh prints them over the translation cb88942ffd7d0a29… (all of the seat's roots in one cut). By AI agents, Wed Nov 11 2026. No macro, syntax, notation, axiom, sorry.
-/
import Derived.Test.YtjfneckflddeeaaChecked
import GoSem.Claim
import GoSem.ClaimJoined
import GoSem.ClaimMapViews
import Derived.JoinedTies
import Derived.KernelRfl
namespace Go.Proofs.Ytjfneckflddeeaa
/- THE CELL 'sum', in the pinned program and in every row, IS THE sha256 OF THE DUMP (.gsa) THAT YtjfneckflddeeaaProg.lean LOADS. Nothing in Lean hashes anything: it is a label: what it is worth is what the hold of that sum in a sandbox is worth. -/
noncomputable def Try.pinned : Pinned := { name := "ytjfneckflddeeaa", sum := "cb88942ffd7d0a29b09ec59ad5e72c14138681929219ccc63a4862163c39ceb4", checked := Try.checked }
namespace Rows
def none {H : Type} : Left H := { results := [], args := [] }

/-- 'dockyardlaw09.ReadySettles': WHATEVER THE INPUT: true; the input reads as it did. -/
def readySettlesSpec : ChangeSpec := { name := "readySettles", fn := fun _ => fun
  | [d1, d2, d3] => { results := [.lit (.bool true)], args := [d1, d2, d3] }
  | _ => none }
def readySettlesRow : OpenClaim := { program := "ytjfneckflddeeaa", sum := "cb88942ffd7d0a29b09ec59ad5e72c14138681929219ccc63a4862163c39ceb4", func := "dockyard/dockyardlaw09.ReadySettles", spec := "readySettles", apart := false }
def ReadySettlesSaid : Prop := readySettlesRow.holds Try.pinned (OpenSpec.ofChange readySettlesSpec)

/-- ITS FALSE NEIGHBOUR: 'it returns false'. Refute it at one input. -/
def readySettlesWrong : ChangeSpec := { name := "readySettles", fn := fun _ => fun
  | [d1, d2, d3] => { results := [.lit (.bool false)], args := [d1, d2, d3] }
  | _ => none }
def ReadySettlesWrongFalsely : Prop := readySettlesRow.holds Try.pinned (OpenSpec.ofChange readySettlesWrong)

/-- 'dockyardlaw09.ReadyEnds': WHATEVER THE INPUT: true; the input reads as it did. -/
def readyEndsSpec : ChangeSpec := { name := "readyEnds", fn := fun _ => fun
  | [d1, d2] => { results := [.lit (.bool true)], args := [d1, d2] }
  | _ => none }
def readyEndsRow : OpenClaim := { program := "ytjfneckflddeeaa", sum := "cb88942ffd7d0a29b09ec59ad5e72c14138681929219ccc63a4862163c39ceb4", func := "dockyard/dockyardlaw09.ReadyEnds", spec := "readyEnds", unfollowed := true, recurses := true, apart := false }
def ReadyEndsSaid : Prop := readyEndsRow.holds Try.pinned (OpenSpec.ofChange readyEndsSpec)

/-- ITS FALSE NEIGHBOUR: 'it returns false'. Refute it at one input. -/
def readyEndsWrong : ChangeSpec := { name := "readyEnds", fn := fun _ => fun
  | [d1, d2] => { results := [.lit (.bool false)], args := [d1, d2] }
  | _ => none }
def ReadyEndsWrongFalsely : Prop := readyEndsRow.holds Try.pinned (OpenSpec.ofChange readyEndsWrong)

/-- 'dockyardlaw09.ReadyTwice': WHATEVER THE INPUT: true; the input reads as it did. -/
def readyTwiceSpec : ChangeSpec := { name := "readyTwice", fn := fun _ => fun
  | [d1, d2] => { results := [.lit (.bool true)], args := [d1, d2] }
  | _ => none }
def readyTwiceRow : OpenClaim := { program := "ytjfneckflddeeaa", sum := "cb88942ffd7d0a29b09ec59ad5e72c14138681929219ccc63a4862163c39ceb4", func := "dockyard/dockyardlaw09.ReadyTwice", spec := "readyTwice", apart := false }
def ReadyTwiceSaid : Prop := readyTwiceRow.holds Try.pinned (OpenSpec.ofChange readyTwiceSpec)

/-- ITS FALSE NEIGHBOUR: 'it returns false'. Refute it at one input. -/
def readyTwiceWrong : ChangeSpec := { name := "readyTwice", fn := fun _ => fun
  | [d1, d2] => { results := [.lit (.bool false)], args := [d1, d2] }
  | _ => none }
def ReadyTwiceWrongFalsely : Prop := readyTwiceRow.holds Try.pinned (OpenSpec.ofChange readyTwiceWrong)

/-- 'dockyardlaw09.ReadyGoesOn': WHATEVER THE INPUT: true; the input reads as it did. -/
def readyGoesOnSpec : ChangeSpec := { name := "readyGoesOn", fn := fun _ => fun
  | [d1, d2] => { results := [.lit (.bool true)], args := [d1, d2] }
  | _ => none }
def readyGoesOnRow : OpenClaim := { program := "ytjfneckflddeeaa", sum := "cb88942ffd7d0a29b09ec59ad5e72c14138681929219ccc63a4862163c39ceb4", func := "dockyard/dockyardlaw09.ReadyGoesOn", spec := "readyGoesOn", apart := false }
def ReadyGoesOnSaid : Prop := readyGoesOnRow.holds Try.pinned (OpenSpec.ofChange readyGoesOnSpec)

/-- ITS FALSE NEIGHBOUR: 'it returns false'. Refute it at one input. -/
def readyGoesOnWrong : ChangeSpec := { name := "readyGoesOn", fn := fun _ => fun
  | [d1, d2] => { results := [.lit (.bool false)], args := [d1, d2] }
  | _ => none }
def ReadyGoesOnWrongFalsely : Prop := readyGoesOnRow.holds Try.pinned (OpenSpec.ofChange readyGoesOnWrong)

/-- 'dockyardlaw09.ReadyFails': WHATEVER THE INPUT: true; the input reads as it did. -/
def readyFailsSpec : ChangeSpec := { name := "readyFails", fn := fun _ => fun
  | [d1, d2] => { results := [.lit (.bool true)], args := [d1, d2] }
  | _ => none }
def readyFailsRow : OpenClaim := { program := "ytjfneckflddeeaa", sum := "cb88942ffd7d0a29b09ec59ad5e72c14138681929219ccc63a4862163c39ceb4", func := "dockyard/dockyardlaw09.ReadyFails", spec := "readyFails", recurses := true, apart := false }
def ReadyFailsSaid : Prop := readyFailsRow.holds Try.pinned (OpenSpec.ofChange readyFailsSpec)

/-- ITS FALSE NEIGHBOUR: 'it returns false'. Refute it at one input. -/
def readyFailsWrong : ChangeSpec := { name := "readyFails", fn := fun _ => fun
  | [d1, d2] => { results := [.lit (.bool false)], args := [d1, d2] }
  | _ => none }
def ReadyFailsWrongFalsely : Prop := readyFailsRow.holds Try.pinned (OpenSpec.ofChange readyFailsWrong)

/-- 'dockyardlaw09.ReadyCancels': WHATEVER THE INPUT: true; the input reads as it did. -/
def readyCancelsSpec : ChangeSpec := { name := "readyCancels", fn := fun _ => fun
  | [d1, d2] => { results := [.lit (.bool true)], args := [d1, d2] }
  | _ => none }
def readyCancelsRow : OpenClaim := { program := "ytjfneckflddeeaa", sum := "cb88942ffd7d0a29b09ec59ad5e72c14138681929219ccc63a4862163c39ceb4", func := "dockyard/dockyardlaw09.ReadyCancels", spec := "readyCancels", unfollowed := true, recurses := true, apart := false }
def ReadyCancelsSaid : Prop := readyCancelsRow.holds Try.pinned (OpenSpec.ofChange readyCancelsSpec)

/-- ITS FALSE NEIGHBOUR: 'it returns false'. Refute it at one input. -/
def readyCancelsWrong : ChangeSpec := { name := "readyCancels", fn := fun _ => fun
  | [d1, d2] => { results := [.lit (.bool false)], args := [d1, d2] }
  | _ => none }
def ReadyCancelsWrongFalsely : Prop := readyCancelsRow.holds Try.pinned (OpenSpec.ofChange readyCancelsWrong)

/- THE SECOND FORM. 'bulk': how many values and letters a reading holds, each counted each time it is reached (what is shared counts as often as it is met; a slice's spare places count too). A statement '..UptoSaid' is the law's where the arguments, and the package variables that the reading takes, are together of bulk at most 1048576: NARROWER than '..Said'. Prove '..Said' where nothing that the law and all that it calls make is longer than what came in: it says more and counts as full. Else prove '..UptoSaid'. A law counts once. -/
mutual
def uptoBulk {H : Type} : DataW H → Nat
  | .lit (.string bytes) => bytes.length + 1
  | .lit _ => 1
  | .nil => 1
  | .ptr d => uptoBulk d + 1
  | .slice elems spare => uptoBulkAll elems + uptoBulkAll spare + 1
  | .agg parts => uptoBulkAll parts + 1
  | .iface _ d => uptoBulk d + 1
  | .map entries => uptoBulkEntries entries + 1
  | .held _ => 1
def uptoBulkAll {H : Type} : List (DataW H) → Nat
  | [] => 0
  | d :: r => uptoBulk d + uptoBulkAll r
def uptoBulkEntries {H : Type} : List (Lit × DataW H) → Nat
  | [] => 0
  | x :: r => uptoBulkEntry x + uptoBulkEntries r
def uptoBulkEntry {H : Type} : Lit × DataW H → Nat
  | (.string bytes, d) => bytes.length + uptoBulk d + 1
  | (_, d) => uptoBulk d + 1
 end
def uptoSmall : (H : Type) → List (DataW H) → Bool := fun _ ds => decide (uptoBulkAll ds ≤ 1048576)
def OpenSpec.upto (s : _root_.Go.ChangeSpec) : _root_.Go.OpenSpec := { _root_.Go.OpenSpec.ofChange s with cond := some uptoSmall }

/-- 'dockyardlaw09.ReadySettles', WHERE WHAT IT READS IS OF BULK AT MOST 1048576: true; the input reads as it did. -/
def readySettlesUptoRow : OpenClaim := { program := "ytjfneckflddeeaa", sum := "cb88942ffd7d0a29b09ec59ad5e72c14138681929219ccc63a4862163c39ceb4", func := "dockyard/dockyardlaw09.ReadySettles", spec := "readySettles", apart := false, narrowed := true }
def ReadySettlesUptoSaid : Prop := readySettlesUptoRow.holds Try.pinned (OpenSpec.upto readySettlesSpec)

/-- 'dockyardlaw09.ReadyEnds', WHERE WHAT IT READS IS OF BULK AT MOST 1048576: true; the input reads as it did. -/
def readyEndsUptoRow : OpenClaim := { program := "ytjfneckflddeeaa", sum := "cb88942ffd7d0a29b09ec59ad5e72c14138681929219ccc63a4862163c39ceb4", func := "dockyard/dockyardlaw09.ReadyEnds", spec := "readyEnds", unfollowed := true, recurses := true, apart := false, narrowed := true }
def ReadyEndsUptoSaid : Prop := readyEndsUptoRow.holds Try.pinned (OpenSpec.upto readyEndsSpec)

/-- 'dockyardlaw09.ReadyTwice', WHERE WHAT IT READS IS OF BULK AT MOST 1048576: true; the input reads as it did. -/
def readyTwiceUptoRow : OpenClaim := { program := "ytjfneckflddeeaa", sum := "cb88942ffd7d0a29b09ec59ad5e72c14138681929219ccc63a4862163c39ceb4", func := "dockyard/dockyardlaw09.ReadyTwice", spec := "readyTwice", apart := false, narrowed := true }
def ReadyTwiceUptoSaid : Prop := readyTwiceUptoRow.holds Try.pinned (OpenSpec.upto readyTwiceSpec)

/-- 'dockyardlaw09.ReadyGoesOn', WHERE WHAT IT READS IS OF BULK AT MOST 1048576: true; the input reads as it did. -/
def readyGoesOnUptoRow : OpenClaim := { program := "ytjfneckflddeeaa", sum := "cb88942ffd7d0a29b09ec59ad5e72c14138681929219ccc63a4862163c39ceb4", func := "dockyard/dockyardlaw09.ReadyGoesOn", spec := "readyGoesOn", apart := false, narrowed := true }
def ReadyGoesOnUptoSaid : Prop := readyGoesOnUptoRow.holds Try.pinned (OpenSpec.upto readyGoesOnSpec)

/-- 'dockyardlaw09.ReadyFails', WHERE WHAT IT READS IS OF BULK AT MOST 1048576: true; the input reads as it did. -/
def readyFailsUptoRow : OpenClaim := { program := "ytjfneckflddeeaa", sum := "cb88942ffd7d0a29b09ec59ad5e72c14138681929219ccc63a4862163c39ceb4", func := "dockyard/dockyardlaw09.ReadyFails", spec := "readyFails", recurses := true, apart := false, narrowed := true }
def ReadyFailsUptoSaid : Prop := readyFailsUptoRow.holds Try.pinned (OpenSpec.upto readyFailsSpec)

/-- 'dockyardlaw09.ReadyCancels', WHERE WHAT IT READS IS OF BULK AT MOST 1048576: true; the input reads as it did. -/
def readyCancelsUptoRow : OpenClaim := { program := "ytjfneckflddeeaa", sum := "cb88942ffd7d0a29b09ec59ad5e72c14138681929219ccc63a4862163c39ceb4", func := "dockyard/dockyardlaw09.ReadyCancels", spec := "readyCancels", unfollowed := true, recurses := true, apart := false, narrowed := true }
def ReadyCancelsUptoSaid : Prop := readyCancelsUptoRow.holds Try.pinned (OpenSpec.upto readyCancelsSpec)

end Rows
end Go.Proofs.Ytjfneckflddeeaa
