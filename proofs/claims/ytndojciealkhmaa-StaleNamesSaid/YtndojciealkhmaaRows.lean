/-
  No cell of these rows narrows 'for every input' (looked for: loops, veiled, ifaces, maps, wideKeys, modest, calm, conditions, laid).
  DERIVED. THE GIVEN ROWS OF THIS SEAT. 6 by the template 'for every input the law returns true; each argument reads behind the call as it read before'; 0 by the template 'total and deterministic' (their statements: YtndojciealkhmaaTotals.lean).
  GIVEN WITH THE SEED: the statements are not yours to turn. If you find one false, say at which input.
  Laid BY PROGRAM, IN A SANDBOX (cutbox-rows.mjs): the forced cells as the released guide's own fill.sh prints them over the translation 676fb6329b1ebdb0… (all of the seat's roots in one cut). By AI agents, Wed Nov 11 2026. No macro, syntax, notation, axiom, sorry.
-/
import Derived.Test.YtndojciealkhmaaChecked
import GoSem.Claim
import GoSem.ClaimJoined
import GoSem.ClaimMapViews
import Derived.JoinedTies
import Derived.KernelRfl
namespace Go.Proofs.Ytndojciealkhmaa
/- THE CELL 'sum', in the pinned program and in every row, IS THE sha256 OF THE DUMP (.gsa) THAT YtndojciealkhmaaProg.lean LOADS. Nothing in Lean hashes anything: it is a label: what it is worth is what the hold of that sum in a sandbox is worth. -/
noncomputable def Try.pinned : Pinned := { name := "ytndojciealkhmaa", sum := "676fb6329b1ebdb09129ed2aec4e9c94cb44bce3e7c10ffc9ab206e38dfced7a", checked := Try.checked }
namespace Rows
def none {H : Type} : Left H := { results := [], args := [] }

/-- 'dockyardlaw08.StaleKeys': WHATEVER THE INPUT: true; the input reads as it did. -/
def staleKeysSpec : ChangeSpec := { name := "staleKeys", fn := fun _ => fun
  | [d1, d2, d3] => { results := [.lit (.bool true)], args := [d1, d2, d3] }
  | _ => none }
def staleKeysRow : OpenClaim := { program := "ytndojciealkhmaa", sum := "676fb6329b1ebdb09129ed2aec4e9c94cb44bce3e7c10ffc9ab206e38dfced7a", func := "dockyard/dockyardlaw08.StaleKeys", spec := "staleKeys", unfollowed := true, recurses := true, apart := false }
def StaleKeysSaid : Prop := staleKeysRow.holds Try.pinned (OpenSpec.ofChange staleKeysSpec)

/-- ITS FALSE NEIGHBOUR: 'it returns false'. Refute it at one input. -/
def staleKeysWrong : ChangeSpec := { name := "staleKeys", fn := fun _ => fun
  | [d1, d2, d3] => { results := [.lit (.bool false)], args := [d1, d2, d3] }
  | _ => none }
def StaleKeysWrongFalsely : Prop := staleKeysRow.holds Try.pinned (OpenSpec.ofChange staleKeysWrong)

/-- 'dockyardlaw08.StaleFresh': WHATEVER THE INPUT: true; the input reads as it did. -/
def staleFreshSpec : ChangeSpec := { name := "staleFresh", fn := fun _ => fun
  | [d1, d2] => { results := [.lit (.bool true)], args := [d1, d2] }
  | _ => none }
def staleFreshRow : OpenClaim := { program := "ytndojciealkhmaa", sum := "676fb6329b1ebdb09129ed2aec4e9c94cb44bce3e7c10ffc9ab206e38dfced7a", func := "dockyard/dockyardlaw08.StaleFresh", spec := "staleFresh", unfollowed := true, recurses := true, apart := false }
def StaleFreshSaid : Prop := staleFreshRow.holds Try.pinned (OpenSpec.ofChange staleFreshSpec)

/-- ITS FALSE NEIGHBOUR: 'it returns false'. Refute it at one input. -/
def staleFreshWrong : ChangeSpec := { name := "staleFresh", fn := fun _ => fun
  | [d1, d2] => { results := [.lit (.bool false)], args := [d1, d2] }
  | _ => none }
def StaleFreshWrongFalsely : Prop := staleFreshRow.holds Try.pinned (OpenSpec.ofChange staleFreshWrong)

/-- 'dockyardlaw08.StaleNames': WHATEVER THE INPUT: true; the input reads as it did. -/
def staleNamesSpec : ChangeSpec := { name := "staleNames", fn := fun _ => fun
  | [d1, d2] => { results := [.lit (.bool true)], args := [d1, d2] }
  | _ => none }
def staleNamesRow : OpenClaim := { program := "ytndojciealkhmaa", sum := "676fb6329b1ebdb09129ed2aec4e9c94cb44bce3e7c10ffc9ab206e38dfced7a", func := "dockyard/dockyardlaw08.StaleNames", spec := "staleNames", unfollowed := true, recurses := true, apart := false }
def StaleNamesSaid : Prop := staleNamesRow.holds Try.pinned (OpenSpec.ofChange staleNamesSpec)

/-- ITS FALSE NEIGHBOUR: 'it returns false'. Refute it at one input. -/
def staleNamesWrong : ChangeSpec := { name := "staleNames", fn := fun _ => fun
  | [d1, d2] => { results := [.lit (.bool false)], args := [d1, d2] }
  | _ => none }
def StaleNamesWrongFalsely : Prop := staleNamesRow.holds Try.pinned (OpenSpec.ofChange staleNamesWrong)

/-- 'dockyardlaw08.StaleAll': WHATEVER THE INPUT: true; the input reads as it did. -/
def staleAllSpec : ChangeSpec := { name := "staleAll", fn := fun _ => fun
  | [d] => { results := [.lit (.bool true)], args := [d] }
  | _ => none }
def staleAllRow : OpenClaim := { program := "ytndojciealkhmaa", sum := "676fb6329b1ebdb09129ed2aec4e9c94cb44bce3e7c10ffc9ab206e38dfced7a", func := "dockyard/dockyardlaw08.StaleAll", spec := "staleAll", unfollowed := true, recurses := true, apart := false }
def StaleAllSaid : Prop := staleAllRow.holds Try.pinned (OpenSpec.ofChange staleAllSpec)

/-- ITS FALSE NEIGHBOUR: 'it returns false'. Refute it at one input. -/
def staleAllWrong : ChangeSpec := { name := "staleAll", fn := fun _ => fun
  | [d] => { results := [.lit (.bool false)], args := [d] }
  | _ => none }
def StaleAllWrongFalsely : Prop := staleAllRow.holds Try.pinned (OpenSpec.ofChange staleAllWrong)

/-- 'dockyardlaw08.StaleMore': WHATEVER THE INPUT: true; the input reads as it did. -/
def staleMoreSpec : ChangeSpec := { name := "staleMore", fn := fun _ => fun
  | [d1, d2, d3] => { results := [.lit (.bool true)], args := [d1, d2, d3] }
  | _ => none }
def staleMoreRow : OpenClaim := { program := "ytndojciealkhmaa", sum := "676fb6329b1ebdb09129ed2aec4e9c94cb44bce3e7c10ffc9ab206e38dfced7a", func := "dockyard/dockyardlaw08.StaleMore", spec := "staleMore", unfollowed := true, recurses := true, apart := false }
def StaleMoreSaid : Prop := staleMoreRow.holds Try.pinned (OpenSpec.ofChange staleMoreSpec)

/-- ITS FALSE NEIGHBOUR: 'it returns false'. Refute it at one input. -/
def staleMoreWrong : ChangeSpec := { name := "staleMore", fn := fun _ => fun
  | [d1, d2, d3] => { results := [.lit (.bool false)], args := [d1, d2, d3] }
  | _ => none }
def StaleMoreWrongFalsely : Prop := staleMoreRow.holds Try.pinned (OpenSpec.ofChange staleMoreWrong)

/-- 'dockyardlaw08.StaleDeep': WHATEVER THE INPUT: true; the input reads as it did. -/
def staleDeepSpec : ChangeSpec := { name := "staleDeep", fn := fun _ => fun
  | [d1, d2, d3] => { results := [.lit (.bool true)], args := [d1, d2, d3] }
  | _ => none }
def staleDeepRow : OpenClaim := { program := "ytndojciealkhmaa", sum := "676fb6329b1ebdb09129ed2aec4e9c94cb44bce3e7c10ffc9ab206e38dfced7a", func := "dockyard/dockyardlaw08.StaleDeep", spec := "staleDeep", unfollowed := true, recurses := true, apart := false }
def StaleDeepSaid : Prop := staleDeepRow.holds Try.pinned (OpenSpec.ofChange staleDeepSpec)

/-- ITS FALSE NEIGHBOUR: 'it returns false'. Refute it at one input. -/
def staleDeepWrong : ChangeSpec := { name := "staleDeep", fn := fun _ => fun
  | [d1, d2, d3] => { results := [.lit (.bool false)], args := [d1, d2, d3] }
  | _ => none }
def StaleDeepWrongFalsely : Prop := staleDeepRow.holds Try.pinned (OpenSpec.ofChange staleDeepWrong)

/- THE SECOND FORM. 'bulk': how many values and letters a reading holds, each counted each time it is reached (what is shared counts as often as it is met; a slice's spare places count too). A statement '..UptoSaid' is the law's where the arguments, and the package variables that the reading takes, are together of bulk at most 1048576: NARROWER than '..Said'. Prove '..Said' where nothing that the law and all that it calls make is longer than what came in: it says more and counts as full. Else prove '..UptoSaid'. A law counts once. -/
mutual
def uptoBulk {H : Type} : DataW H → Nat
  | .lit (.string bytes) => bytes.length + 1
  | .lit _ => 1
  | .nil => 1
  | .ptr d => uptoBulk d + 1
  | .slice elems spare => uptoBulkAll elems + uptoBulkAll spare + 1
  | .agg parts => uptoBulkAll parts + 1
  | .iface _ d => uptoBulk d + 1
  | .map entries => uptoBulkEntries entries + 1
  | .held _ => 1
def uptoBulkAll {H : Type} : List (DataW H) → Nat
  | [] => 0
  | d :: r => uptoBulk d + uptoBulkAll r
def uptoBulkEntries {H : Type} : List (Lit × DataW H) → Nat
  | [] => 0
  | x :: r => uptoBulkEntry x + uptoBulkEntries r
def uptoBulkEntry {H : Type} : Lit × DataW H → Nat
  | (.string bytes, d) => bytes.length + uptoBulk d + 1
  | (_, d) => uptoBulk d + 1
 end
def uptoSmall : (H : Type) → List (DataW H) → Bool := fun _ ds => decide (uptoBulkAll ds ≤ 1048576)
def OpenSpec.upto (s : _root_.Go.ChangeSpec) : _root_.Go.OpenSpec := { _root_.Go.OpenSpec.ofChange s with cond := some uptoSmall }

/-- 'dockyardlaw08.StaleKeys', WHERE WHAT IT READS IS OF BULK AT MOST 1048576: true; the input reads as it did. -/
def staleKeysUptoRow : OpenClaim := { program := "ytndojciealkhmaa", sum := "676fb6329b1ebdb09129ed2aec4e9c94cb44bce3e7c10ffc9ab206e38dfced7a", func := "dockyard/dockyardlaw08.StaleKeys", spec := "staleKeys", unfollowed := true, recurses := true, apart := false, narrowed := true }
def StaleKeysUptoSaid : Prop := staleKeysUptoRow.holds Try.pinned (OpenSpec.upto staleKeysSpec)

/-- 'dockyardlaw08.StaleFresh', WHERE WHAT IT READS IS OF BULK AT MOST 1048576: true; the input reads as it did. -/
def staleFreshUptoRow : OpenClaim := { program := "ytndojciealkhmaa", sum := "676fb6329b1ebdb09129ed2aec4e9c94cb44bce3e7c10ffc9ab206e38dfced7a", func := "dockyard/dockyardlaw08.StaleFresh", spec := "staleFresh", unfollowed := true, recurses := true, apart := false, narrowed := true }
def StaleFreshUptoSaid : Prop := staleFreshUptoRow.holds Try.pinned (OpenSpec.upto staleFreshSpec)

/-- 'dockyardlaw08.StaleNames', WHERE WHAT IT READS IS OF BULK AT MOST 1048576: true; the input reads as it did. -/
def staleNamesUptoRow : OpenClaim := { program := "ytndojciealkhmaa", sum := "676fb6329b1ebdb09129ed2aec4e9c94cb44bce3e7c10ffc9ab206e38dfced7a", func := "dockyard/dockyardlaw08.StaleNames", spec := "staleNames", unfollowed := true, recurses := true, apart := false, narrowed := true }
def StaleNamesUptoSaid : Prop := staleNamesUptoRow.holds Try.pinned (OpenSpec.upto staleNamesSpec)

/-- 'dockyardlaw08.StaleAll', WHERE WHAT IT READS IS OF BULK AT MOST 1048576: true; the input reads as it did. -/
def staleAllUptoRow : OpenClaim := { program := "ytndojciealkhmaa", sum := "676fb6329b1ebdb09129ed2aec4e9c94cb44bce3e7c10ffc9ab206e38dfced7a", func := "dockyard/dockyardlaw08.StaleAll", spec := "staleAll", unfollowed := true, recurses := true, apart := false, narrowed := true }
def StaleAllUptoSaid : Prop := staleAllUptoRow.holds Try.pinned (OpenSpec.upto staleAllSpec)

/-- 'dockyardlaw08.StaleMore', WHERE WHAT IT READS IS OF BULK AT MOST 1048576: true; the input reads as it did. -/
def staleMoreUptoRow : OpenClaim := { program := "ytndojciealkhmaa", sum := "676fb6329b1ebdb09129ed2aec4e9c94cb44bce3e7c10ffc9ab206e38dfced7a", func := "dockyard/dockyardlaw08.StaleMore", spec := "staleMore", unfollowed := true, recurses := true, apart := false, narrowed := true }
def StaleMoreUptoSaid : Prop := staleMoreUptoRow.holds Try.pinned (OpenSpec.upto staleMoreSpec)

/-- 'dockyardlaw08.StaleDeep', WHERE WHAT IT READS IS OF BULK AT MOST 1048576: true; the input reads as it did. -/
def staleDeepUptoRow : OpenClaim := { program := "ytndojciealkhmaa", sum := "676fb6329b1ebdb09129ed2aec4e9c94cb44bce3e7c10ffc9ab206e38dfced7a", func := "dockyard/dockyardlaw08.StaleDeep", spec := "staleDeep", unfollowed := true, recurses := true, apart := false, narrowed := true }
def StaleDeepUptoSaid : Prop := staleDeepUptoRow.holds Try.pinned (OpenSpec.upto staleDeepSpec)

end Rows
end Go.Proofs.Ytndojciealkhmaa
