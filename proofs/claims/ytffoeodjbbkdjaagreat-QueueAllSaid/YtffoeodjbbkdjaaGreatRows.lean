/-
  No cell of these rows narrows 'for every input' (looked for: loops, veiled, ifaces, maps, wideKeys, modest, calm, conditions, laid).
  DERIVED. THE GIVEN ROWS OF THIS SEAT. 3 by the template 'for every input the law returns true; each argument reads behind the call as it read before'; 0 by the template 'total and deterministic' (their statements: YtffoeodjbbkdjaaGreatTotals.lean).
  GIVEN WITH THE SEED: the statements are not yours to turn. If you find one false, say at which input.
  Laid BY PROGRAM, IN A SANDBOX (cutbox-rows.mjs): the forced cells as the released guide's own fill.sh prints them over the translation a7bfebf3e8b60efb… (all of the seat's roots in one cut). By AI agents, Wed Nov 11 2026. No macro, syntax, notation, axiom, sorry.
-/
import Derived.Test.YtffoeodjbbkdjaaGreatChecked
import GoSem.Claim
import GoSem.ClaimJoined
import GoSem.ClaimMapViews
import Derived.JoinedTies
import Derived.KernelRfl
namespace Go.Proofs.YtffoeodjbbkdjaaGreat
/- THE CELL 'sum', in the pinned program and in every row, IS THE sha256 OF THE DUMP (.gsa) THAT YtffoeodjbbkdjaaGreatProg.lean LOADS. Nothing in Lean hashes anything: it is a label: what it is worth is what the hold of that sum in a sandbox is worth. -/
noncomputable def Tryz.pinned : Pinned := { name := "ytffoeodjbbkdjaagreat", sum := "a7bfebf3e8b60efb95bf0a5dee7261c3ecd0838fc214f5f40eec7d4ff3894206", checked := Tryz.checked }
namespace Rows
def none {H : Type} : Left H := { results := [], args := [] }

/-- 'dockyardlaw12.QueueAll': WHATEVER THE INPUT: true; the input reads as it did. -/
def queueAllSpec : ChangeSpec := { name := "queueAll", fn := fun _ => fun
  | [d1, d2] => { results := [.lit (.bool true)], args := [d1, d2] }
  | _ => none }
def queueAllRow : OpenClaim := { program := "ytffoeodjbbkdjaagreat", sum := "a7bfebf3e8b60efb95bf0a5dee7261c3ecd0838fc214f5f40eec7d4ff3894206", func := "dockyard/dockyardlaw12.QueueAll", spec := "queueAll", unfollowed := true, recurses := true, apart := false }
def QueueAllSaid : Prop := queueAllRow.holds Tryz.pinned (OpenSpec.ofChange queueAllSpec)

/-- ITS FALSE NEIGHBOUR: 'it returns false'. Refute it at one input. -/
def queueAllWrong : ChangeSpec := { name := "queueAll", fn := fun _ => fun
  | [d1, d2] => { results := [.lit (.bool false)], args := [d1, d2] }
  | _ => none }
def QueueAllWrongFalsely : Prop := queueAllRow.holds Tryz.pinned (OpenSpec.ofChange queueAllWrong)

/-- 'dockyardlaw12.QueueLoads': WHATEVER THE INPUT: true; the input reads as it did. -/
def queueLoadsSpec : ChangeSpec := { name := "queueLoads", fn := fun _ => fun
  | [d1, d2] => { results := [.lit (.bool true)], args := [d1, d2] }
  | _ => none }
def queueLoadsRow : OpenClaim := { program := "ytffoeodjbbkdjaagreat", sum := "a7bfebf3e8b60efb95bf0a5dee7261c3ecd0838fc214f5f40eec7d4ff3894206", func := "dockyard/dockyardlaw12.QueueLoads", spec := "queueLoads", unfollowed := true, recurses := true, apart := false }
def QueueLoadsSaid : Prop := queueLoadsRow.holds Tryz.pinned (OpenSpec.ofChange queueLoadsSpec)

/-- ITS FALSE NEIGHBOUR: 'it returns false'. Refute it at one input. -/
def queueLoadsWrong : ChangeSpec := { name := "queueLoads", fn := fun _ => fun
  | [d1, d2] => { results := [.lit (.bool false)], args := [d1, d2] }
  | _ => none }
def QueueLoadsWrongFalsely : Prop := queueLoadsRow.holds Tryz.pinned (OpenSpec.ofChange queueLoadsWrong)

/-- 'dockyardlaw12.QueueDumps': WHATEVER THE INPUT: true; the input reads as it did. -/
def queueDumpsSpec : ChangeSpec := { name := "queueDumps", fn := fun _ => fun
  | [d1, d2] => { results := [.lit (.bool true)], args := [d1, d2] }
  | _ => none }
def queueDumpsRow : OpenClaim := { program := "ytffoeodjbbkdjaagreat", sum := "a7bfebf3e8b60efb95bf0a5dee7261c3ecd0838fc214f5f40eec7d4ff3894206", func := "dockyard/dockyardlaw12.QueueDumps", spec := "queueDumps", inPlace := ["maps.clone"], unfollowed := true, recurses := true, apart := false }
def QueueDumpsSaid : Prop := queueDumpsRow.holds Tryz.pinned (OpenSpec.ofChange queueDumpsSpec)

/-- ITS FALSE NEIGHBOUR: 'it returns false'. Refute it at one input. -/
def queueDumpsWrong : ChangeSpec := { name := "queueDumps", fn := fun _ => fun
  | [d1, d2] => { results := [.lit (.bool false)], args := [d1, d2] }
  | _ => none }
def QueueDumpsWrongFalsely : Prop := queueDumpsRow.holds Tryz.pinned (OpenSpec.ofChange queueDumpsWrong)

/- THE SECOND FORM. 'bulk': how many values and letters a reading holds, each counted each time it is reached (what is shared counts as often as it is met; a slice's spare places count too). A statement '..UptoSaid' is the law's where the arguments, and the package variables that the reading takes, are together of bulk at most 1048576: NARROWER than '..Said'. Prove '..Said' where nothing that the law and all that it calls make is longer than what came in: it says more and counts as full. Else prove '..UptoSaid'. A law counts once. -/
mutual
def uptoBulk {H : Type} : DataW H → Nat
  | .lit (.string bytes) => bytes.length + 1
  | .lit _ => 1
  | .nil => 1
  | .ptr d => uptoBulk d + 1
  | .slice elems spare => uptoBulkAll elems + uptoBulkAll spare + 1
  | .agg parts => uptoBulkAll parts + 1
  | .iface _ d => uptoBulk d + 1
  | .map entries => uptoBulkEntries entries + 1
  | .held _ => 1
def uptoBulkAll {H : Type} : List (DataW H) → Nat
  | [] => 0
  | d :: r => uptoBulk d + uptoBulkAll r
def uptoBulkEntries {H : Type} : List (Lit × DataW H) → Nat
  | [] => 0
  | x :: r => uptoBulkEntry x + uptoBulkEntries r
def uptoBulkEntry {H : Type} : Lit × DataW H → Nat
  | (.string bytes, d) => bytes.length + uptoBulk d + 1
  | (_, d) => uptoBulk d + 1
 end
def uptoSmall : (H : Type) → List (DataW H) → Bool := fun _ ds => decide (uptoBulkAll ds ≤ 1048576)
def OpenSpec.upto (s : _root_.Go.ChangeSpec) : _root_.Go.OpenSpec := { _root_.Go.OpenSpec.ofChange s with cond := some uptoSmall }

/-- 'dockyardlaw12.QueueAll', WHERE WHAT IT READS IS OF BULK AT MOST 1048576: true; the input reads as it did. -/
def queueAllUptoRow : OpenClaim := { program := "ytffoeodjbbkdjaagreat", sum := "a7bfebf3e8b60efb95bf0a5dee7261c3ecd0838fc214f5f40eec7d4ff3894206", func := "dockyard/dockyardlaw12.QueueAll", spec := "queueAll", unfollowed := true, recurses := true, apart := false, narrowed := true }
def QueueAllUptoSaid : Prop := queueAllUptoRow.holds Tryz.pinned (OpenSpec.upto queueAllSpec)

/-- 'dockyardlaw12.QueueLoads', WHERE WHAT IT READS IS OF BULK AT MOST 1048576: true; the input reads as it did. -/
def queueLoadsUptoRow : OpenClaim := { program := "ytffoeodjbbkdjaagreat", sum := "a7bfebf3e8b60efb95bf0a5dee7261c3ecd0838fc214f5f40eec7d4ff3894206", func := "dockyard/dockyardlaw12.QueueLoads", spec := "queueLoads", unfollowed := true, recurses := true, apart := false, narrowed := true }
def QueueLoadsUptoSaid : Prop := queueLoadsUptoRow.holds Tryz.pinned (OpenSpec.upto queueLoadsSpec)

/-- 'dockyardlaw12.QueueDumps', WHERE WHAT IT READS IS OF BULK AT MOST 1048576: true; the input reads as it did. -/
def queueDumpsUptoRow : OpenClaim := { program := "ytffoeodjbbkdjaagreat", sum := "a7bfebf3e8b60efb95bf0a5dee7261c3ecd0838fc214f5f40eec7d4ff3894206", func := "dockyard/dockyardlaw12.QueueDumps", spec := "queueDumps", inPlace := ["maps.clone"], unfollowed := true, recurses := true, apart := false, narrowed := true }
def QueueDumpsUptoSaid : Prop := queueDumpsUptoRow.holds Tryz.pinned (OpenSpec.upto queueDumpsSpec)

end Rows
end Go.Proofs.YtffoeodjbbkdjaaGreat
