/-
  No cell of these rows narrows 'for every input' (looked for: loops, veiled, ifaces, maps, wideKeys, modest, calm, conditions, laid).
  DERIVED. THE GIVEN ROWS OF THIS SEAT. 11 by the template 'for every input the law returns true; each argument reads behind the call as it read before'; 0 by the template 'total and deterministic' (their statements: YtkoikmdmejhhhaaGreatTotals.lean).
  GIVEN WITH THE SEED: the statements are not yours to turn. If you find one false, say at which input.
  Laid BY PROGRAM, IN A SANDBOX (cutbox-rows.mjs): the forced cells as the released guide's own fill.sh prints them over the translation b12da6ef063bf6ee… (all of the seat's roots in one cut). By AI agents, Wed Nov 11 2026. No macro, syntax, notation, axiom, sorry.
-/
import Derived.Test.YtkoikmdmejhhhaaGreatChecked
import GoSem.Claim
import GoSem.ClaimJoined
import GoSem.ClaimMapViews
import Derived.JoinedTies
import Derived.KernelRfl
namespace Go.Proofs.YtkoikmdmejhhhaaGreat
/- THE CELL 'sum', in the pinned program and in every row, IS THE sha256 OF THE DUMP (.gsa) THAT YtkoikmdmejhhhaaGreatProg.lean LOADS. Nothing in Lean hashes anything: it is a label: what it is worth is what the hold of that sum in a sandbox is worth. -/
noncomputable def Tryz.pinned : Pinned := { name := "ytkoikmdmejhhhaagreat", sum := "b12da6ef063bf6eef1ad365417bb67581cc87d17379ca546664d6efc070896bc", checked := Tryz.checked }
namespace Rows
def none {H : Type} : Left H := { results := [], args := [] }

/-- 'dockyardlaw12.QueueAll': WHATEVER THE INPUT: true; the input reads as it did. -/
def queueAllSpec : ChangeSpec := { name := "queueAll", fn := fun _ => fun
  | [d1, d2] => { results := [.lit (.bool true)], args := [d1, d2] }
  | _ => none }
def queueAllRow : OpenClaim := { program := "ytkoikmdmejhhhaagreat", sum := "b12da6ef063bf6eef1ad365417bb67581cc87d17379ca546664d6efc070896bc", func := "dockyard/dockyardlaw12.QueueAll", spec := "queueAll", unfollowed := true, recurses := true, apart := false }
def QueueAllSaid : Prop := queueAllRow.holds Tryz.pinned (OpenSpec.ofChange queueAllSpec)

/-- ITS FALSE NEIGHBOUR: 'it returns false'. Refute it at one input. -/
def queueAllWrong : ChangeSpec := { name := "queueAll", fn := fun _ => fun
  | [d1, d2] => { results := [.lit (.bool false)], args := [d1, d2] }
  | _ => none }
def QueueAllWrongFalsely : Prop := queueAllRow.holds Tryz.pinned (OpenSpec.ofChange queueAllWrong)

/-- 'dockyardlaw12.QueueLoads': WHATEVER THE INPUT: true; the input reads as it did. -/
def queueLoadsSpec : ChangeSpec := { name := "queueLoads", fn := fun _ => fun
  | [d1, d2] => { results := [.lit (.bool true)], args := [d1, d2] }
  | _ => none }
def queueLoadsRow : OpenClaim := { program := "ytkoikmdmejhhhaagreat", sum := "b12da6ef063bf6eef1ad365417bb67581cc87d17379ca546664d6efc070896bc", func := "dockyard/dockyardlaw12.QueueLoads", spec := "queueLoads", unfollowed := true, recurses := true, apart := false }
def QueueLoadsSaid : Prop := queueLoadsRow.holds Tryz.pinned (OpenSpec.ofChange queueLoadsSpec)

/-- ITS FALSE NEIGHBOUR: 'it returns false'. Refute it at one input. -/
def queueLoadsWrong : ChangeSpec := { name := "queueLoads", fn := fun _ => fun
  | [d1, d2] => { results := [.lit (.bool false)], args := [d1, d2] }
  | _ => none }
def QueueLoadsWrongFalsely : Prop := queueLoadsRow.holds Tryz.pinned (OpenSpec.ofChange queueLoadsWrong)

/-- 'dockyardlaw12.QueueTokens': WHATEVER THE INPUT: true; the input reads as it did. -/
def queueTokensSpec : ChangeSpec := { name := "queueTokens", fn := fun _ => fun
  | [d] => { results := [.lit (.bool true)], args := [d] }
  | _ => none }
def queueTokensRow : OpenClaim := { program := "ytkoikmdmejhhhaagreat", sum := "b12da6ef063bf6eef1ad365417bb67581cc87d17379ca546664d6efc070896bc", func := "dockyard/dockyardlaw12.QueueTokens", spec := "queueTokens", unfollowed := true, recurses := true, apart := false }
def QueueTokensSaid : Prop := queueTokensRow.holds Tryz.pinned (OpenSpec.ofChange queueTokensSpec)

/-- ITS FALSE NEIGHBOUR: 'it returns false'. Refute it at one input. -/
def queueTokensWrong : ChangeSpec := { name := "queueTokens", fn := fun _ => fun
  | [d] => { results := [.lit (.bool false)], args := [d] }
  | _ => none }
def QueueTokensWrongFalsely : Prop := queueTokensRow.holds Tryz.pinned (OpenSpec.ofChange queueTokensWrong)

/-- 'dockyardlaw12.QueueFences': WHATEVER THE INPUT: true; the input reads as it did. -/
def queueFencesSpec : ChangeSpec := { name := "queueFences", fn := fun _ => fun
  | [d] => { results := [.lit (.bool true)], args := [d] }
  | _ => none }
def queueFencesRow : OpenClaim := { program := "ytkoikmdmejhhhaagreat", sum := "b12da6ef063bf6eef1ad365417bb67581cc87d17379ca546664d6efc070896bc", func := "dockyard/dockyardlaw12.QueueFences", spec := "queueFences", unfollowed := true, recurses := true, apart := false }
def QueueFencesSaid : Prop := queueFencesRow.holds Tryz.pinned (OpenSpec.ofChange queueFencesSpec)

/-- ITS FALSE NEIGHBOUR: 'it returns false'. Refute it at one input. -/
def queueFencesWrong : ChangeSpec := { name := "queueFences", fn := fun _ => fun
  | [d] => { results := [.lit (.bool false)], args := [d] }
  | _ => none }
def QueueFencesWrongFalsely : Prop := queueFencesRow.holds Tryz.pinned (OpenSpec.ofChange queueFencesWrong)

/-- 'dockyardlaw12.QueueAgain': WHATEVER THE INPUT: true; the input reads as it did. -/
def queueAgainSpec : ChangeSpec := { name := "queueAgain", fn := fun _ => fun
  | [d] => { results := [.lit (.bool true)], args := [d] }
  | _ => none }
def queueAgainRow : OpenClaim := { program := "ytkoikmdmejhhhaagreat", sum := "b12da6ef063bf6eef1ad365417bb67581cc87d17379ca546664d6efc070896bc", func := "dockyard/dockyardlaw12.QueueAgain", spec := "queueAgain", unfollowed := true, recurses := true, apart := false }
def QueueAgainSaid : Prop := queueAgainRow.holds Tryz.pinned (OpenSpec.ofChange queueAgainSpec)

/-- ITS FALSE NEIGHBOUR: 'it returns false'. Refute it at one input. -/
def queueAgainWrong : ChangeSpec := { name := "queueAgain", fn := fun _ => fun
  | [d] => { results := [.lit (.bool false)], args := [d] }
  | _ => none }
def QueueAgainWrongFalsely : Prop := queueAgainRow.holds Tryz.pinned (OpenSpec.ofChange queueAgainWrong)

/-- 'dockyardlaw12.QueueDumps': WHATEVER THE INPUT: true; the input reads as it did. -/
def queueDumpsSpec : ChangeSpec := { name := "queueDumps", fn := fun _ => fun
  | [d1, d2] => { results := [.lit (.bool true)], args := [d1, d2] }
  | _ => none }
def queueDumpsRow : OpenClaim := { program := "ytkoikmdmejhhhaagreat", sum := "b12da6ef063bf6eef1ad365417bb67581cc87d17379ca546664d6efc070896bc", func := "dockyard/dockyardlaw12.QueueDumps", spec := "queueDumps", inPlace := ["maps.clone"], unfollowed := true, recurses := true, apart := false }
def QueueDumpsSaid : Prop := queueDumpsRow.holds Tryz.pinned (OpenSpec.ofChange queueDumpsSpec)

/-- ITS FALSE NEIGHBOUR: 'it returns false'. Refute it at one input. -/
def queueDumpsWrong : ChangeSpec := { name := "queueDumps", fn := fun _ => fun
  | [d1, d2] => { results := [.lit (.bool false)], args := [d1, d2] }
  | _ => none }
def QueueDumpsWrongFalsely : Prop := queueDumpsRow.holds Tryz.pinned (OpenSpec.ofChange queueDumpsWrong)

/-- 'dockyardlaw12.QueueWorks': WHATEVER THE INPUT: true; the input reads as it did. -/
def queueWorksSpec : ChangeSpec := { name := "queueWorks", fn := fun _ => fun
  | [d] => { results := [.lit (.bool true)], args := [d] }
  | _ => none }
def queueWorksRow : OpenClaim := { program := "ytkoikmdmejhhhaagreat", sum := "b12da6ef063bf6eef1ad365417bb67581cc87d17379ca546664d6efc070896bc", func := "dockyard/dockyardlaw12.QueueWorks", spec := "queueWorks", unfollowed := true, recurses := true, apart := false }
def QueueWorksSaid : Prop := queueWorksRow.holds Tryz.pinned (OpenSpec.ofChange queueWorksSpec)

/-- ITS FALSE NEIGHBOUR: 'it returns false'. Refute it at one input. -/
def queueWorksWrong : ChangeSpec := { name := "queueWorks", fn := fun _ => fun
  | [d] => { results := [.lit (.bool false)], args := [d] }
  | _ => none }
def QueueWorksWrongFalsely : Prop := queueWorksRow.holds Tryz.pinned (OpenSpec.ofChange queueWorksWrong)

/-- 'dockyardlaw12.QueueSessions': WHATEVER THE INPUT: true; the input reads as it did. -/
def queueSessionsSpec : ChangeSpec := { name := "queueSessions", fn := fun _ => fun
  | [d] => { results := [.lit (.bool true)], args := [d] }
  | _ => none }
def queueSessionsRow : OpenClaim := { program := "ytkoikmdmejhhhaagreat", sum := "b12da6ef063bf6eef1ad365417bb67581cc87d17379ca546664d6efc070896bc", func := "dockyard/dockyardlaw12.QueueSessions", spec := "queueSessions", unfollowed := true, recurses := true, apart := false }
def QueueSessionsSaid : Prop := queueSessionsRow.holds Tryz.pinned (OpenSpec.ofChange queueSessionsSpec)

/-- ITS FALSE NEIGHBOUR: 'it returns false'. Refute it at one input. -/
def queueSessionsWrong : ChangeSpec := { name := "queueSessions", fn := fun _ => fun
  | [d] => { results := [.lit (.bool false)], args := [d] }
  | _ => none }
def QueueSessionsWrongFalsely : Prop := queueSessionsRow.holds Tryz.pinned (OpenSpec.ofChange queueSessionsWrong)

/-- 'dockyardlaw12.QueueViews': WHATEVER THE INPUT: true; the input reads as it did. -/
def queueViewsSpec : ChangeSpec := { name := "queueViews", fn := fun _ => fun
  | [d1, d2] => { results := [.lit (.bool true)], args := [d1, d2] }
  | _ => none }
def queueViewsRow : OpenClaim := { program := "ytkoikmdmejhhhaagreat", sum := "b12da6ef063bf6eef1ad365417bb67581cc87d17379ca546664d6efc070896bc", func := "dockyard/dockyardlaw12.QueueViews", spec := "queueViews", unfollowed := true, recurses := true, apart := false }
def QueueViewsSaid : Prop := queueViewsRow.holds Tryz.pinned (OpenSpec.ofChange queueViewsSpec)

/-- ITS FALSE NEIGHBOUR: 'it returns false'. Refute it at one input. -/
def queueViewsWrong : ChangeSpec := { name := "queueViews", fn := fun _ => fun
  | [d1, d2] => { results := [.lit (.bool false)], args := [d1, d2] }
  | _ => none }
def QueueViewsWrongFalsely : Prop := queueViewsRow.holds Tryz.pinned (OpenSpec.ofChange queueViewsWrong)

/-- 'dockyardtop.DockyardFence': WHATEVER THE INPUT: true; the input reads as it did. -/
def dockyardFenceSpec : ChangeSpec := { name := "dockyardFence", fn := fun _ => fun
  | [d1, d2, d3] => { results := [.lit (.bool true)], args := [d1, d2, d3] }
  | _ => none }
def dockyardFenceRow : OpenClaim := { program := "ytkoikmdmejhhhaagreat", sum := "b12da6ef063bf6eef1ad365417bb67581cc87d17379ca546664d6efc070896bc", func := "dockyard/dockyardtop.DockyardFence", spec := "dockyardFence", unfollowed := true, recurses := true, apart := false }
def DockyardFenceSaid : Prop := dockyardFenceRow.holds Tryz.pinned (OpenSpec.ofChange dockyardFenceSpec)

/-- ITS FALSE NEIGHBOUR: 'it returns false'. Refute it at one input. -/
def dockyardFenceWrong : ChangeSpec := { name := "dockyardFence", fn := fun _ => fun
  | [d1, d2, d3] => { results := [.lit (.bool false)], args := [d1, d2, d3] }
  | _ => none }
def DockyardFenceWrongFalsely : Prop := dockyardFenceRow.holds Tryz.pinned (OpenSpec.ofChange dockyardFenceWrong)

/-- 'dockyardtop.DockyardBuild': WHATEVER THE INPUT: true; the input reads as it did. -/
def dockyardBuildSpec : ChangeSpec := { name := "dockyardBuild", fn := fun _ => fun
  | [d1, d2, d3] => { results := [.lit (.bool true)], args := [d1, d2, d3] }
  | _ => none }
def dockyardBuildRow : OpenClaim := { program := "ytkoikmdmejhhhaagreat", sum := "b12da6ef063bf6eef1ad365417bb67581cc87d17379ca546664d6efc070896bc", func := "dockyard/dockyardtop.DockyardBuild", spec := "dockyardBuild", unfollowed := true, recurses := true, apart := false }
def DockyardBuildSaid : Prop := dockyardBuildRow.holds Tryz.pinned (OpenSpec.ofChange dockyardBuildSpec)

/-- ITS FALSE NEIGHBOUR: 'it returns false'. Refute it at one input. -/
def dockyardBuildWrong : ChangeSpec := { name := "dockyardBuild", fn := fun _ => fun
  | [d1, d2, d3] => { results := [.lit (.bool false)], args := [d1, d2, d3] }
  | _ => none }
def DockyardBuildWrongFalsely : Prop := dockyardBuildRow.holds Tryz.pinned (OpenSpec.ofChange dockyardBuildWrong)

/- THE SECOND FORM. 'bulk': how many values and letters a reading holds, each counted each time it is reached (what is shared counts as often as it is met; a slice's spare places count too). A statement '..UptoSaid' is the law's where the arguments, and the package variables that the reading takes, are together of bulk at most 1048576: NARROWER than '..Said'. Prove '..Said' where nothing that the law and all that it calls make is longer than what came in: it says more and counts as full. Else prove '..UptoSaid'. A law counts once. -/
mutual
def uptoBulk {H : Type} : DataW H → Nat
  | .lit (.string bytes) => bytes.length + 1
  | .lit _ => 1
  | .nil => 1
  | .ptr d => uptoBulk d + 1
  | .slice elems spare => uptoBulkAll elems + uptoBulkAll spare + 1
  | .agg parts => uptoBulkAll parts + 1
  | .iface _ d => uptoBulk d + 1
  | .map entries => uptoBulkEntries entries + 1
  | .held _ => 1
def uptoBulkAll {H : Type} : List (DataW H) → Nat
  | [] => 0
  | d :: r => uptoBulk d + uptoBulkAll r
def uptoBulkEntries {H : Type} : List (Lit × DataW H) → Nat
  | [] => 0
  | x :: r => uptoBulkEntry x + uptoBulkEntries r
def uptoBulkEntry {H : Type} : Lit × DataW H → Nat
  | (.string bytes, d) => bytes.length + uptoBulk d + 1
  | (_, d) => uptoBulk d + 1
 end
def uptoSmall : (H : Type) → List (DataW H) → Bool := fun _ ds => decide (uptoBulkAll ds ≤ 1048576)
def OpenSpec.upto (s : _root_.Go.ChangeSpec) : _root_.Go.OpenSpec := { _root_.Go.OpenSpec.ofChange s with cond := some uptoSmall }

/-- 'dockyardlaw12.QueueAll', WHERE WHAT IT READS IS OF BULK AT MOST 1048576: true; the input reads as it did. -/
def queueAllUptoRow : OpenClaim := { program := "ytkoikmdmejhhhaagreat", sum := "b12da6ef063bf6eef1ad365417bb67581cc87d17379ca546664d6efc070896bc", func := "dockyard/dockyardlaw12.QueueAll", spec := "queueAll", unfollowed := true, recurses := true, apart := false, narrowed := true }
def QueueAllUptoSaid : Prop := queueAllUptoRow.holds Tryz.pinned (OpenSpec.upto queueAllSpec)

/-- 'dockyardlaw12.QueueLoads', WHERE WHAT IT READS IS OF BULK AT MOST 1048576: true; the input reads as it did. -/
def queueLoadsUptoRow : OpenClaim := { program := "ytkoikmdmejhhhaagreat", sum := "b12da6ef063bf6eef1ad365417bb67581cc87d17379ca546664d6efc070896bc", func := "dockyard/dockyardlaw12.QueueLoads", spec := "queueLoads", unfollowed := true, recurses := true, apart := false, narrowed := true }
def QueueLoadsUptoSaid : Prop := queueLoadsUptoRow.holds Tryz.pinned (OpenSpec.upto queueLoadsSpec)

/-- 'dockyardlaw12.QueueTokens', WHERE WHAT IT READS IS OF BULK AT MOST 1048576: true; the input reads as it did. -/
def queueTokensUptoRow : OpenClaim := { program := "ytkoikmdmejhhhaagreat", sum := "b12da6ef063bf6eef1ad365417bb67581cc87d17379ca546664d6efc070896bc", func := "dockyard/dockyardlaw12.QueueTokens", spec := "queueTokens", unfollowed := true, recurses := true, apart := false, narrowed := true }
def QueueTokensUptoSaid : Prop := queueTokensUptoRow.holds Tryz.pinned (OpenSpec.upto queueTokensSpec)

/-- 'dockyardlaw12.QueueFences', WHERE WHAT IT READS IS OF BULK AT MOST 1048576: true; the input reads as it did. -/
def queueFencesUptoRow : OpenClaim := { program := "ytkoikmdmejhhhaagreat", sum := "b12da6ef063bf6eef1ad365417bb67581cc87d17379ca546664d6efc070896bc", func := "dockyard/dockyardlaw12.QueueFences", spec := "queueFences", unfollowed := true, recurses := true, apart := false, narrowed := true }
def QueueFencesUptoSaid : Prop := queueFencesUptoRow.holds Tryz.pinned (OpenSpec.upto queueFencesSpec)

/-- 'dockyardlaw12.QueueAgain', WHERE WHAT IT READS IS OF BULK AT MOST 1048576: true; the input reads as it did. -/
def queueAgainUptoRow : OpenClaim := { program := "ytkoikmdmejhhhaagreat", sum := "b12da6ef063bf6eef1ad365417bb67581cc87d17379ca546664d6efc070896bc", func := "dockyard/dockyardlaw12.QueueAgain", spec := "queueAgain", unfollowed := true, recurses := true, apart := false, narrowed := true }
def QueueAgainUptoSaid : Prop := queueAgainUptoRow.holds Tryz.pinned (OpenSpec.upto queueAgainSpec)

/-- 'dockyardlaw12.QueueDumps', WHERE WHAT IT READS IS OF BULK AT MOST 1048576: true; the input reads as it did. -/
def queueDumpsUptoRow : OpenClaim := { program := "ytkoikmdmejhhhaagreat", sum := "b12da6ef063bf6eef1ad365417bb67581cc87d17379ca546664d6efc070896bc", func := "dockyard/dockyardlaw12.QueueDumps", spec := "queueDumps", inPlace := ["maps.clone"], unfollowed := true, recurses := true, apart := false, narrowed := true }
def QueueDumpsUptoSaid : Prop := queueDumpsUptoRow.holds Tryz.pinned (OpenSpec.upto queueDumpsSpec)

/-- 'dockyardlaw12.QueueWorks', WHERE WHAT IT READS IS OF BULK AT MOST 1048576: true; the input reads as it did. -/
def queueWorksUptoRow : OpenClaim := { program := "ytkoikmdmejhhhaagreat", sum := "b12da6ef063bf6eef1ad365417bb67581cc87d17379ca546664d6efc070896bc", func := "dockyard/dockyardlaw12.QueueWorks", spec := "queueWorks", unfollowed := true, recurses := true, apart := false, narrowed := true }
def QueueWorksUptoSaid : Prop := queueWorksUptoRow.holds Tryz.pinned (OpenSpec.upto queueWorksSpec)

/-- 'dockyardlaw12.QueueSessions', WHERE WHAT IT READS IS OF BULK AT MOST 1048576: true; the input reads as it did. -/
def queueSessionsUptoRow : OpenClaim := { program := "ytkoikmdmejhhhaagreat", sum := "b12da6ef063bf6eef1ad365417bb67581cc87d17379ca546664d6efc070896bc", func := "dockyard/dockyardlaw12.QueueSessions", spec := "queueSessions", unfollowed := true, recurses := true, apart := false, narrowed := true }
def QueueSessionsUptoSaid : Prop := queueSessionsUptoRow.holds Tryz.pinned (OpenSpec.upto queueSessionsSpec)

/-- 'dockyardlaw12.QueueViews', WHERE WHAT IT READS IS OF BULK AT MOST 1048576: true; the input reads as it did. -/
def queueViewsUptoRow : OpenClaim := { program := "ytkoikmdmejhhhaagreat", sum := "b12da6ef063bf6eef1ad365417bb67581cc87d17379ca546664d6efc070896bc", func := "dockyard/dockyardlaw12.QueueViews", spec := "queueViews", unfollowed := true, recurses := true, apart := false, narrowed := true }
def QueueViewsUptoSaid : Prop := queueViewsUptoRow.holds Tryz.pinned (OpenSpec.upto queueViewsSpec)

/-- 'dockyardtop.DockyardFence', WHERE WHAT IT READS IS OF BULK AT MOST 1048576: true; the input reads as it did. -/
def dockyardFenceUptoRow : OpenClaim := { program := "ytkoikmdmejhhhaagreat", sum := "b12da6ef063bf6eef1ad365417bb67581cc87d17379ca546664d6efc070896bc", func := "dockyard/dockyardtop.DockyardFence", spec := "dockyardFence", unfollowed := true, recurses := true, apart := false, narrowed := true }
def DockyardFenceUptoSaid : Prop := dockyardFenceUptoRow.holds Tryz.pinned (OpenSpec.upto dockyardFenceSpec)

/-- 'dockyardtop.DockyardBuild', WHERE WHAT IT READS IS OF BULK AT MOST 1048576: true; the input reads as it did. -/
def dockyardBuildUptoRow : OpenClaim := { program := "ytkoikmdmejhhhaagreat", sum := "b12da6ef063bf6eef1ad365417bb67581cc87d17379ca546664d6efc070896bc", func := "dockyard/dockyardtop.DockyardBuild", spec := "dockyardBuild", unfollowed := true, recurses := true, apart := false, narrowed := true }
def DockyardBuildUptoSaid : Prop := dockyardBuildUptoRow.holds Tryz.pinned (OpenSpec.upto dockyardBuildSpec)

end Rows
end Go.Proofs.YtkoikmdmejhhhaaGreat
