/-
  No cell of these rows narrows 'for every input' (looked for: loops, veiled, ifaces, maps, wideKeys, modest, calm, conditions, laid).
  DERIVED. THE GIVEN ROWS OF THIS SEAT. 6 by the template 'for every input the law returns true; each argument reads behind the call as it read before'; 0 by the template 'total and deterministic' (their statements: YtmncjibokpieoaaTotals.lean).
  GIVEN WITH THE SEED: the statements are not yours to turn. If you find one false, say at which input.
  Laid BY PROGRAM, IN A SANDBOX (cutbox-rows.mjs): the forced cells as the released guide's own fill.sh prints them over the translation 802305d72fa9eb5e… (all of the seat's roots in one cut). By AI agents, Wed Nov 11 2026. No macro, syntax, notation, axiom, sorry.
-/
import Derived.Test.YtmncjibokpieoaaChecked
import GoSem.Claim
import GoSem.ClaimJoined
import GoSem.ClaimMapViews
import Derived.JoinedTies
import Derived.KernelRfl
namespace Go.Proofs.Ytmncjibokpieoaa
/- THE CELL 'sum', in the pinned program and in every row, IS THE sha256 OF THE DUMP (.gsa) THAT YtmncjibokpieoaaProg.lean LOADS. Nothing in Lean hashes anything: it is a label: what it is worth is what the hold of that sum in a sandbox is worth. -/
noncomputable def Try.pinned : Pinned := { name := "ytmncjibokpieoaa", sum := "802305d72fa9eb5ea869552be1801fd5680bbb670a7f4c654a9ba347d6797564", checked := Try.checked }
namespace Rows
def none {H : Type} : Left H := { results := [], args := [] }

/-- 'dockyardlaw14.ConfigTells': WHATEVER THE INPUT: true; the input reads as it did. -/
def configTellsSpec : ChangeSpec := { name := "configTells", fn := fun _ => fun
  | [d1, d2, d3] => { results := [.lit (.bool true)], args := [d1, d2, d3] }
  | _ => none }
def configTellsRow : OpenClaim := { program := "ytmncjibokpieoaa", sum := "802305d72fa9eb5ea869552be1801fd5680bbb670a7f4c654a9ba347d6797564", func := "dockyard/dockyardlaw14.ConfigTells", spec := "configTells", unfollowed := true, recurses := true, apart := false }
def ConfigTellsSaid : Prop := configTellsRow.holds Try.pinned (OpenSpec.ofChange configTellsSpec)

/-- ITS FALSE NEIGHBOUR: 'it returns false'. Refute it at one input. -/
def configTellsWrong : ChangeSpec := { name := "configTells", fn := fun _ => fun
  | [d1, d2, d3] => { results := [.lit (.bool false)], args := [d1, d2, d3] }
  | _ => none }
def ConfigTellsWrongFalsely : Prop := configTellsRow.holds Try.pinned (OpenSpec.ofChange configTellsWrong)

/-- 'dockyardlaw14.ConfigChanges': WHATEVER THE INPUT: true; the input reads as it did. -/
def configChangesSpec : ChangeSpec := { name := "configChanges", fn := fun _ => fun
  | [d1, d2] => { results := [.lit (.bool true)], args := [d1, d2] }
  | _ => none }
def configChangesRow : OpenClaim := { program := "ytmncjibokpieoaa", sum := "802305d72fa9eb5ea869552be1801fd5680bbb670a7f4c654a9ba347d6797564", func := "dockyard/dockyardlaw14.ConfigChanges", spec := "configChanges", unfollowed := true, recurses := true, apart := false }
def ConfigChangesSaid : Prop := configChangesRow.holds Try.pinned (OpenSpec.ofChange configChangesSpec)

/-- ITS FALSE NEIGHBOUR: 'it returns false'. Refute it at one input. -/
def configChangesWrong : ChangeSpec := { name := "configChanges", fn := fun _ => fun
  | [d1, d2] => { results := [.lit (.bool false)], args := [d1, d2] }
  | _ => none }
def ConfigChangesWrongFalsely : Prop := configChangesRow.holds Try.pinned (OpenSpec.ofChange configChangesWrong)

/-- 'dockyardlaw14.ConfigMeets': WHATEVER THE INPUT: true; the input reads as it did. -/
def configMeetsSpec : ChangeSpec := { name := "configMeets", fn := fun _ => fun
  | [d1, d2, d3] => { results := [.lit (.bool true)], args := [d1, d2, d3] }
  | _ => none }
def configMeetsRow : OpenClaim := { program := "ytmncjibokpieoaa", sum := "802305d72fa9eb5ea869552be1801fd5680bbb670a7f4c654a9ba347d6797564", func := "dockyard/dockyardlaw14.ConfigMeets", spec := "configMeets", unfollowed := true, recurses := true, apart := false }
def ConfigMeetsSaid : Prop := configMeetsRow.holds Try.pinned (OpenSpec.ofChange configMeetsSpec)

/-- ITS FALSE NEIGHBOUR: 'it returns false'. Refute it at one input. -/
def configMeetsWrong : ChangeSpec := { name := "configMeets", fn := fun _ => fun
  | [d1, d2, d3] => { results := [.lit (.bool false)], args := [d1, d2, d3] }
  | _ => none }
def ConfigMeetsWrongFalsely : Prop := configMeetsRow.holds Try.pinned (OpenSpec.ofChange configMeetsWrong)

/-- 'dockyardlaw14.ConfigCodes': WHATEVER THE INPUT: true; the input reads as it did. -/
def configCodesSpec : ChangeSpec := { name := "configCodes", fn := fun _ => fun
  | [d1, d2] => { results := [.lit (.bool true)], args := [d1, d2] }
  | _ => none }
def configCodesRow : OpenClaim := { program := "ytmncjibokpieoaa", sum := "802305d72fa9eb5ea869552be1801fd5680bbb670a7f4c654a9ba347d6797564", func := "dockyard/dockyardlaw14.ConfigCodes", spec := "configCodes", unfollowed := true, recurses := true, apart := false }
def ConfigCodesSaid : Prop := configCodesRow.holds Try.pinned (OpenSpec.ofChange configCodesSpec)

/-- ITS FALSE NEIGHBOUR: 'it returns false'. Refute it at one input. -/
def configCodesWrong : ChangeSpec := { name := "configCodes", fn := fun _ => fun
  | [d1, d2] => { results := [.lit (.bool false)], args := [d1, d2] }
  | _ => none }
def ConfigCodesWrongFalsely : Prop := configCodesRow.holds Try.pinned (OpenSpec.ofChange configCodesWrong)

/-- 'dockyardlaw14.ConfigBack': WHATEVER THE INPUT: true; the input reads as it did. -/
def configBackSpec : ChangeSpec := { name := "configBack", fn := fun _ => fun
  | [d1, d2] => { results := [.lit (.bool true)], args := [d1, d2] }
  | _ => none }
def configBackRow : OpenClaim := { program := "ytmncjibokpieoaa", sum := "802305d72fa9eb5ea869552be1801fd5680bbb670a7f4c654a9ba347d6797564", func := "dockyard/dockyardlaw14.ConfigBack", spec := "configBack", unfollowed := true, recurses := true, apart := false }
def ConfigBackSaid : Prop := configBackRow.holds Try.pinned (OpenSpec.ofChange configBackSpec)

/-- ITS FALSE NEIGHBOUR: 'it returns false'. Refute it at one input. -/
def configBackWrong : ChangeSpec := { name := "configBack", fn := fun _ => fun
  | [d1, d2] => { results := [.lit (.bool false)], args := [d1, d2] }
  | _ => none }
def ConfigBackWrongFalsely : Prop := configBackRow.holds Try.pinned (OpenSpec.ofChange configBackWrong)

/-- 'dockyardlaw14.ConfigMore': WHATEVER THE INPUT: true; the input reads as it did. -/
def configMoreSpec : ChangeSpec := { name := "configMore", fn := fun _ => fun
  | [d1, d2, d3] => { results := [.lit (.bool true)], args := [d1, d2, d3] }
  | _ => none }
def configMoreRow : OpenClaim := { program := "ytmncjibokpieoaa", sum := "802305d72fa9eb5ea869552be1801fd5680bbb670a7f4c654a9ba347d6797564", func := "dockyard/dockyardlaw14.ConfigMore", spec := "configMore", unfollowed := true, recurses := true, apart := false }
def ConfigMoreSaid : Prop := configMoreRow.holds Try.pinned (OpenSpec.ofChange configMoreSpec)

/-- ITS FALSE NEIGHBOUR: 'it returns false'. Refute it at one input. -/
def configMoreWrong : ChangeSpec := { name := "configMore", fn := fun _ => fun
  | [d1, d2, d3] => { results := [.lit (.bool false)], args := [d1, d2, d3] }
  | _ => none }
def ConfigMoreWrongFalsely : Prop := configMoreRow.holds Try.pinned (OpenSpec.ofChange configMoreWrong)

/- THE SECOND FORM. 'bulk': how many values and letters a reading holds, each counted each time it is reached (what is shared counts as often as it is met; a slice's spare places count too). A statement '..UptoSaid' is the law's where the arguments, and the package variables that the reading takes, are together of bulk at most 1048576: NARROWER than '..Said'. Prove '..Said' where nothing that the law and all that it calls make is longer than what came in: it says more and counts as full. Else prove '..UptoSaid'. A law counts once. -/
mutual
def uptoBulk {H : Type} : DataW H → Nat
  | .lit (.string bytes) => bytes.length + 1
  | .lit _ => 1
  | .nil => 1
  | .ptr d => uptoBulk d + 1
  | .slice elems spare => uptoBulkAll elems + uptoBulkAll spare + 1
  | .agg parts => uptoBulkAll parts + 1
  | .iface _ d => uptoBulk d + 1
  | .map entries => uptoBulkEntries entries + 1
  | .held _ => 1
def uptoBulkAll {H : Type} : List (DataW H) → Nat
  | [] => 0
  | d :: r => uptoBulk d + uptoBulkAll r
def uptoBulkEntries {H : Type} : List (Lit × DataW H) → Nat
  | [] => 0
  | x :: r => uptoBulkEntry x + uptoBulkEntries r
def uptoBulkEntry {H : Type} : Lit × DataW H → Nat
  | (.string bytes, d) => bytes.length + uptoBulk d + 1
  | (_, d) => uptoBulk d + 1
 end
def uptoSmall : (H : Type) → List (DataW H) → Bool := fun _ ds => decide (uptoBulkAll ds ≤ 1048576)
def OpenSpec.upto (s : _root_.Go.ChangeSpec) : _root_.Go.OpenSpec := { _root_.Go.OpenSpec.ofChange s with cond := some uptoSmall }

/-- 'dockyardlaw14.ConfigTells', WHERE WHAT IT READS IS OF BULK AT MOST 1048576: true; the input reads as it did. -/
def configTellsUptoRow : OpenClaim := { program := "ytmncjibokpieoaa", sum := "802305d72fa9eb5ea869552be1801fd5680bbb670a7f4c654a9ba347d6797564", func := "dockyard/dockyardlaw14.ConfigTells", spec := "configTells", unfollowed := true, recurses := true, apart := false, narrowed := true }
def ConfigTellsUptoSaid : Prop := configTellsUptoRow.holds Try.pinned (OpenSpec.upto configTellsSpec)

/-- 'dockyardlaw14.ConfigChanges', WHERE WHAT IT READS IS OF BULK AT MOST 1048576: true; the input reads as it did. -/
def configChangesUptoRow : OpenClaim := { program := "ytmncjibokpieoaa", sum := "802305d72fa9eb5ea869552be1801fd5680bbb670a7f4c654a9ba347d6797564", func := "dockyard/dockyardlaw14.ConfigChanges", spec := "configChanges", unfollowed := true, recurses := true, apart := false, narrowed := true }
def ConfigChangesUptoSaid : Prop := configChangesUptoRow.holds Try.pinned (OpenSpec.upto configChangesSpec)

/-- 'dockyardlaw14.ConfigMeets', WHERE WHAT IT READS IS OF BULK AT MOST 1048576: true; the input reads as it did. -/
def configMeetsUptoRow : OpenClaim := { program := "ytmncjibokpieoaa", sum := "802305d72fa9eb5ea869552be1801fd5680bbb670a7f4c654a9ba347d6797564", func := "dockyard/dockyardlaw14.ConfigMeets", spec := "configMeets", unfollowed := true, recurses := true, apart := false, narrowed := true }
def ConfigMeetsUptoSaid : Prop := configMeetsUptoRow.holds Try.pinned (OpenSpec.upto configMeetsSpec)

/-- 'dockyardlaw14.ConfigCodes', WHERE WHAT IT READS IS OF BULK AT MOST 1048576: true; the input reads as it did. -/
def configCodesUptoRow : OpenClaim := { program := "ytmncjibokpieoaa", sum := "802305d72fa9eb5ea869552be1801fd5680bbb670a7f4c654a9ba347d6797564", func := "dockyard/dockyardlaw14.ConfigCodes", spec := "configCodes", unfollowed := true, recurses := true, apart := false, narrowed := true }
def ConfigCodesUptoSaid : Prop := configCodesUptoRow.holds Try.pinned (OpenSpec.upto configCodesSpec)

/-- 'dockyardlaw14.ConfigBack', WHERE WHAT IT READS IS OF BULK AT MOST 1048576: true; the input reads as it did. -/
def configBackUptoRow : OpenClaim := { program := "ytmncjibokpieoaa", sum := "802305d72fa9eb5ea869552be1801fd5680bbb670a7f4c654a9ba347d6797564", func := "dockyard/dockyardlaw14.ConfigBack", spec := "configBack", unfollowed := true, recurses := true, apart := false, narrowed := true }
def ConfigBackUptoSaid : Prop := configBackUptoRow.holds Try.pinned (OpenSpec.upto configBackSpec)

/-- 'dockyardlaw14.ConfigMore', WHERE WHAT IT READS IS OF BULK AT MOST 1048576: true; the input reads as it did. -/
def configMoreUptoRow : OpenClaim := { program := "ytmncjibokpieoaa", sum := "802305d72fa9eb5ea869552be1801fd5680bbb670a7f4c654a9ba347d6797564", func := "dockyard/dockyardlaw14.ConfigMore", spec := "configMore", unfollowed := true, recurses := true, apart := false, narrowed := true }
def ConfigMoreUptoSaid : Prop := configMoreUptoRow.holds Try.pinned (OpenSpec.upto configMoreSpec)

end Rows
end Go.Proofs.Ytmncjibokpieoaa
