/-
  Texts of graphs, read line by line, plainly.
-/
import Derived.Test.YtfijbjbfnpadmaaDoorGpM
namespace Go.Proofs.YtfijbjbfnpadmaaDoor

/-- What a line adds to the targets of the lines ahead of it. -/
def addLineP (ps : List Pt) : List UInt8 → Option (List Pt)
  | [] => none
  | b :: c => if b = 9 then (match ps.getLast? with
      | none => none
      | some t => if c = [] ∨ t.cmd.size ≠ 0 then none else some (ps.dropLast ++ [⟨t.name, mk c, t.needs⟩]))
    else (lineP (b :: c)).map (fun q => ps ++ [⟨mk q.1, ⟨#[]⟩, q.2.map mk⟩])
/-- Line behind line; the last piece is empty. -/
def parseL : List (List UInt8) → List Pt → Option (List Pt)
  | [], _ => none
  | [l], ps => if l = [] then some ps else none
  | l :: m :: ls, ps => (addLineP ps l).bind (parseL (m :: ls))
def parseP (s : List UInt8) : Option (List Pt) := parseL (splitB 10 s) []

/-- Bytes up to a newline. -/
def llen (l : List UInt8) : Nat := (l.takeWhile (fun b => b != 10)).length
theorem llen_line {l : List UInt8} {n : Nat} (h : ∀ j b, j < n → l[j]? = some b → b ≠ 10) (hn : l[n]? = some 10) : splitB 10 l = l.take n :: splitB 10 (l.drop (n + 1)) := by
  obtain ⟨h1, h2⟩ := List.getElem?_eq_some_iff.1 hn
  have e : l = l.take n ++ 10 :: l.drop (n + 1) := by
    conv => lhs; rw [← List.take_append_drop n l, List.drop_eq_getElem_cons h1, h2]
  have hw : ∀ b ∈ l.take n, b ≠ 10 := fun b hb => by
    obtain ⟨j, hj⟩ := List.getElem?_of_mem hb
    rw [List.getElem?_take] at hj
    split at hj
    · exact h j b (by assumption) hj
    · cases hj
  have := splitB_app hw (10 :: l.drop (n + 1)) (splitB_hit 10 (l.drop (n + 1)))
  rw [List.append_nil, ← e] at this
  exact this
theorem split_end {l : List UInt8} (h : ∀ b ∈ l, b ≠ 10) : splitB 10 l = [l] := by
  have := splitB_app h [] (show splitB 10 [] = [] :: [] from rfl)
  simpa using this
theorem parse_line {l : List UInt8} {n : Nat} (ps : List Pt) (h : ∀ j b, j < n → l[j]? = some b → b ≠ 10) (hn : l[n]? = some 10) : parseL (splitB 10 l) ps = (addLineP ps (l.take n)).bind (parseL (splitB 10 (l.drop (n + 1)))) := by
  rw [llen_line h hn]
  obtain ⟨m, ls, e⟩ := splitB_ne 10 (l.drop (n + 1))
  rw [e]
  rfl
theorem parse_end {l : List UInt8} (ps : List Pt) (h : ∀ b ∈ l, b ≠ 10) (hl : l ≠ []) : parseL (splitB 10 l) ps = none := by
  rw [split_end h]
  unfold parseL
  rw [if_neg hl]
theorem parse_nil (ps : List Pt) : parseL (splitB 10 []) ps = some ps := rfl
/-- What Parse tells: the targets, and the error. -/
noncomputable def parseRes (s : List UInt8) : List Pt × Int := match parseP s with
  | none => ([], 70)
  | some ps => if grCheck ps = 0 then (ps, 0) else ([], grCheck ps)
end Go.Proofs.YtfijbjbfnpadmaaDoor
