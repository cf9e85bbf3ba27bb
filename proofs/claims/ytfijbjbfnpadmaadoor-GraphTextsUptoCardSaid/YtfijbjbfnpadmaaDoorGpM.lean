/-
  Texts of graphs, read plainly.
-/
import Derived.Test.YtfijbjbfnpadmaaDoorGrWord
import Derived.Test.YtfijbjbfnpadmaaDoorGrCheck
namespace Go.Proofs.YtfijbjbfnpadmaaDoor

/-- A text's bytes, and the text of some bytes. -/
def bl (s : ByteArray) : List UInt8 := s.data.toList
def mk (l : List UInt8) : ByteArray := ⟨l.toArray⟩
theorem bl_mk (l : List UInt8) : bl (mk l) = l := rfl
theorem mk_bl (s : ByteArray) : mk (bl s) = s := rfl
theorem bl_length (s : ByteArray) : (bl s).length = s.size := by unfold bl; rw [Array.length_toList]; rfl
theorem mk_size (l : List UInt8) : (mk l).size = l.length := by rw [← bl_length, bl_mk]

/-- Pieces between a byte. -/
def splitB (c : UInt8) : List UInt8 → List (List UInt8)
  | [] => [[]]
  | b :: l => if b = c then [] :: splitB c l else (match splitB c l with | [] => [[b]] | h :: t => (b :: h) :: t)
theorem splitB_ne (c : UInt8) (l : List UInt8) : ∃ h t, splitB c l = h :: t := by
  cases l with
  | nil => exact ⟨_, _, rfl⟩
  | cons b l =>
    unfold splitB
    split
    · exact ⟨_, _, rfl⟩
    · split
      · exact ⟨_, _, rfl⟩
      · exact ⟨_, _, rfl⟩
theorem splitB_app {c : UInt8} {w : List UInt8} (hw : ∀ b ∈ w, b ≠ c) (l : List UInt8) {h : List UInt8} {t : List (List UInt8)} (hl : splitB c l = h :: t) : splitB c (w ++ l) = (w ++ h) :: t := by
  induction w with
  | nil => exact hl
  | cons b w ih =>
    have := ih (fun x hx => hw x (List.mem_cons_of_mem _ hx))
    rw [List.cons_append, splitB, if_neg (hw b List.mem_cons_self), this]
    rfl
theorem splitB_hit (c : UInt8) (l : List UInt8) : splitB c (c :: l) = [] :: splitB c l := by rw [splitB, if_pos rfl]

/-- May a word stand for a name or a need? -/
def goodW (w : List UInt8) : Bool := w.all wordB && !w.isEmpty
/-- Needs behind a colon. -/
def restP (r : List UInt8) : Option (List (List UInt8)) := match splitB 32 r with
  | [] :: ws => if ws.all goodW = true then some ws else none
  | _ => none
/-- A target's first line. -/
def lineP (l : List UInt8) : Option (List UInt8 × List (List UInt8)) := match l.drop (l.takeWhile wordB).length with
  | b :: r => if b = 58 ∧ l.takeWhile wordB ≠ [] then (restP r).map (fun ws => (l.takeWhile wordB, ws)) else none
  | [] => none

theorem wordB_ne {b c : UInt8} (h : wordB b = true) (hc : c = 58 ∨ c = 32 ∨ c = 9) : b ≠ c := by
  rintro rfl
  unfold wordB at h
  rcases hc with rfl | rfl | rfl <;> exact absurd h (by decide)
theorem not_wordB {b : UInt8} (h : wordB b = false) : b = 58 ∨ b = 32 ∨ b = 9 := by
  unfold wordB at h
  simp only [Bool.and_eq_false_iff, decide_eq_false_iff_not, Classical.not_not] at h
  rcases h with (h | h) | h
  · exact .inl (UInt8.toNat_inj.1 h)
  · exact .inr (.inl (UInt8.toNat_inj.1 h))
  · exact .inr (.inr (UInt8.toNat_inj.1 h))
theorem takeWhile_append_drop (f : UInt8 → Bool) (l : List UInt8) : l.takeWhile f ++ l.drop (l.takeWhile f).length = l := by
  induction l with
  | nil => rfl
  | cons a l ih =>
    cases hf : f a with
    | false => rw [List.takeWhile_cons_of_neg (by rw [hf]; decide)]; rfl
    | true =>
      rw [List.takeWhile_cons_of_pos hf]
      show a :: (l.takeWhile f ++ l.drop (l.takeWhile f).length) = _
      rw [ih]
theorem takeWhile_all (f : UInt8 → Bool) (l : List UInt8) : ∀ b ∈ l.takeWhile f, f b = true := fun b hb => by
  have := List.all_takeWhile (l := l) (p := f)
  exact List.all_eq_true.1 this b hb
theorem takeWhile_stop {f : UInt8 → Bool} {l : List UInt8} {b : UInt8} {r : List UInt8} (h : l.drop (l.takeWhile f).length = b :: r) : f b = false := by
  induction l with
  | nil => simp at h
  | cons a l ih =>
    cases hf : f a with
    | false =>
      rw [List.takeWhile_cons_of_neg (by rw [hf]; decide)] at h
      simp at h
      rw [← h.1]
      exact hf
    | true =>
      rw [List.takeWhile_cons_of_pos hf] at h
      exact ih (by simpa using h)

theorem rest_nil : restP [] = some [] := rfl
theorem rest_other {b : UInt8} {r : List UInt8} (h : b ≠ 32) : restP (b :: r) = none := by
  obtain ⟨h1, t1, e⟩ := splitB_ne 32 r
  unfold restP
  rw [splitB, if_neg h, e]
/-- One need more. -/
theorem rest_step (l : List UInt8) : restP (32 :: l) = if l.takeWhile wordB = [] then none else (restP (l.drop (l.takeWhile wordB).length)).map (fun ws => l.takeWhile wordB :: ws) := by
  have hl := takeWhile_append_drop wordB l
  have hall := takeWhile_all wordB l
  have hstop := fun b r => takeWhile_stop (f := wordB) (l := l) (b := b) (r := r)
  generalize l.takeWhile wordB = w at *
  generalize l.drop w.length = l' at *
  subst hl
  have hne : ∀ b ∈ w, b ≠ 32 := fun b hb => wordB_ne (hall b hb) (.inr (.inl rfl))
  have hwall : w.all wordB = true := List.all_eq_true.2 hall
  unfold restP
  rw [splitB_hit]
  cases l' with
  | nil =>
    have e : splitB 32 (w ++ []) = (w ++ []) :: [] := splitB_app hne [] rfl
    rw [e]
    simp only [List.append_nil, List.all_cons, List.all_nil, Bool.and_true, splitB, goodW, hwall, Bool.true_and]
    cases w with
    | nil => rfl
    | cons b w => rfl
  | cons b r =>
    by_cases hb : b = 32
    · subst hb
      have e : splitB 32 (w ++ 32 :: r) = (w ++ []) :: splitB 32 r := splitB_app hne _ (splitB_hit 32 r)
      rw [e, splitB_hit]
      simp only [List.append_nil, List.all_cons, goodW, hwall, Bool.true_and]
      cases w with
      | nil => simp
      | cons b' w' => cases hx : (splitB 32 r).all goodW <;> simp
    · obtain ⟨h1, t1, e1⟩ := splitB_ne 32 r
      have e2 : splitB 32 (b :: r) = (b :: h1) :: t1 := by rw [splitB, if_neg hb, e1]
      have e : splitB 32 (w ++ b :: r) = (w ++ b :: h1) :: t1 := splitB_app hne _ e2
      rw [e, e2]
      have hbad : goodW (w ++ b :: h1) = false := by
        unfold goodW
        rw [List.all_append, List.all_cons, hstop b r rfl]
        simp
      simp only [List.all_cons, hbad, Bool.false_and]
      cases w with
      | nil => simp
      | cons b' w' => simp
end Go.Proofs.YtfijbjbfnpadmaaDoor
