/-
  strings.Cut and strings.Split at one byte, plainly: where a line's parts lie.
-/
import Derived.Test.YtfijbjbfnpadmaaDoorGpParseM
import Derived.Lib.Split
namespace Go.Proofs.YtfijbjbfnpadmaaDoor

theorem indexByte_out {c : UInt8} {l : List UInt8} (h : ∀ b ∈ l, b ≠ c) : Lib.indexByte l c = -1 := by
  induction l with
  | nil => rfl
  | cons b l ih =>
    have hb : (b == c) = false := beq_eq_false_iff_ne.2 (h b List.mem_cons_self)
    have := ih (fun x hx => h x (List.mem_cons_of_mem _ hx))
    unfold Lib.indexByte
    rw [this, hb]
    rfl
theorem indexByte_in {c : UInt8} {a : List UInt8} (r : List UInt8) (h : ∀ b ∈ a, b ≠ c) : Lib.indexByte (a ++ c :: r) c = a.length := by
  induction a with
  | nil => unfold Lib.indexByte; simp
  | cons b a ih =>
    have hb : (b == c) = false := beq_eq_false_iff_ne.2 (h b List.mem_cons_self)
    have := ih (fun x hx => h x (List.mem_cons_of_mem _ hx))
    rw [List.cons_append]
    unfold Lib.indexByte
    rw [this, hb]
    have e : ((a.length : Int) == -1) = false := by rw [beq_eq_false_iff_ne]; omega
    simp [e]
theorem index_out {c : UInt8} {l : List UInt8} (h : ∀ b ∈ l, b ≠ c) : Lib.index l [c] = -1 := by rw [Lib.index_one, indexByte_out h]
theorem index_in {c : UInt8} {a : List UInt8} (r : List UInt8) (h : ∀ b ∈ a, b ≠ c) : Lib.index (a ++ c :: r) [c] = a.length := by rw [Lib.index_one, indexByte_in r h]
theorem cut_out {c : UInt8} {l : List UInt8} (h : ∀ b ∈ l, b ≠ c) : Lib.cut l [c] = (l, [], false) := by
  unfold Lib.cut
  rw [index_out h]
  rfl
theorem cut_in {c : UInt8} {a : List UInt8} (r : List UInt8) (h : ∀ b ∈ a, b ≠ c) : Lib.cut (a ++ c :: r) [c] = (a, r, true) := by
  unfold Lib.cut
  rw [index_in r h, if_pos (by omega)]
  simp
/-- A list with the byte, or without. -/
theorem byte_cases (c : UInt8) (l : List UInt8) : (∀ b ∈ l, b ≠ c) ∨ ∃ a r, l = a ++ c :: r ∧ ∀ b ∈ a, b ≠ c := by
  induction l with
  | nil => exact .inl (fun b hb => by cases hb)
  | cons x l ih =>
    by_cases hx : x = c
    · exact .inr ⟨[], l, by rw [hx]; rfl, fun b hb => by cases hb⟩
    · rcases ih with h | ⟨a, r, h1, h2⟩
      · refine .inl (fun b hb => ?_)
        rcases List.mem_cons.1 hb with rfl | hb
        · exact hx
        · exact h b hb
      · refine .inr ⟨x :: a, r, by rw [h1]; rfl, fun b hb => ?_⟩
        rcases List.mem_cons.1 hb with rfl | hb
        · exact hx
        · exact h2 b hb
theorem split_out {c : UInt8} {l : List UInt8} (h : ∀ b ∈ l, b ≠ c) : splitB c l = [l] := by
  have := splitB_app h [] (show splitB c [] = [] :: [] from rfl)
  simpa using this
theorem split_in {c : UInt8} {a : List UInt8} (r : List UInt8) (h : ∀ b ∈ a, b ≠ c) : splitB c (a ++ c :: r) = a :: splitB c r := by
  have := splitB_app h (c :: r) (splitB_hit c r)
  rw [List.append_nil] at this
  exact this
theorem split_same (c : UInt8) : ∀ (n : Nat) (l : List UInt8) (f : Nat), l.length ≤ n → l.length < f → Lib.countFrom [c] f l + 1 = (splitB c l).length ∧ Lib.splitK [c] 0 (Lib.countFrom [c] f l) l = splitB c l
  | n, l, 0, _, hf => absurd hf (by omega)
  | n, l, f + 1, hn, hf => by
    rcases byte_cases c l with h | ⟨a, r, rfl, h⟩
    · have e := index_out h
      rw [split_out h]
      unfold Lib.countFrom
      rw [e]
      exact ⟨rfl, rfl⟩
    · have e := index_in r h
      have hne : ((a.length : Int) == -1) = false := by rw [beq_eq_false_iff_ne]; omega
      have ed : (a ++ c :: r).drop (a.length + 1) = r := by rw [show a.length + 1 = (a ++ [c]).length by simp, show a ++ c :: r = (a ++ [c]) ++ r by simp, List.drop_left]
      simp only [List.length_append, List.length_cons] at hn hf
      cases n with
      | zero => omega
      | succ n =>
        obtain ⟨h1, h2⟩ := split_same c n r f (by omega) (by omega)
        rw [split_in r h]
        unfold Lib.countFrom
        rw [e, hne]
        simp only [Bool.false_eq_true, if_false, Int.toNat_natCast, List.length_cons, List.length_nil, Nat.zero_add, ed]
        refine ⟨by rw [← h1]; omega, ?_⟩
        rw [Nat.add_comm 1]
        unfold Lib.splitK
        rw [e, hne]
        simp only [Bool.false_eq_true, if_false, Int.toNat_natCast, Nat.add_zero, List.length_cons, List.length_nil, Nat.zero_add, ed, h2]
        simp
theorem splits (s : ByteArray) (c : UInt8) : Lib.countB s ⟨#[c]⟩ + 1 = (splitB c (bl s)).length ∧ (Lib.splitB ⟨#[c]⟩ 0 (Lib.countB s ⟨#[c]⟩) s) = (splitB c (bl s)).map mk := by
  obtain ⟨h1, h2⟩ := split_same c (bl s).length (bl s) ((bl s).length + 1) (Nat.le_refl _) (Nat.lt_succ_self _)
  have e := Lib.splitB_data ⟨#[c]⟩ 0 (Lib.countB s ⟨#[c]⟩) s
  refine ⟨h1, ?_⟩
  have e2 : (Lib.splitB ⟨#[c]⟩ 0 (Lib.countB s ⟨#[c]⟩) s).map (fun x => bl x) = splitB c (bl s) := e.trans h2
  rw [← e2, List.map_map]
  exact (List.map_id _).symm

theorem good_iff (w : List UInt8) : goodW w = isWordB (mk w) := by
  unfold goodW isWordB
  show (w.all wordB && !w.isEmpty) = (w.all wordB && decide ((mk w).size ≠ 0))
  rw [mk_size]
  cases w with
  | nil => rfl
  | cons a w => simp
theorem line_none {l : List UInt8} (h : ∀ b ∈ l, b ≠ 58) : lineP l = none := by
  unfold lineP
  cases hd : l.drop (l.takeWhile wordB).length with
  | nil => rfl
  | cons b r =>
    have hb : b ∈ l := List.mem_of_mem_drop (by rw [hd]; exact List.mem_cons_self)
    simp [h b hb]
theorem word58 : wordB 58 = false := by decide
theorem line_some {a : List UInt8} (r : List UInt8) (h : ∀ b ∈ a, b ≠ 58) : lineP (a ++ 58 :: r) = if goodW a = true then (restP r).map (fun ws => (a, ws)) else none := by
  unfold lineP
  by_cases hall : a.all wordB = true
  · have ht : (a ++ 58 :: r).takeWhile wordB = a := by
      rw [List.takeWhile_append_of_pos (List.all_eq_true.1 hall), List.takeWhile_cons_of_neg (by rw [word58]; decide), List.append_nil]
    rw [ht, List.drop_left]
    unfold goodW
    rw [hall]
    cases a with
    | nil => simp
    | cons x a => simp
  · have hg : goodW a = false := by
      unfold goodW
      rw [Bool.eq_false_iff.2 hall]
      rfl
    rw [hg]
    simp only [Bool.false_eq_true, if_false]
    have key : ∃ b q, (a ++ 58 :: r).drop ((a ++ 58 :: r).takeWhile wordB).length = b :: q ∧ b ≠ 58 := by
      clear hg
      induction a with
      | nil => exact absurd rfl hall
      | cons x a ih =>
        cases hx : wordB x with
        | false =>
          refine ⟨x, a ++ 58 :: r, ?_, h x List.mem_cons_self⟩
          rw [List.cons_append, List.takeWhile_cons_of_neg (by rw [hx]; decide)]
          rfl
        | true =>
          obtain ⟨b, q, h1, h2⟩ := ih (fun b hb => h b (List.mem_cons_of_mem _ hb)) (fun hh => hall (by rw [List.all_cons, hx, hh]; rfl))
          refine ⟨b, q, ?_, h2⟩
          rw [List.cons_append, List.takeWhile_cons_of_pos hx]
          exact h1
    obtain ⟨b, q, h1, h2⟩ := key
    rw [h1]
    simp [h2]
end Go.Proofs.YtfijbjbfnpadmaaDoor
