/-
  What is ready is done, one after the other: plainly.
-/
import Derived.Test.YtjfneckflddeeaaRyLaw
namespace Go.Proofs.Ytjfneckflddeeaa

theorem settled_waits {ps : List Pt} {l : List Pst} (hq : grCheck ps = 0) (hl : l.length = ps.length) {i : Nat} {x : Pst} (h : (grSettle ps l)[i]? = some x) (hx : x.s = 0) : outc (needSt ps (grSettle ps l) i) = 0 := by
  have hR : (grSettle ps l).length = ps.length := by rw [grSettle_length (by rw [order_len hq, hl]), hl]
  have hi : i < ps.length := by rw [← hR]; exact (List.getElem?_eq_some_iff.1 h).1
  rw [grSettle_sol hq hl i hi] at h
  injection h with h
  generalize grSettle ps l = R at *
  refine Classical.byContradiction fun hne => ?_
  rw [← h] at hx
  unfold settleAt at hx
  split at hx
  · exact hne hx
  · rename_i hn
    exact hn ⟨hx, hne⟩
/-- What does not wait stays as it is. -/
theorem settle_stays {ps : List Pt} {l : List Pst} (hq : grCheck ps = 0) (hl : l.length = ps.length) {i : Nat} {x : Pst} (h : l[i]? = some x) (hx : x.s ≠ 0) : (grSettle ps l)[i]? = some x := by
  have hi := (List.getElem?_eq_some_iff.1 h).1
  rw [grSettle_sol hq hl i (by omega)]
  have hg : l.getD i Pst.zero = x := by rw [List.getD_eq_getElem?_getD, h]; rfl
  unfold settleAt
  rw [hg, if_neg (fun hh => hx hh.1)]
theorem count_le {f : Pst → Bool} : ∀ (l m : List Pst), l.length = m.length → (∀ (i : Nat) (x : Pst), l[i]? = some x → f x = true → m[i]? = some x) → l.countP f ≤ m.countP f
  | [], _, _, _ => by simp
  | x :: l, [], h, _ => by simp at h
  | x :: l, y :: m, h, hh => by
    have ih := count_le l m (by simpa using h) (fun i z hz hf => by
      have := hh (i + 1) z (by simpa using hz) hf
      simpa using this)
    rw [List.countP_cons, List.countP_cons]
    cases hx : f x with
    | false => simp; omega
    | true =>
      have := hh 0 x rfl hx
      have e : y = x := by simpa using this
      rw [e, hx]
      simp
      exact ih
theorem count_set {f : Pst → Bool} {l : List Pst} {p : Nat} {x y : Pst} (h : l[p]? = some x) (hx : f x = false) (hy : f y = true) : (l.set p y).countP f = l.countP f + 1 := by
  induction l generalizing p with
  | nil => simp at h
  | cons a l ih =>
    cases p with
    | zero =>
      have e : a = x := by simpa using h
      subst e
      simp [hx, hy]
    | succ p =>
      have := ih (p := p) (by simpa using h)
      rw [List.set_cons_succ, List.countP_cons, List.countP_cons, this]
      omega

theorem next_some {l : List Pst} {p : Nat} (h : nextIx l = some p) : ∃ x, l[p]? = some x ∧ x.s = 1 := by
  unfold nextIx at h
  obtain ⟨hk, h1, _⟩ := List.findIdx?_eq_some_iff_getElem.1 h
  exact ⟨l[p], List.getElem?_eq_getElem hk, by simpa using h1⟩
theorem next_none {l : List Pst} (h : nextIx l = none) {i : Nat} {x : Pst} (hx : l[i]? = some x) : x.s ≠ 1 := by
  unfold nextIx at h
  have := List.findIdx?_eq_none_iff.1 h x (List.mem_of_getElem? hx)
  simpa using this

/-- The states that come up. -/
def okS (good : Bool) (s : Int) : Prop := s = 0 ∨ s = 1 ∨ (good = true ∧ s = 3) ∨ (good = false ∧ (s = 4 ∨ s = 5))
structure Going (ps : List Pt) (good : Bool) (k : Nat) (L : List Pst) : Prop where
  len : L.length = ps.length
  ok : ∀ (i : Nat) (x : Pst), L[i]? = some x → okS good x.s
  waits : ∀ (i : Nat) (x : Pst), L[i]? = some x → x.s = 0 → outc (needSt ps L i) = 0
  cnt : k ≤ L.countP (fun x => finB x.s)

theorem needSt_ok {ps : List Pt} {good : Bool} {l : List Pst} (hl : l.length = ps.length) (hok : ∀ (i : Nat) (x : Pst), l[i]? = some x → okS good x.s) (p : Nat) : ∀ s ∈ needSt ps l p, okS good s := by
  intro s hs
  unfold needSt at hs
  obtain ⟨n, hn, rfl⟩ := List.mem_map.1 hs
  have := needsAt_lt hn
  exact hok n _ (getS_at (by omega))
theorem settle_ok {ps : List Pt} {good : Bool} {l : List Pst} (hq : grCheck ps = 0) (hl : l.length = ps.length) (hok : ∀ (i : Nat) (x : Pst), l[i]? = some x → okS good x.s) : ∀ (i : Nat) (x : Pst), (grSettle ps l)[i]? = some x → okS good x.s := by
  have hR : (grSettle ps l).length = ps.length := by rw [grSettle_length (by rw [order_len hq, hl]), hl]
  have key : ∀ p, p < ps.length → ∀ x, (grSettle ps l)[p]? = some x → okS good x.s := by
    intro p hp
    refine by_order hq (Q := fun p => ∀ x, (grSettle ps l)[p]? = some x → okS good x.s) (fun p hp ih x hx => ?_) p hp
    rw [grSettle_sol hq hl p hp] at hx
    injection hx with hx
    have hg := hok p _ (getS_at (l := l) (n := p) (by omega))
    have hns : ∀ s ∈ needSt ps (grSettle ps l) p, okS good s := by
      intro s hs
      unfold needSt at hs
      obtain ⟨n, hn, rfl⟩ := List.mem_map.1 hs
      have := needsAt_lt hn
      exact ih n hn _ (getS_at (by omega))
    generalize grSettle ps l = R at *
    rw [← hx]
    unfold settleAt
    split
    · rename_i hh
      show okS good (outc (needSt ps R p))
      rcases outc_range (needSt ps R p) with e | e | e
      · cases good with
        | false =>
          rw [e]
          exact .inr (.inr (.inr ⟨rfl, .inr rfl⟩))
        | true =>
          exfalso
          have hno : ∀ s ∈ needSt ps R p, lostS s = false := fun s hs => by
            rcases hns s hs with h | h | ⟨_, h⟩ | ⟨h, _⟩
            · rw [h]; decide
            · rw [h]; decide
            · rw [h]; decide
            · cases h
          rw [outc_else hno] at e
          split at e <;> exact absurd e (by decide)
      · rw [e]
        exact .inr (.inl rfl)
      · exact absurd e hh.2
    · exact hg
  intro i x hx
  exact key i (by rw [← hR]; exact (List.getElem?_eq_some_iff.1 hx).1) x hx

theorem going_settle {ps : List Pt} {good : Bool} {k : Nat} {l : List Pst} (hq : grCheck ps = 0) (hl : l.length = ps.length) (hok : ∀ (i : Nat) (x : Pst), l[i]? = some x → okS good x.s) (hc : k ≤ l.countP (fun x => finB x.s)) : Going ps good k (grSettle ps l) := by
  have hR : (grSettle ps l).length = ps.length := by rw [grSettle_length (by rw [order_len hq, hl]), hl]
  refine ⟨hR, settle_ok hq hl hok, fun i x h hx => settled_waits hq hl h hx, Nat.le_trans hc (count_le _ _ (by rw [hR, hl]) (fun i x h hf => settle_stays hq hl h (fun e => ?_)))⟩
  rw [e] at hf
  exact absurd hf (by decide)
theorem going_start {ps : List Pt} (good : Bool) (hq : grCheck ps = 0) : Going ps good 0 (grStart ps []) := by
  unfold grStart
  refine going_settle hq (stBegin_length _ _) (fun i x h => ?_) (Nat.zero_le _)
  have hi := (List.getElem?_eq_some_iff.1 h).1
  rw [stBegin_length] at hi
  rw [stBegin_at [] hi] at h
  injection h with h
  rw [← h]
  exact .inl rfl
theorem going_more {ps : List Pt} {good : Bool} {k p : Nat} {L : List Pst} (hq : grCheck ps = 0) (h : Going ps good k L) (hp : nextIx L = some p) : Going ps good (k + 1) (grSettle ps (L.set p ⟨if good = true then 3 else 4, 0, 0⟩)) := by
  obtain ⟨x, hx, h1⟩ := next_some hp
  refine going_settle hq (by rw [List.length_set]; exact h.len) (fun i y hy => ?_) ?_
  · by_cases e : p = i
    · subst e
      rw [List.getElem?_set_self (List.getElem?_eq_some_iff.1 hx).1] at hy
      injection hy with hy
      rw [← hy]
      cases good with
      | true => exact .inr (.inr (.inl ⟨rfl, rfl⟩))
      | false => exact .inr (.inr (.inr ⟨rfl, .inl rfl⟩))
    · rw [List.getElem?_set_ne e] at hy
      exact h.ok i y hy
  · have := h.cnt
    rw [count_set hx (by rw [h1]; decide) (by cases good <;> decide)]
    omega
theorem fin_all {ps : List Pt} {good : Bool} {k : Nat} {L : List Pst} (h : Going ps good k L) (hk : ps.length ≤ k) : ∀ (i : Nat) (x : Pst), L[i]? = some x → finB x.s = true := by
  intro i x hx
  have h1 := h.cnt
  have h2 : L.countP (fun x => finB x.s) = L.length := Nat.le_antisymm List.countP_le_length (by rw [h.len]; omega)
  exact List.countP_eq_length.1 h2 x (List.mem_of_getElem? hx)
theorem fin_none {ps : List Pt} {good : Bool} {k : Nat} {L : List Pst} (hq : grCheck ps = 0) (h : Going ps good k L) (hn : nextIx L = none) : ∀ (i : Nat) (x : Pst), L[i]? = some x → finB x.s = true := by
  have key : ∀ p, p < ps.length → ∀ x, L[p]? = some x → finB x.s = true := by
    intro p hp
    refine by_order hq (Q := fun p => ∀ x, L[p]? = some x → finB x.s = true) (fun p hp ih x hx => ?_) p hp
    rcases h.ok p x hx with e | e | ⟨_, e⟩ | ⟨_, e | e⟩
    · exfalso
      have hz := h.waits p x hx e
      have hfin : ∀ s ∈ needSt ps L p, finB s = true := by
        intro s hs
        unfold needSt at hs
        obtain ⟨n, hn', rfl⟩ := List.mem_map.1 hs
        have := needsAt_lt hn'
        exact ih n hn' _ (getS_at (by rw [h.len]; exact this))
      by_cases hl : ∃ s ∈ needSt ps L p, lostS s = true
      · obtain ⟨s, hs, hs2⟩ := hl
        rw [outc_lost hs hs2] at hz
        exact absurd hz (by decide)
      · have hno : ∀ s ∈ needSt ps L p, lostS s = false := fun s hs => by
          cases hq2 : lostS s with
          | false => rfl
          | true => exact absurd ⟨s, hs, hq2⟩ hl
        rw [outc_else hno, if_pos] at hz
        · exact absurd hz (by decide)
        · rw [List.all_eq_true]
          intro s hs
          have h1 := hfin s hs
          have h2 := hno s hs
          unfold finB at h1
          unfold lostS at h2
          simp only [Bool.and_eq_true, Bool.and_eq_false_iff, decide_eq_true_eq, decide_eq_false_iff_not] at h1 h2
          rw [beq_iff_eq]
          omega
    · exact absurd e (next_none hn hx)
    · rw [e]; decide
    · rw [e]; decide
    · rw [e]; decide
  intro i x hx
  exact key i (by rw [← h.len]; exact (List.getElem?_eq_some_iff.1 hx).1) x hx
theorem good_three {s : Int} (h : okS true s) (hf : finB s = true) : s = 3 := by
  rcases h with e | e | ⟨_, e⟩ | ⟨e, _⟩
  · rw [e] at hf; exact absurd hf (by decide)
  · rw [e] at hf; exact absurd hf (by decide)
  · exact e
  · cases e
end Go.Proofs.Ytjfneckflddeeaa
