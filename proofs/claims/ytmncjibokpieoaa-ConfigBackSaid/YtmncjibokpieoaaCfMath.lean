/-
  Configurations, plainly: majorities meet; what is added and removed again.
-/
import Derived.Test.YtmncjibokpieoaaCfPlain
namespace Go.Proofs.Ytmncjibokpieoaa

theorem both_in {p q : Int → Bool} : ∀ {s : List Int}, s.length < (s.filter p).length + (s.filter q).length → ∃ x ∈ s, p x = true ∧ q x = true
  | [], h => by simp at h
  | y :: s, h => by
    by_cases hp : p y = true
    · by_cases hq : q y = true
      · exact ⟨y, List.mem_cons_self .., hp, hq⟩
      · rw [List.filter_cons_of_pos hp, List.filter_cons_of_neg hq] at h
        simp only [List.length_cons] at h
        obtain ⟨x, hx, h2⟩ := both_in (s := s) (p := p) (q := q) (by omega)
        exact ⟨x, List.mem_cons_of_mem _ hx, h2⟩
    · rw [List.filter_cons_of_neg hp] at h
      have hle : ((y :: s).filter q).length ≤ (s.filter q).length + 1 := by
        rw [List.filter_cons]
        split <;> simp
      simp only [List.length_cons] at h
      obtain ⟨x, hx, h2⟩ := both_in (s := s) (p := p) (q := q) (by omega)
      exact ⟨x, List.mem_cons_of_mem _ hx, h2⟩
theorem with_count {l : List Int} (h : l.Pairwise (· < ·)) {n : Int} (hn : n ∉ l) (p : Int → Bool) : (l.filter p).length ≤ ((withP l n).filter p).length ∧ ((withP l n).filter p).length ≤ (l.filter p).length + 1 := by
  rw [← sort_with h hn]
  have e : (((l ++ [n]).mergeSort (fun x y => decide (x ≤ y))).filter p).length = ((l ++ [n]).filter p).length := ((List.mergeSort_perm _ _).filter p).length_eq
  rw [e, List.filter_append, List.length_append]
  have : ([n].filter p).length ≤ 1 := List.length_filter_le _ _
  omega
theorem maj_iff {c : Cf} {ns : List Int} : majP c ns = true ↔ c.v.length / 2 < (c.v.filter (fun x => inP ns x)).length := decide_eq_true_iff
theorem wo_with {l : List Int} (h : l.Pairwise (· < ·)) {n : Int} (hn : n ∈ l) : withP (woP l n) n = l := by
  refine rises_one (withP_rises _ n) h (fun x => ?_)
  rw [withP_mem, woP_mem]
  constructor
  · rintro (h1 | h1)
    · exact h1.1
    · rw [h1]; exact hn
  · intro hx
    by_cases e : x = n
    · exact .inr e
    · exact .inl ⟨hx, e⟩
/-- A majority ahead of a change and one behind it have a voter of both in common. -/
theorem meets {c : Cf} {kind node : Int} {l0 l1 : List Int} (h : (apP c kind node).2 = 0) (h0 : majP c l0 = true) (h1 : majP (apP c kind node).1 l1 = true) : ∃ x ∈ l0, x ∈ l1 ∧ x ∈ c.v ∧ x ∈ (apP c kind node).1.v := by
  have hv := (ap_valid h).1
  rw [maj_iff] at h0
  rw [maj_iff] at h1
  unfold apP at h h1 ⊢
  rw [if_pos ((chk_iff c).2 hv)] at h h1 ⊢
  have fin : ∀ {s : List Int}, s.length < (s.filter (fun x => inP l0 x)).length + (s.filter (fun x => inP l1 x)).length → ∃ x ∈ l0, x ∈ l1 ∧ x ∈ s := by
    intro s hs
    obtain ⟨x, hx, hp, hq⟩ := both_in hs
    exact ⟨x, inP_true.1 hp, inP_true.1 hq, hx⟩
  by_cases e1 : kind = 1 ∧ hasP c node = false ∧ 0 ≤ node ∧ node ≤ 7
  · rw [if_pos e1] at h1 ⊢
    simp only at h1 ⊢
    obtain ⟨x, ha, hb, hc⟩ := fin (s := c.v) (by omega)
    exact ⟨x, ha, hb, hc, hc⟩
  · rw [if_neg e1] at h h1 ⊢
    by_cases e2 : kind = 2 ∧ hasP c node = true ∧ inP c.v node = false
    · rw [if_pos e2] at h1 ⊢
      simp only at h1 ⊢
      have hn := inP_false.1 e2.2.2
      have hl := with_len hv.vs hn
      have hc := (with_count hv.vs hn (fun x => inP l1 x)).2
      obtain ⟨x, ha, hb, hc⟩ := fin (s := c.v) (by omega)
      exact ⟨x, ha, hb, hc, withP_mem.2 (.inl hc)⟩
    · rw [if_neg e2] at h h1 ⊢
      by_cases e3 : kind = 3 ∧ hasP c node = true ∧ (inP c.v node = false ∨ 1 < c.v.length)
      · rw [if_pos e3] at h1 ⊢
        simp only at h1 ⊢
        by_cases hn : node ∈ c.v
        · have hl := wo_len hv.vs hn
          have hc := (with_count (woP_rises hv.vs node) (n := node) (fun hx => (woP_mem.1 hx).2 rfl) (fun x => inP l0 x)).2
          rw [wo_with hv.vs hn] at hc
          obtain ⟨x, ha, hb, hc⟩ := fin (s := woP c.v node) (by omega)
          exact ⟨x, ha, hb, (woP_mem.1 hc).1, hc⟩
        · rw [woP_none hn] at h1 ⊢
          obtain ⟨x, ha, hb, hc⟩ := fin (s := c.v) (by omega)
          exact ⟨x, ha, hb, hc, hc⟩
      · rw [if_neg e3] at h
        cases h

theorem filter_more {p q : Int → Bool} : ∀ (s : List Int), (∀ x, p x = true → q x = true) → (s.filter p).length ≤ (s.filter q).length
  | [], _ => Nat.le_refl _
  | y :: s, h => by
    have ih := filter_more s h
    by_cases hp : p y = true
    · rw [List.filter_cons_of_pos hp, List.filter_cons_of_pos (h y hp)]
      simp only [List.length_cons]
      omega
    · rw [List.filter_cons_of_neg hp, List.filter_cons]
      split <;> simp <;> omega
theorem maj_more {c : Cf} {a b : List Int} (h : majP c a = true) : majP c (a ++ b) = true := by
  rw [maj_iff] at h ⊢
  have := filter_more (p := fun x => inP a x) (q := fun x => inP (a ++ b) x) c.v (fun x hx => inP_true.2 (List.mem_append_left _ (inP_true.1 hx)))
  omega
theorem maj_both {c : Cf} {a b : List Int} (h : majP c a = true) (k : majP c b = true) : ∃ x ∈ c.v, x ∈ a ∧ x ∈ b := by
  rw [maj_iff] at h k
  obtain ⟨x, hx, h1, h2⟩ := both_in (s := c.v) (p := fun x => inP a x) (q := fun x => inP b x) (by omega)
  exact ⟨x, hx, inP_true.1 h1, inP_true.1 h2⟩

/-- A learner that is added: what is there then, and what is made of it. -/
theorem add_parts {c : Cf} {node : Int} (h : (apP c 1 node).2 = 0) : Valid c ∧ node ∉ c.v ∧ node ∉ c.l ∧ apP c 1 node = (⟨c.v, withP c.l node⟩, 0) ∧ apP ⟨c.v, withP c.l node⟩ 3 node = (c, 0) ∧ apP ⟨c.v, withP c.l node⟩ 2 node = (⟨withP c.v node, c.l⟩, 0) := by
  have hv := ap_valid h
  have h0 := (chk_iff c).2 hv.1
  have e : apP c 1 node = (⟨c.v, withP c.l node⟩, 0) ∧ hasP c node = false := by
    unfold apP at h ⊢
    rw [if_pos h0] at h ⊢
    by_cases e1 : (1 : Int) = 1 ∧ hasP c node = false ∧ 0 ≤ node ∧ node ≤ 7
    · rw [if_pos e1]
      exact ⟨rfl, e1.2.1⟩
    · rw [if_neg e1, if_neg (by omega), if_neg (by omega)] at h
      cases h
  have hn := has_not.1 e.2
  have hv2 := hv.2
  rw [e.1] at hv2
  have h2 : chkP ⟨c.v, withP c.l node⟩ = 0 := (chk_iff _).2 hv2
  have hin : node ∈ withP c.l node := withP_mem.2 (.inr rfl)
  have hh : hasP ⟨c.v, withP c.l node⟩ node = true := has_iff.2 (.inr hin)
  have hw : woP (withP c.l node) node = c.l := with_wo hv.1.ls hn.2
  refine ⟨hv.1, hn.1, hn.2, e.1, ?_, ?_⟩
  · unfold apP
    rw [if_pos h2, if_neg (by omega), if_neg (by omega), if_pos ⟨rfl, hh, .inl (inP_false.2 hn.1)⟩]
    simp only
    rw [hw, woP_none hn.1]
  · unfold apP
    rw [if_pos h2, if_neg (by omega), if_pos ⟨rfl, hh, inP_false.2 hn.1⟩]
    simp only
    rw [hw]
theorem up_votes {c : Cf} {node n : Int} (hne : n ≠ node) : inP (withP c.v node) n = inP c.v n := by
  rw [Bool.eq_iff_iff, inP_true, inP_true, withP_mem]
  exact ⟨fun h => h.resolve_right hne, .inl⟩
theorem up_has {c : Cf} {node n : Int} (hne : n ≠ node) : hasP ⟨withP c.v node, c.l⟩ n = hasP c n := by
  unfold hasP
  rw [up_votes hne]
end Go.Proofs.Ytmncjibokpieoaa
