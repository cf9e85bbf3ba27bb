/-
  One target fails, plainly.
-/
import Derived.Test.YtjfneckflddeeaaRyReach
namespace Go.Proofs.Ytjfneckflddeeaa

theorem begin_zero {n : Nat} {i : Nat} {x : Pst} (h : (stBegin n [])[i]? = some x) : x = ⟨0, 0, 0⟩ := by
  have hi := (List.getElem?_eq_some_iff.1 h).1
  rw [stBegin_length] at hi
  rw [stBegin_at [] hi] at h
  injection h with h
  rw [← h]
  rfl
theorem start_len {ps : List Pt} (hq : grCheck ps = 0) : (grStart ps []).length = ps.length := by
  unfold grStart
  rw [grSettle_length (by rw [order_len hq, stBegin_length]), stBegin_length]
/-- At the beginning a target waits, or it is ready. -/
theorem start_two {ps : List Pt} (hq : grCheck ps = 0) (i : Nat) (hi : i < ps.length) : ∀ x, (grStart ps [])[i]? = some x → x = ⟨0, 0, 0⟩ ∨ x = ⟨1, 0, 0⟩ := by
  refine by_order hq (Q := fun p => ∀ x, (grStart ps [])[p]? = some x → x = ⟨0, 0, 0⟩ ∨ x = ⟨1, 0, 0⟩) (fun p hp ih x hx => ?_) i hi
  have hx' := hx
  unfold grStart at hx
  rw [grSettle_sol hq (stBegin_length _ _) p hp] at hx
  injection hx with hx
  have hz := begin_zero (getS_at (l := stBegin ps.length []) (n := p) (by rw [stBegin_length]; exact hp))
  have hns : ∀ s ∈ needSt ps (grStart ps []) p, lostS s = false := by
    intro s hs
    unfold needSt at hs
    obtain ⟨n, hn, rfl⟩ := List.mem_map.1 hs
    have := needsAt_lt hn
    rcases ih n hn _ (getS_at (by rw [start_len hq]; exact this)) with e | e
    · rw [e]; decide
    · rw [e]; decide
  have e0 : needSt ps (grSettle ps (stBegin ps.length [])) p = needSt ps (grStart ps []) p := rfl
  rw [← hx]
  unfold settleAt
  rw [hz, e0]
  split
  · rename_i hh
    rw [outc_else hns] at hh ⊢
    split at hh
    · right
      rename_i h3
      rw [if_pos h3]
    · exact absurd rfl hh.2
  · exact .inl rfl
/-- What needs something waits at the beginning. -/
theorem start_waits {ps : List Pt} (hq : grCheck ps = 0) (i : Nat) (hi : i < ps.length) {n : Nat} (hn : n ∈ needsAt ps (i : Int)) : (grStart ps [])[i]? = some ⟨0, 0, 0⟩ := by
  have hz := begin_zero (getS_at (l := stBegin ps.length []) (n := i) (by rw [stBegin_length]; exact hi))
  have hns : ∀ s ∈ needSt ps (grStart ps []) i, s = 0 ∨ s = 1 := by
    intro s hs
    unfold needSt at hs
    obtain ⟨m, hm, rfl⟩ := List.mem_map.1 hs
    have := needsAt_lt hm
    rcases start_two hq m this _ (getS_at (by rw [start_len hq]; exact this)) with e | e
    · rw [e]; exact .inl rfl
    · rw [e]; exact .inr rfl
  have ho : outc (needSt ps (grStart ps []) i) = 0 := by
    rw [outc_else (fun s hs => by rcases hns s hs with e | e <;> rw [e] <;> decide), if_neg]
    intro h
    rw [List.all_eq_true] at h
    have hm : ((grStart ps []).getD n Pst.zero).s ∈ needSt ps (grStart ps []) i := List.mem_map.2 ⟨n, hn, rfl⟩
    have h3 := h _ hm
    rcases hns _ hm with e | e <;> rw [e] at h3 <;> exact absurd h3 (by decide)
  have hs := grSettle_sol (l := stBegin ps.length []) hq (stBegin_length _ _) i hi
  show (grSettle ps (stBegin ps.length []))[i]? = _
  rw [hs]
  congr 1
  have e0 : needSt ps (grSettle ps (stBegin ps.length [])) i = needSt ps (grStart ps []) i := rfl
  unfold settleAt
  rw [hz, e0, ho, if_neg (fun h => h.2 rfl)]
/-- What is told stays so if it is settled again. -/
theorem start_fix {ps : List Pt} (hq : grCheck ps = 0) (i : Nat) (hi : i < ps.length) : settleAt ps (grStart ps []) (grStart ps []) i = (grStart ps []).getD i Pst.zero := by
  have hx := getS_at (l := grStart ps []) (n := i) (by rw [start_len hq]; exact hi)
  generalize hxx : (grStart ps []).getD i Pst.zero = x at *
  unfold settleAt
  rw [hxx]
  split
  · rename_i hh
    exfalso
    have hz := begin_zero (getS_at (l := stBegin ps.length []) (n := i) (by rw [stBegin_length]; exact hi))
    have hs : (grStart ps [])[i]? = some (settleAt ps (stBegin ps.length []) (grStart ps []) i) := grSettle_sol (l := stBegin ps.length []) hq (stBegin_length _ _) i hi
    rw [hx] at hs
    injection hs with hs
    unfold settleAt at hs
    rw [hz, if_pos ⟨rfl, hh.2⟩] at hs
    rw [hs] at hh
    exact hh.2 hh.1
  · rfl

/-- The states behind a failure. -/
noncomputable def failed (ps : List Pt) (place : Nat) : List Pst := grSettle ps ((grStart ps []).set place ⟨4, 0, 0⟩)
theorem failed_len {ps : List Pt} (hq : grCheck ps = 0) (place : Nat) : (failed ps place).length = ps.length := by
  unfold failed
  rw [grSettle_length (by rw [order_len hq, List.length_set, start_len hq]), List.length_set, start_len hq]
theorem failed_sol {ps : List Pt} (hq : grCheck ps = 0) (place i : Nat) (hi : i < ps.length) (hne : i ≠ place) : (failed ps place)[i]? = some (if ((grStart ps []).getD i Pst.zero).s = 0 ∧ outc (needSt ps (failed ps place) i) ≠ 0 then ⟨outc (needSt ps (failed ps place) i), 0, 0⟩ else (grStart ps []).getD i Pst.zero) := by
  have h := grSettle_sol (l := (grStart ps []).set place ⟨4, 0, 0⟩) hq (by rw [List.length_set, start_len hq]) i hi
  have e : ((grStart ps []).set place ⟨4, 0, 0⟩).getD i Pst.zero = (grStart ps []).getD i Pst.zero := by
    rw [List.getD_eq_getElem?_getD, List.getD_eq_getElem?_getD, List.getElem?_set_ne (fun h => hne h.symm)]
  unfold settleAt at h
  rw [e] at h
  exact h
theorem failed_place {ps : List Pt} (hq : grCheck ps = 0) (place : Nat) (hp : place < ps.length) : (failed ps place)[place]? = some ⟨4, 0, 0⟩ := by
  have h := grSettle_sol (l := (grStart ps []).set place ⟨4, 0, 0⟩) hq (by rw [List.length_set, start_len hq]) place hp
  have e : ((grStart ps []).set place ⟨4, 0, 0⟩).getD place Pst.zero = ⟨4, 0, 0⟩ := by
    rw [List.getD_eq_getElem?_getD, List.getElem?_set_self (by rw [start_len hq]; exact hp)]
    rfl
  unfold settleAt at h
  rw [e, if_neg (fun h => absurd h.1 (by decide))] at h
  exact h
/-- Who needs what failed is lost. -/
theorem fail_lost {ps : List Pt} (hq : grCheck ps = 0) (place : Nat) (hp : place < ps.length) (d : Nat) : ∀ i, i < ps.length → i ≠ place → reachB ps place d i = true → (failed ps place)[i]? = some ⟨5, 0, 0⟩ := by
  have step : ∀ i, i < ps.length → i ≠ place → (∃ n ∈ needsAt ps (i : Int), ∃ x : Pst, (failed ps place)[n]? = some x ∧ lostS x.s = true) → (failed ps place)[i]? = some ⟨5, 0, 0⟩ := by
    rintro i hi hne ⟨n, hn, x, hx, hl⟩
    have hm : x.s ∈ needSt ps (failed ps place) i := by
      refine List.mem_map.2 ⟨n, hn, ?_⟩
      rw [List.getD_eq_getElem?_getD, hx]
      rfl
    have ho := outc_lost hm hl
    rw [failed_sol hq place i hi hne, ho]
    have hw := start_waits hq i hi hn
    have e : (grStart ps []).getD i Pst.zero = ⟨0, 0, 0⟩ := by rw [List.getD_eq_getElem?_getD, hw]; rfl
    rw [e, if_pos ⟨rfl, by decide⟩]
  induction d with
  | zero =>
    intro i hi hne h
    unfold reachB at h
    obtain ⟨n, hn, hno⟩ := List.any_eq_true.1 h
    rw [decide_eq_true_eq] at hno
    subst hno
    exact step i hi hne ⟨n, hn, _, failed_place hq n hp, by decide⟩
  | succ d ih =>
    intro i hi hne h
    unfold reachB at h
    obtain ⟨n, hn, hno⟩ := List.any_eq_true.1 h
    by_cases hnp : n = place
    · subst hnp
      exact step i hi hne ⟨n, hn, _, failed_place hq n hp, by decide⟩
    · rw [decide_eq_false hnp, Bool.false_or] at hno
      exact step i hi hne ⟨n, hn, _, ih n (needsAt_lt hn) hnp hno, by decide⟩
/-- All others stand as they did. -/
theorem fail_stays {ps : List Pt} (hq : grCheck ps = 0) (place : Nat) (d : Nat) (hd : ps.length ≤ d + 1) (i : Nat) (hi : i < ps.length) (hip : i ≠ place) (hr : reachB ps place d i = false) : (failed ps place)[i]? = (grStart ps [])[i]? := by
  have ho := Ordered.places ps
  have key : ∀ k, ∀ p ∈ (placesOf ps).take k, ∀ d, k ≤ d + 1 → p ≠ place → reachB ps place d p = false → (failed ps place)[p]? = (grStart ps [])[p]? := by
    intro k
    induction k with
    | zero => intro p hp; simp at hp
    | succ k ih =>
      intro p hp d hkd hpp hrp
      obtain ⟨j, hj⟩ := List.getElem?_of_mem hp
      rw [List.getElem?_take] at hj
      split at hj
      · rename_i hjk
        obtain ⟨hpl, _, hpn⟩ := ho j p hj
        rw [List.length_map] at hpl
        have hsame : needSt ps (failed ps place) p = needSt ps (grStart ps []) p := by
          unfold needSt
          refine List.map_congr_left fun n hn => ?_
          have hnk : n ∈ (placesOf ps).take k := by
            have := hpn n (by rw [needsAt_nd]; exact hn)
            exact List.take_subset_take_left _ (by omega) this
          rw [List.getD_eq_getElem?_getD, List.getD_eq_getElem?_getD]
          congr 2
          cases d with
          | zero =>
            have hk0 : k = 0 := by omega
            subst hk0
            simp at hnk
          | succ d =>
            obtain ⟨h1, h2⟩ := reach_no hrp hn
            exact ih n hnk d (by omega) h1 h2
        rw [failed_sol hq place p hpl hpp, hsame]
        have hf := start_fix hq p hpl
        unfold settleAt at hf
        rw [hf]
        exact (getS_at (by rw [start_len hq]; exact hpl)).symm
      · cases hj
  have hp' := order_covers ho.nodup (by simpa using ho.lt) (by rw [← order_is hq, order_len hq]) i hi
  refine key (placesOf ps).length i (by rw [List.take_length]; exact hp') d ?_ hip hr
  have := order_len hq
  rw [order_is hq] at this
  omega
end Go.Proofs.Ytjfneckflddeeaa
