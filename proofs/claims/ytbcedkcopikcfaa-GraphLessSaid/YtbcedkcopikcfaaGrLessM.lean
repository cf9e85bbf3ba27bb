/-
  A graph without one target that nobody needs.
-/
import Derived.Test.YtbcedkcopikcfaaGrMath
namespace Go.Proofs.Ytbcedkcopikcfaa

def lessOf {α : Type} (l : List α) (p : Nat) : List α := l.take p ++ l.drop (p + 1)
theorem lessOf_len {α : Type} {l : List α} {p : Nat} (h : p < l.length) : (lessOf l p).length + 1 = l.length := by
  unfold lessOf
  simp
  omega
theorem lessOf_sub {α : Type} (l : List α) (p : Nat) : (lessOf l p).Sublist l := by
  have h : ((l.drop p).drop 1).Sublist (l.drop p) := List.drop_sublist _ _
  rw [List.drop_drop] at h
  have h2 := List.Sublist.append (List.Sublist.refl (l.take p)) h
  rwa [List.take_append_drop] at h2
theorem lessOf_mem {α : Type} {l : List α} {p i : Nat} {x : α} (h : l[i]? = some x) (hi : i ≠ p) : x ∈ lessOf l p := by
  unfold lessOf
  rw [List.mem_append]
  rcases Nat.lt_or_ge i p with h1 | h1
  · left
    exact List.mem_of_getElem? (i := i) (by rw [List.getElem?_take, if_pos h1]; exact h)
  · right
    exact List.mem_of_getElem? (i := i - (p + 1)) (by rw [List.getElem?_drop, show p + 1 + (i - (p + 1)) = i from by omega]; exact h)
theorem lessOf_map {α β : Type} (f : α → β) (l : List α) (p : Nat) : (lessOf l p).map f = lessOf (l.map f) p := by
  unfold lessOf
  rw [List.map_append, List.map_take, List.map_drop]

theorem filter_len {l : List ByteArray} (h : l.Nodup) (x : ByteArray) : l.length ≤ (l.filter (fun s => decide (s ≠ x))).length + 1 := by
  induction l with
  | nil => simp
  | cons a l ih =>
    rw [List.nodup_cons] at h
    by_cases e : a = x
    · subst e
      have : l.filter (fun s => decide (s ≠ a)) = l := List.filter_eq_self.2 (fun y hy => decide_eq_true (fun e => h.1 (e ▸ hy)))
      rw [List.filter_cons_of_neg (by simp), this]
      simp
    · rw [List.filter_cons_of_pos (by simpa using e)]
      have := ih h.2
      rw [List.length_cons, List.length_cons]
      omega

theorem less_check {ps : List Pt} {p : Nat} (h : grCheck ps = 0) (hp : p < ps.length) (hno : ∀ i : Nat, i < ps.length → p ∉ needsAt ps (i : Int)) (hne : lessOf ps p ≠ []) : grCheck (lessOf ps p) = 0 := by
  obtain ⟨h1, h2, h3, h4⟩ := check_fits h
  have hfull : (placesOf ps).length = ps.length := by have := places_le ps; omega
  obtain ⟨_, hn, hal⟩ := (grFormed_iff ps).1 h2
  have hc := (grClosed_iff ps).1 h3
  have hsub := lessOf_sub ps p
  have hmem : ∀ q ∈ lessOf ps p, q ∈ ps := fun q hq => hsub.subset hq
  have hlen := lessOf_len hp
  have hnn : namesOk (lessOf ps p) := (namesOk_iff _).2 (((namesOk_iff ps).1 hn).sublist (hsub.map Pt.name))
  have b1 : grFits (lessOf ps p) = true := by
    unfold grFits at h1 ⊢
    rw [Bool.and_eq_true, List.all_eq_true, decide_eq_true_eq] at h1 ⊢
    exact ⟨by omega, fun q hq => h1.2 q (hmem q hq)⟩
  have b2 : grFormed (lessOf ps p) = true := (grFormed_iff _).2 ⟨hne, hnn, fun q hq => hal q (hmem q hq)⟩
  have pn := List.getElem?_eq_getElem hp
  -- nobody needs it
  have hnot : ∀ q ∈ ps, ∀ m ∈ q.needs, m ≠ ps[p].name := fun q hq m hm e => by
    obtain ⟨i, hi⟩ := List.getElem?_of_mem hq
    have hil := (List.getElem?_eq_some_iff.1 hi).1
    refine hno i hil ?_
    unfold needsAt
    rw [if_pos (by omega), Int.toNat_natCast, hi]
    show p ∈ needsOf ps q
    unfold needsOf
    exact List.mem_filterMap.2 ⟨m, hm, by rw [e]; exact hn p _ pn⟩
  have hc2 : needsOk (lessOf ps p) := fun q hq m hm => by
    obtain ⟨r, hr, rfl⟩ := hc q (hmem q hq) m hm
    obtain ⟨j, hj⟩ := List.getElem?_of_mem hr
    refine ⟨r, lessOf_mem hj (fun e => ?_), rfl⟩
    subst e
    rw [pn] at hj
    injection hj with hj
    exact hnot q (hmem q hq) r.name hm (by rw [hj])
  have b3 := (grClosed_iff _).2 hc2
  have b4 : (placesOf (lessOf ps p)).length = (lessOf ps p).length := by
    obtain ⟨L, hL, hl⟩ := nord_of_full hn hc hfull
    have hL' : NOrd (lessOf ps p) (L.filter (fun s => decide (s ≠ ps[p].name))) := by
      refine ⟨hL.1.sublist List.filter_sublist, fun i s hs => ?_⟩
      obtain ⟨hi, hs'⟩ := List.getElem?_eq_some_iff.1 hs
      have hsplit : L.filter (fun s => decide (s ≠ ps[p].name)) = (L.filter (fun s => decide (s ≠ ps[p].name))).take i ++ s :: (L.filter (fun s => decide (s ≠ ps[p].name))).drop (i + 1) := by
        rw [← hs', ← List.drop_eq_getElem_cons hi, List.take_append_drop]
      obtain ⟨l1, l2, e1, e2, e3⟩ := List.filter_eq_append_iff.1 hsplit
      obtain ⟨l3, l4, e4, e5, e6, e7⟩ := List.filter_eq_cons_iff.1 e3
      subst e1 e4
      obtain ⟨q, hq, rfl, hm⟩ := hL.2 (l1.length + l3.length) s (by
        rw [← List.append_assoc, List.getElem?_append_right (by simp)]
        simp)
      obtain ⟨j, hj⟩ := List.getElem?_of_mem hq
      have hjp : j ≠ p := fun e => by
        subst e
        rw [pn] at hj
        injection hj with hj
        rw [hj] at e6
        simp at e6
      refine ⟨q, lessOf_mem hj hjp, rfl, fun m hmm => ?_⟩
      have h1 := hm m hmm
      rw [← List.append_assoc, List.take_append_of_le_length (by simp), List.take_of_length_le (by simp)] at h1
      have hmf : decide (m ≠ ps[p].name) = true := decide_eq_true (hnot q hq m hmm)
      rw [← e2]
      rcases List.mem_append.1 h1 with h1 | h1
      · exact List.mem_filter.2 ⟨h1, hmf⟩
      · exact absurd hmf (e5 m h1)
    have len1 := filter_len hL.1 ps[p].name
    have len2 := nodup_sub (m := (lessOf ps p).map Pt.name) hL'.1 (fun s hs => by
      obtain ⟨i, hi⟩ := List.getElem?_of_mem hs
      obtain ⟨q, hq, rfl, _⟩ := hL'.2 i s hi
      exact List.mem_map.2 ⟨q, hq, rfl⟩)
    rw [List.length_map] at len2
    exact full_of_nord hnn hL' (by omega)
  rw [check_iff, b1, b2, b3, if_neg (by decide), if_neg (by decide), if_neg (by decide), if_pos b4]
theorem empty_check : grCheck [] = 70 := by decide +kernel
end Go.Proofs.Ytbcedkcopikcfaa
