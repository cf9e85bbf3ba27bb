/-
  Package config, plainly: all nodes in order, changes, and what follows of majorities.
-/
import Derived.Test.YtmncjibokpieoaaCfM
import Derived.Lib.SlicesCompact
namespace Go.Proofs.Ytmncjibokpieoaa
open Go.RowKit

theorem upTo_rises (zs : List Int) (h : zs.Pairwise (· ≤ ·)) : ∀ m, m ≤ zs.length →
    (Lib.compactUpTo zs.toArray m).Pairwise (· < ·) ∧ (∀ x, x ∈ Lib.compactUpTo zs.toArray m ↔ x ∈ zs.take m) ∧ (∀ x ∈ Lib.compactUpTo zs.toArray m, ∀ y ∈ zs.drop (m - 1), 0 < m → x ≤ y)
  | 0, _ => by
    have : Lib.compactUpTo zs.toArray 0 = [] := rfl
    rw [this]
    simp
  | m + 1, hm => by
    obtain ⟨h1, h2, h3⟩ := upTo_rises zs h m (by omega)
    have hlt : m < zs.length := by omega
    have hget : zs.toArray[m]! = zs[m] := by simp [hlt]
    have hle : ∀ i (hi : i < zs.length) j (hj : j < zs.length), i ≤ j → zs[i] ≤ zs[j] := by
      intro i hi j hj hij
      rcases Nat.lt_or_ge i j with hl | hl
      · exact List.pairwise_iff_getElem.1 h i j hi hj hl
      · have : i = j := by omega
        subst this
        exact Int.le_refl _
    have hdrop : ∀ x y : Int, x ≤ zs[m] → y ∈ zs.drop m → x ≤ y := by
      intro x y hx hy
      obtain ⟨j, hj, rfl⟩ := List.getElem_of_mem hy
      rw [List.getElem_drop]
      exact Int.le_trans hx (hle _ _ _ _ (by omega))
    have hmem : ∀ x, x ∈ zs.take (m + 1) ↔ x ∈ zs.take m ∨ x = zs[m] := by
      intro x
      rw [List.take_add_one, List.getElem?_eq_getElem hlt]
      simp only [Option.toList_some, List.mem_append, List.mem_singleton]
    have hin : ∀ x ∈ zs.take m, x ≤ zs[m] := by
      intro x hx
      obtain ⟨j, hj, rfl⟩ := List.getElem_of_mem hx
      rw [List.getElem_take]
      rw [List.length_take] at hj
      exact hle _ _ _ _ (by omega)
    rw [Lib.compactUpTo_succ, hget]
    by_cases hk : Lib.keeps zs.toArray m = true
    · rw [if_pos hk]
      have hk' : m = 0 ∨ zs.toArray[m]! ≠ zs.toArray[m - 1]! := by simpa [Lib.keeps] using hk
      refine ⟨?_, ?_, ?_⟩
      · rw [List.pairwise_append]
        refine ⟨h1, by simp, fun x hx y hy => ?_⟩
        simp at hy
        subst hy
        have hx2 := (h2 x).1 hx
        rcases Nat.eq_zero_or_pos m with h0 | h0
        · subst h0
          simp at hx2
        · have h4 := h3 x hx zs[m - 1] (by
            have hm1 : m - 1 < zs.length := by omega
            have e : (zs.drop (m - 1))[0]? = zs[m - 1]? := by rw [List.getElem?_drop]; rfl
            rw [List.getElem?_eq_getElem hm1] at e
            exact List.mem_of_getElem? e) h0
          have h5 := hle (m - 1) (by omega) m hlt (by omega)
          have hg1 : zs.toArray[m - 1]! = zs[m - 1] := by
            have hm1 : m - 1 < zs.length := by omega
            simp [hm1]
          rw [hget, hg1] at hk'
          rcases hk' with hk' | hk'
          · omega
          · omega
      · intro x
        rw [List.mem_append, h2, hmem]
        simp
      · intro x hx y hy _
        rw [List.mem_append] at hx
        rcases hx with hx | hx
        · exact hdrop x y (hin x ((h2 x).1 hx)) hy
        · simp at hx
          subst hx
          exact hdrop _ y (Int.le_refl _) hy
    · rw [if_neg hk, List.append_nil]
      have hk' : ¬ (m = 0 ∨ zs.toArray[m]! ≠ zs.toArray[m - 1]!) := fun e => hk (by simpa [Lib.keeps] using e)
      have h0 : 0 < m := by
        rcases Nat.eq_zero_or_pos m with h0 | h0
        · exact absurd (Or.inl h0) hk'
        · exact h0
      have heq : zs[m] = zs[m - 1]'(by omega) := by
        have hg1 : zs.toArray[m - 1]! = zs[m - 1]'(by omega) := by
          have hm1 : m - 1 < zs.length := by omega
          simp [hm1]
        by_cases e : zs[m] = zs[m - 1]'(by omega)
        · exact e
        · exact absurd (Or.inr (by rw [hget, hg1]; exact e)) hk'
      refine ⟨h1, ?_, ?_⟩
      · intro x
        rw [h2, hmem]
        constructor
        · exact .inl
        · rintro (hx | rfl)
          · exact hx
          · rw [heq]
            have e : (zs.take m)[m - 1]? = zs[m - 1]? := List.getElem?_take_of_lt (by omega)
            have hm1 : m - 1 < zs.length := by omega
            rw [List.getElem?_eq_getElem hm1] at e
            exact List.mem_of_getElem? e
      · intro x hx y hy _
        exact hdrop x y (hin x ((h2 x).1 hx)) hy

/-- All numbers, rising, each once. -/
def allP (xs : List Int) : List Int := Lib.compact (xs.mergeSort (fun x y => decide (x ≤ y)))
theorem merge_le (xs : List Int) : (xs.mergeSort (fun x y => decide (x ≤ y))).Pairwise (· ≤ ·) := by
  have := List.pairwise_mergeSort (le := fun (x y : Int) => decide (x ≤ y)) (by intro a b c h1 h2; simp at *; omega) (by intro a b; simp; omega) xs
  exact this.imp (fun h => by simpa using h)
theorem allP_rises (xs : List Int) : (allP xs).Pairwise (· < ·) := by
  unfold allP Lib.compact
  exact (upTo_rises _ (merge_le xs) _ (Nat.le_refl _)).1
theorem allP_mem (xs : List Int) (x : Int) : x ∈ allP xs ↔ x ∈ xs := by
  unfold allP Lib.compact
  rw [(upTo_rises _ (merge_le xs) _ (Nat.le_refl _)).2.1, List.take_length, List.mem_mergeSort]
theorem rise_len {a : List Int} {b : List Int} (ha : a.Pairwise (· < ·)) (h : ∀ x ∈ a, x ∈ b) : a.length ≤ b.length := by
  have hn : a.Nodup := ha.imp (fun h => by omega)
  exact hn.length_le_of_subset h
theorem allP_len (xs : List Int) : (allP xs).length ≤ xs.length := rise_len (allP_rises xs) (fun x hx => (allP_mem xs x).1 hx)
theorem rise_nodup {a : List Int} (ha : a.Pairwise (· < ·)) : a.Nodup := ha.imp (fun h => by omega)

/-- The least of those for which q holds. -/
def leastStep (q : Int → Bool) (acc : Option Int) (x : Int) : Option Int := if q x = true ∧ (∀ m, acc = some m → x < m) then some x else acc
def leastP (q : Int → Bool) (l : List Int) : Option Int := l.foldl (leastStep q) none
theorem least_more (q : Int → Bool) {l : List Int} {k : Nat} (hk : k < l.length) : leastP q (l.take (k + 1)) = leastStep q (leastP q (l.take k)) l[k] := by
  rw [List.take_add_one, List.getElem?_eq_getElem hk]
  simp only [leastP, Option.toList_some, List.foldl_append, List.foldl_cons, List.foldl_nil]
theorem least_fold (q : Int → Bool) : ∀ (l : List Int) (acc : Option Int), (∀ m, acc = some m → q m = true) →
    (match l.foldl (leastStep q) acc with
      | some m => q m = true ∧ (m ∈ l ∨ acc = some m) ∧ (∀ x ∈ l, q x = true → m ≤ x) ∧ (∀ n, acc = some n → m ≤ n)
      | none => acc = none ∧ ∀ x ∈ l, q x = false)
  | [], acc, h => by
    cases acc with
    | none => exact ⟨rfl, fun x hx => by cases hx⟩
    | some n => exact ⟨h n rfl, .inr rfl, (fun x hx => by cases hx), fun m hm => by cases hm; exact Int.le_refl _⟩
  | y :: l, acc, h => by
    have hs : ∀ m, leastStep q acc y = some m → q m = true := by
      intro m hm
      unfold leastStep at hm
      split at hm
      · rename_i hc
        cases hm
        exact hc.1
      · exact h m hm
    have ih := least_fold q l (leastStep q acc y) hs
    rw [List.foldl_cons]
    cases hq : l.foldl (leastStep q) (leastStep q acc y) with
    | none =>
      rw [hq] at ih
      obtain ⟨h1, h2⟩ := ih
      unfold leastStep at h1
      split at h1
      · cases h1
      · rename_i hc
        subst h1
        refine ⟨rfl, fun x hx => ?_⟩
        rcases List.mem_cons.1 hx with rfl | hx
        · cases hqx : q x with
          | false => rfl
          | true => exact absurd ⟨hqx, fun m hm => by cases hm⟩ hc
        · exact h2 x hx
    | some m =>
      rw [hq] at ih
      obtain ⟨h1, h2, h3, h4⟩ := ih
      refine ⟨h1, ?_, ?_, ?_⟩
      · rcases h2 with h2 | h2
        · exact .inl (List.mem_cons_of_mem _ h2)
        · unfold leastStep at h2
          split at h2
          · cases h2
            exact .inl (List.mem_cons_self ..)
          · exact .inr h2
      · intro x hx hqx
        rcases List.mem_cons.1 hx with rfl | hx
        · by_cases hc : ∀ m, acc = some m → x < m
          · exact h4 x (by unfold leastStep; rw [if_pos ⟨hqx, hc⟩])
          · have hn : leastStep q acc x = acc := by unfold leastStep; rw [if_neg (fun e => hc e.2)]
            rw [hn] at h4
            cases acc with
            | none => exact absurd (fun m hm => by cases hm) hc
            | some n =>
              have := h4 n rfl
              by_cases hxn : x < n
              · exact absurd (fun m hm => by cases hm; exact hxn) hc
              · omega
        · exact h3 x hx hqx
      · intro n hn
        unfold leastStep at h4
        split at h4
        · rename_i hc
          have := h4 y rfl
          have := hc.2 n hn
          omega
        · exact h4 n hn
theorem least_is {q : Int → Bool} {l : List Int} {m : Int} (h1 : m ∈ l) (h2 : q m = true) (h3 : ∀ x ∈ l, q x = true → m ≤ x) : leastP q l = some m := by
  have h := least_fold q l none (fun m hm => by cases hm)
  unfold leastP
  cases hq : l.foldl (leastStep q) none with
  | none =>
    rw [hq] at h
    have := h.2 m h1
    rw [h2] at this
    cases this
  | some n =>
    rw [hq] at h
    obtain ⟨g1, g2, g3, _⟩ := h
    have a := g3 m h1 h2
    have b := h3 n (g2.resolve_right (fun e => by cases e)) g1
    rw [show n = m by omega]
theorem least_none {q : Int → Bool} {l : List Int} (h3 : ∀ x ∈ l, q x = false) : leastP q l = none := by
  have h := least_fold q l none (fun m hm => by cases hm)
  unfold leastP
  cases hq : l.foldl (leastStep q) none with
  | none => rfl
  | some n =>
    rw [hq] at h
    obtain ⟨g1, g2, _⟩ := h
    have := h3 n (g2.resolve_right (fun e => by cases e))
    rw [g1] at this
    cases this
theorem rise_le {s : List Int} (hr : s.Pairwise (· < ·)) {i j : Nat} (hi : i < s.length) (hj : j < s.length) : s[i] < s[j] ↔ i < j := by
  constructor
  · intro h
    rcases Nat.lt_trichotomy i j with h1 | h1 | h1
    · exact h1
    · subst h1; omega
    · have := List.pairwise_iff_getElem.1 hr j i hj hi h1
      omega
  · intro h
    exact List.pairwise_iff_getElem.1 hr i j hi hj h
/-- The next one of all. -/
theorem least_next (xs : List Int) {k : Nat} (hk : k < (allP xs).length) : leastP (fun x => decide (x > (allP xs)[k])) xs = (allP xs)[k + 1]? := by
  have hr := allP_rises xs
  by_cases h : k + 1 < (allP xs).length
  · rw [List.getElem?_eq_getElem h]
    refine least_is ((allP_mem xs _).1 (List.getElem_mem h)) (decide_eq_true ((rise_le hr hk h).2 (by omega))) (fun x hx hq => ?_)
    obtain ⟨j, hj, rfl⟩ := List.getElem_of_mem ((allP_mem xs x).2 hx)
    have h1 := (rise_le hr hk hj).1 (of_decide_eq_true hq)
    rcases Nat.lt_or_ge (k + 1) j with h2 | h2
    · have := (rise_le hr h hj).2 h2
      omega
    · have : j = k + 1 := by omega
      subst this
      exact Int.le_refl _
  · rw [List.getElem?_eq_none (by omega)]
    refine least_none (fun x hx => decide_eq_false (fun hq => ?_))
    obtain ⟨j, hj, rfl⟩ := List.getElem_of_mem ((allP_mem xs x).2 hx)
    have h1 := (rise_le hr hk hj).1 hq
    omega
theorem least_first (xs : List Int) : leastP (fun _ => true) xs = (allP xs)[0]? := by
  have hr := allP_rises xs
  by_cases h : 0 < (allP xs).length
  · rw [List.getElem?_eq_getElem h]
    refine least_is ((allP_mem xs _).1 (List.getElem_mem h)) rfl (fun x hx _ => ?_)
    obtain ⟨j, hj, rfl⟩ := List.getElem_of_mem ((allP_mem xs x).2 hx)
    rcases Nat.lt_or_ge 0 j with h2 | h2
    · have := (rise_le hr h hj).2 h2
      omega
    · have : j = 0 := by omega
      subst this
      exact Int.le_refl _
  · rw [List.getElem?_eq_none (by omega)]
    have h0 : allP xs = [] := List.eq_nil_of_length_eq_zero (by omega)
    cases xs with
    | nil => rfl
    | cons x r =>
      have := (allP_mem (x :: r) x).2 (List.mem_cons_self ..)
      rw [h0] at this
      cases this

/-- Numbers with one more, with one less. -/
def withP (l : List Int) (n : Int) : List Int := allP (l ++ [n])
def woP (l : List Int) (n : Int) : List Int := l.filter (fun x => decide (x ≠ n))
theorem woP_mem {l : List Int} {n x : Int} : x ∈ woP l n ↔ x ∈ l ∧ x ≠ n := by
  unfold woP
  rw [List.mem_filter, decide_eq_true_eq]
theorem withP_mem {l : List Int} {n x : Int} : x ∈ withP l n ↔ x ∈ l ∨ x = n := by
  unfold withP
  rw [allP_mem]
  simp
theorem woP_rises {l : List Int} (h : l.Pairwise (· < ·)) (n : Int) : (woP l n).Pairwise (· < ·) := h.filter _
theorem withP_rises (l : List Int) (n : Int) : (withP l n).Pairwise (· < ·) := allP_rises _
theorem woP_none {l : List Int} {n : Int} (h : n ∉ l) : woP l n = l := by
  unfold woP
  rw [List.filter_eq_self]
  intro x hx
  exact decide_eq_true (fun e => h (e ▸ hx))
/-- What rises, sorted with one more that was not there. -/
theorem sort_with {l : List Int} (h : l.Pairwise (· < ·)) {n : Int} (hn : n ∉ l) : (l ++ [n]).mergeSort (fun x y => decide (x ≤ y)) = withP l n := by
  have h1 : ((l ++ [n]).mergeSort (fun x y => decide (x ≤ y))).Pairwise (· < ·) := by
    have hle := merge_le (l ++ [n])
    have hnd : ((l ++ [n]).mergeSort (fun x y => decide (x ≤ y))).Nodup := by
      refine (List.mergeSort_perm _ _).nodup_iff.2 ?_
      rw [List.nodup_append]
      exact ⟨rise_nodup h, by simp, fun a ha b hb => by simp at hb; subst hb; exact fun e => hn (e ▸ ha)⟩
    have := hle.and hnd
    exact this.imp (fun {a b} hab => by have := hab.1; have := hab.2; omega)
  exact rises_one h1 (withP_rises l n) (fun x => by rw [List.mem_mergeSort, withP_mem]; simp)
theorem with_wo {l : List Int} (h : l.Pairwise (· < ·)) {n : Int} (hn : n ∉ l) : woP (withP l n) n = l := by
  refine rises_one (woP_rises (withP_rises l n) n) h (fun x => ?_)
  rw [woP_mem, withP_mem]
  constructor
  · rintro ⟨h1 | h1, h2⟩
    · exact h1
    · exact absurd h1 h2
  · intro hx
    exact ⟨.inl hx, fun e => hn (e ▸ hx)⟩
theorem with_len {l : List Int} (h : l.Pairwise (· < ·)) {n : Int} (hn : n ∉ l) : (withP l n).length = l.length + 1 := by
  rw [← sort_with h hn, List.length_mergeSort]
  simp
theorem wo_len {l : List Int} (h : l.Pairwise (· < ·)) {n : Int} (hn : n ∈ l) : (woP l n).length + 1 = l.length := by
  have e : withP (woP l n) n = l := by
    refine rises_one (withP_rises _ n) h (fun x => ?_)
    rw [withP_mem, woP_mem]
    constructor
    · rintro (h1 | h1)
      · exact h1.1
      · rw [h1]; exact hn
    · intro hx
      by_cases e : x = n
      · exact .inr e
      · exact .inl ⟨hx, e⟩
  have := with_len (woP_rises h n) (n := n) (fun hx => (woP_mem.1 hx).2 rfl)
  rw [e] at this
  omega

/-- Is a configuration one that may be? -/
structure Valid (c : Cf) : Prop where
  some_ : c.v ≠ []
  vs : c.v.Pairwise (· < ·)
  ls : c.l.Pairwise (· < ·)
  v8 : ∀ x ∈ c.v, 0 ≤ x ∧ x < 8
  l8 : ∀ x ∈ c.l, 0 ≤ x ∧ x < 8
  apart : ∀ x ∈ c.l, x ∉ c.v
theorem chk_range (c : Cf) : chkP c = 0 ∨ chkP c = 140 := by
  unfold chkP
  repeat' split
  all_goals simp
theorem chk_iff (c : Cf) : chkP c = 0 ↔ Valid c := by
  unfold chkP
  constructor
  · intro h
    split at h
    · cases h
    · split at h
      · cases h
      · split at h
        · cases h
        · split at h
          · cases h
          · rename_i h1 h2 h3 h4
            have a := (ascP_iff _).1 (by simpa using h2)
            have b := (ascP_iff _).1 (by simpa using h3)
            refine ⟨fun e => h1 (by rw [e]; rfl), a.1, b.1, a.2, b.2, fun x hx hv => h4 ?_⟩
            unfold overP
            exact List.any_eq_true.2 ⟨x, hx, inP_true.2 hv⟩
  · intro h
    have h1 : ¬ c.v.length = 0 := fun e => h.some_ (List.eq_nil_of_length_eq_zero e)
    rw [if_neg h1, if_neg (by rw [(ascP_iff _).2 ⟨h.vs, h.v8⟩]; decide), if_neg (by rw [(ascP_iff _).2 ⟨h.ls, h.l8⟩]; decide), if_neg]
    intro e
    unfold overP at e
    obtain ⟨x, hx, hv⟩ := List.any_eq_true.1 e
    exact h.apart x hx (inP_true.1 hv)
theorem eight {l : List Int} (h : l.Pairwise (· < ·)) (h8 : ∀ x ∈ l, 0 ≤ x ∧ x < 8) : l.length ≤ 8 :=
  rise_len (b := [0, 1, 2, 3, 4, 5, 6, 7]) h (fun x hx => by have := h8 x hx; simp; omega)

/-- What a change makes of a configuration, or why it may not be. -/
def apP (c : Cf) (kind node : Int) : Cf × Int :=
  if chkP c = 0 then
    if kind = 1 ∧ hasP c node = false ∧ 0 ≤ node ∧ node ≤ 7 then (⟨c.v, withP c.l node⟩, 0)
    else if kind = 2 ∧ hasP c node = true ∧ inP c.v node = false then (⟨withP c.v node, woP c.l node⟩, 0)
    else if kind = 3 ∧ hasP c node = true ∧ (inP c.v node = false ∨ 1 < c.v.length) then (⟨woP c.v node, woP c.l node⟩, 0)
    else (⟨[], []⟩, 141)
  else (⟨[], []⟩, 140)
theorem has_iff {c : Cf} {z : Int} : hasP c z = true ↔ z ∈ c.v ∨ z ∈ c.l := by
  unfold hasP
  rw [Bool.or_eq_true, inP_true, inP_true]
theorem has_not {c : Cf} {z : Int} : hasP c z = false ↔ z ∉ c.v ∧ z ∉ c.l := by
  unfold hasP
  rw [Bool.or_eq_false_iff, inP_false, inP_false]
/-- What is behind a change may be. -/
theorem ap_valid {c : Cf} {kind node : Int} (h : (apP c kind node).2 = 0) : Valid c ∧ Valid (apP c kind node).1 := by
  unfold apP at h ⊢
  split at h
  · rename_i h0
    have hv := (chk_iff c).1 h0
    rw [if_pos h0]
    refine ⟨hv, ?_⟩
    split at h
    · rename_i h1
      rw [if_pos h1]
      have hn := has_not.1 h1.2.1
      refine ⟨hv.some_, hv.vs, withP_rises _ _, hv.v8, fun x hx => ?_, fun x hx => ?_⟩
      · rcases withP_mem.1 hx with h | rfl
        · exact hv.l8 x h
        · omega
      · rcases withP_mem.1 hx with h | rfl
        · exact hv.apart x h
        · exact hn.1
    · rename_i n1
      rw [if_neg n1]
      split at h
      · rename_i h1
        rw [if_pos h1]
        have hm := (has_iff.1 h1.2.1).resolve_left (inP_false.1 h1.2.2)
        refine ⟨fun e => ?_, withP_rises _ _, woP_rises hv.ls _, fun x hx => ?_, fun x hx => hv.l8 x (woP_mem.1 hx).1, fun x hx hc => ?_⟩
        · have := (withP_mem (l := c.v) (n := node) (x := node)).2 (.inr rfl)
          have e' : withP c.v node = [] := e
          rw [e'] at this
          cases this
        · rcases withP_mem.1 hx with h | rfl
          · exact hv.v8 x h
          · exact hv.l8 _ hm
        · obtain ⟨h2, h3⟩ := woP_mem.1 hx
          rcases withP_mem.1 hc with h | h
          · exact hv.apart x h2 h
          · exact h3 h
      · rename_i n2
        rw [if_neg n2]
        split at h
        · rename_i h1
          rw [if_pos h1]
          refine ⟨fun e => ?_, woP_rises hv.vs _, woP_rises hv.ls _, fun x hx => hv.v8 x (woP_mem.1 hx).1, fun x hx => hv.l8 x (woP_mem.1 hx).1, fun x hx hc => hv.apart x (woP_mem.1 hx).1 (woP_mem.1 hc).1⟩
          have e' : woP c.v node = [] := e
          by_cases hi : node ∈ c.v
          · have hl := wo_len hv.vs hi
            rw [e'] at hl
            rcases h1.2.2 with h2 | h2
            · exact inP_false.1 h2 hi
            · simp at hl
              omega
          · rw [woP_none hi] at e'
            exact hv.some_ e'
        · cases h
  · cases h
end Go.Proofs.Ytmncjibokpieoaa
