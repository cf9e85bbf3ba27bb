import Derived.Test.YtdikmmdkpfmocaaBs21
import Derived.Test.YtdikmmdkpfmocaaBs26
namespace Go.Proofs.Ytdikmmdkpfmocaa
def toZ (bs : List UInt8) : List Int := bs.map (fun b => (b.toNat : Int))
theorem toZ_length (bs : List UInt8) : (toZ bs).length = bs.length := List.length_map _
def decQ : List UInt8 → Cf × Int
  | [] => (⟨[], []⟩, 140)
  | f :: r => match r.drop f.toNat with
    | [] => (⟨[], []⟩, 140)
    | g :: q => if g.toNat = q.length ∧ chkP ⟨toZ (r.take f.toNat), toZ q⟩ = 0 then (⟨toZ (r.take f.toNat), toZ q⟩, 0) else (⟨[], []⟩, 140)
theorem decQ_cons (f : UInt8) (r : List UInt8) : decQ (f :: r) = match r.drop f.toNat with
    | [] => (⟨[], []⟩, 140)
    | g :: q => if g.toNat = q.length ∧ chkP ⟨toZ (r.take f.toNat), toZ q⟩ = 0 then (⟨toZ (r.take f.toNat), toZ q⟩, 0) else (⟨[], []⟩, 140) := rfl
def rdZs (s : Rs) : List Int × Rs := (if (rdL kNode.one (s.var 8).1 (s.var 8).2).2.err = 0 then (rdL kNode.one (s.var 8).1 (s.var 8).2).1 else [], (rdL kNode.one (s.var 8).1 (s.var 8).2).2)
def decP (bs : List UInt8) : Cf × Int :=
  if (rdZs (rdZs ⟨bs, 0⟩).2).2.end_ = 0 ∧ chkP ⟨(rdZs ⟨bs, 0⟩).1, (rdZs (rdZs ⟨bs, 0⟩).2).1⟩ = 0 then (⟨(rdZs ⟨bs, 0⟩).1, (rdZs (rdZs ⟨bs, 0⟩).2).1⟩, 0) else (⟨[], []⟩, 140)
theorem num_single (b : UInt8) : num [b] = b.toNat := by simp [num]
theorem rdL_bytes : ∀ (n : Nat) (bs : List UInt8), rdL kNode.one n ⟨bs, 0⟩ = if n ≤ bs.length then (toZ (bs.take n), ⟨bs.drop n, 0⟩) else ((rdL kNode.one n ⟨bs, 0⟩).1, ⟨[], 10⟩)
  | 0, bs => by rw [if_pos (Nat.zero_le _)]; rfl
  | n + 1, [] => by
    rw [if_neg (by simp), rdL_succ _ _ _ rfl]
    have e : kNode.one ⟨[], 0⟩ = (0, ⟨[], 10⟩) := rfl
    rw [e]
    have := rdL_failed kNode.one n ⟨[], 10⟩ (by decide)
    rw [this]
  | n + 1, b :: r => by
    have e : kNode.one ⟨b :: r, 0⟩ = ((b.toNat : Int), ⟨r, 0⟩) := by
      show ((num (Rs.take ⟨b :: r, 0⟩ 1).1 : Int), (Rs.take ⟨b :: r, 0⟩ 1).2) = _
      have : Rs.take ⟨b :: r, 0⟩ 1 = ([b], ⟨r, 0⟩) := by unfold Rs.take; rw [if_neg (fun h => h rfl), if_neg (by simp)]; rfl
      rw [this]
      rw [num_single]
    rw [rdL_succ _ _ _ rfl, e]
    have ih := rdL_bytes n r
    by_cases h : n ≤ r.length
    · rw [if_pos h] at ih
      rw [if_pos (by simpa using h), ih]
      rfl
    · rw [if_neg h] at ih
      rw [if_neg (by simpa using h)]
      have := (Prod.mk.inj ih).2
      simp only
      rw [this]
theorem front8 (f : UInt8) (r : List UInt8) : (f.toNat ≤ 8 → frontV (f :: r) 8 = (f.toNat, 1, 0)) ∧ (8 < f.toNat → (frontV (f :: r) 8).2.2 ≠ 0) := by
  rw [frontV_cons]
  constructor
  · intro h
    have hm : varMore f.toNat = 0 := by unfold varMore; rw [if_neg (by omega), if_neg (by omega), if_neg (by omega)]
    rw [hm, if_neg (by simp), if_pos rfl]
    unfold frontN
    have hv : varFirst f.toNat = f.toNat := by unfold varFirst; rw [if_pos (by omega)]
    rw [if_neg (by rw [hv]; simp), if_neg (by omega)]
  · intro h
    by_cases hs : (f :: r).length < 1 + varMore f.toNat
    · rw [if_pos hs]
      exact (by decide : (10 : Int) ≠ 0)
    · rw [if_neg hs]
      obtain ⟨n, hn⟩ : ∃ n, (if varMore f.toNat = 0 then f.toNat else num (r.take (varMore f.toNat))) = n := ⟨_, rfl⟩
      rw [hn]
      unfold frontN
      by_cases hv : varFirst n ≠ f.toNat
      · rw [if_pos hv]
        exact (by decide : (11 : Int) ≠ 0)
      · rw [if_neg hv]
        by_cases h8 : 8 < n
        · rw [if_pos h8]
          exact (by decide : (12 : Int) ≠ 0)
        · exfalso
          have : varFirst n = n := by unfold varFirst; rw [if_pos (by omega)]
          omega
theorem var_few8 (f : UInt8) (r : List UInt8) : (f.toNat ≤ 8 → Rs.var ⟨f :: r, 0⟩ 8 = (f.toNat, ⟨r, 0⟩)) ∧ (8 < f.toNat → (Rs.var ⟨f :: r, 0⟩ 8).1 = 0 ∧ (Rs.var ⟨f :: r, 0⟩ 8).2.err ≠ 0) := by
  obtain ⟨h1, h2⟩ := front8 f r
  unfold Rs.var
  rw [if_neg (fun h => h rfl)]
  constructor
  · intro h
    rw [h1 h, if_neg (fun h => h rfl)]
    rfl
  · intro h
    rw [if_pos (h2 h)]
    exact ⟨rfl, h2 h⟩
theorem rdZs_bad {s : Rs} (h : s.err ≠ 0) : (rdZs s).2.err ≠ 0 := by
  unfold rdZs
  have : s.var 8 = (0, s) := by unfold Rs.var; rw [if_pos h]
  rw [this]
  exact h
theorem end_bad {s : Rs} (h : s.err ≠ 0) : s.end_ ≠ 0 := by
  unfold Rs.end_
  rw [if_neg (fun e => h e.1)]
  exact h
theorem rdZs_nil : (rdZs ⟨[], 0⟩).2.err ≠ 0 := by
  unfold rdZs
  have : Rs.var ⟨[], 0⟩ 8 = (0, ⟨[], 10⟩) := rfl
  rw [this]
  decide
theorem rdZs_cons (f : UInt8) (r : List UInt8) : (f.toNat ≤ 8 ∧ f.toNat ≤ r.length → rdZs ⟨f :: r, 0⟩ = (toZ (r.take f.toNat), ⟨r.drop f.toNat, 0⟩)) ∧ (¬ (f.toNat ≤ 8 ∧ f.toNat ≤ r.length) → (rdZs ⟨f :: r, 0⟩).2.err ≠ 0) := by
  obtain ⟨h1, h2⟩ := var_few8 f r
  have hb := rdL_bytes f.toNat r
  constructor
  · rintro ⟨h, hl⟩
    rw [if_pos hl] at hb
    unfold rdZs
    rw [h1 h]
    simp only
    rw [hb]
    rfl
  · intro h
    unfold rdZs
    by_cases h8 : f.toNat ≤ 8
    · rw [h1 h8]
      simp only
      rw [if_neg (fun e => h ⟨h8, e⟩)] at hb
      rw [(Prod.mk.inj hb).2]
      decide
    · obtain ⟨e0, e1⟩ := h2 (by omega)
      rw [e0]
      exact e1
theorem chk_short {c : Cf} (h : chkP c = 0) : c.v.length ≤ 8 ∧ c.l.length ≤ 8 := by
  have hv := (chk_iff c).1 h
  exact ⟨eight hv.vs hv.v8, eight hv.ls hv.l8⟩
theorem dec_same (bs : List UInt8) : decP bs = decQ bs := by
  unfold decP
  cases bs with
  | nil => rw [if_neg (fun h => end_bad (rdZs_bad rdZs_nil) h.1)]; rfl
  | cons f r =>
    obtain ⟨h1, h2⟩ := rdZs_cons f r
    rw [decQ_cons]
    by_cases hf : f.toNat ≤ 8 ∧ f.toNat ≤ r.length
    · rw [h1 hf]
      simp only
      cases hd : r.drop f.toNat with
      | nil => rw [if_neg (fun h => end_bad rdZs_nil h.1)]
      | cons g q =>
        obtain ⟨g1, g2⟩ := rdZs_cons g q
        simp only
        by_cases hg : g.toNat ≤ 8 ∧ g.toNat ≤ q.length
        · rw [g1 hg]
          simp only
          by_cases hq : g.toNat = q.length
          · have e1 : q.take g.toNat = q := List.take_of_length_le (by omega)
            have e2 : q.drop g.toNat = [] := List.drop_eq_nil_of_le (by omega)
            rw [e1, e2]
            have e3 : Rs.end_ ⟨[], 0⟩ = 0 := rfl
            rw [e3]
            by_cases hc : chkP ⟨toZ (r.take f.toNat), toZ q⟩ = 0
            · rw [if_pos ⟨rfl, hc⟩, if_pos ⟨hq, hc⟩]
            · rw [if_neg (fun h => hc h.2), if_neg (fun h => hc h.2)]
          · rw [if_neg (fun h => ?_), if_neg (fun h => hq h.1)]
            have hend := h.1
            unfold Rs.end_ at hend
            rw [if_pos ⟨rfl, by rw [List.length_drop]; omega⟩] at hend
            cases hend
        · rw [if_neg (fun h => end_bad (g2 hg) h.1), if_neg]
          rintro ⟨e, hc⟩
          have := (chk_short hc).2
          simp only [toZ_length] at this
          exact hg ⟨by omega, by omega⟩
    · rw [if_neg (fun h => end_bad (rdZs_bad (h2 hf)) h.1)]
      cases hd : r.drop f.toNat with
      | nil => rfl
      | cons g q =>
        simp only
        rw [if_neg]
        rintro ⟨e, hc⟩
        have h3 := (chk_short hc).1
        simp only [toZ_length, List.length_take] at h3
        have h4 : f.toNat < r.length := by
          rcases Nat.lt_or_ge f.toNat r.length with h | h
          · exact h
          · rw [List.drop_eq_nil_of_le h] at hd
            cases hd
        exact hf ⟨by omega, by omega⟩
theorem toZ_by8 {l : List Int} (h : ∀ x ∈ l, 0 ≤ x ∧ x < 8) : toZ (l.map by8) = l := by
  unfold toZ
  rw [List.map_map]
  conv => rhs; rw [← List.map_id l]
  apply List.map_congr_left
  intro x hx
  have := h x hx
  show ((UInt8.ofNat x.toNat).toNat : Int) = x
  rw [UInt8.toNat_ofNat']
  omega
theorem by8_toZ (bs : List UInt8) : (toZ bs).map by8 = bs := by
  unfold toZ
  rw [List.map_map]
  conv => rhs; rw [← List.map_id bs]
  apply List.map_congr_left
  intro x _
  show UInt8.ofNat ((x.toNat : Int).toNat) = x
  simp
theorem dec_enc {c : Cf} (h : chkP c = 0) : decQ (encP c) = (c, 0) := by
  have hv := (chk_iff c).1 h
  have h8 := chk_short h
  obtain ⟨v, l⟩ := c
  simp only at h8
  have ef : (UInt8.ofNat v.length).toNat = v.length := by rw [UInt8.toNat_ofNat']; omega
  have eg : (UInt8.ofNat l.length).toNat = l.length := by rw [UInt8.toNat_ofNat']; omega
  show decQ ((UInt8.ofNat v.length :: v.map by8) ++ (UInt8.ofNat l.length :: l.map by8)) = _
  rw [List.cons_append, decQ_cons]
  rw [ef, List.drop_append_of_le_length (by rw [List.length_map]; exact Nat.le_refl _), List.take_append_of_le_length (by rw [List.length_map]; exact Nat.le_refl _)]
  rw [List.drop_eq_nil_of_le (by rw [List.length_map]; exact Nat.le_refl _), List.take_of_length_le (by rw [List.length_map]; exact Nat.le_refl _), List.nil_append]
  simp only
  rw [toZ_by8 hv.v8, toZ_by8 hv.l8, if_pos ⟨by rw [eg, List.length_map], h⟩]
theorem enc_dec {bs : List UInt8} (h : (decQ bs).2 = 0) : chkP (decQ bs).1 = 0 ∧ encP (decQ bs).1 = bs := by
  cases bs with
  | nil => cases h
  | cons f r =>
    rw [decQ_cons] at h ⊢
    cases hd : r.drop f.toNat with
    | nil => rw [hd] at h; cases h
    | cons g q =>
      rw [hd] at h
      simp only at h ⊢
      by_cases hc : g.toNat = q.length ∧ chkP ⟨toZ (r.take f.toNat), toZ q⟩ = 0
      · rw [if_pos hc]
        refine ⟨hc.2, ?_⟩
        have h4 : f.toNat < r.length := by
          rcases Nat.lt_or_ge f.toNat r.length with h | h
          · exact h
          · rw [List.drop_eq_nil_of_le h] at hd
            cases hd
        unfold encP
        simp only [toZ_length, List.length_take, by8_toZ]
        rw [Nat.min_eq_left (by omega), ← hc.1]
        have e1 : UInt8.ofNat f.toNat = f := by simp
        have e2 : UInt8.ofNat g.toNat = g := by simp
        rw [e1, e2, List.cons_append, ← hd, List.take_append_drop]
      · rw [if_neg hc] at h
        cases h
end Go.Proofs.Ytdikmmdkpfmocaa
