import Derived.Test.YtdikmmdkpfmocaaBs42
namespace Go.Proofs.Ytdikmmdkpfmocaa
open Go.RowKit Go.Shelf
theorem take_was (s : Rs) (n : Nat) (h : (s.take n).2.err = 0) : s.err = 0 ∧ s.left = (s.take n).1 ++ (s.take n).2.left ∧ (s.take n).1.length = n := by
  unfold Rs.take at h ⊢
  split at h
  · rename_i h0
    exact absurd h h0
  rename_i h0
  rw [if_neg h0]
  split at h
  · cases h
  rename_i h1
  rw [if_neg h1]
  refine ⟨Decidable.not_not.1 h0, (List.take_append_drop _ _).symm, ?_⟩
  rw [List.length_take]
  omega
theorem fail_was {s : Rs} {e : Int} (h : (s.fail e).err = 0) : s.err = 0 ∧ e = 0 ∧ s.fail e = s := by
  unfold Rs.fail at h ⊢
  split at h
  · rename_i h0
    rw [if_pos h0]
    simp only at h
    subst h
    exact ⟨h0, rfl, by cases s; simp_all⟩
  · rename_i h0
    exact absurd h h0
theorem byte_was (s : Rs) (h : (s.take 1).2.err = 0) : s.err = 0 ∧ ∃ b, (s.take 1).1 = [b] ∧ s.left = b :: (s.take 1).2.left := by
  obtain ⟨h0, h1, h2⟩ := take_was s 1 h
  match hc : (s.take 1).1, h2 with
  | [b], _ =>
    rw [hc] at h1
    exact ⟨h0, b, rfl, h1⟩
theorem long_was (s : Rs) (h : (s.take 8).2.err = 0) : s.err = 0 ∧ s.left = be (num (s.take 8).1) 8 ++ (s.take 8).2.left := by
  obtain ⟨h0, h1, h2⟩ := take_was s 8 h
  refine ⟨h0, ?_⟩
  have := be_num (s.take 8).1
  rw [h2] at this
  rw [this]
  exact h1
theorem flag_was (s : Rs) (h : (rdFlag s).2.err = 0) : s.err = 0 ∧ s.left = [b2 (rdFlag s).1] ++ (rdFlag s).2.left := by
  unfold rdFlag at h ⊢
  simp only at h ⊢
  by_cases h1 : 1 < num (s.take 1).1
  · rw [if_pos h1] at h
    exact absurd (fail_was h).2.1 (by decide)
  · rw [if_neg h1] at h ⊢
    obtain ⟨h0, b, hb, hl⟩ := byte_was s h
    refine ⟨h0, ?_⟩
    rw [hb] at h1 ⊢
    rw [num_single] at h1 ⊢
    rw [hl]
    congr 1
    rcases Nat.lt_or_ge b.toNat 1 with hz | hz
    · have e : b.toNat = 0 := by omega
      have : b = 0 := UInt8.toNat_inj.1 e
      subst this
      rfl
    · have e : b.toNat = 1 := by omega
      have : b = 1 := UInt8.toNat_inj.1 e
      subst this
      rfl
theorem cfg_was (s : Rs) (h : (rdCfg s).2.err = 0) : s.err = 0 ∧ s.left = textBytes (encP (rdCfg s).1) ++ (rdCfg s).2.left := by
  unfold rdCfg at h ⊢
  simp only at h ⊢
  obtain ⟨h1, h2, h3⟩ := fail_was h
  rw [h3]
  rw [(enc_dec h2).2]
  exact ⟨text_ok s _ h1, (text_was s _ h1).1⟩
theorem data_was (s : Rs) (h : (s.text 4096).2.err = 0) : s.err = 0 ∧ s.left = textBytes (s.text 4096).1 ++ (s.text 4096).2.left := ⟨text_ok s _ h, (text_was s _ h).1⟩
theorem ent_was (s : Rs) (h : (rdEnt s).2.err = 0) : s.err = 0 ∧ s.left = encE (rdEnt s).1 ++ (rdEnt s).2.left := by
  unfold rdEnt at h ⊢
  split at h
  · rename_i hd
    rw [if_pos hd]
    simp only at h ⊢
    refine ⟨text_ok s _ h, ?_⟩
    have := dec_read _ hd
    unfold encE
    simp only [Int.toNat_natCast]
    rw [this]
    exact (text_was s _ h).1
  · exact absurd (fail_was h).2.1 (by decide)
theorem rdL_stays {P : Type} (one : Rs → P × Rs) (n : Nat) (s : Rs) (h : (rdL one n s).2.err = 0) : s.err = 0 := by
  cases n with
  | zero => exact h
  | succ n =>
    rw [rdL] at h
    split at h
    · rename_i h0
      exact absurd h h0
    · rename_i h0
      exact Decidable.not_not.1 h0
theorem ents_list_was : ∀ (n : Nat) (s : Rs), (rdL rdEnt n s).2.err = 0 → s.left = (rdL rdEnt n s).1.flatMap encE ++ (rdL rdEnt n s).2.left ∧ (rdL rdEnt n s).1.length = n
  | 0, s, _ => ⟨rfl, rfl⟩
  | n + 1, s, h => by
    have h0 := rdL_stays _ _ _ h
    rw [rdL_succ _ _ _ h0] at h ⊢
    simp only at h ⊢
    have h1 := rdL_stays _ _ _ h
    obtain ⟨i1, i2⟩ := ents_list_was n _ h
    rw [List.flatMap_cons, List.append_assoc, ← i1, List.length_cons, i2]
    exact ⟨(ent_was s h1).2, rfl⟩
theorem ents_was (s : Rs) (h : (rdEnts s).2.err = 0) : s.err = 0 ∧ s.left = encEs (rdEnts s).1 ++ (rdEnts s).2.left := by
  have h' : (rdL rdEnt (s.var 8).1 (s.var 8).2).2.err = 0 := h
  have hv := rdL_stays _ _ _ h'
  obtain ⟨h1, h2⟩ := ents_list_was _ _ h'
  obtain ⟨h3, h4⟩ := var_was s 8 hv
  refine ⟨var_ok s 8 hv, ?_⟩
  have e1 : (rdEnts s).1 = (rdL rdEnt (s.var 8).1 (s.var 8).2).1 := by unfold rdEnts; simp only; rw [if_pos h']
  rw [e1]
  unfold encEs
  rw [h2, List.cons_append]
  show s.left = UInt8.ofNat (s.var 8).1 :: (_ ++ (rdL rdEnt (s.var 8).1 (s.var 8).2).2.left)
  rw [← h1]
  rw [var_few (by omega)] at h3
  exact h3
section
variable (x : Pm × Rs)
theorem wasIx (h : (stIx x).2.err = 0) : x.2.err = 0 ∧ x.2.left = be (stIx x).1.ix 8 ++ (stIx x).2.left := long_was x.2 h
theorem wasLt (h : (stLt x).2.err = 0) : x.2.err = 0 ∧ x.2.left = be (stLt x).1.lt 8 ++ (stLt x).2.left := long_was x.2 h
theorem wasCm (h : (stCm x).2.err = 0) : x.2.err = 0 ∧ x.2.left = be (stCm x).1.cm 8 ++ (stCm x).2.left := long_was x.2 h
theorem wasRd (h : (stRd x).2.err = 0) : x.2.err = 0 ∧ x.2.left = be (stRd x).1.rd 8 ++ (stRd x).2.left := long_was x.2 h
theorem wasOf (h : (stOf x).2.err = 0) : x.2.err = 0 ∧ x.2.left = be (stOf x).1.off 8 ++ (stOf x).2.left := long_was x.2 h
theorem wasWh (h : (stWh x).2.err = 0) : x.2.err = 0 ∧ x.2.left = be (stWh x).1.wh 8 ++ (stWh x).2.left := long_was x.2 h
theorem wasGd (h : (stGd x).2.err = 0) : x.2.err = 0 ∧ x.2.left = [b2 (stGd x).1.gd] ++ (stGd x).2.left := flag_was x.2 h
theorem wasEs (h : (stEs x).2.err = 0) : x.2.err = 0 ∧ x.2.left = encEs (stEs x).1.es ++ (stEs x).2.left := ents_was x.2 h
theorem wasCf (h : (stCf x).2.err = 0) : x.2.err = 0 ∧ x.2.left = textBytes (encP (stCf x).1.c) ++ (stCf x).2.left := cfg_was x.2 h
theorem wasDa (h : (stDa x).2.err = 0) : x.2.err = 0 ∧ x.2.left = textBytes (stDa x).1.da ++ (stDa x).2.left := data_was x.2 h
end
set_option maxHeartbeats 2000000 in
set_option linter.unusedSimpArgs false in
theorem fields_was (x : Pm × Rs) (hk : isKind x.1.k = true) (h : (fieldsR x).2.err = 0) : x.2.err = 0 ∧ x.2.left = fieldsB (fieldsR x).1 ++ (fieldsR x).2.left ∧ (fieldsR x).1.k = x.1.k ∧ (fieldsR x).1.fr = x.1.fr ∧ (fieldsR x).1.to = x.1.to ∧ (fieldsR x).1.te = x.1.te := by
  rcases kind_of hk with e | e | e | e | e | e | e | e
  · have eR : fieldsR x = (stLt (stIx x)) := by unfold fieldsR; rw [if_pos (by omega)]
    rw [eR] at h ⊢
    have ek : ((stLt (stIx x))).1.k = x.1.k := rfl
    refine ⟨?_, ?_, rfl, rfl, rfl, rfl⟩
    · have g1 := wasLt (stIx x) h
      have g0 := wasIx x g1.1
      exact g0.1
    · have g1 := wasLt (stIx x) h
      have g0 := wasIx x g1.1
      unfold fieldsB
      rw [if_pos (by rw [ek]; omega)]
      rw [g0.2]
      rw [g1.2]
      all_goals (try simp only [List.append_assoc])
      all_goals (try rfl)
  · have eR : fieldsR x = (stGd x) := by unfold fieldsR; rw [if_neg (by omega)]; rw [if_pos (by omega)]
    rw [eR] at h ⊢
    have ek : ((stGd x)).1.k = x.1.k := rfl
    refine ⟨?_, ?_, rfl, rfl, rfl, rfl⟩
    · have g0 := wasGd x h
      exact g0.1
    · have g0 := wasGd x h
      unfold fieldsB
      rw [if_neg (by rw [ek]; omega)]; rw [if_pos (by rw [ek]; omega)]
      rw [g0.2]
      all_goals (try simp only [List.append_assoc])
      all_goals (try rfl)
  · have eR : fieldsR x = (stLt (stIx x)) := by unfold fieldsR; rw [if_pos (by omega)]
    rw [eR] at h ⊢
    have ek : ((stLt (stIx x))).1.k = x.1.k := rfl
    refine ⟨?_, ?_, rfl, rfl, rfl, rfl⟩
    · have g1 := wasLt (stIx x) h
      have g0 := wasIx x g1.1
      exact g0.1
    · have g1 := wasLt (stIx x) h
      have g0 := wasIx x g1.1
      unfold fieldsB
      rw [if_pos (by rw [ek]; omega)]
      rw [g0.2]
      rw [g1.2]
      all_goals (try simp only [List.append_assoc])
      all_goals (try rfl)
  · have eR : fieldsR x = (stGd x) := by unfold fieldsR; rw [if_neg (by omega)]; rw [if_pos (by omega)]
    rw [eR] at h ⊢
    have ek : ((stGd x)).1.k = x.1.k := rfl
    refine ⟨?_, ?_, rfl, rfl, rfl, rfl⟩
    · have g0 := wasGd x h
      exact g0.1
    · have g0 := wasGd x h
      unfold fieldsB
      rw [if_neg (by rw [ek]; omega)]; rw [if_pos (by rw [ek]; omega)]
      rw [g0.2]
      all_goals (try simp only [List.append_assoc])
      all_goals (try rfl)
  · have eR : fieldsR x = (stEs (stRd (stCm (stLt (stIx x))))) := by unfold fieldsR; rw [if_neg (by omega)]; rw [if_neg (by omega)]; rw [if_pos (by omega)]
    rw [eR] at h ⊢
    have ek : ((stEs (stRd (stCm (stLt (stIx x)))))).1.k = x.1.k := rfl
    refine ⟨?_, ?_, rfl, rfl, rfl, rfl⟩
    · have g4 := wasEs (stRd (stCm (stLt (stIx x)))) h
      have g3 := wasRd (stCm (stLt (stIx x))) g4.1
      have g2 := wasCm (stLt (stIx x)) g3.1
      have g1 := wasLt (stIx x) g2.1
      have g0 := wasIx x g1.1
      exact g0.1
    · have g4 := wasEs (stRd (stCm (stLt (stIx x)))) h
      have g3 := wasRd (stCm (stLt (stIx x))) g4.1
      have g2 := wasCm (stLt (stIx x)) g3.1
      have g1 := wasLt (stIx x) g2.1
      have g0 := wasIx x g1.1
      unfold fieldsB
      rw [if_neg (by rw [ek]; omega)]; rw [if_neg (by rw [ek]; omega)]; rw [if_pos (by rw [ek]; omega)]
      rw [g0.2]
      rw [g1.2]
      rw [g2.2]
      rw [g3.2]
      rw [g4.2]
      all_goals (try simp only [List.append_assoc])
      all_goals (try rfl)
  · have eR : fieldsR x = (stRd (stIx (stGd x))) := by unfold fieldsR; rw [if_neg (by omega)]; rw [if_neg (by omega)]; rw [if_neg (by omega)]; rw [if_pos (by omega)]
    rw [eR] at h ⊢
    have ek : ((stRd (stIx (stGd x)))).1.k = x.1.k := rfl
    refine ⟨?_, ?_, rfl, rfl, rfl, rfl⟩
    · have g2 := wasRd (stIx (stGd x)) h
      have g1 := wasIx (stGd x) g2.1
      have g0 := wasGd x g1.1
      exact g0.1
    · have g2 := wasRd (stIx (stGd x)) h
      have g1 := wasIx (stGd x) g2.1
      have g0 := wasGd x g1.1
      unfold fieldsB
      rw [if_neg (by rw [ek]; omega)]; rw [if_neg (by rw [ek]; omega)]; rw [if_neg (by rw [ek]; omega)]; rw [if_pos (by rw [ek]; omega)]
      rw [g0.2]
      rw [g1.2]
      rw [g2.2]
      all_goals (try simp only [List.append_assoc])
      all_goals (try rfl)
  · have eR : fieldsR x = (stDa (stWh (stOf (stCf (stLt (stIx x)))))) := by unfold fieldsR; rw [if_neg (by omega)]; rw [if_neg (by omega)]; rw [if_neg (by omega)]; rw [if_neg (by omega)]; rw [if_pos (by omega)]
    rw [eR] at h ⊢
    have ek : ((stDa (stWh (stOf (stCf (stLt (stIx x))))))).1.k = x.1.k := rfl
    refine ⟨?_, ?_, rfl, rfl, rfl, rfl⟩
    · have g5 := wasDa (stWh (stOf (stCf (stLt (stIx x))))) h
      have g4 := wasWh (stOf (stCf (stLt (stIx x)))) g5.1
      have g3 := wasOf (stCf (stLt (stIx x))) g4.1
      have g2 := wasCf (stLt (stIx x)) g3.1
      have g1 := wasLt (stIx x) g2.1
      have g0 := wasIx x g1.1
      exact g0.1
    · have g5 := wasDa (stWh (stOf (stCf (stLt (stIx x))))) h
      have g4 := wasWh (stOf (stCf (stLt (stIx x)))) g5.1
      have g3 := wasOf (stCf (stLt (stIx x))) g4.1
      have g2 := wasCf (stLt (stIx x)) g3.1
      have g1 := wasLt (stIx x) g2.1
      have g0 := wasIx x g1.1
      unfold fieldsB
      rw [if_neg (by rw [ek]; omega)]; rw [if_neg (by rw [ek]; omega)]; rw [if_neg (by rw [ek]; omega)]; rw [if_neg (by rw [ek]; omega)]; rw [if_pos (by rw [ek]; omega)]
      rw [g0.2]
      rw [g1.2]
      rw [g2.2]
      rw [g3.2]
      rw [g4.2]
      rw [g5.2]
      all_goals (try simp only [List.append_assoc])
      all_goals (try rfl)
  · have eR : fieldsR x = (stOf (stIx x)) := by unfold fieldsR; rw [if_neg (by omega)]; rw [if_neg (by omega)]; rw [if_neg (by omega)]; rw [if_neg (by omega)]; rw [if_neg (by omega)]; rw [if_pos (by omega)]
    rw [eR] at h ⊢
    have ek : ((stOf (stIx x))).1.k = x.1.k := rfl
    refine ⟨?_, ?_, rfl, rfl, rfl, rfl⟩
    · have g1 := wasOf (stIx x) h
      have g0 := wasIx x g1.1
      exact g0.1
    · have g1 := wasOf (stIx x) h
      have g0 := wasIx x g1.1
      unfold fieldsB
      rw [if_neg (by rw [ek]; omega)]; rw [if_neg (by rw [ek]; omega)]; rw [if_neg (by rw [ek]; omega)]; rw [if_neg (by rw [ek]; omega)]; rw [if_neg (by rw [ek]; omega)]
      rw [g0.2]
      rw [g1.2]
      all_goals (try simp only [List.append_assoc])
      all_goals (try rfl)
theorem body_was (bs : List UInt8) (p : Pm) (h : bodyM bs = some p) : msgB p = bs ∧ rightP p = true := by
  unfold bodyM at h
  split at h
  · rename_i hh
    injection h with h
    subst h
    obtain ⟨he, hr⟩ := hh
    refine ⟨?_, hr⟩
    have hg := rgt_of hr
    have hall : isKind (hdM bs).1.k = true := by
      cases hk : isKind (hdM bs).1.k with
      | true => rfl
      | false =>
        have e : allM bs = hdM bs := by unfold allM; rw [hk]; rfl
        have := hg.kind
        rw [e, hk] at this
        cases this
    have ea : allM bs = fieldsR (hdM bs) := by unfold allM; rw [hall]; rfl
    rw [ea] at he hr hg ⊢
    have h0 : (fieldsR (hdM bs)).2.err = 0 ∧ (fieldsR (hdM bs)).2.left = [] := by
      unfold Rs.end_ at he
      split at he
      · cases he
      · rename_i hn
        refine ⟨he, List.eq_nil_of_length_eq_zero ?_⟩
        have : ¬ (0 < (fieldsR (hdM bs)).2.left.length) := fun h => hn ⟨he, h⟩
        omega
    obtain ⟨f0, f1, f2, f3, f4, f5⟩ := fields_was (hdM bs) hall h0.1
    rw [h0.2, List.append_nil] at f1
    unfold msgB
    rw [f2, f3, f4, f5, ← f1]
    unfold hdM at f0 ⊢
    simp only at f0 ⊢
    obtain ⟨a3, b3⟩ := long_was _ f0
    obtain ⟨a2, c2, d2, b2'⟩ := byte_was _ a3
    obtain ⟨a1, c1, d1, b1'⟩ := byte_was _ a2
    obtain ⟨a0, c0, d0, b0'⟩ := byte_was _ a1
    rw [d0, d1, d2, by8_num, by8_num, by8_num]
    have e0 : bs = c0 :: (Rs.take ⟨bs, 0⟩ 1).2.left := b0'
    conv => rhs; rw [e0, b1', b2', b3]
    simp only [List.nil_append, List.cons_append]
  · cases h
theorem msg_back (m : Pm) (h : rightP m = true) (hn : Num64 m) : bodyM (msgB m) = some m := by
  have hg := rgt_of h
  have hb : bareP m = true := by
    unfold rightP at h
    simp only [Bool.and_eq_true] at h
    exact h.1.1.2
  have e1 := hd_back m hg hn.te
  have ea : allM (msgB m) = (m, ⟨[], 0⟩) := by
    unfold allM
    rw [e1, show (bareM m.k m.fr m.to m.te).k = m.k from rfl, hg.kind, if_pos rfl]
    exact fields_back m hg hb hn
  unfold bodyM
  rw [ea, if_pos ⟨rfl, h⟩]
theorem decM_back (m : Pm) (h : rightP m = true) (hn : Num64 m) : decM (frameOf (msgB m)) = some m := by
  have hg := rgt_of h
  have hl := msg_few hg
  unfold decM
  rw [unfr_frame _ (by omega), if_pos ⟨rfl, (frame_length _).symm⟩]
  exact msg_back m h hn
theorem decM_was (b : List UInt8) (p : Pm) (h : decM b = some p) : frameOf (msgB p) = b ∧ rightP p = true := by
  unfold decM at h
  split at h
  · rename_i hh
    obtain ⟨h1, h2⟩ := body_was _ _ h
    rw [h1]
    exact ⟨((unfr_was b hh.1 hh.2).1).symm, h2⟩
  · cases h
theorem enc_inj {m o : Pm} (h : rightP m = true) (h' : rightP o = true) (hn : Num64 m) (hn' : Num64 o) (e : frameOf (msgB m) = frameOf (msgB o)) : m = o := by
  have h1 := decM_back m h hn
  rw [e, decM_back o h' hn'] at h1
  injection h1 with h1
  exact h1.symm
end Go.Proofs.Ytdikmmdkpfmocaa
