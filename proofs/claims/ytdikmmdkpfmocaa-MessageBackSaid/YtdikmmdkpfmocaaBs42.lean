import Derived.Test.YtdikmmdkpfmocaaBs13
import Derived.Test.YtdikmmdkpfmocaaBs37
import Derived.Test.YtdikmmdkpfmocaaBs41
namespace Go.Proofs.Ytdikmmdkpfmocaa
open Go.RowKit Go.Shelf
structure Num64 (m : Pm) : Prop where
  te : (m.te : Int) < 18446744073709551616
  ix : (m.ix : Int) < 18446744073709551616
  lt : (m.lt : Int) < 18446744073709551616
  cm : (m.cm : Int) < 18446744073709551616
  rd : (m.rd : Int) < 18446744073709551616
  off : (m.off : Int) < 18446744073709551616
  wh : (m.wh : Int) < 18446744073709551616
  es : ∀ x ∈ m.es, (x.ix : Int) < 18446744073709551616 ∧ (x.te : Int) < 18446744073709551616
theorem Mg.lies.num64 {w : World} {D : Nat → Prop} {m : Mg} (h : m.lies w D) : Num64 m.plain :=
  ⟨h.te, h.ix, h.lt, h.cm, h.rd, h.off, h.wh, fun x hx => by
    obtain ⟨y, hy, rfl⟩ := List.mem_map.1 hx
    have := h.es.2 y hy
    exact ⟨this.ix, this.te⟩⟩
theorem num_by8 {z : Int} (h0 : 0 ≤ z) (h1 : z < 256) : ((num [by8 z] : Nat) : Int) = z := by
  rw [num_single]
  unfold by8
  rw [UInt8.toNat_ofNat']
  omega
theorem by8_num (b : UInt8) : by8 ((num [b] : Nat) : Int) = b := by
  rw [num_single]
  unfold by8
  simp
theorem long_back (n : Nat) (r : List UInt8) (h : (n : Int) < 18446744073709551616) : (Rs.take ⟨be n 8 ++ r, 0⟩ 8) = (be n 8, ⟨r, 0⟩) ∧ num (be n 8) = n :=
  ⟨Rs.take_all _ _ _ (be_length _ _), num_be _ _ (by rw [pow8]; omega)⟩
theorem flag_back (g : Bool) (r : List UInt8) : rdFlag ⟨[b2 g] ++ r, 0⟩ = (g, ⟨r, 0⟩) := by
  unfold rdFlag
  rw [Rs.take_all [b2 g] r 1 rfl]
  cases g <;> rfl
theorem cfg_back (c : Cf) (r : List UInt8) (h : chkP c = 0) : rdCfg ⟨textBytes (encP c) ++ r, 0⟩ = (c, ⟨r, 0⟩) := by
  have hl := encP_few h
  unfold rdCfg
  rw [text_back _ _ _ (by omega) (by omega), dec_enc h]
  rfl
theorem data_back (cs r : List UInt8) (h : cs.length ≤ 4096) : Rs.text ⟨textBytes cs ++ r, 0⟩ 4096 = (cs, ⟨r, 0⟩) := text_back _ _ _ h (by omega)
theorem ent_back (x : Pe) (r : List UInt8) (hi : (x.ix : Int) < 18446744073709551616) (ht : (x.te : Int) < 18446744073709551616) (h : okE x) : rdEnt ⟨encE x ++ r, 0⟩ = (x, ⟨r, 0⟩) := by
  have hl := entBytes_few x h
  unfold rdEnt encE
  rw [text_back _ _ _ (by omega) (by omega)]
  obtain ⟨h1, h2, h3, h4, h5⟩ := dec_back x.ix x.te x.k x.da hi ht h
  simp only
  rw [if_pos h1, h2, h3, h4, h5]
theorem ents_list_back : ∀ (l : List Pe) (r : List UInt8), (∀ x ∈ l, (x.ix : Int) < 18446744073709551616 ∧ (x.te : Int) < 18446744073709551616) → (∀ x ∈ l, okE x) → rdL rdEnt l.length ⟨l.flatMap encE ++ r, 0⟩ = (l, ⟨r, 0⟩)
  | [], r, _, _ => rfl
  | x :: l, r, h1, h2 => by
    have hx := h1 x (by simp)
    have e : rdEnt ⟨(x :: l).flatMap encE ++ r, 0⟩ = (x, ⟨l.flatMap encE ++ r, 0⟩) := by
      rw [List.flatMap_cons, List.append_assoc]
      exact ent_back x _ hx.1 hx.2 (h2 x (by simp))
    rw [List.length_cons, rdL_succ _ _ _ rfl, e]
    simp only
    rw [ents_list_back l r (fun y hy => h1 y (by simp [hy])) (fun y hy => h2 y (by simp [hy]))]
theorem ents_back (l : List Pe) (r : List UInt8) (h8 : l.length ≤ 8) (h1 : ∀ x ∈ l, (x.ix : Int) < 18446744073709551616 ∧ (x.te : Int) < 18446744073709551616) (h2 : ∀ x ∈ l, okE x) : rdEnts ⟨encEs l ++ r, 0⟩ = (l, ⟨r, 0⟩) := by
  have hv : Rs.var ⟨encEs l ++ r, 0⟩ 8 = (l.length, ⟨l.flatMap encE ++ r, 0⟩) := by
    have e : encEs l ++ r = varBytes l.length ++ (l.flatMap encE ++ r) := by
      rw [var_few (by omega)]
      unfold encEs
      rfl
    rw [e]
    exact var_back _ _ _ h8 (by omega)
  unfold rdEnts
  rw [hv]
  simp only
  rw [ents_list_back l r h1 h2]
  rfl
def bareM (k fr tx : Int) (te : Nat) : Pm := ⟨k, fr, tx, te, 0, 0, 0, 0, false, [], ⟨[], []⟩, 0, 0, []⟩
theorem rest_zero {m : Pm} (h : restP m = true) : m = bareM m.k m.fr m.to m.te := by
  obtain ⟨k, fr, tx, te, ix, lt, cm, rd, gd, es, ⟨v, l⟩, off, wh, da⟩ := m
  unfold restP at h
  simp at h
  obtain ⟨⟨⟨⟨⟨⟨⟨⟨⟨⟨rfl, rfl⟩, rfl⟩, rfl⟩, rfl⟩, rfl⟩, rfl⟩, rfl⟩, rfl⟩, rfl⟩, rfl⟩ := h
  rfl
theorem hd_back (m : Pm) (h : Rgt m) (ht : (m.te : Int) < 18446744073709551616) : hdM (msgB m) = (bareM m.k m.fr m.to m.te, ⟨fieldsB m, 0⟩) := by
  have hk : 0 ≤ m.k ∧ m.k < 256 := by
    have := kind_of h.kind
    omega
  have e0 : Rs.take ⟨msgB m, 0⟩ 1 = ([by8 m.k], ⟨[by8 m.fr] ++ ([by8 m.to] ++ (be m.te 8 ++ fieldsB m)), 0⟩) := by
    have : msgB m = [by8 m.k] ++ ([by8 m.fr] ++ ([by8 m.to] ++ (be m.te 8 ++ fieldsB m))) := by unfold msgB; simp
    rw [this]
    exact Rs.take_all _ _ _ rfl
  have e1 := Rs.take_all [by8 m.fr] ([by8 m.to] ++ (be m.te 8 ++ fieldsB m)) 1 rfl
  have e2 := Rs.take_all [by8 m.to] (be m.te 8 ++ fieldsB m) 1 rfl
  have e3 := long_back m.te (fieldsB m) ht
  unfold hdM
  rw [e0]
  simp only
  rw [e1]
  simp only
  rw [e2]
  simp only
  rw [e3.1]
  simp only
  rw [e3.2, num_by8 hk.1 hk.2, num_by8 h.fr.1 (by have := h.fr.2; omega), num_by8 h.to.1 (by have := h.to.2; omega)]
  rfl
set_option linter.unusedSimpArgs false in
theorem fields_back (m : Pm) (h : Rgt m) (hb : bareP m = true) (hn : Num64 m) : fieldsR (bareM m.k m.fr m.to m.te, ⟨fieldsB m, 0⟩) = (m, ⟨[], 0⟩) := by
  have hr : restP (clrP m) = true := by
    unfold bareP at hb
    rw [Bool.and_eq_true] at hb
    exact hb.2
  have hz := rest_zero hr
  have hkk := kind_of h.kind
  rcases hkk with hk | hk | hk | hk | hk | hk | hk | hk
  · have eB : fieldsB m = be m.ix 8 ++ (be m.lt 8 ++ []) := by
      unfold fieldsB
      rw [if_pos (by omega)]
      simp only [List.append_assoc, List.append_nil]
    rw [eB]
    have eR : fieldsR (bareM m.k m.fr m.to m.te, ⟨be m.ix 8 ++ (be m.lt 8 ++ []), 0⟩) = (stLt (stIx (bareM m.k m.fr m.to m.te, ⟨be m.ix 8 ++ (be m.lt 8 ++ []), 0⟩))) := by
      unfold fieldsR
      rw [if_pos (by simp only [bareM]; omega)]
    rw [eR]
    have e0 := long_back m.ix (be m.lt 8 ++ []) hn.ix
    unfold stIx
    simp only
    rw [e0.1]
    simp only
    rw [e0.2]
    have e1 := long_back m.lt [] hn.lt
    unfold stLt
    simp only
    rw [e1.1]
    simp only
    rw [e1.2]
    unfold clrP at hz
    rw [if_pos (by omega)] at hz
    obtain ⟨k, fr, tx, te, ix, lt, cm, rd, gd, es, ⟨v, l⟩, off, wh, da⟩ := m
    simp only [bareM, Pm.mk.injEq, true_and] at hz ⊢
    simp_all
  · have eB : fieldsB m = [b2 m.gd] ++ [] := by
      unfold fieldsB
      rw [if_neg (by omega)]; rw [if_pos (by omega)]
      simp only [List.append_assoc, List.append_nil]
    rw [eB]
    have eR : fieldsR (bareM m.k m.fr m.to m.te, ⟨[b2 m.gd] ++ [], 0⟩) = (stGd (bareM m.k m.fr m.to m.te, ⟨[b2 m.gd] ++ [], 0⟩)) := by
      unfold fieldsR
      rw [if_neg (by show ¬ _; simp only [bareM]; omega)]; rw [if_pos (by simp only [bareM]; omega)]
    rw [eR]
    unfold stGd
    simp only
    rw [flag_back m.gd []]
    simp only
    unfold clrP at hz
    rw [if_neg (by omega)] at hz; rw [if_pos (by omega)] at hz
    obtain ⟨k, fr, tx, te, ix, lt, cm, rd, gd, es, ⟨v, l⟩, off, wh, da⟩ := m
    simp only [bareM, Pm.mk.injEq, true_and] at hz ⊢
    simp_all
  · have eB : fieldsB m = be m.ix 8 ++ (be m.lt 8 ++ []) := by
      unfold fieldsB
      rw [if_pos (by omega)]
      simp only [List.append_assoc, List.append_nil]
    rw [eB]
    have eR : fieldsR (bareM m.k m.fr m.to m.te, ⟨be m.ix 8 ++ (be m.lt 8 ++ []), 0⟩) = (stLt (stIx (bareM m.k m.fr m.to m.te, ⟨be m.ix 8 ++ (be m.lt 8 ++ []), 0⟩))) := by
      unfold fieldsR
      rw [if_pos (by simp only [bareM]; omega)]
    rw [eR]
    have e0 := long_back m.ix (be m.lt 8 ++ []) hn.ix
    unfold stIx
    simp only
    rw [e0.1]
    simp only
    rw [e0.2]
    have e1 := long_back m.lt [] hn.lt
    unfold stLt
    simp only
    rw [e1.1]
    simp only
    rw [e1.2]
    unfold clrP at hz
    rw [if_pos (by omega)] at hz
    obtain ⟨k, fr, tx, te, ix, lt, cm, rd, gd, es, ⟨v, l⟩, off, wh, da⟩ := m
    simp only [bareM, Pm.mk.injEq, true_and] at hz ⊢
    simp_all
  · have eB : fieldsB m = [b2 m.gd] ++ [] := by
      unfold fieldsB
      rw [if_neg (by omega)]; rw [if_pos (by omega)]
      simp only [List.append_assoc, List.append_nil]
    rw [eB]
    have eR : fieldsR (bareM m.k m.fr m.to m.te, ⟨[b2 m.gd] ++ [], 0⟩) = (stGd (bareM m.k m.fr m.to m.te, ⟨[b2 m.gd] ++ [], 0⟩)) := by
      unfold fieldsR
      rw [if_neg (by show ¬ _; simp only [bareM]; omega)]; rw [if_pos (by simp only [bareM]; omega)]
    rw [eR]
    unfold stGd
    simp only
    rw [flag_back m.gd []]
    simp only
    unfold clrP at hz
    rw [if_neg (by omega)] at hz; rw [if_pos (by omega)] at hz
    obtain ⟨k, fr, tx, te, ix, lt, cm, rd, gd, es, ⟨v, l⟩, off, wh, da⟩ := m
    simp only [bareM, Pm.mk.injEq, true_and] at hz ⊢
    simp_all
  · have eB : fieldsB m = be m.ix 8 ++ (be m.lt 8 ++ (be m.cm 8 ++ (be m.rd 8 ++ (encEs m.es ++ [])))) := by
      unfold fieldsB
      rw [if_neg (by omega)]; rw [if_neg (by omega)]; rw [if_pos (by omega)]
      simp only [List.append_assoc, List.append_nil]
    rw [eB]
    have eR : fieldsR (bareM m.k m.fr m.to m.te, ⟨be m.ix 8 ++ (be m.lt 8 ++ (be m.cm 8 ++ (be m.rd 8 ++ (encEs m.es ++ [])))), 0⟩) = (stEs (stRd (stCm (stLt (stIx (bareM m.k m.fr m.to m.te, ⟨be m.ix 8 ++ (be m.lt 8 ++ (be m.cm 8 ++ (be m.rd 8 ++ (encEs m.es ++ [])))), 0⟩)))))) := by
      unfold fieldsR
      rw [if_neg (by show ¬ _; simp only [bareM]; omega)]; rw [if_neg (by show ¬ _; simp only [bareM]; omega)]; rw [if_pos (by simp only [bareM]; omega)]
    rw [eR]
    have e0 := long_back m.ix (be m.lt 8 ++ (be m.cm 8 ++ (be m.rd 8 ++ (encEs m.es ++ [])))) hn.ix
    unfold stIx
    simp only
    rw [e0.1]
    simp only
    rw [e0.2]
    have e1 := long_back m.lt (be m.cm 8 ++ (be m.rd 8 ++ (encEs m.es ++ []))) hn.lt
    unfold stLt
    simp only
    rw [e1.1]
    simp only
    rw [e1.2]
    have e2 := long_back m.cm (be m.rd 8 ++ (encEs m.es ++ [])) hn.cm
    unfold stCm
    simp only
    rw [e2.1]
    simp only
    rw [e2.2]
    have e3 := long_back m.rd (encEs m.es ++ []) hn.rd
    unfold stRd
    simp only
    rw [e3.1]
    simp only
    rw [e3.2]
    unfold stEs
    simp only
    rw [ents_back m.es [] h.few hn.es h.ents]
    simp only
    unfold clrP at hz
    rw [if_neg (by omega)] at hz; rw [if_neg (by omega)] at hz; rw [if_pos (by omega)] at hz
    obtain ⟨k, fr, tx, te, ix, lt, cm, rd, gd, es, ⟨v, l⟩, off, wh, da⟩ := m
    simp only [bareM, Pm.mk.injEq, true_and] at hz ⊢
    simp_all
  · have eB : fieldsB m = [b2 m.gd] ++ (be m.ix 8 ++ (be m.rd 8 ++ [])) := by
      unfold fieldsB
      rw [if_neg (by omega)]; rw [if_neg (by omega)]; rw [if_neg (by omega)]; rw [if_pos (by omega)]
      simp only [List.append_assoc, List.append_nil]
    rw [eB]
    have eR : fieldsR (bareM m.k m.fr m.to m.te, ⟨[b2 m.gd] ++ (be m.ix 8 ++ (be m.rd 8 ++ [])), 0⟩) = (stRd (stIx (stGd (bareM m.k m.fr m.to m.te, ⟨[b2 m.gd] ++ (be m.ix 8 ++ (be m.rd 8 ++ [])), 0⟩)))) := by
      unfold fieldsR
      rw [if_neg (by show ¬ _; simp only [bareM]; omega)]; rw [if_neg (by show ¬ _; simp only [bareM]; omega)]; rw [if_neg (by show ¬ _; simp only [bareM]; omega)]; rw [if_pos (by simp only [bareM]; omega)]
    rw [eR]
    unfold stGd
    simp only
    rw [flag_back m.gd (be m.ix 8 ++ (be m.rd 8 ++ []))]
    simp only
    have e1 := long_back m.ix (be m.rd 8 ++ []) hn.ix
    unfold stIx
    simp only
    rw [e1.1]
    simp only
    rw [e1.2]
    have e2 := long_back m.rd [] hn.rd
    unfold stRd
    simp only
    rw [e2.1]
    simp only
    rw [e2.2]
    unfold clrP at hz
    rw [if_neg (by omega)] at hz; rw [if_neg (by omega)] at hz; rw [if_neg (by omega)] at hz; rw [if_pos (by omega)] at hz
    obtain ⟨k, fr, tx, te, ix, lt, cm, rd, gd, es, ⟨v, l⟩, off, wh, da⟩ := m
    simp only [bareM, Pm.mk.injEq, true_and] at hz ⊢
    simp_all
  · have eB : fieldsB m = be m.ix 8 ++ (be m.lt 8 ++ (textBytes (encP m.c) ++ (be m.off 8 ++ (be m.wh 8 ++ (textBytes m.da ++ []))))) := by
      unfold fieldsB
      rw [if_neg (by omega)]; rw [if_neg (by omega)]; rw [if_neg (by omega)]; rw [if_neg (by omega)]; rw [if_pos (by omega)]
      simp only [List.append_assoc, List.append_nil]
    rw [eB]
    have eR : fieldsR (bareM m.k m.fr m.to m.te, ⟨be m.ix 8 ++ (be m.lt 8 ++ (textBytes (encP m.c) ++ (be m.off 8 ++ (be m.wh 8 ++ (textBytes m.da ++ []))))), 0⟩) = (stDa (stWh (stOf (stCf (stLt (stIx (bareM m.k m.fr m.to m.te, ⟨be m.ix 8 ++ (be m.lt 8 ++ (textBytes (encP m.c) ++ (be m.off 8 ++ (be m.wh 8 ++ (textBytes m.da ++ []))))), 0⟩))))))) := by
      unfold fieldsR
      rw [if_neg (by show ¬ _; simp only [bareM]; omega)]; rw [if_neg (by show ¬ _; simp only [bareM]; omega)]; rw [if_neg (by show ¬ _; simp only [bareM]; omega)]; rw [if_neg (by show ¬ _; simp only [bareM]; omega)]; rw [if_pos (by simp only [bareM]; omega)]
    rw [eR]
    have e0 := long_back m.ix (be m.lt 8 ++ (textBytes (encP m.c) ++ (be m.off 8 ++ (be m.wh 8 ++ (textBytes m.da ++ []))))) hn.ix
    unfold stIx
    simp only
    rw [e0.1]
    simp only
    rw [e0.2]
    have e1 := long_back m.lt (textBytes (encP m.c) ++ (be m.off 8 ++ (be m.wh 8 ++ (textBytes m.da ++ [])))) hn.lt
    unfold stLt
    simp only
    rw [e1.1]
    simp only
    rw [e1.2]
    unfold stCf
    simp only
    rw [cfg_back m.c (be m.off 8 ++ (be m.wh 8 ++ (textBytes m.da ++ []))) (h.chk hk).1]
    simp only
    have e3 := long_back m.off (be m.wh 8 ++ (textBytes m.da ++ [])) hn.off
    unfold stOf
    simp only
    rw [e3.1]
    simp only
    rw [e3.2]
    have e4 := long_back m.wh (textBytes m.da ++ []) hn.wh
    unfold stWh
    simp only
    rw [e4.1]
    simp only
    rw [e4.2]
    unfold stDa
    simp only
    rw [data_back m.da [] (h.chk hk).2]
    simp only
    unfold clrP at hz
    rw [if_neg (by omega)] at hz; rw [if_neg (by omega)] at hz; rw [if_neg (by omega)] at hz; rw [if_neg (by omega)] at hz; rw [if_pos (by omega)] at hz
    obtain ⟨k, fr, tx, te, ix, lt, cm, rd, gd, es, ⟨v, l⟩, off, wh, da⟩ := m
    simp only [bareM, Pm.mk.injEq, true_and] at hz ⊢
    simp_all
  · have eB : fieldsB m = be m.ix 8 ++ (be m.off 8 ++ []) := by
      unfold fieldsB
      rw [if_neg (by omega)]; rw [if_neg (by omega)]; rw [if_neg (by omega)]; rw [if_neg (by omega)]; rw [if_neg (by omega)]
      simp only [List.append_assoc, List.append_nil]
    rw [eB]
    have eR : fieldsR (bareM m.k m.fr m.to m.te, ⟨be m.ix 8 ++ (be m.off 8 ++ []), 0⟩) = (stOf (stIx (bareM m.k m.fr m.to m.te, ⟨be m.ix 8 ++ (be m.off 8 ++ []), 0⟩))) := by
      unfold fieldsR
      rw [if_neg (by show ¬ _; simp only [bareM]; omega)]; rw [if_neg (by show ¬ _; simp only [bareM]; omega)]; rw [if_neg (by show ¬ _; simp only [bareM]; omega)]; rw [if_neg (by show ¬ _; simp only [bareM]; omega)]; rw [if_neg (by show ¬ _; simp only [bareM]; omega)]; rw [if_pos (by simp only [bareM]; omega)]
    rw [eR]
    have e0 := long_back m.ix (be m.off 8 ++ []) hn.ix
    unfold stIx
    simp only
    rw [e0.1]
    simp only
    rw [e0.2]
    have e1 := long_back m.off [] hn.off
    unfold stOf
    simp only
    rw [e1.1]
    simp only
    rw [e1.2]
    unfold clrP at hz
    rw [if_neg (by omega)] at hz; rw [if_neg (by omega)] at hz; rw [if_neg (by omega)] at hz; rw [if_neg (by omega)] at hz; rw [if_neg (by omega)] at hz; rw [if_pos (by omega)] at hz
    obtain ⟨k, fr, tx, te, ix, lt, cm, rd, gd, es, ⟨v, l⟩, off, wh, da⟩ := m
    simp only [bareM, Pm.mk.injEq, true_and] at hz ⊢
    simp_all
end Go.Proofs.Ytdikmmdkpfmocaa
