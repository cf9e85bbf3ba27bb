import Derived.Test.YtffoeodjbbkdjaaGreatBs10
import Derived.Test.YtffoeodjbbkdjaaGreatBs13
namespace Go.Proofs.YtffoeodjbbkdjaaGreat
open Go.RowKit
theorem box_made {w : World} {base g n : Nat} (h : w.ownsRow base 61 3 (.slice (some ⟨g, 0, none⟩) n n) n (madeCells #[.int .i64 0, .int .u64 0, .int .u64 0] (n * 3)).toList) : Box w g 61 (svs (List.replicate n Pst.zero)) := by
 rw [svs_none]
 rcases h.2 with ⟨e, _⟩ | ⟨g', cap, cur, e, _, hg, _, _, hsz, htk⟩
 ·
  cases e
 ·
  have e1 : g = g' := by simpa using congrArg (fun v => match v with | Value.slice (some a) _ _ => a.block | _ => 0) e
  have e2 : n = cap := by simpa using congrArg (fun v => match v with | Value.slice (some _) _ c => c | _ => 0) e
  subst e1
  subst e2
  have : cur = madeCells #[.int .i64 0, .int .u64 0, .int .u64 0] (n * 3) := by
   apply Array.ext'
   have h1 : cur.toList.take (n * 3) = cur.toList := List.take_of_length_le (by simp [hsz])
   rw [h1] at htk
   exact htk
  rw [← this]
  exact hg
def Begun (n : Nat) (fs : List Bool) (k : Nat) (m : List Pst) : Prop := m.length = n ∧ ∀ j, j < n → m[j]? = some (if j < k then ⟨if fs.getD j false = true then 3 else 0, 0, 0⟩ else Pst.zero)
theorem Begun.made (n : Nat) (fs : List Bool) : Begun n fs 0 (List.replicate n Pst.zero) := ⟨List.length_replicate, fun j hj => by rw [List.getElem?_replicate, if_pos hj, if_neg (Nat.not_lt_zero _)]⟩
theorem Begun.all {n k : Nat} {fs : List Bool} {m : List Pst} (h : Begun n fs k m) (hk : n ≤ k) : m = stBegin n fs := by
 apply list_ext3
 intro j
 by_cases hj : j < n
 ·
  rw [h.2 j hj, if_pos (by omega), stBegin_at fs hj]
 ·
  rw [List.getElem?_eq_none (by have := h.1; omega), List.getElem?_eq_none (by rw [stBegin_length]; omega)]
theorem Begun.more {n k : Nat} {fs : List Bool} {m : List Pst} (h : Begun n fs k m) (x : Pst) (hx : x = ⟨if fs.getD k false = true then 3 else 0, 0, 0⟩) : Begun n fs (k + 1) (m.set k x) := by
 refine ⟨by rw [List.length_set]; exact h.1, fun j hj => ?_⟩
 by_cases e : j = k
 ·
  subst e
  rw [List.getElem?_set_self (by rw [h.1]; exact hj), if_pos (Nat.lt_succ_self _), hx]
 ·
  rw [List.getElem?_set_ne (fun h => e h.symm), h.2 j hj]
  by_cases hjk : j < k
  ·
   rw [if_pos hjk, if_pos (show j < k + 1 by omega)]
  ·
   rw [if_neg hjk, if_neg (show ¬ j < k + 1 by omega)]
theorem Begun.same {n k : Nat} {fs : List Bool} {m : List Pst} (h : Begun n fs k m) (hx : fs.getD k false = false) : Begun n fs (k + 1) m := by
 refine ⟨h.1, fun j hj => ?_⟩
 rw [h.2 j hj]
 by_cases e : j = k
 ·
  subst e
  rw [if_neg (Nat.lt_irrefl _), if_pos (Nat.lt_succ_self _), hx]
  rfl
 ·
  by_cases hjk : j < k
  ·
   rw [if_pos hjk, if_pos (show j < k + 1 by omega)]
  ·
   rw [if_neg hjk, if_neg (show ¬ j < k + 1 by omega)]
set_option maxRecDepth 100000 in
set_option maxHeartbeats 4000000 in
theorem start_any (w : World) (D Df : Nat → Prop) (v vf : Value) (ts : List Tg) (fs : List Bool) (h : Tgs w D v ts) (h' : Bls w Df vf fs) (hb : ts.length * 56 ≤ reachBytes) :
  Calls Tryz.prog 99 #[.agg #[v], vf] w (ToldSts (grStart (ts.map Tg.plain) fs) w) := by
 have HH := Lib.hid h
 have HF := Lib.hid h'
 have hb24 : ts.length * 24 ≤ reachBytes := by rw [reach_is] at hb ⊢; omega
 have HB24 := Lib.hid hb24
 rw [reach_is] at hb
 obtain ⟨A, c, rfl, hlc, hcm, hn, hxl, hc⟩ := h.1
 obtain ⟨Af, cf, rfl, hlf, hcf, _, _, hcell0⟩ := h'
 unfold maxLen at hcm hcf
 have HFC := Lib.hid hcell0
 have ka := (Keep.refl noneOf w).alloc (.cells #[.slice A ts.length c] 35)
 obtain ⟨i1, hi1, hz1, hs1, hb1⟩ := info_parts stinfo
 have X0 := Box.new w 35 #[.slice A ts.length c]
 obtain ⟨w2, hmk, hown2, hg2⟩ := run_make_full (P := Tryz.prog) (w.alloc (.cells #[.slice A ts.length c] 35)) (w.heap.size + 1) 45 61 i1 (.agg #[.int .i64 0, .int .u64 0, .int .u64 0]) 3 Tryz.underlying45 hi1 hz1 hs1 .i64 .i64 ts.length (by rw [hb1]; omega) (by unfold maxLen; omega) (by simp)
 rw [show (w.alloc (.cells #[.slice A ts.length c] 35)).heap.size = w.heap.size + 1 from by simp] at hmk hown2
 have kk2 : Keep noneOf (w.alloc (.cells #[.slice A ts.length c] 35)) w2 := (Keep.of_grown hg2).mono (fun _ _ h => by cases h)
 have HB2 := Lib.hid (box_made hown2)
 have HK2 := Lib.hid (ka.trans kk2 (fun _ _ h => h))
 have HX2 := Lib.hid (X0.keep kk2 id)
 have hRR : grStart (ts.map Tg.plain) fs = grSettle (ts.map Tg.plain) (stBegin ts.length fs) := by unfold grStart; rw [List.length_map]
 have HRR := Lib.hid hRR
 generalize grStart (ts.map Tg.plain) fs = R at *
 clear h ka hc hxl hn hown2 hg2 kk2 hcell0 X0 hb24 hRR
 go_enter Tryz.func99, Tryz.ntmps99
 go_wp2
 go_loopw [13] (fun i wr => ∃ k : Nat, k ≤ ts.length ∧ i = .int .i64 k ∧ Keep noneOf w wr ∧ Box wr w.heap.size 35 #[.slice A ts.length c] ∧ ∃ m, Begun ts.length fs k m ∧ Box wr (w.heap.size + 1) 61 (svs m)) (fun i _ => ts.length - (intOf i).toNat)
 case atStart => exact ⟨0, Nat.zero_le _, rfl, HK2.out, HX2.out, _, Begun.made _ _, HB2.out⟩
 case round =>
  obtain ⟨k, hk, rfl, hkeep, hX, m, hm, hB⟩ := hrel
  have HKP := Lib.hid hkeep
  have HX := Lib.hid hX
  have HB := Lib.hid hB
  have HM := Lib.hid hm
  clear hX hB HK2 HX2 HB2 hm
  by_cases hlt : k < ts.length
  ·
   have hmk := HM.out.2 k hlt
   rw [if_neg (Nat.lt_irrefl _)] at hmk
   obtain ⟨c0, -, -⟩ := HB.out.state hmk
   have f0 := HB.out.free (k * 3)
   have hb1 := HB.out.put (k * 3) (.int .i64 0)
   rw [svs_set_s m k 0 _ hmk, show (⟨0, Pst.zero.t, Pst.zero.u⟩ : Pst) = Pst.zero from rfl, set_same m k _ hmk] at hb1
   have HB1 := Lib.hid hb1
   have ks1 : Keep (fun i => i = w.heap.size + 1) wr (wr.setCell ⟨w.heap.size + 1, k * 3, none⟩ (.int .i64 0)) := (Keep.refl (fun i => i = w.heap.size + 1) _).setCell (fun _ => rfl) _
   have HK1 := Lib.hid (HKP.out.own ks1 (by omega))
   have HX1 := Lib.hid (HX.out.keep ks1 (by omega))
   have q0 : (0 : Int) ≤ (k : Int) := by omega
   have q1 : (k : Int) < (ts.length : Int) := by omega
   have HMK := Lib.hid hmk
   clear hmk hb1 ks1
   by_cases hkf : k < fs.length
   ·
    obtain ⟨ad, rfl, hsp, hblk, _, hcell⟩ := HFC.out (by omega)
    obtain ⟨b, o, sp⟩ := ad
    simp only at hsp hblk hcell
    subst hsp
    have hcf0 : (wr.setCell ⟨w.heap.size + 1, k * 3, none⟩ (.int .i64 0)).cell? ⟨b, o + k, none⟩ = some (.bool (fs.getD k false)) := (HK1.out.cell (p := ⟨b, o + k, none⟩) hblk id).trans (hcell k _ (by rw [List.getElem?_map, getB_at hkf]; rfl))
    have r1 : (k : Int) < (fs.length : Int) := by omega
    clear hcell hkeep
    cases hfk : fs.getD k false with
    | true =>
     rw [hfk] at hcf0
     obtain ⟨e0, -, -⟩ := HB1.out.state HMK.out
     have f1 := HB1.out.free (k * 3)
     have hb2 := HB1.out.put (k * 3) (.int .i64 3)
     rw [svs_set_s m k 3 _ HMK.out] at hb2
     have HB3 := Lib.hid hb2
     have HM3 := Lib.hid (HM.out.more ⟨3, 0, 0⟩ (by rw [hfk]; rfl))
     have ks3 : Keep (fun i => i = w.heap.size + 1) (wr.setCell ⟨w.heap.size + 1, k * 3, none⟩ (.int .i64 0)) ((wr.setCell ⟨w.heap.size + 1, k * 3, none⟩ (.int .i64 0)).setCell ⟨w.heap.size + 1, k * 3, none⟩ (.int .i64 3)) := (Keep.refl (fun i => i = w.heap.size + 1) _).setCell (fun _ => rfl) _
     have HK3 := Lib.hid (HK1.out.own ks3 (by omega))
     have HX3 := Lib.hid (HX1.out.keep ks3 (by omega))
     clear hb2 ks3 hfk
     go_wp2
     go_roundw
     case rel => exact ⟨k + 1, by omega, by go_num, HK3.out, HX3.out, _, HM3.out, HB3.out⟩
     case measure => simp [intOf]; omega
    | false =>
     rw [hfk] at hcf0
     have HM3 := Lib.hid (HM.out.same hfk)
     clear hfk
     go_wp2
     go_roundw
     case rel => exact ⟨k + 1, by omega, by go_num, HK1.out, HX1.out, _, HM3.out, HB1.out⟩
     case measure => simp [intOf]; omega
   ·
    have HM3 := Lib.hid (HM.out.same (show fs.getD k false = false by rw [List.getD_eq_getElem?_getD, List.getElem?_eq_none (by omega)]; rfl))
    have r1 : ¬ ((k : Int) < (fs.length : Int)) := by omega
    clear hkf hkeep
    go_wp2
    go_roundw
    case rel => exact ⟨k + 1, by omega, by go_num, HK1.out, HX1.out, _, HM3.out, HB1.out⟩
    case measure => simp [intOf]; omega
  ·
   have hkn : ¬ ((k : Int) < (ts.length : Int)) := by omega
   have hmA := HM.out.all (by omega)
   subst hmA
   have hss := Sts.of_box (D := fun _ => True) HB.out (Nat.le_refl _) (by rw [stBegin_length]; unfold maxLen; omega) trivial
   have hset := settle_any wr D (fun _ => True) _ _ ts (stBegin ts.length fs) (HH.out.keep hkeep (fun _ _ _ => id)) hss (by rw [stBegin_length]; exact HB24.out)
   rw [← HRR.out, stBegin_length] at hset
   have HSET := Lib.hid hset
   have x0 : wr.cell? ⟨w.heap.size, 0, none⟩ = some (.slice A ts.length c) := HX.out.cell 0
   clear hset hss hkeep hlt
   go_wp2_with fail
   refine HSET.out.mono ?_
   rintro e w3 ⟨v3, rfl, k3, hv3⟩
   have HK3 := Lib.hid (HKP.out.trans k3 (fun _ _ h => h))
   have HV3 := Lib.hid hv3
   have hsz := HKP.out.size
   clear HSET k3 hv3 x0
   go_wp2
   go_ret
   refine ⟨_, rfl, HK3.out, ?_⟩
   rcases HV3.out with h | ⟨g, h1, h2, h3, h4⟩
   ·
    exact .inl h
   ·
    exact .inr ⟨g, h1, by omega, h3, h4⟩
set_option maxRecDepth 100000 in
set_option maxHeartbeats 4000000 in
theorem refStart_any (w : World) (D Df : Nat → Prop) (v vf : Value) (ts : List Tg) (fs : List Bool) (h : Tgs w D v ts) (h' : Bls w Df vf fs) (hb : ts.length * 56 ≤ reachBytes) :
  Calls Tryz.prog 67 #[.agg #[v], vf] w (TellsSts (grStart (ts.map Tg.plain) fs) w) := by
 have HH := Lib.hid h
 have HF := Lib.hid h'
 have hb24 : ts.length * 24 ≤ reachBytes := by rw [reach_is] at hb ⊢; omega
 rw [reach_is] at hb
 obtain ⟨A, c, rfl, hlc, hcm, hn, hxl, hc⟩ := h.1
 obtain ⟨Af, cf, rfl, hlf, hcf, _, _, hcell0⟩ := h'
 unfold maxLen at hcm hcf
 have HFC := Lib.hid hcell0
 have ka := (Keep.refl noneOf w).alloc (.cells #[.slice A ts.length c] 35)
 obtain ⟨i1, hi1, hz1, hs1, hb1⟩ := info_parts stinfo
 have X0 := Box.new w 35 #[.slice A ts.length c]
 obtain ⟨w2, hmk, hown2, hg2⟩ := run_make_full (P := Tryz.prog) (w.alloc (.cells #[.slice A ts.length c] 35)) (w.heap.size + 1) 45 61 i1 (.agg #[.int .i64 0, .int .u64 0, .int .u64 0]) 3 Tryz.underlying45 hi1 hz1 hs1 .i64 .i64 ts.length (by rw [hb1]; omega) (by unfold maxLen; omega) (by simp)
 rw [show (w.alloc (.cells #[.slice A ts.length c] 35)).heap.size = w.heap.size + 1 from by simp] at hmk hown2
 have kk2 : Keep noneOf (w.alloc (.cells #[.slice A ts.length c] 35)) w2 := (Keep.of_grown hg2).mono (fun _ _ h => by cases h)
 have HB2 := Lib.hid (box_made hown2)
 have HK2 := Lib.hid (ka.trans kk2 (fun _ _ h => h))
 have HX2 := Lib.hid (X0.keep kk2 id)
 have hRR : grStart (ts.map Tg.plain) fs = grSettle (ts.map Tg.plain) (stBegin ts.length fs) := by unfold grStart; rw [List.length_map]
 have HRR := Lib.hid hRR
 generalize grStart (ts.map Tg.plain) fs = R at *
 clear h ka hc hxl hn hown2 hg2 kk2 hcell0 X0 hb24 hRR
 go_enter Tryz.func67, Tryz.ntmps67
 go_wp2
 go_loopw [6] (fun i wr => ∃ k : Nat, k ≤ ts.length ∧ i = .int .i64 k ∧ Keep noneOf w wr ∧ Box wr w.heap.size 35 #[.slice A ts.length c] ∧ ∃ m, Begun ts.length fs k m ∧ Box wr (w.heap.size + 1) 61 (svs m)) (fun i _ => ts.length - (intOf i).toNat)
 case atStart => exact ⟨0, Nat.zero_le _, rfl, HK2.out, HX2.out, _, Begun.made _ _, HB2.out⟩
 case round =>
  obtain ⟨k, hk, rfl, hkeep, hX, m, hm, hB⟩ := hrel
  have HKP := Lib.hid hkeep
  have HX := Lib.hid hX
  have HB := Lib.hid hB
  have HM := Lib.hid hm
  clear hX hB HK2 HX2 HB2 hm
  by_cases hlt : k < ts.length
  ·
   have hmk := HM.out.2 k hlt
   rw [if_neg (Nat.lt_irrefl _)] at hmk
   have HK1 := HKP
   have HX1 := HX
   have HB1 := HB
   have q0 : (0 : Int) ≤ (k : Int) := by omega
   have q1 : (k : Int) < (ts.length : Int) := by omega
   have HMK := Lib.hid hmk
   clear hmk
   by_cases hkf : k < fs.length
   ·
    obtain ⟨ad, rfl, hsp, hblk, _, hcell⟩ := HFC.out (by omega)
    obtain ⟨b, o, sp⟩ := ad
    simp only at hsp hblk hcell
    subst hsp
    have hcf0 : wr.cell? ⟨b, o + k, none⟩ = some (.bool (fs.getD k false)) := (HK1.out.cell (p := ⟨b, o + k, none⟩) hblk id).trans (hcell k _ (by rw [List.getElem?_map, getB_at hkf]; rfl))
    have r1 : (k : Int) < (fs.length : Int) := by omega
    clear hcell hkeep
    cases hfk : fs.getD k false with
    | true =>
     rw [hfk] at hcf0
     obtain ⟨e0, -, -⟩ := HB1.out.state HMK.out
     have f1 := HB1.out.free (k * 3)
     have hb2 := HB1.out.put (k * 3) (.int .i64 3)
     rw [svs_set_s m k 3 _ HMK.out] at hb2
     have HB3 := Lib.hid hb2
     have HM3 := Lib.hid (HM.out.more ⟨3, 0, 0⟩ (by rw [hfk]; rfl))
     have ks3 : Keep (fun i => i = w.heap.size + 1) wr (wr.setCell ⟨w.heap.size + 1, k * 3, none⟩ (.int .i64 3)) := (Keep.refl (fun i => i = w.heap.size + 1) _).setCell (fun _ => rfl) _
     have HK3 := Lib.hid (HK1.out.own ks3 (by omega))
     have HX3 := Lib.hid (HX1.out.keep ks3 (by omega))
     clear hb2 ks3 hfk
     go_wp2
     go_roundw
     case rel => exact ⟨k + 1, by omega, by go_num, HK3.out, HX3.out, _, HM3.out, HB3.out⟩
     case measure => simp [intOf]; omega
    | false =>
     rw [hfk] at hcf0
     have HM3 := Lib.hid (HM.out.same hfk)
     clear hfk
     go_wp2
     go_roundw
     case rel => exact ⟨k + 1, by omega, by go_num, HK1.out, HX1.out, _, HM3.out, HB1.out⟩
     case measure => simp [intOf]; omega
   ·
    have HM3 := Lib.hid (HM.out.same (show fs.getD k false = false by rw [List.getD_eq_getElem?_getD, List.getElem?_eq_none (by omega)]; rfl))
    have r1 : ¬ ((k : Int) < (fs.length : Int)) := by omega
    clear hkf hkeep
    go_wp2
    go_roundw
    case rel => exact ⟨k + 1, by omega, by go_num, HK1.out, HX1.out, _, HM3.out, HB1.out⟩
    case measure => simp [intOf]; omega
  ·
   have hkn : ¬ ((k : Int) < (ts.length : Int)) := by omega
   have hmA := HM.out.all (by omega)
   subst hmA
   have hss := Sts.of_box (D := fun _ => True) HB.out (Nat.le_refl _) (by rw [stBegin_length]; unfold maxLen; omega) trivial
   have hset := refSettle_any wr D (fun _ => True) _ _ ts (stBegin ts.length fs) (HH.out.keep hkeep (fun _ _ _ => id)) hss
   rw [← HRR.out, stBegin_length] at hset
   have HSET := Lib.hid hset
   have x0 : wr.cell? ⟨w.heap.size, 0, none⟩ = some (.slice A ts.length c) := HX.out.cell 0
   clear hset hss hkeep hlt
   go_wp2_with fail
   refine HSET.out.mono ?_
   rintro e w3 ⟨A3, c3, rfl, hv3, k3⟩
   have HK3 := Lib.hid (HKP.out.trans k3 (fun _ _ h => h))
   have HV3 := Lib.hid hv3
   have hsz := HKP.out.size
   clear HSET k3 hv3 x0
   go_wp2
   go_ret
   exact ⟨_, _, rfl, HV3.out.mono (fun _ _ h => by omega), HK3.out⟩
end Go.Proofs.YtffoeodjbbkdjaaGreat
