import Derived.Test.YtffoeodjbbkdjaaGreatBs05
import Derived.Test.YtffoeodjbbkdjaaGreatBs06
namespace Go.Proofs.YtffoeodjbbkdjaaGreat
open Go.RowKit
set_option maxRecDepth 100000 in
set_option maxHeartbeats 1000000 in
theorem refLong_any (w : World) (D : Nat → Prop) (v : Value) (ts : List Tg) (h : Tgs w D v ts) :
  Calls Tryz.prog 89 #[.agg #[v]] w fun e w' => e = .returned (.bool (!grFits (ts.map Tg.plain))) ∧ Keep noneOf w w' := by
 obtain ⟨A, c, rfl, hlc, hcm, hn, hxl, hc⟩ := h.1
 unfold maxLen at hcm
 have EF := Lib.hid (show grFits (ts.map Tg.plain) = (decide (ts.length ≤ 32) && (ts.map Tg.plain).all ptFits) by unfold grFits; rw [List.length_map])
 generalize grFits (ts.map Tg.plain) = R at *
 have HC := Lib.hid hc
 have HT := Lib.hid h.2
 have HK0 := Lib.hid ((Keep.refl noneOf w).alloc (.cells #[.slice A ts.length c] 35))
 clear hc h hxl
 go_enter Tryz.func89, Tryz.ntmps89
 go_wp2
 go_loop [3] (fun i => ∃ k : Nat, k ≤ ts.length ∧ i = .int .i64 k ∧ ∀ j t, j < k → ts[j]? = some t → ptFits t.plain = true) (fun i => ts.length - (intOf i).toNat)
 case atStart => exact ⟨0, Nat.zero_le _, rfl, fun j _ hj => absurd hj (by omega)⟩
 case round =>
  obtain ⟨k, hk, rfl, hall⟩ := hrel
  have HA := Lib.hid hall
  clear hall
  by_cases hlt : k < ts.length
  ·
   obtain ⟨ad, rfl, hsp, hblk, hD, hcell⟩ := HC.out (by omega)
   obtain ⟨b, o, sp⟩ := ad
   simp only at hsp hblk hD hcell
   subst hsp
   have HS := Lib.hid (List.getElem?_eq_getElem hlt)
   have hlies := HT.out _ (List.getElem_mem hlt)
   generalize ts[k] = t at *
   obtain ⟨c0, c1, c2⟩ := tgs_at HK0.out hblk hcell HS.out
   clear hcell
   obtain ⟨nm, cm, nv, ss⟩ := t
   obtain ⟨l1, l2, ⟨A2, cp2, hnv, hl2, hm2, _⟩, _⟩ := hlies
   simp only at c0 c1 c2 hnv l1 l2 hl2
   subst hnv
   unfold maxLen at l1 l2 hm2
   by_cases hq : nm.size ≤ 32 ∧ cm.size ≤ 256 ∧ ss.length ≤ 16
   ·
    obtain ⟨b1, b2, b3⟩ := hq
    have HF := Lib.hid (show ptFits (Tg.plain ⟨nm, cm, .slice A2 ss.length cp2, ss⟩) = true by rw [ptFits_eq]; simp [b1, b2, b3])
    go_wp2
    go_round
    case rel =>
     refine ⟨k + 1, by omega, by go_num, fun j t hj e => ?_⟩
     rcases Nat.lt_or_ge j k with h | h
     ·
      exact HA.out j t h e
     ·
      have : j = k := by omega
      subst this
      rw [HS.out] at e
      injection e with e
      rw [← e]
      exact HF.out
    case measure => simp [intOf]; omega
   ·
    have hf : ptFits (Tg.plain ⟨nm, cm, .slice A2 ss.length cp2, ss⟩) = false := by
     rw [ptFits_eq]
     by_cases h1 : nm.size ≤ 32
     ·
      by_cases h2 : cm.size ≤ 256
      ·
       have h3 : ¬ ss.length ≤ 16 := fun h3 => hq ⟨h1, h2, h3⟩
       simp [h3]
      ·
       simp [h2]
     ·
      simp [h1]
    have hR : R = false := by
     rw [EF.out, not_all_plain HS.out hf, Bool.and_false]
    subst hR
    have HB : ¬ nm.size ≤ 32 ∨ (nm.size ≤ 32 ∧ ¬ cm.size ≤ 256) ∨ (nm.size ≤ 32 ∧ cm.size ≤ 256 ∧ ¬ ss.length ≤ 16) := by omega
    clear hq hf
    rcases HB with hb | ⟨ha, hb⟩ | ⟨ha, ha', hb⟩
    all_goals
     go_wp2
     go_ret
     exact ⟨rfl, HK0.out⟩
  ·
   have hR : R = decide (ts.length ≤ 32) := by
    rw [EF.out, all_plain (fun j t hj => HA.out j t (by have := (List.getElem?_eq_some_iff.1 hj).1; omega) hj), Bool.and_true]
   have HR := Lib.hid hR
   clear hR
   go_wp2
   go_ret
   refine ⟨ret_bool ?_, HK0.out⟩
   rw [HR.out, Bool.eq_iff_iff]
   simp
   omega
set_option maxRecDepth 100000 in
set_option maxHeartbeats 4000000 in
theorem refCheck_any (w : World) (D : Nat → Prop) (v : Value) (ts : List Tg) (h : Tgs w D v ts) :
  Calls Tryz.prog 52 #[.agg #[v]] w fun e w' => e = .returned (.int .i64 (grCheck (ts.map Tg.plain))) ∧ Keep noneOf w w' := by
 have HH := Lib.hid h
 obtain ⟨A, c, rfl, hlc, hcm, hn, hxl, hc⟩ := h.1
 unfold maxLen at hcm
 have EC := Lib.hid (show grCheck (ts.map Tg.plain) = if grFits (ts.map Tg.plain) = false then 71 else if grFormed (ts.map Tg.plain) = false then 70 else if grClosed (ts.map Tg.plain) = false then 72 else if (placesOf (ts.map Tg.plain)).length < (ts.map Tg.plain).length then 73 else 0 from rfl)
 generalize grCheck (ts.map Tg.plain) = R at *
 have ka := (Keep.refl noneOf w).alloc (.cells #[.slice A ts.length c] 35)
 have HK0 := Lib.hid ka
 have HX0 := Lib.hid (Box.new w 35 #[.slice A ts.length c])
 have FI := refLong_any _ D _ ts (HH.out.keep ka (fun _ _ _ => id))
 have HC := Lib.hid hc
 have HT := Lib.hid h.2
 clear hc h hxl hn
 cases hF : grFits (ts.map Tg.plain) with
 | false =>
  have hR : R = 71 := by rw [EC.out, if_pos hF]
  subst hR
  rw [hF] at FI
  have HFI := Lib.hid FI
  clear FI hF ka
  go_enter Tryz.func52, Tryz.ntmps52
  go_wp2_with fail
  refine HFI.out.mono ?_
  rintro e w1 ⟨rfl, k1⟩
  go_wp2
  go_ret
  exact ⟨rfl, HK0.out.trans k1 (fun _ _ h => h)⟩
 | true =>
  obtain ⟨h32, hfew⟩ := fits_few hF
  have HFEW := Lib.hid hfew
  rw [hF, if_neg (by decide)] at EC
  rw [hF] at FI
  have HFI := Lib.hid FI
  clear FI hF ka hfew
  by_cases h0 : ts = []
  ·
   have hR : R = 70 := by rw [EC.out, h0]; rfl
   subst hR h0
   go_enter Tryz.func52, Tryz.ntmps52
   go_wp2_with fail
   refine HFI.out.mono ?_
   rintro e w1 ⟨rfl, k1⟩
   have K1 := HK0.out.trans k1 (fun _ _ h => h)
   have x1 : w1.cell? ⟨w.heap.size, 0, none⟩ = some (.slice A ([] : List Tg).length c) := (HX0.out.keep k1 id).cell 0
   clear k1 HFI HK0 HX0
   go_wp2
   go_ret
   exact ⟨rfl, K1⟩
  ·
   have hpos : 0 < ts.length := List.length_pos_iff.2 h0
   have hne : ((ts.length : Int) == 0) = false := by rw [beq_eq_false_iff_ne]; omega
   have HN0 := Lib.hid h0
   clear h0
   go_enter Tryz.func52, Tryz.ntmps52
   go_wp2_with fail
   refine HFI.out.mono ?_
   rintro e w1 ⟨rfl, k1⟩
   have HK1 := Lib.hid (HK0.out.trans k1 (fun _ _ h => h))
   have HX1 := Lib.hid (HX0.out.keep k1 id)
   have x1 : w1.cell? ⟨w.heap.size, 0, none⟩ = some (.slice A ts.length c) := HX1.out.cell 0
   clear k1 HFI HK0 HX0
   go_wp2_with fail
   clear x1
   go_loopw [3] (fun i wr => ∃ k : Nat, k ≤ ts.length ∧ i = .int .i64 k ∧ Keep noneOf w wr ∧ Box wr w.heap.size 35 #[.slice A ts.length c] ∧ ∀ j t, j < k → ts[j]? = some t → ptFormed (ts.map Tg.plain) j t.plain = true) (fun i _ => ts.length - (intOf i).toNat)
   case atStart => exact ⟨0, Nat.zero_le _, rfl, HK1.out, HX1.out, fun j _ hj => absurd hj (by omega)⟩
   case round =>
    obtain ⟨k, hk, rfl, hkeep, hX, hall⟩ := hrel
    have HA := Lib.hid hall
    have HKP := Lib.hid hkeep
    have x0 : wr.cell? ⟨w.heap.size, 0, none⟩ = some (.slice A ts.length c) := hX.cell 0
    have hz := hX.lt
    have HX := Lib.hid hX
    clear hall HK1 HX1 hX
    by_cases hlt : k < ts.length
    ·
     obtain ⟨ad, rfl, hsp, hblk, hD, hcell⟩ := HC.out (by omega)
     obtain ⟨b, o, sp⟩ := ad
     simp only at hsp hblk hD hcell
     subst hsp
     have HS := Lib.hid (List.getElem?_eq_getElem hlt)
     have hlies := HT.out _ (List.getElem_mem hlt)
     generalize ts[k] = t at *
     obtain ⟨c0, c1, c2⟩ := tgs_at hkeep hblk hcell HS.out
     have HEQ := Lib.hid (show ptFormed (ts.map Tg.plain) k t.plain = (decide (findIx (ts.map Tg.plain) t.name = some k) && isNameB t.name && isCmdB t.cmd && decide t.needs.Nodup) from rfl)
     obtain ⟨nm, cm, nv, ss⟩ := t
     obtain ⟨l1, l2, hstr⟩ := hlies
     obtain ⟨⟨A2, cp2, hnv, hl2, hm2, _, _, hrow⟩, _⟩ := id hstr
     simp only at c0 c1 c2 hnv l1 l2 hl2 hstr HEQ hrow
     subst hnv
     unfold maxLen at hm2
     obtain ⟨f, hf⟩ := findIx_there (plain_at HS.out)
     have hfn : findIx (ts.map Tg.plain) nm = some f := hf
     rw [hfn] at HEQ
     have ka := (Keep.refl noneOf wr).alloc (.cells #[.string nm, .string cm, .slice A2 ss.length cp2] 64)
     have HF := refFind_any _ D _ ts nm ((HH.out.keep hkeep (fun _ _ _ => id)).keep ka (fun _ _ _ => id))
     rw [hfn] at HF
     have HFF := Lib.hid HF
     have HY0 := Lib.hid (Box.new wr 64 #[.string nm, .string cm, .slice A2 ss.length cp2])
     have HX1 := Lib.hid (HX.out.alloc (.cells #[.string nm, .string cm, .slice A2 ss.length cp2] 64))
     have HK1 := Lib.hid (hkeep.alloc (.cells #[.string nm, .string cm, .slice A2 ss.length cp2] 64))
     have HROW := Lib.hid hrow
     have HL1 := Lib.hid l1
     have HL2 := Lib.hid l2
     clear hcell hkeep hf hfn HF ka hstr HX hrow l1 l2
     go_wp2_with fail
     refine (refName_any _ nm HL1.out).mono ?_
     rintro e w2 ⟨rfl, rfl⟩
     generalize isNameB nm = N at *
     go_wp2_with fail
     refine (refCmd_any _ cm HL2.out).mono ?_
     rintro e w2 ⟨rfl, rfl⟩
     generalize isCmdB cm = M at *
     go_wp2_with fail
     refine HFF.out.mono ?_
     rintro e w2 ⟨rfl, k2⟩
     simp only [Option.getD_some, Option.isSome_some]
     have Y2 := HY0.out.keep k2 id
     have X2 := HX1.out.keep k2 id
     have K2 := HK1.out.trans k2 (fun _ _ h => h)
     have HY2 := Lib.hid Y2
     have HX2 := Lib.hid X2
     have HK2 := Lib.hid K2
     have hty := Y2.lt
     clear HFF HY0 HX1 HK1 k2 Y2 X2 K2
     by_cases hgood : N = true ∧ M = true ∧ f = k
     ·
      obtain ⟨rfl, rfl, rfl⟩ := hgood
      have HEQ2 := Lib.hid (show ptFormed (ts.map Tg.plain) f (Tg.plain ⟨nm, cm, .slice A2 ss.length cp2, ss⟩) = decide ss.Nodup by rw [HEQ.out]; simp)
      clear HEQ
      have hff : ((f : Int) != (f : Int)) = false := by simp
      go_wp2
      generalize w2 = W2 at *
      generalize wr.heap.size = tb at *
      go_loopw [9] (fun i wx => ∃ a : Nat, a ≤ ss.length ∧ i = .int .i64 a ∧ Keep noneOf W2 wx ∧ (ss.take a).Nodup) (fun i _ => ss.length - (intOf i).toNat)
      case atStart => exact ⟨0, Nat.zero_le _, rfl, Keep.refl _ _, List.nodup_nil⟩
      case round =>
       obtain ⟨a, ha, rfl, hka, hnd⟩ := hrel
       have HND := Lib.hid hnd
       have HKA := Lib.hid hka
       have y2 : wr.cell? ⟨tb, 2, none⟩ = some (.slice A2 ss.length cp2) := (HY2.out.keep hka id).cell 2
       clear hnd hka
       by_cases hal : a < ss.length
       ·
        obtain ⟨ad2, rfl, hsp2, hblk2, _, hcell2⟩ := HROW.out (by omega)
        obtain ⟨bb, oo, sp2⟩ := ad2
        simp only at hsp2 hblk2 hcell2
        subst hsp2
        have HCA : Hid (∀ (w' : World) (j : Nat) (s : ByteArray), Keep noneOf w w' → ss[j]? = some s → w'.cell? ⟨bb, oo + j, none⟩ = some (.string s)) := fun w' j s kw hs => (kw.cell (p := ⟨bb, oo + j, none⟩) hblk2 id).trans (hcell2 j _ (by rw [List.getElem?_map, hs]; rfl))
        have HSA := Lib.hid (List.getElem?_eq_getElem hal)
        generalize ss[a] = sa' at *
        clear hcell2 hblk2
        go_wp2
        generalize wr = W3 at *
        go_loopw [10] (fun i wx => ∃ j : Nat, j ≤ a ∧ i = .int .i64 j ∧ Keep noneOf W3 wx ∧ ∀ (i' : Nat) (x : ByteArray), i' < j → ss[i']? = some x → x ≠ sa') (fun i _ => a - (intOf i).toNat)
        case atStart => exact ⟨0, Nat.zero_le _, rfl, Keep.refl _ _, fun j _ hj => absurd hj (by omega)⟩
        case round =>
         obtain ⟨j, hj, rfl, hkj, hall3⟩ := hrel
         have HA3 := Lib.hid hall3
         have KW := HK2.out.trans (HKA.out.trans hkj (fun _ _ h => h)) (fun _ _ h => h)
         have HKJ := Lib.hid (HKA.out.trans hkj (fun _ _ h => h))
         have HKJ3 := Lib.hid hkj
         have y3 : wr.cell? ⟨tb, 2, none⟩ = some (.slice (some ⟨bb, oo, none⟩) ss.length cp2) := (HY2.out.keep HKJ.out id).cell 2
         clear hall3 hkj
         by_cases hja : j < a
         ·
          have hjl : j < ss.length := by omega
          have ca := HCA.out wr a sa' KW HSA.out
          have cj := HCA.out wr j ss[j] KW (List.getElem?_eq_getElem hjl)
          have HSJ := Lib.hid (List.getElem?_eq_getElem hjl)
          generalize ss[j] = sj at *
          have HKW := Lib.hid KW
          clear KW
          have g1 : (0 : Int) ≤ (j : Int) := by omega
          have g2 : (j : Int) < (ss.length : Int) := by omega
          have g3 : (0 : Int) ≤ (a : Int) := by omega
          have g4 : (a : Int) < (ss.length : Int) := by omega
          by_cases hs : sj = sa'
          ·
           subst hs
           have hR : R = 70 := by
            rw [EC.out, if_pos]
            refine grFormed_false HS.out ?_
            rw [HEQ2.out]
            refine decide_eq_false (nodup_not HSA.out (List.mem_of_getElem? (i := j) ?_))
            rw [List.getElem?_take, if_pos hja]
            exact HSJ.out
           subst hR
           go_wp2
           go_quiet (fail)
           go_wp2
           go_ret
           exact ⟨rfl, HKW.out.drewN _⟩
          ·
           have g : (sj.toList == sa'.toList) = false := by rw [str_beq]; simp [hs]
           have HNE := Lib.hid hs
           clear hs
           go_wp2
           go_quiet (fail)
           go_wp2
           go_roundw
           case rel =>
            refine ⟨j + 1, by omega, by go_num, HKJ3.out.drewN _, fun i' x hi' e => ?_⟩
            rcases Nat.lt_or_ge i' j with h | h
            ·
             exact HA3.out i' x h e
            ·
             have : i' = j := by omega
             subst this
             rw [HSJ.out] at e
             injection e with e
             rw [← e]
             exact HNE.out
           case measure => simp [intOf]; omega
         ·
          have HN2 := Lib.hid (nodup_more HSA.out HND.out (fun hm => by
           obtain ⟨i', hi'⟩ := List.getElem?_of_mem hm
           rw [List.getElem?_take] at hi'
           split at hi'
           ·
            exact HA3.out i' _ (by omega) hi' rfl
           ·
            cases hi'))
          go_wp2
          go_roundw
          case rel => exact ⟨a + 1, by omega, by go_num, HKJ.out, HN2.out⟩
          case measure => simp [intOf]; omega
       ·
        have HF1 := Lib.hid (show ptFormed (ts.map Tg.plain) f (Tg.plain ⟨nm, cm, .slice A2 ss.length cp2, ss⟩) = true by
         rw [HEQ2.out]
         have h1 := HND.out
         rw [List.take_of_length_le (by omega)] at h1
         exact decide_eq_true h1)
        have HK4 := Lib.hid (HK2.out.trans HKA.out (fun _ _ h => h))
        have HX4 := Lib.hid (HX2.out.keep HKA.out id)
        go_wp2
        go_roundw
        case rel =>
         refine ⟨f + 1, by omega, by go_num, HK4.out, HX4.out, fun j t hj e => ?_⟩
         rcases Nat.lt_or_ge j f with h | h
         ·
          exact HA.out j t h e
         ·
          have : j = f := by omega
          subst this
          rw [HS.out] at e
          injection e with e
          rw [← e]
          exact HF1.out
        case measure => simp [intOf]; omega
     ·
      have hR : R = 70 := by
       rw [EC.out, if_pos]
       refine grFormed_false HS.out ?_
       rw [HEQ.out]
       cases N with
       | false => simp
       | true =>
        cases M with
        | false => simp
        | true =>
         have : f ≠ k := fun e => hgood ⟨rfl, rfl, e⟩
         simp [this]
      subst hR
      have hbad : N = false ∨ (N = true ∧ M = false) ∨ (N = true ∧ M = true ∧ f ≠ k) := by
       cases N with
       | false => exact .inl rfl
       | true =>
        cases M with
        | false => exact .inr (.inl ⟨rfl, rfl⟩)
        | true => exact .inr (.inr ⟨rfl, rfl, fun e => hgood ⟨rfl, rfl, e⟩⟩)
      clear hgood HEQ
      rcases hbad with rfl | ⟨rfl, rfl⟩ | ⟨rfl, rfl, hfk⟩
      ·
       go_wp2
       go_ret
       exact ⟨rfl, HK2.out⟩
      ·
       go_wp2
       go_ret
       exact ⟨rfl, HK2.out⟩
      ·
       have g : ((f : Int) != (k : Int)) = true := by rw [bne_iff_ne]; omega
       have g' : ((f : Int) == (k : Int)) = false := by rw [beq_eq_false_iff_ne]; omega
       clear hfk
       go_wp2
       go_ret
       exact ⟨rfl, HK2.out⟩
    ·
     have hform : grFormed (ts.map Tg.plain) = true := grFormed_true HN0.out (fun j t hj => HA.out j t (by have := (List.getElem?_eq_some_iff.1 hj).1; omega) hj)
     rw [hform, if_neg (by decide)] at EC
     have hkn : ¬ ((k : Int) < (ts.length : Int)) := by omega
     clear hform HA hlt hkeep
     go_wp2
     generalize wr = W5 at *
     go_loopw [11] (fun i wx => ∃ k' : Nat, k' ≤ ts.length ∧ i = .int .i64 k' ∧ Keep noneOf W5 wx ∧ ∀ j t, j < k' → ts[j]? = some t → (needsOf (ts.map Tg.plain) t.plain).length = t.needs.length) (fun i _ => ts.length - (intOf i).toNat)
     case atStart => exact ⟨0, Nat.zero_le _, rfl, Keep.refl _ _, fun j _ hj => absurd hj (by omega)⟩
     case round =>
      obtain ⟨q, hq, rfl, hkq, hall⟩ := hrel
      have HA := Lib.hid hall
      have HKQ := Lib.hid hkq
      have K6 := HKP.out.trans hkq (fun _ _ h => h)
      have X6 := HX.out.keep hkq id
      have x6 : wr.cell? ⟨w.heap.size, 0, none⟩ = some (.slice A ts.length c) := X6.cell 0
      clear hall hkq
      by_cases hlt : q < ts.length
      ·
       obtain ⟨ad, rfl, hsp, hblk, hD, hcell⟩ := HC.out (by omega)
       obtain ⟨b, o, sp⟩ := ad
       simp only at hsp hblk hD hcell
       subst hsp
       have HS := Lib.hid (List.getElem?_eq_getElem hlt)
       have hlies := HT.out _ (List.getElem_mem hlt)
       generalize ts[q] = t at *
       have hle := needsOf_le (ts.map Tg.plain) t.plain
       have HNA := Lib.hid (needsAt_at HS.out)
       have CC : Hid (∀ w', Keep noneOf wr w' → w'.cell? ⟨b, o + q * 3 + 2, none⟩ = some t.nv) := fun w' k' => (tgs_at (K6.trans k' (fun _ _ h => h)) hblk hcell HS.out).2.2
       obtain ⟨nm, cm, nv, ss⟩ := t
       obtain ⟨l1, l2, ⟨A2, cp2, hnv, hl2, hm2, _⟩, _⟩ := hlies
       simp only at hnv hl2 CC
       subst hnv
       unfold maxLen at hm2
       have hle' : (needsOf (ts.map Tg.plain) (Tg.plain ⟨nm, cm, .slice A2 ss.length cp2, ss⟩)).length ≤ ss.length := hle
       obtain ⟨ns, hns⟩ : ∃ ns, needsOf (ts.map Tg.plain) (Tg.plain ⟨nm, cm, .slice A2 ss.length cp2, ss⟩) = ns := ⟨_, rfl⟩
       rw [hns] at HNA hle'
       have HNS := Lib.hid hns
       have MK : Hid (∀ w', Keep noneOf wr w' → w'.cell? ⟨w.heap.size, 0, none⟩ = some (.slice (some ⟨b, o, none⟩) ts.length c) ∧ w'.cell? ⟨b, o + q * 3 + 2, none⟩ = some (.slice A2 ss.length cp2)) := fun w' k => ⟨(X6.keep k id).cell 0, CC.out w' k⟩
       have NE : Hid (∀ w', Keep noneOf wr w' → Calls Tryz.prog 93 #[.agg #[.slice (some ⟨b, o, none⟩) ts.length c], .int .i64 (q : Int)] w' (ToldInts ns w')) := fun w' k' => by
        have := refNeeds_any w' D _ ts (q : Int) (HH.out.keep (K6.trans k' (fun _ _ h => h)) (fun _ _ _ => id)) HFEW.out
        rwa [HNA.out] at this
       have K00 := Keep.refl noneOf wr
       have HK6 := Lib.hid K6
       clear hcell hle hns K6 X6 CC l1 l2 HNA
       have g1 : (0 : Int) ≤ (q : Int) := by omega
       have g2 : (q : Int) < (ts.length : Int) := by omega
       go_wp2
       go_region_held3 (fun w' => Keep noneOf wr w' ∧ w'.cell? ⟨w.heap.size, 0, none⟩ = some (.slice (some ⟨b, o, none⟩) ts.length c) ∧ w'.cell? ⟨b, o + q * 3 + 2, none⟩ = some (.slice A2 ss.length cp2)) (first | exact ⟨K00.drew, MK.out _ K00.drew⟩ | (refine (fun k => ⟨k, MK.out _ k⟩) ?_; exact Keep.trans (And.left (by assumption)) (by assumption) (fun _ _ h => h)))
        (first | (go_at_call 93; refine (NE.out _ (And.left (by assumption))).mono ?_; rintro e w' ⟨v', rfl, hi', k'⟩; obtain ⟨A', c', hv'⟩ := hi'.shape; subst hv'))
       have k2 : Keep noneOf wr w' := K00.drew.trans k' (fun _ _ h => h)
       have HKK := Lib.hid (HKQ.out.trans k2 (fun _ _ h => h))
       have HK7 := Lib.hid (HK6.out.trans k2 (fun _ _ h => h))
       clear hi' k' k2 NE MK K00 HK6
       by_cases hqq : ns.length < ss.length
       ·
        have hR : R = 72 := by
         rw [EC.out, if_pos]
         unfold grClosed
         rw [List.all_eq_false]
         refine ⟨_, List.mem_map.2 ⟨_, List.mem_of_getElem? HS.out, rfl⟩, ?_⟩
         rw [HNS.out]
         intro h
         have h2 : ns.length = ss.length := of_decide_eq_true h
         exact absurd h2 (Nat.ne_of_lt hqq)
        subst hR
        go_wp2
        go_ret
        exact ⟨rfl, HK7.out⟩
       ·
        have HEQ := Lib.hid (show ns.length = ss.length by omega)
        go_wp2
        go_roundw
        case rel =>
         refine ⟨q + 1, by omega, by go_num, HKK.out, fun j t hj e => ?_⟩
         rcases Nat.lt_or_ge j q with h | h
         ·
          exact HA.out j t h e
         ·
          have : j = q := by omega
          subst this
          rw [HS.out] at e
          injection e with e
          rw [← e, HNS.out]
          exact HEQ.out
        case measure => simp [intOf]; omega
      ·
       have hcl : grClosed (ts.map Tg.plain) = true := by
        unfold grClosed
        rw [List.all_eq_true]
        intro x hx
        obtain ⟨t, ht, rfl⟩ := List.mem_map.1 hx
        obtain ⟨j, hj⟩ := List.getElem?_of_mem ht
        exact decide_eq_true (HA.out j t (by have := (List.getElem?_eq_some_iff.1 hj).1; omega) hj)
       rw [hcl, if_neg (by decide), List.length_map] at EC
       have hqn : ¬ ((q : Int) < (ts.length : Int)) := by omega
       have MK : Hid (∀ w', Keep noneOf wr w' → w'.cell? ⟨w.heap.size, 0, none⟩ = some (.slice A ts.length c)) := fun w' k => (X6.keep k id).cell 0
       have AR : Hid (∀ w', Keep noneOf wr w' → Calls Tryz.prog 94 #[.agg #[.slice A ts.length c]] w' (ToldInts (placesOf (ts.map Tg.plain)) w')) := fun w' k' => refPlaces_any w' D _ ts (HH.out.keep (K6.trans k' (fun _ _ h => h)) (fun _ _ _ => id)) HFEW.out h32
       generalize placesOf (ts.map Tg.plain) = pl at *
       have K00 := Keep.refl noneOf wr
       have HK6 := Lib.hid K6
       clear hcl HA hlt K6 X6
       go_wp2
       go_region_held3 (fun w' => Keep noneOf wr w' ∧ w'.cell? ⟨w.heap.size, 0, none⟩ = some (.slice A ts.length c)) (first | exact ⟨K00.drew, MK.out _ K00.drew⟩ | (refine (fun k => ⟨k, MK.out _ k⟩) ?_; exact Keep.trans (And.left (by assumption)) (by assumption) (fun _ _ h => h)))
        (first | (go_at_call 94; refine (AR.out _ (And.left (by assumption))).mono ?_; rintro e w' ⟨v', rfl, hi', k'⟩; obtain ⟨A', c', hv'⟩ := hi'.shape; subst hv'))
       have k2 : Keep noneOf wr w' := K00.drew.trans k' (fun _ _ h => h)
       have K7 := HK6.out.trans k2 (fun _ _ h => h)
       clear hi' k' k2 AR MK K00 HK6
       by_cases hqq : pl.length < ts.length
       ·
        have hR : R = 73 := by rw [EC.out, if_pos hqq]
        subst hR
        go_wp2
        go_ret
        exact ⟨rfl, K7⟩
       ·
        have hR : R = 0 := by rw [EC.out, if_neg hqq]
        subst hR
        go_wp2
        go_ret
        exact ⟨rfl, K7⟩
end Go.Proofs.YtffoeodjbbkdjaaGreat
