/-
  The walks of dockyardlaw07.GraphTexts and GraphBack.
-/
import Derived.Test.YtfijbjbfnpadmaaDoorGpSame
import Derived.Test.YtfijbjbfnpadmaaDoorGpBackM
import Derived.Test.YtfijbjbfnpadmaaDoorGrAlive
import Derived.Test.YtfijbjbfnpadmaaDoorGrRPrint
namespace Go.Proofs.YtfijbjbfnpadmaaDoor
open Go.RowKit

set_option maxRecDepth 100000 in
set_option maxHeartbeats 4000000 in
theorem texts_walk (w : World) (A : Option Addr) (c : Nat) (ts : List Tg) (h : Tgs w (fun _ => True) (.slice A ts.length c) ts) (s : ByteArray) (hs : s.size ≤ 2097152) (hm : MaxCell w) :
    Calls Tryd.prog 3 #[.agg #[.slice A ts.length c], .string s] w fun e w' => e = .returned (.bool true) ∧ Keep noneOf w w' := by
  have HX0 := Lib.hid (Box.new w 24 #[.slice A ts.length c])
  have k0 := (Keep.refl noneOf w).alloc (.cells #[.slice A ts.length c] 24)
  have HK0 := Lib.hid k0
  have PR : Hid (∀ w' : World, Keep noneOf w w' → Calls Tryd.prog 5 #[.agg #[.slice A ts.length c]] w' fun e w'' => e = .returned (.tuple #[.string ⟨(printOf (ts.map Tg.plain)).toArray⟩, .int .i64 (grCheck (ts.map Tg.plain))]) ∧ Keep noneOf w' w'') := Lib.hid fun w' k' => print_any w' _ _ ts (h.keep k' (fun _ _ _ => id))
  have RP : Hid (∀ w' : World, Keep noneOf w w' → Calls Tryd.prog 6 #[.agg #[.slice A ts.length c]] w' fun e w'' => e = .returned (.tuple #[.string ⟨(printOf (ts.map Tg.plain)).toArray⟩, .int .i64 (grCheck (ts.map Tg.plain))]) ∧ Keep noneOf w' w'') := Lib.hid fun w' k' => refPrint_any w' _ _ ts (h.keep k' (fun _ _ _ => id))
  have PA : Hid (∀ w' : World, Keep noneOf w w' → Calls Tryd.prog 7 #[.string s] w' (ToldGraph (parseRes (bl s)) w')) := Lib.hid fun w' k' => parse_any w' s (hm.keep k' id) hs
  have RA : Hid (∀ w' : World, Calls Tryd.prog 8 #[.string s] w' (ToldGraph (parseRes (bl s)) w')) := Lib.hid fun w' => refParse_any w' s hs
  generalize grCheck (ts.map Tg.plain) = ck at *
  generalize (⟨(printOf (ts.map Tg.plain)).toArray⟩ : ByteArray) = pt at *
  generalize parseRes (bl s) = R at *
  obtain ⟨ps, er⟩ := R
  have y0 := HX0.out.cell 0
  simp only [List.getElem?_toArray, List.getElem?_cons_zero] at y0
  clear h hm k0
  go_enter Tryd.func3, Tryd.ntmps3
  go_wp2_with fail
  refine (PR.out _ HK0.out).mono ?_
  rintro e w1 ⟨rfl, k1⟩
  have HX1 := Lib.hid (HX0.out.keep k1 id)
  have HK1 := Lib.hid (HK0.out.trans k1 (fun _ _ h => h))
  clear PR k1 HX0 HK0 y0
  have y0 := HX1.out.cell 0
  simp only [List.getElem?_toArray, List.getElem?_cons_zero] at y0
  go_wp2_with fail
  refine (RP.out _ HK1.out).mono ?_
  rintro e w2 ⟨rfl, k2⟩
  have HK2 := Lib.hid (HK1.out.trans k2 (fun _ _ h => h))
  clear RP k2 HX1 HK1 y0
  go_wp2_with fail
  refine (PA.out _ HK2.out).mono ?_
  rintro e w3 ⟨A3, c3, ts3, rfl, hp3, hT3, k3⟩
  have k4 := (Keep.refl noneOf w3).alloc (.cells #[.slice A3 ts3.length c3] 24)
  have HX4 := Lib.hid (Box.new w3 24 #[.slice A3 ts3.length c3])
  have HK4 := Lib.hid ((HK2.out.trans k3 (fun _ _ h => h)).trans k4 (fun _ _ h => h))
  have HT4 := Lib.hid (hT3.keep k4 (fun _ _ _ => id))
  have HP3 := Lib.hid hp3
  clear PA k3 k4 HK2 hT3 hp3
  go_wp2_with fail
  refine (RA.out _).mono ?_
  rintro e w5 ⟨A5, c5, ts5, rfl, hp5, hT5, k5⟩
  have k6 := (Keep.refl noneOf w5).alloc (.cells #[.slice A5 ts5.length c5] 24)
  have HX6 := Lib.hid ((HX4.out.keep k5 id).keep k6 id)
  have HZ6 := Lib.hid (Box.new w5 24 #[.slice A5 ts5.length c5])
  have HK6 := Lib.hid ((HK4.out.trans k5 (fun _ _ h => h)).trans k6 (fun _ _ h => h))
  have HT6 := Lib.hid ((HT4.out.keep k5 (fun _ _ _ => id)).keep k6 (fun _ _ _ => id))
  have HU6 := Lib.hid (hT5.keep k6 (fun _ _ _ => id))
  have HP5 := Lib.hid hp5
  clear RA k5 k6 HX4 HK4 HT4 hT5 hp5
  go_upto_region 5 with fail
  generalize w5.alloc (.cells #[.slice A5 ts5.length c5] 24) = w6 at *
  have SG : Hid (∀ w' : World, Keep noneOf w6 w' → Calls Tryd.prog 10 #[.agg #[.slice A3 ts3.length c3], .agg #[.slice A5 ts5.length c5]] w' fun e w'' => e = .returned (.bool true) ∧ Keep noneOf w' w'') := Lib.hid fun w' k' => by
    have h := sameGraph_any w' _ _ _ _ ts3 ts5 (HT6.out.keep k' (fun _ _ _ => id)) (HU6.out.keep k' (fun _ _ _ => id))
    rw [HP3.out, HP5.out, decide_eq_true rfl] at h
    exact h
  have MK : Hid (∀ w', Keep noneOf w6 w' → w'.cell? ⟨w3.heap.size, 0, none⟩ = some (.slice A3 ts3.length c3) ∧ w'.cell? ⟨w5.heap.size, 0, none⟩ = some (.slice A5 ts5.length c5)) := Lib.hid fun w' k' => ⟨(HX6.out.keep k' id).cell 0, (HZ6.out.keep k' id).cell 0⟩
  have g1 : (pt.toList == pt.toList) = true := beq_self_eq_true _
  clear HX6 HZ6 HT6 HU6
  go_wp2_with fail
  refine (alive_any w6).mono ?_
  rintro e w7 ⟨rfl, k7⟩
  obtain ⟨a0, b0⟩ := MK.out _ k7
  have SG7 := Lib.hid (SG.out _ k7)
  have HK7 := Lib.hid (HK6.out.trans k7 (fun _ _ h => h))
  clear k7 SG MK HK6
  go_wp2_with fail
  refine SG7.out.mono ?_
  rintro e w8 ⟨rfl, k8⟩
  have HK8 := Lib.hid (HK7.out.trans k8 (fun _ _ h => h))
  clear k8 SG7 HK7 a0 b0
  go_wp2
  go_ret
  exact ⟨rfl, HK8.out⟩

set_option maxRecDepth 100000 in
set_option maxHeartbeats 4000000 in
theorem back_walk (w : World) (A : Option Addr) (c : Nat) (ts : List Tg) (h : Tgs w (fun _ => True) (.slice A ts.length c) ts) (s : ByteArray) (hs : s.size ≤ 2097152) (hm : MaxCell w) :
    Calls Tryd.prog 4 #[.agg #[.slice A ts.length c], .string s] w fun e w' => e = .returned (.bool true) ∧ Keep noneOf w w' := by
  have HX0 := Lib.hid (Box.new w 24 #[.slice A ts.length c])
  have k0 := (Keep.refl noneOf w).alloc (.cells #[.slice A ts.length c] 24)
  have HK0 := Lib.hid k0
  have HH := Lib.hid h
  have PR := print_any _ _ _ ts (h.keep k0 (fun _ _ _ => id))
  have PA : Hid (∀ w' : World, Keep noneOf w w' → Calls Tryd.prog 7 #[.string s] w' (ToldGraph (parseRes (bl s)) w')) := Lib.hid fun w' k' => parse_any w' s (hm.keep k' id) hs
  generalize hR : parseRes (bl s) = R at PA
  obtain ⟨ps, er⟩ := R
  have HR := Lib.hid hR
  have y0 := HX0.out.cell 0
  simp only [List.getElem?_toArray, List.getElem?_cons_zero] at y0
  by_cases hc : grCheck (ts.map Tg.plain) = 0
  · have hbk := back_print hc
    obtain ⟨l1, l2⟩ := check_lim hc
    have hlt : (grText (ts.map Tg.plain)).length ≤ 32000 := by
      have := grText_le l2 l1 ts.length
      rwa [List.take_length] at this
    have hpo : printOf (ts.map Tg.plain) = grText (ts.map Tg.plain) := by unfold printOf; rw [if_pos hc]
    rw [hpo, hc] at PR
    have HPR := Lib.hid PR
    have PB : Hid (∀ w' : World, Keep noneOf w w' → Calls Tryd.prog 7 #[.string ⟨(grText (ts.map Tg.plain)).toArray⟩] w' (ToldGraph (ts.map Tg.plain, 0) w')) := Lib.hid fun w' k' => by
      have h := parse_any w' (mk (grText (ts.map Tg.plain))) (hm.keep k' id) (by rw [mk_size]; omega)
      rw [bl_mk, hbk] at h
      exact h
    clear PR hpo hlt l1 l2 hbk hc h hm k0 hR
    generalize (⟨(grText (ts.map Tg.plain)).toArray⟩ : ByteArray) = pt at *
    go_enter Tryd.func4, Tryd.ntmps4
    go_wp2_with fail
    refine HPR.out.mono ?_
    rintro e w1 ⟨rfl, k1⟩
    have HX1 := Lib.hid (HX0.out.keep k1 id)
    have HK1 := Lib.hid (HK0.out.trans k1 (fun _ _ h => h))
    clear HPR k1 HX0 HK0 y0
    go_wp2_with fail
    refine (PB.out _ HK1.out).mono ?_
    rintro e w3 ⟨A3, c3, ts3, rfl, hp3, hT3, k3⟩
    have k4 := (Keep.refl noneOf w3).alloc (.cells #[.slice A3 ts3.length c3] 24)
    have HX4 := Lib.hid (Box.new w3 24 #[.slice A3 ts3.length c3])
    have HZ4 := Lib.hid ((HX1.out.keep k3 id).keep k4 id)
    have HK4 := Lib.hid ((HK1.out.trans k3 (fun _ _ h => h)).trans k4 (fun _ _ h => h))
    have HT4 := Lib.hid (hT3.keep k4 (fun _ _ _ => id))
    have HP3 := Lib.hid hp3
    clear PB k3 k4 HX1 HK1 hT3 hp3
    go_upto_region 4 with fail
    generalize w3.alloc (.cells #[.slice A3 ts3.length c3] 24) = w4 at *
    have SG := sameGraph_any w4 _ _ _ _ ts3 ts HT4.out (HH.out.keep HK4.out (fun _ _ _ => id))
    rw [HP3.out, decide_eq_true rfl] at SG
    have HSG := Lib.hid SG
    have y4 := HX4.out.cell 0
    have z4 := HZ4.out.cell 0
    simp only [List.getElem?_toArray, List.getElem?_cons_zero] at y4 z4
    clear SG HX4 HZ4 HT4
    go_wp2_with fail
    refine HSG.out.mono ?_
    rintro e w5 ⟨rfl, k5⟩
    have HK5 := Lib.hid (HK4.out.trans k5 (fun _ _ h => h))
    clear HSG k5 HK4 y4 z4
    go_wp2_with fail
    refine (PA.out _ HK5.out).mono ?_
    rintro e w6 ⟨A6, c6, ts6, rfl, hp6, hT6, k6⟩
    have k7 := (Keep.refl noneOf w6).alloc (.cells #[.slice A6 ts6.length c6] 24)
    have HX7 := Lib.hid (Box.new w6 24 #[.slice A6 ts6.length c6])
    have HK7 := Lib.hid ((HK5.out.trans k6 (fun _ _ h => h)).trans k7 (fun _ _ h => h))
    have HT7 := Lib.hid (hT6.keep k7 (fun _ _ _ => id))
    have HP6 := Lib.hid hp6
    clear PA k6 k7 hT6 hp6
    go_upto_region 7 with fail
    generalize w6.alloc (.cells #[.slice A6 ts6.length c6] 24) = w7 at *
    by_cases her : er = 0
    · subst her
      obtain ⟨q1, q2⟩ := (back_parse HR.out).resolve_left (fun h => h rfl)
      have PR7 := print_any w7 _ _ ts6 HT7.out
      rw [HP6.out, show printOf ps = bl s by unfold printOf; rw [if_pos q1]; exact q2, q1] at PR7
      have HPR := Lib.hid PR7
      have y7 := HX7.out.cell 0
      simp only [List.getElem?_toArray, List.getElem?_cons_zero] at y7
      have es : (⟨(bl s).toArray⟩ : ByteArray) = s := mk_bl s
      rw [es] at HPR
      clear PR7 q1 q2 HX7 HT7 es
      go_wp2_with fail
      refine HPR.out.mono ?_
      rintro e w8 ⟨rfl, k8⟩
      have HK8 := Lib.hid (HK7.out.trans k8 (fun _ _ h => h))
      clear HPR k8 y7 HK7
      have g1 : (s.toList == s.toList) = true := beq_self_eq_true _
      go_wp2_with fail
      refine (alive_any w8).mono ?_
      rintro e w9 ⟨rfl, k9⟩
      have HK9 := Lib.hid (HK8.out.trans k9 (fun _ _ h => h))
      clear k9 HK8
      go_wp2
      go_ret
      exact ⟨rfl, HK9.out⟩
    · have g1 : (er != 0) = true := by rw [bne_iff_ne]; exact her
      clear her HX7 HT7
      go_wp2_with fail
      refine (alive_any w7).mono ?_
      rintro e w9 ⟨rfl, k9⟩
      have HK9 := Lib.hid (HK7.out.trans k9 (fun _ _ h => h))
      clear k9 HK7
      go_wp2
      go_ret
      exact ⟨rfl, HK9.out⟩
  · have g0 : (grCheck (ts.map Tg.plain) == 0) = false := beq_eq_false_iff_ne.2 hc
    have HPR := Lib.hid PR
    generalize grCheck (ts.map Tg.plain) = ck at *
    generalize (⟨(printOf (ts.map Tg.plain)).toArray⟩ : ByteArray) = pt at *
    clear PR hc h hm k0 hR
    go_enter Tryd.func4, Tryd.ntmps4
    go_wp2_with fail
    refine HPR.out.mono ?_
    rintro e w1 ⟨rfl, k1⟩
    have HK1 := Lib.hid (HK0.out.trans k1 (fun _ _ h => h))
    clear HPR k1 HX0 HK0 y0
    go_wp2_with fail
    refine (PA.out _ HK1.out).mono ?_
    rintro e w6 ⟨A6, c6, ts6, rfl, hp6, hT6, k6⟩
    have k7 := (Keep.refl noneOf w6).alloc (.cells #[.slice A6 ts6.length c6] 24)
    have HX7 := Lib.hid (Box.new w6 24 #[.slice A6 ts6.length c6])
    have HK7 := Lib.hid ((HK1.out.trans k6 (fun _ _ h => h)).trans k7 (fun _ _ h => h))
    have HT7 := Lib.hid (hT6.keep k7 (fun _ _ _ => id))
    have HP6 := Lib.hid hp6
    clear PA k6 k7 hT6 hp6
    go_upto_region 7 with fail
    generalize w6.alloc (.cells #[.slice A6 ts6.length c6] 24) = w7 at *
    by_cases her : er = 0
    · subst her
      obtain ⟨q1, q2⟩ := (back_parse HR.out).resolve_left (fun h => h rfl)
      have PR7 := print_any w7 _ _ ts6 HT7.out
      rw [HP6.out, show printOf ps = bl s by unfold printOf; rw [if_pos q1]; exact q2, q1] at PR7
      have HPR := Lib.hid PR7
      have y7 := HX7.out.cell 0
      simp only [List.getElem?_toArray, List.getElem?_cons_zero] at y7
      have es : (⟨(bl s).toArray⟩ : ByteArray) = s := mk_bl s
      rw [es] at HPR
      clear PR7 q1 q2 HX7 HT7 es
      go_wp2_with fail
      refine HPR.out.mono ?_
      rintro e w8 ⟨rfl, k8⟩
      have HK8 := Lib.hid (HK7.out.trans k8 (fun _ _ h => h))
      clear HPR k8 y7 HK7
      have g1 : (s.toList == s.toList) = true := beq_self_eq_true _
      go_wp2_with fail
      refine (alive_any w8).mono ?_
      rintro e w9 ⟨rfl, k9⟩
      have HK9 := Lib.hid (HK8.out.trans k9 (fun _ _ h => h))
      clear k9 HK8
      go_wp2
      go_ret
      exact ⟨rfl, HK9.out⟩
    · have g1 : (er != 0) = true := by rw [bne_iff_ne]; exact her
      clear her HX7 HT7
      go_wp2_with fail
      refine (alive_any w7).mono ?_
      rintro e w9 ⟨rfl, k9⟩
      have HK9 := Lib.hid (HK7.out.trans k9 (fun _ _ h => h))
      clear k9 HK7
      go_wp2
      go_ret
      exact ⟨rfl, HK9.out⟩
end Go.Proofs.YtfijbjbfnpadmaaDoor
