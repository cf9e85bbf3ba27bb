/-
  Texts of the queue, merged: only what QueueTime wants.
-/
import Derived.Test.YtkoikmdmejhhhaaBt04
import Derived.Test.YtkoikmdmejhhhaaBt06
namespace Go.Proofs.Ytkoikmdmejhhhaa
open Go.RowKit
theorem fits_few {ts : List Tg} (h : grFits (ts.map Tg.plain) = true) : ts.length ≤ 32 ∧ fewNeeds ts := by
  unfold grFits at h
  rw [Bool.and_eq_true, List.all_eq_true, decide_eq_true_eq, List.length_map] at h
  refine ⟨h.1, fun t ht => ?_⟩
  have h2 := h.2 t.plain (List.mem_map.2 ⟨t, ht, rfl⟩)
  unfold ptFits at h2
  rw [Bool.and_eq_true, Bool.and_eq_true, decide_eq_true_eq, decide_eq_true_eq, decide_eq_true_eq] at h2
  have h3 : t.needs.length ≤ 16 := h2.2
  omega
set_option maxRecDepth 100000 in
set_option maxHeartbeats 1000000 in
theorem check_any (w : World) (D : Nat → Prop) (v : Value) (ts : List Tg) (h : Tgs w D v ts) :
    Calls Try.prog 39 #[.agg #[v]] w fun e w' => e = .returned (.int .i64 (grCheck (ts.map Tg.plain))) ∧ Keep noneOf w w' := by
  have HH := Lib.hid h
  obtain ⟨A, c, rfl, hlc, hcm, hn, hxl, hc⟩ := h.1
  unfold maxLen at hcm
  have EC := Lib.hid (show grCheck (ts.map Tg.plain) = if grFits (ts.map Tg.plain) = false then 71 else if grFormed (ts.map Tg.plain) = false then 70 else if grClosed (ts.map Tg.plain) = false then 72 else if (placesOf (ts.map Tg.plain)).length < (ts.map Tg.plain).length then 73 else 0 from rfl)
  generalize grCheck (ts.map Tg.plain) = R at *
  have ka := (Keep.refl noneOf w).alloc (.cells #[.slice A ts.length c] 29)
  have HK0 := Lib.hid ka
  have HX0 := Lib.hid (Box.new w 29 #[.slice A ts.length c])
  have FI := grFits_any _ D _ ts (HH.out.keep ka (fun _ _ _ => id))
  clear hc h hxl hn
  cases hF : grFits (ts.map Tg.plain) with
  | false =>
    have hR : R = 71 := by rw [EC.out, if_pos hF]
    subst hR
    rw [hF] at FI
    have HFI := Lib.hid FI
    clear FI hF ka
    go_enter Try.func39, Try.ntmps39
    go_wp2_with fail
    refine HFI.out.mono ?_
    rintro e w1 ⟨rfl, k1⟩
    go_wp2
    go_ret
    exact ⟨rfl, HK0.out.trans k1 (fun _ _ h => h)⟩
  | true =>
    obtain ⟨h32, hfew⟩ := fits_few hF
    have HFEW := Lib.hid hfew
    rw [hF, if_neg (by decide)] at EC
    rw [hF] at FI
    have HFI := Lib.hid FI
    clear FI hF ka hfew
    go_enter Try.func39, Try.ntmps39
    go_wp2_with fail
    refine HFI.out.mono ?_
    rintro e w1 ⟨rfl, k1⟩
    have K1 := HK0.out.trans k1 (fun _ _ h => h)
    have X1 := HX0.out.keep k1 id
    have x1 : w1.cell? ⟨w.heap.size, 0, none⟩ = some (.slice A ts.length c) := X1.cell 0
    have FO := grFormed_any w1 D _ ts (HH.out.keep K1 (fun _ _ _ => id))
    clear HFI HK0 HX0 k1
    cases hF : grFormed (ts.map Tg.plain) with
    | false =>
      have hR : R = 70 := by rw [EC.out, if_pos hF]
      subst hR
      rw [hF] at FO
      have HFO := Lib.hid FO
      clear FO hF
      go_wp2_with fail
      refine HFO.out.mono ?_
      rintro e w2 ⟨rfl, k2⟩
      go_wp2
      go_ret
      exact ⟨rfl, K1.trans k2 (fun _ _ h => h)⟩
    | true =>
      rw [hF, if_neg (by decide)] at EC
      rw [hF] at FO
      have HFO := Lib.hid FO
      clear FO hF
      go_wp2_with fail
      refine HFO.out.mono ?_
      rintro e w2 ⟨rfl, k2⟩
      have K2 := K1.trans k2 (fun _ _ h => h)
      have X2 := X1.keep k2 id
      have x2 : w2.cell? ⟨w.heap.size, 0, none⟩ = some (.slice A ts.length c) := X2.cell 0
      have CL := grClosed_any w2 D _ ts (HH.out.keep K2 (fun _ _ _ => id)) HFEW.out
      clear HFO K1 X1 x1 k2
      cases hF : grClosed (ts.map Tg.plain) with
      | false =>
        have hR : R = 72 := by rw [EC.out, if_pos hF]
        subst hR
        rw [hF] at CL
        have HCL := Lib.hid CL
        clear CL hF
        go_wp2_with fail
        refine HCL.out.mono ?_
        rintro e w3 ⟨rfl, k3⟩
        go_wp2
        go_ret
        exact ⟨rfl, K2.trans k3 (fun _ _ h => h)⟩
      | true =>
        rw [hF, if_neg (by decide)] at EC
        rw [hF] at CL
        have HCL := Lib.hid CL
        clear CL hF
        go_wp2_with fail
        refine HCL.out.mono ?_
        rintro e w3 ⟨rfl, k3⟩
        have K3 := K2.trans k3 (fun _ _ h => h)
        have X3 := X2.keep k3 id
        clear HCL K2 X2 x2 k3
        have HX3 := Lib.hid X3
        have HK3 := Lib.hid K3
        have MK : Hid (∀ w', Keep noneOf w3 w' → w'.cell? ⟨w.heap.size, 0, none⟩ = some (.slice A ts.length c)) := fun w' k => (X3.keep k id).cell 0
        have AR : Hid (∀ w', Keep noneOf w3 w' → Calls Try.prog 62 #[.agg #[.slice A ts.length c]] w' (ToldInts (placesOf (ts.map Tg.plain)) w')) := fun w' k' => arranged_any w' D _ ts (HH.out.keep (HK3.out.trans k' (fun _ _ h => h)) (fun _ _ _ => id)) HFEW.out h32
        rw [List.length_map] at EC
        have hpl : (placesOf (ts.map Tg.plain)).length ≤ 32 ∨ True := .inr trivial
        generalize placesOf (ts.map Tg.plain) = pl at *
        have K00 := Keep.refl noneOf w3
        clear X3 K3 hpl
        go_wp2
        go_region_held3 (fun w' => Keep noneOf w3 w' ∧ w'.cell? ⟨w.heap.size, 0, none⟩ = some (.slice A ts.length c)) (first | exact ⟨K00.drew, MK.out _ K00.drew⟩ | (refine (fun k => ⟨k, MK.out _ k⟩) ?_; exact Keep.trans (And.left (by assumption)) (by assumption) (fun _ _ h => h)))
          (first | (go_at_call 62; refine (AR.out _ (And.left (by assumption))).mono ?_; rintro e w' ⟨v', rfl, hi', k'⟩; obtain ⟨A', c', hv'⟩ := hi'.shape; subst hv'))
        have k4 : Keep noneOf w3 w' := K00.drew.trans k' (fun _ _ h => h)
        have K4 := HK3.out.trans k4 (fun _ _ h => h)
        clear hi' k' k4 AR MK K00 HK3 HX3
        by_cases hq : pl.length < ts.length
        · have hR : R = 73 := by rw [EC.out, if_pos hq]
          subst hR
          go_wp2
          go_ret
          exact ⟨rfl, K4⟩
        · have hR : R = 0 := by rw [EC.out, if_neg hq]
          subst hR
          go_wp2
          go_ret
          exact ⟨rfl, K4⟩
theorem check_fits {ps : List Pt} (h : grCheck ps = 0) : grFits ps = true ∧ grFormed ps = true ∧ grClosed ps = true ∧ ¬ (placesOf ps).length < ps.length := by
  unfold grCheck at h
  cases h1 : grFits ps with
  | false => rw [h1, if_pos rfl] at h; cases h
  | true =>
    rw [h1, if_neg (by decide)] at h
    cases h2 : grFormed ps with
    | false => rw [h2, if_pos rfl] at h; cases h
    | true =>
      rw [h2, if_neg (by decide)] at h
      cases h3 : grClosed ps with
      | false => rw [h3, if_pos rfl] at h; cases h
      | true =>
        rw [h3, if_neg (by decide)] at h
        refine ⟨rfl, rfl, rfl, fun h4 => ?_⟩
        rw [if_pos h4] at h
        cases h
set_option maxRecDepth 100000 in
set_option maxHeartbeats 1000000 in
theorem order_any (w : World) (D : Nat → Prop) (v : Value) (ts : List Tg) (h : Tgs w D v ts) :
    Calls Try.prog 63 #[.agg #[v]] w (ToldInts (grOrder (ts.map Tg.plain)) w) := by
  have HH := Lib.hid h
  obtain ⟨A, c, rfl, hlc, hcm, hn, hxl, hc⟩ := h.1
  unfold maxLen at hcm
  have ka := (Keep.refl noneOf w).alloc (.cells #[.slice A ts.length c] 29)
  have HK0 := Lib.hid ka
  have HX0 := Lib.hid (Box.new w 29 #[.slice A ts.length c])
  have HCK := Lib.hid (check_any _ D _ ts (HH.out.keep ka (fun _ _ _ => id)))
  have EO := Lib.hid (show grOrder (ts.map Tg.plain) = if grCheck (ts.map Tg.plain) = 0 then placesOf (ts.map Tg.plain) else [] from rfl)
  clear hc h hxl hn ka
  by_cases hq : grCheck (ts.map Tg.plain) = 0
  · rw [hq] at HCK
    rw [EO.out, if_pos hq]
    obtain ⟨h32, hfew⟩ := fits_few (check_fits hq).1
    have HFEW := Lib.hid hfew
    clear hq hfew EO
    go_enter Try.func63, Try.ntmps63
    go_wp2_with fail
    refine HCK.out.mono ?_
    rintro e w1 ⟨rfl, k1⟩
    have K1 := HK0.out.trans k1 (fun _ _ h => h)
    have X1 := HX0.out.keep k1 id
    have x1 : w1.cell? ⟨w.heap.size, 0, none⟩ = some (.slice A ts.length c) := X1.cell 0
    have AR := Lib.hid (arranged_any w1 D _ ts (HH.out.keep K1 (fun _ _ _ => id)) HFEW.out h32)
    clear HCK HK0 HX0 k1
    go_wp2_with fail
    refine AR.out.mono ?_
    rintro e w2 ⟨v2, rfl, hi2, k2⟩
    obtain ⟨A2, c2, hv2⟩ := hi2.shape
    subst hv2
    have HI2 := Lib.hid hi2
    have HZ := Lib.hid K1.size
    have HK2 := Lib.hid (K1.trans k2 (fun _ _ h => h))
    clear hi2 k2 K1 X1 x1 AR
    go_wp2
    go_ret
    exact ⟨_, rfl, Row.mono HI2.out (fun _ _ h => Nat.le_trans HZ.out h), HK2.out⟩
  · rw [EO.out, if_neg hq]
    have g : (grCheck (ts.map Tg.plain) != 0) = true := by rw [bne_iff_ne]; exact hq
    have g' : (grCheck (ts.map Tg.plain) == 0) = false := by rw [beq_eq_false_iff_ne]; exact hq
    generalize grCheck (ts.map Tg.plain) = R at *
    clear hq EO
    go_enter Try.func63, Try.ntmps63
    go_wp2_with fail
    refine HCK.out.mono ?_
    rintro e w1 ⟨rfl, k1⟩
    have K1 := HK0.out.trans k1 (fun _ _ h => h)
    go_wp2
    go_ret
    exact ⟨_, rfl, Ints.of_own (World.ownsRow_nil _ _ 3 1), K1⟩
end Go.Proofs.Ytkoikmdmejhhhaa
