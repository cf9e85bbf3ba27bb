/-
  ConfigMeets: a majority of a configuration and one of what a change makes of it have a voter of both in common.
-/
import Derived.Test.YtmncjibokpieoaaCfApply
import Derived.Test.YtmncjibokpieoaaCfAlive
import Derived.Test.YtmncjibokpieoaaCfMath
import Derived.Test.YtmncjibokpieoaaCfOpen
namespace Go.Proofs.Ytmncjibokpieoaa
open Go.RowKit Go.ChangeShapes Go.WideShapes Go.Deep

set_option maxRecDepth 100000 in
set_option maxHeartbeats 1000000 in
theorem meets_walk (w : World) (v a b : Value) (c : Cf) (kind node : Int) (l0 l1 : List Int) (h : CfAt w (fun _ => True) v c) (hfv : c.v.length ≤ 17592186043904) (ha : Zs w (fun _ => True) a l0) (hb : Zs w (fun _ => True) b l1) :
    Calls Try.prog 5 #[v, .agg #[.int .i64 kind, .int .i64 node], .agg #[a, b]] w (TellsB true w) := by
  have HH := Lib.hid h
  have HA0 := Lib.hid ha
  have HB0 := Lib.hid hb
  obtain ⟨_, _, rfl, h1, h2⟩ := h
  obtain ⟨A, ca, rfl, _⟩ := h1.shape
  obtain ⟨B, cb, rfl, _⟩ := h2.shape
  obtain ⟨L0, e0, rfl, _, hm0, _⟩ := ha.shape
  obtain ⟨L1, e1, rfl, _, hm1, _⟩ := hb.shape
  unfold maxLen at hm0 hm1
  have K3 := (((Keep.refl noneOf w).alloc (.cells #[.slice A c.v.length ca, .slice B c.l.length cb] 24)).alloc (.cells #[.int .i64 kind, .int .i64 node] 33)).alloc (.cells #[.slice L0 l0.length e0, .slice L1 l1.length e1] 38)
  have X0 := ((Box.new w 24 #[.slice A c.v.length ca, .slice B c.l.length cb]).alloc (.cells #[.int .i64 kind, .int .i64 node] 33)).alloc (.cells #[.slice L0 l0.length e0, .slice L1 l1.length e1] 38)
  have X2 := Box.new ((w.alloc (.cells #[.slice A c.v.length ca, .slice B c.l.length cb] 24)).alloc (.cells #[.int .i64 kind, .int .i64 node] 33)) 38 #[.slice L0 l0.length e0, .slice L1 l1.length e1]
  rw [show ((w.alloc (.cells #[.slice A c.v.length ca, .slice B c.l.length cb] 24)).alloc (.cells #[.int .i64 kind, .int .i64 node] 33)).heap.size = w.heap.size + 1 + 1 from by simp] at X2
  have HK3 := Lib.hid K3
  have HX0 := Lib.hid X0
  have HX2 := Lib.hid X2
  have HAP := Lib.hid (apply_any _ _ _ c kind node (HH.out.keepN K3))
  obtain ⟨r, hr⟩ : ∃ r, apP c kind node = r := ⟨_, rfl⟩
  have HME := Lib.hid (fun (h1 : r.2 = 0) (h2 : majP c l0 = true) (h3 : majP r.1 l1 = true) => by
    have := meets (c := c) (kind := kind) (node := node) (l0 := l0) (l1 := l1) (by rw [hr]; exact h1) h2 (by rw [hr]; exact h3)
    rwa [hr] at this)
  have HDL := Lib.hid (show r.2 = 0 → r.1.v.length ≤ 8 from fun h0 => by
    have := (ap_valid (c := c) (kind := kind) (node := node) (by rw [hr]; exact h0)).2
    rw [hr] at this
    exact eight this.vs this.v8)
  rw [hr] at HAP
  clear hr h1 h2 ha hb X0 X2 K3
  go_enter Try.func5, Try.ntmps5
  go_wp2_with fail
  refine HAP.out.mono ?_
  rintro e w4 ⟨vd, rfl, ⟨_, _, rfl, hd0, hd1⟩, k4⟩
  obtain ⟨D0, cd0, rfl, _⟩ := hd0.shape
  obtain ⟨D1, cd1, rfl, _⟩ := hd1.shape
  have K5 : Keep noneOf w (w4.alloc (.cells #[.slice D0 r.1.v.length cd0, .slice D1 r.1.l.length cd1] 24)) := (HK3.out.trans k4 (fun _ _ h => h)).alloc _
  have ka : Keep noneOf w4 (w4.alloc (.cells #[.slice D0 r.1.v.length cd0, .slice D1 r.1.l.length cd1] 24)) := (Keep.refl noneOf w4).alloc _
  have HK5 := Lib.hid K5
  have HY0 := Lib.hid ((HX0.out.keep k4 id).keep ka id)
  have HY2 := Lib.hid ((HX2.out.keep k4 id).keep ka id)
  have HYD := Lib.hid (Box.new w4 24 #[.slice D0 r.1.v.length cd0, .slice D1 r.1.l.length cd1])
  have HCD : Hid (CfAt (w4.alloc (.cells #[.slice D0 r.1.v.length cd0, .slice D1 r.1.l.length cd1] 24)) (fun _ => True) (.agg #[.slice D0 r.1.v.length cd0, .slice D1 r.1.l.length cd1]) r.1) := ⟨_, _, rfl, hd0.keepN ka, hd1.keepN ka⟩
  obtain ⟨rv, re⟩ := r
  simp only at HYD HCD HME HDL HY0 HY2 HK5 ⊢
  clear hd0 hd1 k4 K5 ka HAP HX0 HX2 HK3
  by_cases hz : re = 0
  · subst hz
    have hdl := HDL.out rfl
    have MC : Hid (∀ w', Keep noneOf (w4.alloc (.cells #[.slice D0 rv.v.length cd0, .slice D1 rv.l.length cd1] 24)) w' → w'.cell? ⟨w.heap.size, 0, none⟩ = some (.slice A c.v.length ca) ∧ w'.cell? ⟨w.heap.size, 1, none⟩ = some (.slice B c.l.length cb) ∧ w'.cell? ⟨w.heap.size + 1 + 1, 0, none⟩ = some (.slice L0 l0.length e0) ∧ w'.cell? ⟨w.heap.size + 1 + 1, 1, none⟩ = some (.slice L1 l1.length e1) ∧ w'.cell? ⟨w4.heap.size, 0, none⟩ = some (.slice D0 rv.v.length cd0) ∧ w'.cell? ⟨w4.heap.size, 1, none⟩ = some (.slice D1 rv.l.length cd1)) := fun w' k =>
      ⟨(HY0.out.keep k id).cell 0, (HY0.out.keep k id).cell 1, (HY2.out.keep k id).cell 0, (HY2.out.keep k id).cell 1, (HYD.out.keep k id).cell 0, (HYD.out.keep k id).cell 1⟩
    obtain ⟨x0, x1, z0, z1, y0, y1⟩ := MC.out _ (Keep.refl _ _)
    have HM0 := Lib.hid (majority_any _ _ _ _ _ c l0 (HH.out.keepN HK5.out) (HA0.out.keepN HK5.out) (by omega))
    cases m0 : majP c l0 with
    | false =>
      rw [m0] at HM0
      clear m0
      go_wp2_with fail
      refine HM0.out.mono ?_
      rintro e w6 ⟨rfl, k6⟩
      have HK6 := Lib.hid (HK5.out.trans k6 (fun _ _ h => h))
      clear k6 x0 x1 z0 z1 y0 y1
      go_wp2_with fail
      refine (alive_any _).mono ?_
      rintro e wz ⟨rfl, kz⟩
      have HKE := Lib.hid (HK6.out.trans kz (fun _ _ h => h))
      clear kz
      go_wp2
      go_ret
      exact ⟨rfl, HKE.out⟩
    | true =>
      rw [m0] at HM0
      have HT0 := Lib.hid m0
      clear m0
      go_wp2_with fail
      refine HM0.out.mono ?_
      rintro e w6 ⟨rfl, k6⟩
      have HK6 := Lib.hid (HK5.out.trans k6 (fun _ _ h => h))
      have HK56 := Lib.hid k6
      clear x0 x1 z0 z1 y0 y1 k6 HM0
      obtain ⟨x0, x1, z0, z1, y0, y1⟩ := MC.out _ HK56.out
      have HM1 := Lib.hid (majority_any w6 _ _ _ _ rv l1 (HCD.out.keepN HK56.out) (HB0.out.keepN HK6.out) (by omega))
      cases m1 : majP rv l1 with
      | false =>
        rw [m1] at HM1
        clear m1
        go_wp2_with fail
        refine HM1.out.mono ?_
        rintro e w7 ⟨rfl, k7⟩
        have HK7 := Lib.hid (HK6.out.trans k7 (fun _ _ h => h))
        clear k7 x0 x1 z0 z1 y0 y1
        go_wp2_with fail
        refine (alive_any _).mono ?_
        rintro e wz ⟨rfl, kz⟩
        have HKE := Lib.hid (HK7.out.trans kz (fun _ _ h => h))
        clear kz
        go_wp2
        go_ret
        exact ⟨rfl, HKE.out⟩
      | true =>
        rw [m1] at HM1
        have HIN := Lib.hid (HME.out (by first | rfl | trivial) HT0.out m1)
        clear m1
        go_wp2_with fail
        refine HM1.out.mono ?_
        rintro e w7 ⟨rfl, k7⟩
        have HK7 := Lib.hid (HK6.out.trans k7 (fun _ _ h => h))
        have HK57 := Lib.hid (HK56.out.trans k7 (fun _ _ h => h))
        clear x0 x1 z0 z1 y0 y1 k7 HM1
        obtain ⟨x0, x1, z0, z1, y0, y1⟩ := MC.out _ HK57.out
        go_wp2
        clear x0 x1 z0 z1 y0 y1
        go_loopw [37] (fun i wr => ∃ k : Nat, k ≤ l0.length ∧ i = .int .i64 k ∧ (∀ j x, j < k → l0[j]? = some x → ¬ (x ∈ l1 ∧ x ∈ c.v ∧ x ∈ rv.v)) ∧ Keep noneOf w7 wr) (fun i _ => l0.length - (intOf i).toNat)
        case atStart => exact ⟨0, Nat.zero_le _, rfl, fun j x hj => absurd hj (by omega), Keep.refl _ _⟩
        case round =>
          obtain ⟨k, hk, rfl, hall, hkw⟩ := hrel
          have HAL := Lib.hid hall
          have HKW := Lib.hid hkw
          have HKA := Lib.hid (HK7.out.trans hkw (fun _ _ h => h))
          have HKB := Lib.hid (HK57.out.trans hkw (fun _ _ h => h))
          clear hall hkw
          by_cases hlt : k < l0.length
          · obtain ⟨b1, o1, rfl, _, _, c0⟩ := (HA0.out.keepN HKA.out).cell hlt
            have HS := Lib.hid (List.getElem?_eq_getElem hlt)
            generalize l0[k] = n at *
            obtain ⟨x0, x1, z0, z1, y0, y1⟩ := MC.out _ HKB.out
            have q0 : (0 : Int) ≤ (k : Int) := by omega
            have q1 : (k : Int) < (l0.length : Int) := by omega
            have HI := Lib.hid (inZ_any wr _ _ l1 n (HB0.out.keepN HKA.out))
            cases qi : inP l1 n with
            | false =>
              rw [qi] at HI
              have HQ := Lib.hid (inP_false.1 qi)
              clear qi
              go_wp2_with fail
              refine HI.out.mono ?_
              rintro e w8 ⟨rfl, rfl⟩
              go_wp2
              go_roundw
              case rel =>
                refine ⟨k + 1, by omega, by go_num, fun j x hj e => ?_, HKW.out⟩
                rcases Nat.lt_or_ge j k with h | h
                · exact HAL.out j x h e
                · have : j = k := by omega
                  subst this
                  rw [HS.out] at e
                  injection e with e
                  subst e
                  exact fun hh => HQ.out hh.1
              case measure => simp [intOf]; omega
            | true =>
              rw [qi] at HI
              have HQ1 := Lib.hid (inP_true.1 qi)
              clear qi
              go_wp2_with fail
              refine HI.out.mono ?_
              rintro e w8 ⟨rfl, rfl⟩
              have HV := Lib.hid (votes_any wr _ _ c n (HH.out.keepN HKA.out))
              cases qv : inP c.v n with
              | false =>
                rw [qv] at HV
                have HQ := Lib.hid (inP_false.1 qv)
                clear qv
                go_wp2_with fail
                refine HV.out.mono ?_
                rintro e w9 ⟨rfl, k9⟩
                have HK9 := Lib.hid (HKW.out.trans k9 (fun _ _ h => h))
                clear k9 x0 x1 z0 z1 y0 y1 c0
                go_wp2
                go_roundw
                case rel =>
                  refine ⟨k + 1, by omega, by go_num, fun j x hj e => ?_, HK9.out⟩
                  rcases Nat.lt_or_ge j k with h | h
                  · exact HAL.out j x h e
                  · have : j = k := by omega
                    subst this
                    rw [HS.out] at e
                    injection e with e
                    subst e
                    exact fun hh => HQ.out hh.2.1
                case measure => simp [intOf]; omega
              | true =>
                rw [qv] at HV
                have HQ2 := Lib.hid (inP_true.1 qv)
                clear qv
                go_wp2_with fail
                refine HV.out.mono ?_
                rintro e w9 ⟨rfl, k9⟩
                have HK9 := Lib.hid (HKW.out.trans k9 (fun _ _ h => h))
                have HKB9 := Lib.hid (HKB.out.trans k9 (fun _ _ h => h))
                clear k9 x0 x1 z0 z1 y0 y1 c0 HV HI
                obtain ⟨x0, x1, z0, z1, y0, y1⟩ := MC.out _ HKB9.out
                have HVD := Lib.hid (votes_any w9 _ _ rv n (HCD.out.keepN HKB9.out))
                cases qd : inP rv.v n with
                | false =>
                  rw [qd] at HVD
                  have HQ := Lib.hid (inP_false.1 qd)
                  clear qd
                  go_wp2_with fail
                  refine HVD.out.mono ?_
                  rintro e w10 ⟨rfl, k10⟩
                  have HK10 := Lib.hid (HK9.out.trans k10 (fun _ _ h => h))
                  clear k10 x0 x1 z0 z1 y0 y1
                  go_wp2
                  go_roundw
                  case rel =>
                    refine ⟨k + 1, by omega, by go_num, fun j x hj e => ?_, HK10.out⟩
                    rcases Nat.lt_or_ge j k with h | h
                    · exact HAL.out j x h e
                    · have : j = k := by omega
                      subst this
                      rw [HS.out] at e
                      injection e with e
                      subst e
                      exact fun hh => HQ.out hh.2.2
                  case measure => simp [intOf]; omega
                | true =>
                  rw [qd] at HVD
                  clear qd
                  go_wp2_with fail
                  refine HVD.out.mono ?_
                  rintro e w10 ⟨rfl, k10⟩
                  have HK10 := Lib.hid (HK7.out.trans (HK9.out.trans k10 (fun _ _ h => h)) (fun _ _ h => h))
                  clear k10 x0 x1 z0 z1 y0 y1
                  go_wp2_with fail
                  refine (alive_any _).mono ?_
                  rintro e wz ⟨rfl, kz⟩
                  have HKE := Lib.hid (HK10.out.trans kz (fun _ _ h => h))
                  clear kz
                  go_wp2
                  go_ret
                  exact ⟨rfl, HKE.out⟩
          · exfalso
            obtain ⟨x, hx, hy⟩ := HIN.out
            obtain ⟨j, hj⟩ := List.getElem?_of_mem hx
            exact HAL.out j x (by have := (List.getElem?_eq_some_iff.1 hj).1; omega) hj hy
  · have g : (re != 0) = true := bne_iff_ne.2 hz
    clear hz
    go_wp2_with fail
    refine (alive_any _).mono ?_
    rintro e wz ⟨rfl, kz⟩
    have HKE := Lib.hid (HK5.out.trans kz (fun _ _ h => h))
    clear kz
    go_wp2
    go_ret
    exact ⟨rfl, HKE.out⟩

namespace ConfigMeets
set_option maxRecDepth 100000 in
theorem lifted (os : Os) (started : os.Started) (H : Type) (enc : TypeId × Value → H) :
    ReturnsInHanded {} Try.checked os 5 .any (Rows.configMeetsSpec.pre6 enc Try.prog Try.f5 Rows.configMeetsRow.domain false) (Rows.configMeetsSpec.post enc Try.prog Try.f5 false true false false) := by
  refine returnsInHanded_of_change_sized (C := Try.checked) own started (by kernel_rfl) Try.func5
    (ChangeSpec.witness6 (enc := enc) (C := Try.checked) false ⟨#[], #[.agg #[.slice none 0 0, .slice none 0 0], .agg #[.int .i64 0, .int .i64 0], .agg #[.slice none 0 0, .slice none 0 0]], []⟩ 8 (by kernel_rfl) (by kernel_rfl) (by kernel_rfl) (by kernel_rfl)) ?_
  intro W base args ds gs before hval0 hW hcnd hsz _
  have hval : ∀ (j : Nat) t v, Try.f5.params[j]? = some t → args[j]? = some v → Value.okWide Try.prog W .any base t v := hval0
  have hW' := hW
  obtain ⟨p, q, hA0, hV, rfl, hfz, hnd⟩ := hW
  have hA : DataW.TrodAll enc Try.prog W 0 (fun _ => true) true Try.f5.params.toList args.toList ds p := hA0
  rw [Try.params5] at hA hval
  obtain ⟨v0, vs0, d0, ds0, p0, q0, hargs, rfl, rfl, h0, r0⟩ := trodAll_cons hA
  obtain ⟨v1, vs1, d1, ds1, p1, q1, rfl, rfl, rfl, h1, r1⟩ := trodAll_cons r0
  obtain ⟨v2, vs2, d2, ds2, p2, q2, rfl, rfl, rfl, h2, r2⟩ := trodAll_cons r1
  obtain ⟨rfl, rfl, rfl⟩ := trodAll_nil r2
  obtain rfl : args = #[v0, v1, v2] := by cases args; simp_all
  obtain ⟨rfl, rfl⟩ := trodVars_none hV
  have k0 := h0
  have lt0 : ∀ x ∈ p0, x.block < W.heap.size := by obtain ⟨m, hm⟩ := k0; exact DataW.trod_lt m _ _ _ hm
  have k1 := h1
  have lt1 : ∀ x ∈ p1, x.block < W.heap.size := by obtain ⟨m, hm⟩ := k1; exact DataW.trod_lt m _ _ _ hm
  have k2 := h2
  have lt2 : ∀ x ∈ p2, x.block < W.heap.size := by obtain ⟨m, hm⟩ := k2; exact DataW.trod_lt m _ _ _ hm
  obtain ⟨c0, hc0, hv0, hl0⟩ := open_arg_cfg (hval 0 24 v0 rfl rfl) h0 (light_arg hsz (j := 0) rfl rfl)
  obtain ⟨kd1, nd1, rfl⟩ := open_arg_change (hval 1 33 v1 rfl rfl) h1
  obtain ⟨pa2, pb2, l02, l12, rfl, hp2, hq2, _, _⟩ := open_arg_pair (hval 2 38 v2 rfl rfl) h2 (light_arg hsz (j := 2) rfl rfl)
  clear hA0 hval0
  refine (meets_walk W v0 pa2 pb2 c0 kd1 nd1 l02 l12 hc0 hv0 hp2 hq2).mono fun e W' ⟨he, bel0⟩ => ?_
  subst he
  have bel := bel0.all
  exact ⟨_, rfl, _, _, _, [], _, [], hW', trodAll_mk1 (shut_bool Try.underlying4 _), (trodAll_cons_mk (Below.trod laidOut (by kernel_rfl) (of_decide_eq_true (by kernel_rfl)) k0 bel lt0) (trodAll_cons_mk (Below.trod laidOut (by kernel_rfl) (of_decide_eq_true (by kernel_rfl)) k1 bel lt1) (trodAll_cons_mk (Below.trod laidOut (by kernel_rfl) (of_decide_eq_true (by kernel_rfl)) k2 bel lt2) trodAll_mk0))), rfl, bel.frame _, fun h => by cases h⟩

theorem over : Rows.configMeetsRow.holds Try.pinned (OpenSpec.ofChange Rows.configMeetsSpec) :=
  OpenClaim.holds_of_wide 5 Try.f5 rfl rfl rfl rfl rfl rfl rfl ⟨rfl, rfl, rfl, rfl, rfl⟩ rfl rfl rfl rfl rfl (by kernel_rfl) Try.func5 (by kernel_rfl)
    (of_decide_eq_true (by kernel_rfl)) (by unfold Func.isWrapper; first | (rw [if_pos (by decide +kernel)]; kernel_rfl) | (rw [if_neg (by decide +kernel)]; exact ⟨rfl, rfl⟩))
    (fun os started H enc _ => lifted os started H enc)

theorem proved : Rows.ConfigMeetsSaid := over
end ConfigMeets
end Go.Proofs.Ytmncjibokpieoaa
