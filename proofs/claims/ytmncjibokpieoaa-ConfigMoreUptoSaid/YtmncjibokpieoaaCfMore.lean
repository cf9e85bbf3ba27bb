/-
  ConfigMore: who is a majority stays one with more nodes; of two majorities some voter is in both. (Where what came in is of bulk at most 1048576.)
-/
import Derived.Test.YtmncjibokpieoaaCfAlive
import Derived.Test.YtmncjibokpieoaaCfApp
import Derived.Test.YtmncjibokpieoaaCfMath
import Derived.Test.YtmncjibokpieoaaCfBulk
namespace Go.Proofs.Ytmncjibokpieoaa
open Go.RowKit Go.ChangeShapes Go.WideShapes Go.Deep

set_option maxRecDepth 100000 in
set_option maxHeartbeats 4000000 in
theorem more_walk (w : World) (v a b : Value) (c : Cf) (la lb : List Int) (h : CfAt w (fun _ => True) v c) (hfv : c.v.length ≤ 17592186043904) (ha : Zs w (fun _ => True) a la) (hb : Zs w (fun _ => True) b lb) (hab : la.length + lb.length ≤ 17592186044416) :
    Calls Try.prog 8 #[v, a, b] w (TellsB true w) := by
  have HH := Lib.hid h
  have HA := Lib.hid ha
  have HB := Lib.hid hb
  obtain ⟨_, _, rfl, h1, h2⟩ := h
  obtain ⟨A, ca, rfl, _⟩ := h1.shape
  obtain ⟨B, cb, rfl, _⟩ := h2.shape
  have H1 := Lib.hid h1
  obtain ⟨LA, na, rfl, _⟩ := ha.shape
  obtain ⟨LB, nb, rfl, _⟩ := hb.shape
  obtain ⟨i0, hi0, hz0, hz1, hz2⟩ := info_parts intinfo
  have K0 := (Keep.refl noneOf w).alloc (.cells #[.slice A c.v.length ca, .slice B c.l.length cb] 24)
  have HX0 := Lib.hid (Box.new w 24 #[.slice A c.v.length ca, .slice B c.l.length cb])
  have HK0 := Lib.hid K0
  have HC := Lib.hid (check_any _ _ _ c (HH.out.keepN K0))
  clear h1 h2 ha hb K0
  go_enter Try.func8, Try.ntmps8
  go_wp2_with fail
  refine HC.out.mono ?_
  rintro e w1 ⟨rfl, k1⟩
  have HK1 := Lib.hid (HK0.out.trans k1 (fun _ _ h => h))
  have HX1 := Lib.hid (HX0.out.keep k1 id)
  clear k1 HC HX0
  rcases chk_range c with hz | hz
  · rw [hz]
    clear hz
    have x0 : w1.cell? ⟨w.heap.size, 0, none⟩ = some (.slice A c.v.length ca) := HX1.out.cell 0
    have OM := Lib.hid (World.ownsRow_made (e := 3) (size := 1) w1 #[] 0 (Nat.le_refl _) (Nat.zero_le _) rfl)
    have KA : Keep noneOf w1 (w1.alloc (.cells #[] 3)) := (Keep.refl noneOf w1).alloc _
    have HKA := Lib.hid KA
    have hla : ([] : List Int).length + la.length ≤ 17592186044416 := by simp; omega
    clear x0 KA
    go_upto_region 3 with fail
    go_wp2_with (first
      | (at_builtin; refine wpList_append_zs _ w1.heap.size hb3 rfl _ _ 22 rfl 3 i0 _ Try.underlying22 hi0 hz0 hz1 hz2 rfl _ _ la lb _ rfl rfl HO3.out (HB.out.keepN HK3.out) hab ?_; intro v4 w4 hown4 hg4 _ _; have HO4 := Lib.hid hown4; have HG4 := Lib.hid (HK13.out.grown hg4 HO3.out); obtain ⟨A4, c4, hv4⟩ := own_shape hown4; clear hown4 hg4; subst hv4; have x0 : w4.cell? ⟨w.heap.size, 0, none⟩ = some (.slice A c.v.length ca) := (HX1.out.keep HG4.out id).cell 0; have x1 : w4.cell? ⟨w.heap.size, 1, none⟩ = some (.slice B c.l.length cb) := (HX1.out.keep HG4.out id).cell 1)
      | (at_builtin; refine wpList_append_zs _ w1.heap.size (HKA.out.size) rfl _ _ 22 rfl 3 i0 _ Try.underlying22 hi0 hz0 hz1 hz2 rfl _ _ [] la _ rfl rfl OM.out (HA.out.keepN (HK1.out.trans HKA.out (fun _ _ h => h))) hla ?_; intro v3 w3 hown3 hg3 _ _; rw [List.nil_append] at hown3; have HK13 := Lib.hid (HKA.out.grown hg3 OM.out); have HO3 := Lib.hid hown3; have HK3 := Lib.hid (HK1.out.trans HK13.out (fun _ _ h => h)); have hb3 := HK13.out.size; obtain ⟨A3, c3, hv3⟩ := own_shape hown3; clear hown3 hg3; subst hv3))
    have HK4 := Lib.hid (HK1.out.trans HG4.out (fun _ _ h => h))
    have HZ4 : Hid (Zs w4 (fun k => w1.heap.size ≤ k) (.slice A4 (la.length + lb.length) c4) (la ++ lb)) := Lib.hid (by have := Zs.of_own HO4.out; rwa [List.length_append] at this)
    have MC : Hid (∀ w', Keep noneOf w4 w' → w'.cell? ⟨w.heap.size, 0, none⟩ = some (.slice A c.v.length ca) ∧ w'.cell? ⟨w.heap.size, 1, none⟩ = some (.slice B c.l.length cb)) := fun w' k => ⟨((HX1.out.keep HG4.out id).keep k id).cell 0, ((HX1.out.keep HG4.out id).keep k id).cell 1⟩
    have MA := Lib.hid (fun (w' : World) (k : Keep noneOf w4 w') => majority_any w' _ _ _ _ c la (HH.out.keepN (HK4.out.trans k (fun _ _ h => h))) (HA.out.keepN (HK4.out.trans k (fun _ _ h => h))) (by omega))
    have MB := Lib.hid (fun (w' : World) (k : Keep noneOf w4 w') => majority_any w' _ _ _ _ c lb (HH.out.keepN (HK4.out.trans k (fun _ _ h => h))) (HB.out.keepN (HK4.out.trans k (fun _ _ h => h))) (by omega))
    have MAB := Lib.hid (fun (w' : World) (k : Keep noneOf w4 w') => majority_any w' _ _ _ _ c (la ++ lb) (HH.out.keepN (HK4.out.trans k (fun _ _ h => h))) (HZ4.out.keepN k) (by omega))
    have HMM := Lib.hid (fun (h : majP c la = true) => maj_more (b := lb) h)
    have HBO := Lib.hid (fun (h : majP c la = true) (k : majP c lb = true) => maj_both h k)
    clear HO4 HO3 OM HKA HK13 HK3 hla hb3
    cases ma : majP c la with
    | false =>
      rw [ma] at MA
      clear ma HBO HMM MAB
      go_wp2_with fail
      refine (MA.out _ (Keep.refl _ _)).mono ?_
      rintro e w5 ⟨rfl, k5⟩
      have HK5 := Lib.hid k5
      clear x0 x1 k5
      obtain ⟨x0, x1⟩ := MC.out _ HK5.out
      go_wp2_with fail
      refine (MA.out _ HK5.out).mono ?_
      rintro e w6 ⟨rfl, k6⟩
      have HK6 := Lib.hid (HK4.out.trans (HK5.out.trans k6 (fun _ _ h => h)) (fun _ _ h => h))
      clear x0 x1 k6
      go_wp2_with fail
      refine (alive_any _).mono ?_
      rintro e wz ⟨rfl, kz⟩
      have HKE := Lib.hid (HK6.out.trans kz (fun _ _ h => h))
      clear kz
      go_wp2
      go_ret
      exact ⟨rfl, HKE.out⟩
    | true =>
      rw [ma] at MA
      have HTA := Lib.hid ma
      have hmm := HMM.out ma
      rw [hmm] at MAB
      clear ma hmm HMM
      go_wp2_with fail
      refine (MA.out _ (Keep.refl _ _)).mono ?_
      rintro e w5 ⟨rfl, k5⟩
      have HK5 := Lib.hid k5
      clear x0 x1 k5
      obtain ⟨x0, x1⟩ := MC.out _ HK5.out
      go_wp2_with fail
      refine (MAB.out _ HK5.out).mono ?_
      rintro e w6 ⟨rfl, k6⟩
      have HK6 := Lib.hid (HK5.out.trans k6 (fun _ _ h => h))
      clear x0 x1 k6
      obtain ⟨x0, x1⟩ := MC.out _ HK6.out
      go_wp2_with fail
      refine (MA.out _ HK6.out).mono ?_
      rintro e w7 ⟨rfl, k7⟩
      have HK7 := Lib.hid (HK6.out.trans k7 (fun _ _ h => h))
      clear x0 x1 k7
      obtain ⟨x0, x1⟩ := MC.out _ HK7.out
      cases mb : majP c lb with
      | false =>
        rw [mb] at MB
        clear mb HBO
        go_wp2_with fail
        refine (MB.out _ HK7.out).mono ?_
        rintro e w8 ⟨rfl, k8⟩
        have HK8 := Lib.hid (HK4.out.trans (HK7.out.trans k8 (fun _ _ h => h)) (fun _ _ h => h))
        clear x0 x1 k8
        go_wp2_with fail
        refine (alive_any _).mono ?_
        rintro e wz ⟨rfl, kz⟩
        have HKE := Lib.hid (HK8.out.trans kz (fun _ _ h => h))
        clear kz
        go_wp2
        go_ret
        exact ⟨rfl, HKE.out⟩
      | true =>
        rw [mb] at MB
        have HIN := Lib.hid (HBO.out HTA.out mb)
        clear mb HBO
        go_wp2_with fail
        refine (MB.out _ HK7.out).mono ?_
        rintro e w8 ⟨rfl, k8⟩
        have HK8 := Lib.hid (HK7.out.trans k8 (fun _ _ h => h))
        clear x0 x1 k8
        obtain ⟨x0, x1⟩ := MC.out _ HK8.out
        go_wp2
        clear x0 x1 MA MB MAB
        go_loopw [42] (fun i wr => ∃ k : Nat, k ≤ c.v.length ∧ i = .int .i64 k ∧ (∀ j x, j < k → c.v[j]? = some x → ¬ (x ∈ la ∧ x ∈ lb)) ∧ Keep noneOf w4 wr) (fun i _ => c.v.length - (intOf i).toNat)
        case atStart => exact ⟨0, Nat.zero_le _, rfl, fun j x hj => absurd hj (by omega), HK8.out⟩
        case round =>
          obtain ⟨k, hk, rfl, hall, hkw⟩ := hrel
          have HAL := Lib.hid hall
          have HKW := Lib.hid hkw
          have HKA := Lib.hid (HK4.out.trans hkw (fun _ _ h => h))
          clear hall hkw
          by_cases hlt : k < c.v.length
          · obtain ⟨b1, o1, rfl, _, _, c0⟩ := (H1.out.keepN HKA.out).cell hlt
            have HS := Lib.hid (List.getElem?_eq_getElem hlt)
            generalize c.v[k] = n at *
            have q0 : (0 : Int) ≤ (k : Int) := by omega
            have q1 : (k : Int) < (c.v.length : Int) := by omega
            have HIA := Lib.hid (inZ_any wr _ _ la n (HA.out.keepN HKA.out))
            have HIB := Lib.hid (inZ_any wr _ _ lb n (HB.out.keepN HKA.out))
            cases qa : inP la n with
            | false =>
              rw [qa] at HIA
              have HQ := Lib.hid (inP_false.1 qa)
              clear qa
              go_wp2_with fail
              refine HIA.out.mono ?_
              rintro e w9 ⟨rfl, rfl⟩
              go_wp2
              go_roundw
              case rel =>
                refine ⟨k + 1, by omega, by go_num, fun j x hj e => ?_, HKW.out⟩
                rcases Nat.lt_or_ge j k with h | h
                · exact HAL.out j x h e
                · have : j = k := by omega
                  subst this
                  rw [HS.out] at e
                  injection e with e
                  subst e
                  exact fun hh => HQ.out hh.1
              case measure => simp [intOf]; omega
            | true =>
              rw [qa] at HIA
              clear qa
              go_wp2_with fail
              refine HIA.out.mono ?_
              rintro e w9 ⟨rfl, rfl⟩
              cases qb : inP lb n with
              | false =>
                rw [qb] at HIB
                have HQ := Lib.hid (inP_false.1 qb)
                clear qb
                go_wp2_with fail
                refine HIB.out.mono ?_
                rintro e w9 ⟨rfl, rfl⟩
                go_wp2
                go_roundw
                case rel =>
                  refine ⟨k + 1, by omega, by go_num, fun j x hj e => ?_, HKW.out⟩
                  rcases Nat.lt_or_ge j k with h | h
                  · exact HAL.out j x h e
                  · have : j = k := by omega
                    subst this
                    rw [HS.out] at e
                    injection e with e
                    subst e
                    exact fun hh => HQ.out hh.2
                case measure => simp [intOf]; omega
              | true =>
                rw [qb] at HIB
                clear qb
                go_wp2_with fail
                refine HIB.out.mono ?_
                rintro e w9 ⟨rfl, rfl⟩
                go_wp2_with fail
                refine (alive_any _).mono ?_
                rintro e wz ⟨rfl, kz⟩
                have HKE := Lib.hid (HKA.out.trans kz (fun _ _ h => h))
                clear kz
                go_wp2
                go_ret
                exact ⟨rfl, HKE.out⟩
          · exfalso
            obtain ⟨x, hx, hy⟩ := HIN.out
            obtain ⟨j, hj⟩ := List.getElem?_of_mem hx
            exact HAL.out j x (by have := (List.getElem?_eq_some_iff.1 hj).1; omega) hj hy
  · rw [hz]
    clear hz
    go_wp2_with fail
    refine (alive_any _).mono ?_
    rintro e wz ⟨rfl, kz⟩
    have HKE := Lib.hid (HK1.out.trans kz (fun _ _ h => h))
    clear kz
    go_wp2
    go_ret
    exact ⟨rfl, HKE.out⟩

namespace ConfigMore
set_option maxRecDepth 100000 in
theorem lifted (os : Os) (started : os.Started) (H : Type) (enc : TypeId × Value → H) (F : Stop.Interp) :
    ReturnsInHanded {} Try.checked os 8 .any ((Rows.OpenSpec.upto Rows.configMoreSpec).pre6 enc Try.prog Try.f8 Rows.configMoreUptoRow.domain false) (((Rows.OpenSpec.upto Rows.configMoreSpec).at F).post enc Try.prog Try.f8 false true false false) := by
  refine returnsInHanded_of_cond_sized (C := Try.checked) (s := Rows.OpenSpec.upto Rows.configMoreSpec) (k := Rows.uptoSmall) rfl own started (by kernel_rfl) Try.func8
    (OpenSpec.witness (enc := enc) (C := Try.checked) (s := Rows.OpenSpec.upto Rows.configMoreSpec) (k := Rows.uptoSmall) rfl false ⟨#[], #[.agg #[.slice none 0 0, .slice none 0 0], .slice none 0 0, .slice none 0 0], []⟩ 8 (by kernel_rfl) (by kernel_rfl) (by kernel_rfl)
      (x := ([.agg [.nil, .nil], .nil, .nil], [], [])) (by kernel_rfl) rfl (by kernel_rfl)) ?_
  intro W base args ds gs before hval0 hW _ hk hsz _
  have hval : ∀ (j : Nat) t v, Try.f8.params[j]? = some t → args[j]? = some v → Value.okWide Try.prog W .any base t v := hval0
  have hW' := hW
  obtain ⟨p, q, hA0, hV, rfl, hfz, hnd⟩ := hW
  have hA : DataW.TrodAll enc Try.prog W 0 (fun _ => true) true Try.f8.params.toList args.toList ds p := hA0
  rw [Try.params8] at hA hval
  obtain ⟨v0, vs0, d0, ds0, p0, q0, hargs, rfl, rfl, h0, r0⟩ := trodAll_cons hA
  obtain ⟨v1, vs1, d1, ds1, p1, q1, rfl, rfl, rfl, h1, r1⟩ := trodAll_cons r0
  obtain ⟨v2, vs2, d2, ds2, p2, q2, rfl, rfl, rfl, h2, r2⟩ := trodAll_cons r1
  obtain ⟨rfl, rfl, rfl⟩ := trodAll_nil r2
  obtain rfl : args = #[v0, v1, v2] := by cases args; simp_all
  obtain ⟨rfl, rfl⟩ := trodVars_none hV
  have k0 := h0
  have lt0 : ∀ x ∈ p0, x.block < W.heap.size := by obtain ⟨m, hm⟩ := k0; exact DataW.trod_lt m _ _ _ hm
  obtain ⟨c0, hc0, hv0, hl0⟩ := open_arg_cfg (hval 0 24 v0 rfl rfl) h0 (light_arg hsz (j := 0) rfl rfl)
  have bk0 := cfg_bulk h0 hc0
  have k1 := h1
  have lt1 : ∀ x ∈ p1, x.block < W.heap.size := by obtain ⟨m, hm⟩ := k1; exact DataW.trod_lt m _ _ _ hm
  obtain ⟨z1, hz1, hb1⟩ := open_arg_zs (hval 1 22 v1 rfl rfl) h1 (light_arg hsz (j := 1) rfl rfl)
  have bk1 := zs_bulk h1 (by obtain ⟨_, _, e, _⟩ := hz1.shape; rw [e]; rfl) hz1
  have k2 := h2
  have lt2 : ∀ x ∈ p2, x.block < W.heap.size := by obtain ⟨m, hm⟩ := k2; exact DataW.trod_lt m _ _ _ hm
  obtain ⟨z2, hz2, hb2⟩ := open_arg_zs (hval 2 22 v2 rfl rfl) h2 (light_arg hsz (j := 2) rfl rfl)
  have bk2 := zs_bulk h2 (by obtain ⟨_, _, e, _⟩ := hz2.shape; rw [e]; rfl) hz2
  have hb : Rows.uptoBulkAll [d0, d1, d2] ≤ 1048576 := of_decide_eq_true hk
  simp only [Rows.uptoBulkAll] at hb
  clear hA0 hval0
  refine (more_walk W v0 v1 v2 c0 z1 z2 hc0 hv0 hz1 hz2 (by omega)).mono fun e W' ⟨he, bel0⟩ => ?_
  subst he
  have bel := bel0.all
  exact ⟨_, rfl, _, _, _, [], _, [], hW', trodAll_mk1 (shut_bool Try.underlying4 _), (trodAll_cons_mk (Below.trod laidOut (by kernel_rfl) (of_decide_eq_true (by kernel_rfl)) k0 bel lt0) (trodAll_cons_mk (Below.trod laidOut (by kernel_rfl) (of_decide_eq_true (by kernel_rfl)) k1 bel lt1) (trodAll_cons_mk (Below.trod laidOut (by kernel_rfl) (of_decide_eq_true (by kernel_rfl)) k2 bel lt2) trodAll_mk0))), rfl, bel.frame _, fun h => by cases h⟩

theorem proved : Rows.ConfigMoreUptoSaid :=
  OpenClaim.holds_of_cond 8 Try.f8 rfl rfl rfl rfl rfl rfl rfl ⟨rfl, rfl, rfl, rfl, rfl⟩ rfl rfl rfl rfl rfl (by kernel_rfl) Try.func8 (by kernel_rfl)
    (of_decide_eq_true (by kernel_rfl)) (by unfold Func.isWrapper; first | (rw [if_pos (by decide +kernel)]; kernel_rfl) | (rw [if_neg (by decide +kernel)]; exact ⟨rfl, rfl⟩))
    (fun os started H enc _ F => lifted os started H enc F)
end ConfigMore
end Go.Proofs.Ytmncjibokpieoaa
