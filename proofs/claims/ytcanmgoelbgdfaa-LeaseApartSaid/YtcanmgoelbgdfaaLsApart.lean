/-
  Proved: dockyardlaw10.LeaseApart answers true for every input that can be read, and leaves its arguments as they were. No conditions.
-/
import Derived.Test.YtcanmgoelbgdfaaLsAlive
import Derived.Test.YtcanmgoelbgdfaaLsOwn
namespace Go.Proofs.Ytcanmgoelbgdfaa
open Go.ChangeShapes Go.WideShapes Go.ChangeAt Go.RowKit

set_option maxRecDepth 100000 in
set_option maxHeartbeats 4000000 in
theorem apart_walk (w : World) (a b c : Int) (ha0 : 0 ≤ a) (ha1 : a ≤ top) (hb : 0 ≤ b) (hc : 0 ≤ c) : Calls Try.prog 8 #[.int .u64 a, .int .u64 b, .int .u64 c] w (TellsB true w) := by
  have ho1 : 1 ≤ max a 1 := by omega
  have ho2 : max a 1 ≤ top := by unfold top at *; omega
  have NW := Lib.hid (new_any w a)
  have GR : Hid (∀ w', Calls Try.prog 10 #[.agg #[.int .u64 (max a 1)], .int .u64 b] w' (TellsV (.tuple #[.agg #[.int .u64 (granted (max a 1) b).1], (granted (max a 1) b).2.1.agg, .int .i64 (granted (max a 1) b).2.2]) w')) := Lib.hid fun w' => grant_any w' _ b ho1 ho2 hb
  clear ha0 ha1
  generalize hgo : max a 1 = o at *
  by_cases hbad : o = top ∨ late < b
  · have hG : granted o b = (o, Pst.zero, 101) := by unfold granted; rw [if_pos hbad]
    rw [hG] at GR
    unfold Pst.agg Pst.zero at GR
    simp only at GR
    clear hG hbad ho1 ho2 hgo hb
    go_enter Try.func8, Try.ntmps8
    go_wp2_with fail
    refine NW.out.mono ?_
    rintro e w1 ⟨rfl, k1⟩
    have HK1 := Lib.hid k1
    clear NW k1
    go_wp2_with fail
    refine (GR.out _).mono ?_
    rintro e w2 ⟨rfl, k2⟩
    obtain ⟨K3, -, -⟩ := two_boxes w2 #[.int .u64 o] #[.int .i64 0, .int .u64 0, .int .u64 0] 24 27
    have HK3 := Lib.hid ((HK1.out.trans k2 (fun _ _ h => h)).trans K3 (fun _ _ h => h))
    clear GR HK1 k2 K3
    go_wp2_with fail
    refine (alive_any _).mono ?_
    rintro e w4 ⟨rfl, k4⟩
    have HK4 := Lib.hid (HK3.out.trans k4 (fun _ _ h => h))
    clear HK3 k4
    go_wp2
    go_ret
    exact ⟨rfl, HK4.out⟩
  · have hG : granted o b = (o + 1, ⟨2, o, b + 8⟩, 0) := by unfold granted; rw [if_neg hbad]
    rw [hG] at GR
    unfold Pst.agg at GR
    simp only at GR
    have ho3 : o < top := by
      have : o ≠ top := fun h => hbad (.inl h)
      omega
    have hb8 : ¬ late < b := fun h => hbad (.inr h)
    clear hG hbad ho2
    have GS : Hid (∀ w', Calls Try.prog 10 #[.agg #[.int .u64 (o + 1)], .int .u64 c] w' (TellsV (.tuple #[.agg #[.int .u64 (granted (o + 1) c).1], (granted (o + 1) c).2.1.agg, .int .i64 (granted (o + 1) c).2.2]) w')) := Lib.hid fun w' => grant_any w' _ c (by omega) (by omega) hc
    by_cases hbad2 : o + 1 = top ∨ late < c
    · have hG : granted (o + 1) c = (o + 1, Pst.zero, 101) := by unfold granted; rw [if_pos hbad2]
      rw [hG] at GS
      unfold Pst.agg Pst.zero at GS
      simp only at GS
      clear hG hbad2 ho1 hgo hb hc hb8 ho3
      go_enter Try.func8, Try.ntmps8
      go_wp2_with fail
      refine NW.out.mono ?_
      rintro e w1 ⟨rfl, k1⟩
      have HK1 := Lib.hid k1
      clear NW k1
      go_wp2_with fail
      refine (GR.out _).mono ?_
      rintro e w2 ⟨rfl, k2⟩
      obtain ⟨K3, Y3, Z3⟩ := two_boxes w2 #[.int .u64 (o + 1)] #[.int .i64 2, .int .u64 o, .int .u64 (b + 8)] 24 27
      have HK3 := Lib.hid ((HK1.out.trans k2 (fun _ _ h => h)).trans K3 (fun _ _ h => h))
      have HY3 := Lib.hid Y3
      have HZ3 := Lib.hid Z3
      clear GR HK1 k2 K3 Y3 Z3
      go_upto_region 2 with fail
      generalize ((w2.alloc (.cells #[.int .u64 (o + 1)] 24)).alloc (.cells #[.int .i64 2, .int .u64 o, .int .u64 (b + 8)] 27)) = w3 at *
      have b0 := HY3.out.cell 0
      go_wp2_with fail
      refine (GS.out _).mono ?_
      rintro e w4 ⟨rfl, k4⟩
      obtain ⟨K5, Y5, Z5⟩ := two_boxes w4 #[.int .u64 (o + 1)] #[.int .i64 0, .int .u64 0, .int .u64 0] 24 27
      have HK5 := Lib.hid ((HK3.out.trans k4 (fun _ _ h => h)).trans K5 (fun _ _ h => h))
      have HZ5 := Lib.hid ((HZ3.out.keep k4 id).keep K5 id)
      have HU5 := Lib.hid Z5
      clear GS HK3 HY3 HZ3 k4 K5 Y5 Z5 b0
      go_upto_region 5 with fail
      generalize ((w4.alloc (.cells #[.int .u64 (o + 1)] 24)).alloc (.cells #[.int .i64 0, .int .u64 0, .int .u64 0] 27)) = w5 at *
      go_wp2_with fail
      refine (alive_any _).mono ?_
      rintro e w6 ⟨rfl, k6⟩
      have HK6 := Lib.hid (HK5.out.trans k6 (fun _ _ h => h))
      clear HK5 HZ5 HU5 k6
      go_wp2
      go_ret
      exact ⟨rfl, HK6.out⟩
    · have hG : granted (o + 1) c = (o + 1 + 1, ⟨2, o + 1, c + 8⟩, 0) := by unfold granted; rw [if_neg hbad2]
      rw [hG] at GS
      unfold Pst.agg at GS
      simp only at GS
      have gne : (o != o + 1) = true := by rw [bne_iff_ne]; omega
      have H1 : Hid (∀ w', Calls Try.prog 16 #[.agg #[.int .i64 2, .int .u64 o, .int .u64 (b + 8)], .int .u64 (o + 1), .int .u64 b] w' (TellsB false w')) := Lib.hid fun w' => by
        have h := holds_any w' ⟨2, o, (b + 8)⟩ (o + 1) b (by omega)
        rw [show holdsB ⟨2, o, (b + 8)⟩ (o + 1) b = false from (by unfold holdsB; simp only [Bool.and_eq_false_iff, beq_eq_false_iff_ne, bne_eq_false_iff_eq, decide_eq_false_iff_not]; omega)] at h
        exact h
      have H2 : Hid (∀ w', Calls Try.prog 16 #[.agg #[.int .i64 2, .int .u64 (o + 1), .int .u64 (c + 8)], .int .u64 o, .int .u64 c] w' (TellsB false w')) := Lib.hid fun w' => by
        have h := holds_any w' ⟨2, (o + 1), (c + 8)⟩ o c (by omega)
        rw [show holdsB ⟨2, (o + 1), (c + 8)⟩ o c = false from (by unfold holdsB; simp only [Bool.and_eq_false_iff, beq_eq_false_iff_ne, bne_eq_false_iff_eq, decide_eq_false_iff_not]; omega)] at h
        exact h
      have H3 : Hid (∀ w', Calls Try.prog 16 #[.agg #[.int .i64 2, .int .u64 o, .int .u64 (b + 8)], .int .u64 o, .int .u64 b] w' (TellsB true w')) := Lib.hid fun w' => by
        have h := holds_any w' ⟨2, o, (b + 8)⟩ o b (by omega)
        rw [show holdsB ⟨2, o, (b + 8)⟩ o b = true from (by unfold holdsB; simp only [beq_self_eq_true, bne_iff_ne, ne_eq, Bool.and_eq_true, decide_eq_true_eq, true_and]; omega)] at h
        exact h
      have H4 : Hid (∀ w', Calls Try.prog 16 #[.agg #[.int .i64 2, .int .u64 (o + 1), .int .u64 (c + 8)], .int .u64 (o + 1), .int .u64 c] w' (TellsB true w')) := Lib.hid fun w' => by
        have h := holds_any w' ⟨2, (o + 1), (c + 8)⟩ (o + 1) c (by omega)
        rw [show holdsB ⟨2, (o + 1), (c + 8)⟩ (o + 1) c = true from (by unfold holdsB; simp only [beq_self_eq_true, bne_iff_ne, ne_eq, Bool.and_eq_true, decide_eq_true_eq, true_and]; omega)] at h
        exact h
      clear hG hbad2 ho1 hgo hb hc hb8 ho3
      go_enter Try.func8, Try.ntmps8
      go_wp2_with fail
      refine NW.out.mono ?_
      rintro e w1 ⟨rfl, k1⟩
      have HK1 := Lib.hid k1
      clear NW k1
      go_wp2_with fail
      refine (GR.out _).mono ?_
      rintro e w2 ⟨rfl, k2⟩
      obtain ⟨K3, Y3, Z3⟩ := two_boxes w2 #[.int .u64 (o + 1)] #[.int .i64 2, .int .u64 o, .int .u64 (b + 8)] 24 27
      have HK3 := Lib.hid ((HK1.out.trans k2 (fun _ _ h => h)).trans K3 (fun _ _ h => h))
      have HY3 := Lib.hid Y3
      have HZ3 := Lib.hid Z3
      clear GR HK1 k2 K3 Y3 Z3
      go_upto_region 2 with fail
      generalize ((w2.alloc (.cells #[.int .u64 (o + 1)] 24)).alloc (.cells #[.int .i64 2, .int .u64 o, .int .u64 (b + 8)] 27)) = w3 at *
      have b0 := HY3.out.cell 0
      go_wp2_with fail
      refine (GS.out _).mono ?_
      rintro e w4 ⟨rfl, k4⟩
      obtain ⟨K5, Y5, Z5⟩ := two_boxes w4 #[.int .u64 (o + 1 + 1)] #[.int .i64 2, .int .u64 (o + 1), .int .u64 (c + 8)] 24 27
      have HK5 := Lib.hid ((HK3.out.trans k4 (fun _ _ h => h)).trans K5 (fun _ _ h => h))
      have HZ5 := Lib.hid ((HZ3.out.keep k4 id).keep K5 id)
      have HU5 := Lib.hid Z5
      clear GS HK3 HY3 HZ3 k4 K5 Y5 Z5 b0
      go_upto_region 5 with fail
      generalize ((w4.alloc (.cells #[.int .u64 (o + 1 + 1)] 24)).alloc (.cells #[.int .i64 2, .int .u64 (o + 1), .int .u64 (c + 8)] 27)) = w5 at *
      have MK : Hid (∀ w', Keep noneOf w5 w' → w'.cell? ⟨w2.heap.size + 1, 0, none⟩ = some (.int .i64 2) ∧ w'.cell? ⟨w2.heap.size + 1, 1, none⟩ = some (.int .u64 o) ∧ w'.cell? ⟨w2.heap.size + 1, 2, none⟩ = some (.int .u64 (b + 8)) ∧ w'.cell? ⟨w4.heap.size + 1, 0, none⟩ = some (.int .i64 2) ∧ w'.cell? ⟨w4.heap.size + 1, 1, none⟩ = some (.int .u64 (o + 1)) ∧ w'.cell? ⟨w4.heap.size + 1, 2, none⟩ = some (.int .u64 (c + 8))) := Lib.hid fun w' k' => ⟨(HZ5.out.keep k' id).cell 0, (HZ5.out.keep k' id).cell 1, (HZ5.out.keep k' id).cell 2, (HU5.out.keep k' id).cell 0, (HU5.out.keep k' id).cell 1, (HU5.out.keep k' id).cell 2⟩
      clear HZ5 HU5
      have KQ5 : Keep noneOf w5 w5 := Keep.refl _ _
      obtain ⟨c0, c1, c2, d0, d1, d2⟩ := MK.out _ KQ5
      have HKQ5 := Lib.hid KQ5
      clear KQ5
      go_wp2_with fail
      refine (alive_any _).mono ?_
      rintro e w6 ⟨rfl, k6⟩
      have KQ6 := HKQ5.out.trans k6 (fun _ _ h => h)
      clear HKQ5 k6 c0 c1 c2 d0 d1 d2
      obtain ⟨c0, c1, c2, d0, d1, d2⟩ := MK.out _ KQ6
      have HKQ6 := Lib.hid KQ6
      clear KQ6
      go_wp2_with fail
      refine (H1.out _).mono ?_
      rintro e w7 ⟨rfl, k7⟩
      have KQ7 := HKQ6.out.trans k7 (fun _ _ h => h)
      clear HKQ6 k7 c0 c1 c2 d0 d1 d2
      obtain ⟨c0, c1, c2, d0, d1, d2⟩ := MK.out _ KQ7
      have HKQ7 := Lib.hid KQ7
      clear KQ7
      go_wp2_with fail
      refine (H2.out _).mono ?_
      rintro e w8 ⟨rfl, k8⟩
      have KQ8 := HKQ7.out.trans k8 (fun _ _ h => h)
      clear HKQ7 k8 c0 c1 c2 d0 d1 d2
      obtain ⟨c0, c1, c2, d0, d1, d2⟩ := MK.out _ KQ8
      have HKQ8 := Lib.hid KQ8
      clear KQ8
      go_wp2_with fail
      refine (H3.out _).mono ?_
      rintro e w9 ⟨rfl, k9⟩
      have KQ9 := HKQ8.out.trans k9 (fun _ _ h => h)
      clear HKQ8 k9 c0 c1 c2 d0 d1 d2
      obtain ⟨c0, c1, c2, d0, d1, d2⟩ := MK.out _ KQ9
      have HKQ9 := Lib.hid KQ9
      clear KQ9
      go_wp2_with fail
      refine (H4.out _).mono ?_
      rintro e w10 ⟨rfl, k10⟩
      have KQ10 := HKQ9.out.trans k10 (fun _ _ h => h)
      clear HKQ9 k10 c0 c1 c2 d0 d1 d2
      obtain ⟨c0, c1, c2, d0, d1, d2⟩ := MK.out _ KQ10
      have HKQ := Lib.hid KQ10
      clear KQ10
      go_wp2
      go_ret
      exact ⟨rfl, HK5.out.trans HKQ.out (fun _ _ h => h)⟩

namespace LeaseApart
set_option maxRecDepth 100000 in
theorem lifted (os : Os) (started : os.Started) (H : Type) (enc : TypeId × Value → H) :
    ReturnsInHanded {} Try.checked os 8 .any (Rows.leaseApartSpec.pre6 enc Try.prog Try.f8 Rows.leaseApartRow.domain false) (Rows.leaseApartSpec.post enc Try.prog Try.f8 false true false false) := by
  refine returnsInHanded_of_change_sized (C := Try.checked) own started (by kernel_rfl) Try.func8
    (ChangeSpec.witness6 (enc := enc) (C := Try.checked) false ⟨#[], #[.int .u64 0, .int .u64 0, .int .u64 0], []⟩ 8 (by kernel_rfl) (by kernel_rfl) (by kernel_rfl) (by kernel_rfl)) ?_
  intro W base args ds gs before hval0 hW hcnd hsz _
  have hval : ∀ (j : Nat) t v, Try.f8.params[j]? = some t → args[j]? = some v → Value.okWide Try.prog W .any base t v := hval0
  have hW' := hW
  obtain ⟨p, q, hA0, hV, rfl, hfz, hnd⟩ := hW
  have hA : DataW.TrodAll enc Try.prog W 0 (fun _ => true) true Try.f8.params.toList args.toList ds p := hA0
  rw [Try.params8] at hA hval
  obtain ⟨v0, vs0, d0, ds0, p0, q0, hargs, rfl, rfl, h0, r0⟩ := trodAll_cons hA
  obtain ⟨v1, vs1, d1, ds1, p1, q1, rfl, rfl, rfl, h1, r1⟩ := trodAll_cons r0
  obtain ⟨v2, vs2, d2, ds2, p2, q2, rfl, rfl, rfl, h2, r2⟩ := trodAll_cons r1
  obtain ⟨rfl, rfl, rfl⟩ := trodAll_nil r2
  obtain rfl : args = #[v0, v1, v2] := by cases args; simp_all
  obtain ⟨rfl, rfl⟩ := trodVars_none hV
  obtain ⟨a0, rfl, rfl, rfl, w0⟩ := open_int Try.underlying22 (hval 0 22 v0 rfl rfl) h0
  obtain ⟨a1, rfl, rfl, rfl, w1⟩ := open_int Try.underlying22 (hval 1 22 v1 rfl rfl) h1
  obtain ⟨a2, rfl, rfl, rfl, w2⟩ := open_int Try.underlying22 (hval 2 22 v2 rfl rfl) h2
  clear hA0 hval0
  refine (apart_walk W a0 a1 a2 (u64_in w0).1 (u64_in w0).2 (u64_in w1).1 (u64_in w2).1).mono fun e W' ⟨he, bel0⟩ => ?_
  subst he
  have bel := bel0.all
  exact ⟨_, rfl, _, _, _, [], _, [], hW', trodAll_mk1 (shut_bool Try.underlying4 _), (trodAll_cons_mk (shut_int Try.underlying22 w0) (trodAll_cons_mk (shut_int Try.underlying22 w1) (trodAll_cons_mk (shut_int Try.underlying22 w2) trodAll_mk0))), rfl, bel.frame _, fun h => by cases h⟩

theorem over : Rows.leaseApartRow.holds Try.pinned (OpenSpec.ofChange Rows.leaseApartSpec) :=
  OpenClaim.holds_of_wide 8 Try.f8 rfl rfl rfl rfl rfl rfl rfl ⟨rfl, rfl, rfl, rfl, rfl⟩ rfl rfl rfl rfl rfl (by kernel_rfl) Try.func8 (by kernel_rfl)
    (of_decide_eq_true (by kernel_rfl)) (by unfold Func.isWrapper; first | (rw [if_pos (by decide +kernel)]; kernel_rfl) | (rw [if_neg (by decide +kernel)]; exact ⟨rfl, rfl⟩))
    (fun os started H enc _ => lifted os started H enc)

theorem proved : Rows.LeaseApartSaid := over
end LeaseApart
end Go.Proofs.Ytcanmgoelbgdfaa
