/-
  Proved: dockyardlaw10.LeaseEnds answers true for every input that can be read, and leaves its arguments as they were. No conditions.
-/
import Derived.Test.YtcanmgoelbgdfaaLsAlive
import Derived.Test.YtcanmgoelbgdfaaLsOwn
namespace Go.Proofs.Ytcanmgoelbgdfaa
open Go.ChangeShapes Go.WideShapes Go.ChangeAt Go.RowKit

set_option maxRecDepth 100000 in
set_option maxHeartbeats 4000000 in
theorem ends_walk (w : World) (a b c : Int) (ha0 : 0 ≤ a) (ha1 : a ≤ top) (hb : 0 ≤ b) (hc : 0 ≤ c) : Calls Try.prog 6 #[.int .u64 a, .int .u64 b, .int .u64 c] w (TellsB true w) := by
  have ho1 : 1 ≤ max a 1 := by omega
  have ho2 : max a 1 ≤ top := by unfold top at *; omega
  have NW := Lib.hid (new_any w a)
  have GR : Hid (∀ w', Calls Try.prog 10 #[.agg #[.int .u64 (max a 1)], .int .u64 b] w' (TellsV (.tuple #[.agg #[.int .u64 (granted (max a 1) b).1], (granted (max a 1) b).2.1.agg, .int .i64 (granted (max a 1) b).2.2]) w')) := Lib.hid fun w' => grant_any w' _ b ho1 ho2 hb
  clear ha0 ha1
  generalize hgo : max a 1 = o at *
  by_cases hbad : o = top ∨ late < b
  · have hG : granted o b = (o, Pst.zero, 101) := by unfold granted; rw [if_pos hbad]
    rw [hG] at GR
    unfold Pst.agg Pst.zero at GR
    simp only at GR
    clear hG hbad ho1 ho2 hgo hb
    go_enter Try.func6, Try.ntmps6
    go_wp2_with fail
    refine NW.out.mono ?_
    rintro e w1 ⟨rfl, k1⟩
    have HK1 := Lib.hid k1
    clear NW k1
    go_wp2_with fail
    refine (GR.out _).mono ?_
    rintro e w2 ⟨rfl, k2⟩
    obtain ⟨K3, -, -⟩ := two_boxes w2 #[.int .u64 o] #[.int .i64 0, .int .u64 0, .int .u64 0] 24 27
    have HK3 := Lib.hid ((HK1.out.trans k2 (fun _ _ h => h)).trans K3 (fun _ _ h => h))
    clear GR HK1 k2 K3
    go_wp2_with fail
    refine (alive_any _).mono ?_
    rintro e w4 ⟨rfl, k4⟩
    have HK4 := Lib.hid (HK3.out.trans k4 (fun _ _ h => h))
    clear HK3 k4
    go_wp2
    go_ret
    exact ⟨rfl, HK4.out⟩
  · have hG : granted o b = (o + 1, ⟨2, o, b + 8⟩, 0) := by unfold granted; rw [if_neg hbad]
    rw [hG] at GR
    unfold Pst.agg at GR
    simp only at GR
    have ho3 : o < top := by
      have : o ≠ top := fun h => hbad (.inl h)
      omega
    have hb8 : ¬ late < b := fun h => hbad (.inr h)
    clear hG hbad ho2
    have w1o := wrap1 ho1 ho3
    have HA : Hid (∀ w', Calls Try.prog 16 #[.agg #[.int .i64 2, .int .u64 o, .int .u64 (b + 8)], .int .u64 (o + 1), .int .u64 c] w' (TellsB false w')) := Lib.hid fun w' => by
      have h := holds_any w' ⟨2, o, (b + 8)⟩ (o + 1) c (by omega)
      rw [show holdsB ⟨2, o, (b + 8)⟩ (o + 1) c = false from (by unfold holdsB; simp only [Bool.and_eq_false_iff, beq_eq_false_iff_ne, bne_eq_false_iff_eq, decide_eq_false_iff_not]; omega)] at h
      exact h
    have HZ : Hid (∀ w', Calls Try.prog 16 #[.agg #[.int .i64 2, .int .u64 o, .int .u64 (b + 8)], .int .u64 0, .int .u64 c] w' (TellsB false w')) := Lib.hid fun w' => by
      have h := holds_any w' ⟨2, o, (b + 8)⟩ 0 c (by omega)
      rw [show holdsB ⟨2, o, (b + 8)⟩ 0 c = false from (by unfold holdsB; simp only [Bool.and_eq_false_iff, beq_eq_false_iff_ne, bne_eq_false_iff_eq, decide_eq_false_iff_not]; omega)] at h
      exact h
    by_cases hl : c < b + 8
    · have HH : Hid (∀ w', Calls Try.prog 16 #[.agg #[.int .i64 2, .int .u64 o, .int .u64 (b + 8)], .int .u64 o, .int .u64 c] w' (TellsB true w')) := Lib.hid fun w' => by
        have h := holds_any w' ⟨2, o, (b + 8)⟩ o c (by omega)
        rw [show holdsB ⟨2, o, (b + 8)⟩ o c = true from (by unfold holdsB; simp only [beq_self_eq_true, bne_iff_ne, ne_eq, Bool.and_eq_true, decide_eq_true_eq, true_and]; omega)] at h
        exact h
      by_cases hlate : late < c
      · have RR : Hid (∀ w', Calls Try.prog 14 #[.agg #[.int .i64 2, .int .u64 o, .int .u64 (b + 8)], .int .u64 o, .int .u64 c] w' (TellsV (.tuple #[.agg #[.int .i64 0, .int .u64 0, .int .u64 0], .int .i64 101]) w')) := Lib.hid fun w' => by
          have h := renew_any w' ⟨2, o, (b + 8)⟩ o c (by omega) (by omega)
          rw [show renewed ⟨2, o, (b + 8)⟩ o c = (⟨0, 0, 0⟩, 101) from (by unfold renewed; rw [if_neg (by rw [show holdsB ⟨2, o, (b + 8)⟩ o c = true from (by unfold holdsB; simp only [beq_self_eq_true, bne_iff_ne, ne_eq, Bool.and_eq_true, decide_eq_true_eq, true_and]; omega)]; decide), if_pos hlate]; rfl)] at h
          exact h
        clear hlate hb hc ho1 ho3 hgo hb8
        go_enter Try.func6, Try.ntmps6
        go_wp2_with fail
        refine NW.out.mono ?_
        rintro e w1 ⟨rfl, k1⟩
        have HK1 := Lib.hid k1
        clear NW k1
        go_wp2_with fail
        refine (GR.out _).mono ?_
        rintro e w2 ⟨rfl, k2⟩
        obtain ⟨K3, Y3, Z3⟩ := two_boxes w2 #[.int .u64 (o + 1)] #[.int .i64 2, .int .u64 o, .int .u64 (b + 8)] 24 27
        have HK3 := Lib.hid ((HK1.out.trans k2 (fun _ _ h => h)).trans K3 (fun _ _ h => h))
        have HY3 := Lib.hid Y3
        have HZ3 := Lib.hid Z3
        clear GR HK1 k2 K3 Y3 Z3
        go_upto_region 2 with fail
        generalize ((w2.alloc (.cells #[.int .u64 (o + 1)] 24)).alloc (.cells #[.int .i64 2, .int .u64 o, .int .u64 (b + 8)] 27)) = w3 at *
        have MK : Hid (∀ w', Keep noneOf w3 w' → w'.cell? ⟨w2.heap.size + 1, 0, none⟩ = some (.int .i64 2) ∧ w'.cell? ⟨w2.heap.size + 1, 1, none⟩ = some (.int .u64 o) ∧ w'.cell? ⟨w2.heap.size + 1, 2, none⟩ = some (.int .u64 (b + 8))) := Lib.hid fun w' k' => ⟨(HZ3.out.keep k' id).cell 0, (HZ3.out.keep k' id).cell 1, (HZ3.out.keep k' id).cell 2⟩
        have KA3 : Keep noneOf w3 w3 := Keep.refl _ _
        obtain ⟨c0, c1, c2⟩ := MK.out _ KA3
        have HKA3 := Lib.hid KA3
        clear KA3
        go_wp2_with fail
        refine (HH.out _).mono ?_
        rintro e w4 ⟨rfl, k4⟩
        have KA4 := HKA3.out.trans k4 (fun _ _ h => h)
        clear HKA3 k4 c0 c1 c2
        obtain ⟨c0, c1, c2⟩ := MK.out _ KA4
        have HKA4 := Lib.hid KA4
        clear KA4
        go_wp2_with fail
        refine (RR.out _).mono ?_
        rintro e w5 ⟨rfl, k5⟩
        have KA5 := HKA4.out.trans k5 (fun _ _ h => h)
        clear HKA4 k5 c0 c1 c2
        have HKA := Lib.hid KA5
        clear KA5
        have kb := (Keep.refl noneOf w5).alloc (.cells #[.int .i64 0, .int .u64 0, .int .u64 0] 27)
        have HZ5 := Lib.hid ((HZ3.out.keep HKA.out id).keep kb id)
        have HK5 := Lib.hid ((HK3.out.trans HKA.out (fun _ _ h => h)).trans kb (fun _ _ h => h))
        have HU5 := Lib.hid (Box.new w5 27 #[.int .i64 0, .int .u64 0, .int .u64 0])
        clear MK HK3 HZ3 HKA kb HH RR
        go_upto_region 6 with fail
        generalize w5.alloc (.cells #[.int .i64 0, .int .u64 0, .int .u64 0] 27) = w6 at *
        have MK : Hid (∀ w', Keep noneOf w6 w' → w'.cell? ⟨w2.heap.size + 1, 0, none⟩ = some (.int .i64 2) ∧ w'.cell? ⟨w2.heap.size + 1, 1, none⟩ = some (.int .u64 o) ∧ w'.cell? ⟨w2.heap.size + 1, 2, none⟩ = some (.int .u64 (b + 8)) ∧ w'.cell? ⟨w5.heap.size, 0, none⟩ = some (.int .i64 0) ∧ w'.cell? ⟨w5.heap.size, 1, none⟩ = some (.int .u64 0) ∧ w'.cell? ⟨w5.heap.size, 2, none⟩ = some (.int .u64 0)) := Lib.hid fun w' k' => ⟨(HZ5.out.keep k' id).cell 0, (HZ5.out.keep k' id).cell 1, (HZ5.out.keep k' id).cell 2, (HU5.out.keep k' id).cell 0, (HU5.out.keep k' id).cell 1, (HU5.out.keep k' id).cell 2⟩
        clear HZ5 HU5
        have KQ6 : Keep noneOf w6 w6 := Keep.refl _ _
        obtain ⟨c0, c1, c2, d0, d1, d2⟩ := MK.out _ KQ6
        have HKQ6 := Lib.hid KQ6
        clear KQ6
        go_wp2_with fail
        refine (HA.out _).mono ?_
        rintro e w7 ⟨rfl, k7⟩
        have KQ7 := HKQ6.out.trans k7 (fun _ _ h => h)
        clear HKQ6 k7 c0 c1 c2 d0 d1 d2
        obtain ⟨c0, c1, c2, d0, d1, d2⟩ := MK.out _ KQ7
        have HKQ7 := Lib.hid KQ7
        clear KQ7
        go_wp2_with fail
        refine (HZ.out _).mono ?_
        rintro e w8 ⟨rfl, k8⟩
        have KQ8 := HKQ7.out.trans k8 (fun _ _ h => h)
        clear HKQ7 k8 c0 c1 c2 d0 d1 d2
        obtain ⟨c0, c1, c2, d0, d1, d2⟩ := MK.out _ KQ8
        have HKQ8 := Lib.hid KQ8
        clear KQ8
        go_wp2_with fail
        refine (alive_any _).mono ?_
        rintro e w9 ⟨rfl, k9⟩
        have KQ9 := HKQ8.out.trans k9 (fun _ _ h => h)
        clear HKQ8 k9 c0 c1 c2 d0 d1 d2
        obtain ⟨c0, c1, c2, d0, d1, d2⟩ := MK.out _ KQ9
        have HKQ := Lib.hid KQ9
        clear KQ9
        go_wp2
        go_ret
        exact ⟨rfl, HK5.out.trans HKQ.out (fun _ _ h => h)⟩
      · obtain ⟨m, hm⟩ : ∃ m, max (b + 8) (c + 8) = m := ⟨_, rfl⟩
        have RR : Hid (∀ w', Calls Try.prog 14 #[.agg #[.int .i64 2, .int .u64 o, .int .u64 (b + 8)], .int .u64 o, .int .u64 c] w' (TellsV (.tuple #[.agg #[.int .i64 2, .int .u64 o, .int .u64 m], .int .i64 0]) w')) := Lib.hid fun w' => by
          have h := renew_any w' ⟨2, o, (b + 8)⟩ o c (by omega) (by omega)
          rw [show renewed ⟨2, o, (b + 8)⟩ o c = (⟨2, o, m⟩, 0) from (by unfold renewed; rw [if_neg (by rw [show holdsB ⟨2, o, (b + 8)⟩ o c = true from (by unfold holdsB; simp only [beq_self_eq_true, bne_iff_ne, ne_eq, Bool.and_eq_true, decide_eq_true_eq, true_and]; omega)]; decide), if_neg hlate]; simp only [hm])] at h
          exact h
        have HT : Hid (∀ w', Calls Try.prog 16 #[.agg #[.int .i64 2, .int .u64 o, .int .u64 m], .int .u64 o, .int .u64 c] w' (TellsB true w')) := Lib.hid fun w' => by
          have h := holds_any w' ⟨2, o, m⟩ o c (by omega)
          rw [show holdsB ⟨2, o, m⟩ o c = true from (by unfold holdsB; simp only [beq_self_eq_true, bne_iff_ne, ne_eq, Bool.and_eq_true, decide_eq_true_eq, true_and]; omega)] at h
          exact h
        have gm : b + 8 ≤ m := by omega
        clear hlate hb hc ho1 ho3 hgo hb8 hm
        go_enter Try.func6, Try.ntmps6
        go_wp2_with fail
        refine NW.out.mono ?_
        rintro e w1 ⟨rfl, k1⟩
        have HK1 := Lib.hid k1
        clear NW k1
        go_wp2_with fail
        refine (GR.out _).mono ?_
        rintro e w2 ⟨rfl, k2⟩
        obtain ⟨K3, Y3, Z3⟩ := two_boxes w2 #[.int .u64 (o + 1)] #[.int .i64 2, .int .u64 o, .int .u64 (b + 8)] 24 27
        have HK3 := Lib.hid ((HK1.out.trans k2 (fun _ _ h => h)).trans K3 (fun _ _ h => h))
        have HY3 := Lib.hid Y3
        have HZ3 := Lib.hid Z3
        clear GR HK1 k2 K3 Y3 Z3
        go_upto_region 2 with fail
        generalize ((w2.alloc (.cells #[.int .u64 (o + 1)] 24)).alloc (.cells #[.int .i64 2, .int .u64 o, .int .u64 (b + 8)] 27)) = w3 at *
        have MK : Hid (∀ w', Keep noneOf w3 w' → w'.cell? ⟨w2.heap.size + 1, 0, none⟩ = some (.int .i64 2) ∧ w'.cell? ⟨w2.heap.size + 1, 1, none⟩ = some (.int .u64 o) ∧ w'.cell? ⟨w2.heap.size + 1, 2, none⟩ = some (.int .u64 (b + 8))) := Lib.hid fun w' k' => ⟨(HZ3.out.keep k' id).cell 0, (HZ3.out.keep k' id).cell 1, (HZ3.out.keep k' id).cell 2⟩
        have KA3 : Keep noneOf w3 w3 := Keep.refl _ _
        obtain ⟨c0, c1, c2⟩ := MK.out _ KA3
        have HKA3 := Lib.hid KA3
        clear KA3
        go_wp2_with fail
        refine (HH.out _).mono ?_
        rintro e w4 ⟨rfl, k4⟩
        have KA4 := HKA3.out.trans k4 (fun _ _ h => h)
        clear HKA3 k4 c0 c1 c2
        obtain ⟨c0, c1, c2⟩ := MK.out _ KA4
        have HKA4 := Lib.hid KA4
        clear KA4
        go_wp2_with fail
        refine (RR.out _).mono ?_
        rintro e w5 ⟨rfl, k5⟩
        have KA5 := HKA4.out.trans k5 (fun _ _ h => h)
        clear HKA4 k5 c0 c1 c2
        have HKA := Lib.hid KA5
        clear KA5
        have kb := (Keep.refl noneOf w5).alloc (.cells #[.int .i64 2, .int .u64 o, .int .u64 m] 27)
        have HZ5 := Lib.hid ((HZ3.out.keep HKA.out id).keep kb id)
        have HK5 := Lib.hid ((HK3.out.trans HKA.out (fun _ _ h => h)).trans kb (fun _ _ h => h))
        have HU5 := Lib.hid (Box.new w5 27 #[.int .i64 2, .int .u64 o, .int .u64 m])
        clear MK HK3 HZ3 HKA kb HH RR
        go_upto_region 6 with fail
        generalize w5.alloc (.cells #[.int .i64 2, .int .u64 o, .int .u64 m] 27) = w6 at *
        have MK : Hid (∀ w', Keep noneOf w6 w' → w'.cell? ⟨w2.heap.size + 1, 0, none⟩ = some (.int .i64 2) ∧ w'.cell? ⟨w2.heap.size + 1, 1, none⟩ = some (.int .u64 o) ∧ w'.cell? ⟨w2.heap.size + 1, 2, none⟩ = some (.int .u64 (b + 8)) ∧ w'.cell? ⟨w5.heap.size, 0, none⟩ = some (.int .i64 2) ∧ w'.cell? ⟨w5.heap.size, 1, none⟩ = some (.int .u64 o) ∧ w'.cell? ⟨w5.heap.size, 2, none⟩ = some (.int .u64 m)) := Lib.hid fun w' k' => ⟨(HZ5.out.keep k' id).cell 0, (HZ5.out.keep k' id).cell 1, (HZ5.out.keep k' id).cell 2, (HU5.out.keep k' id).cell 0, (HU5.out.keep k' id).cell 1, (HU5.out.keep k' id).cell 2⟩
        clear HZ5 HU5
        have KQ6 : Keep noneOf w6 w6 := Keep.refl _ _
        obtain ⟨c0, c1, c2, d0, d1, d2⟩ := MK.out _ KQ6
        have HKQ6 := Lib.hid KQ6
        clear KQ6
        go_wp2_with fail
        refine (HA.out _).mono ?_
        rintro e w7 ⟨rfl, k7⟩
        have KQ7 := HKQ6.out.trans k7 (fun _ _ h => h)
        clear HKQ6 k7 c0 c1 c2 d0 d1 d2
        obtain ⟨c0, c1, c2, d0, d1, d2⟩ := MK.out _ KQ7
        have HKQ7 := Lib.hid KQ7
        clear KQ7
        go_wp2_with fail
        refine (HZ.out _).mono ?_
        rintro e w8 ⟨rfl, k8⟩
        have KQ8 := HKQ7.out.trans k8 (fun _ _ h => h)
        clear HKQ7 k8 c0 c1 c2 d0 d1 d2
        obtain ⟨c0, c1, c2, d0, d1, d2⟩ := MK.out _ KQ8
        have HKQ8 := Lib.hid KQ8
        clear KQ8
        go_wp2_with fail
        refine (alive_any _).mono ?_
        rintro e w9 ⟨rfl, k9⟩
        have KQ9 := HKQ8.out.trans k9 (fun _ _ h => h)
        clear HKQ8 k9 c0 c1 c2 d0 d1 d2
        obtain ⟨c0, c1, c2, d0, d1, d2⟩ := MK.out _ KQ9
        have HKQ9 := Lib.hid KQ9
        clear KQ9
        go_wp2_with fail
        refine (HT.out _).mono ?_
        rintro e w10 ⟨rfl, k10⟩
        have KQ10 := HKQ9.out.trans k10 (fun _ _ h => h)
        clear HKQ9 k10 c0 c1 c2 d0 d1 d2
        obtain ⟨c0, c1, c2, d0, d1, d2⟩ := MK.out _ KQ10
        have HKQ := Lib.hid KQ10
        clear KQ10
        go_wp2
        go_ret
        exact ⟨rfl, HK5.out.trans HKQ.out (fun _ _ h => h)⟩
    · have HH : Hid (∀ w', Calls Try.prog 16 #[.agg #[.int .i64 2, .int .u64 o, .int .u64 (b + 8)], .int .u64 o, .int .u64 c] w' (TellsB false w')) := Lib.hid fun w' => by
        have h := holds_any w' ⟨2, o, (b + 8)⟩ o c (by omega)
        rw [show holdsB ⟨2, o, (b + 8)⟩ o c = false from (by unfold holdsB; simp only [Bool.and_eq_false_iff, beq_eq_false_iff_ne, bne_eq_false_iff_eq, decide_eq_false_iff_not]; omega)] at h
        exact h
      have RR : Hid (∀ w', Calls Try.prog 14 #[.agg #[.int .i64 2, .int .u64 o, .int .u64 (b + 8)], .int .u64 o, .int .u64 c] w' (TellsV (.tuple #[.agg #[.int .i64 0, .int .u64 0, .int .u64 0], .int .i64 100]) w')) := Lib.hid fun w' => by
        have h := renew_any w' ⟨2, o, (b + 8)⟩ o c (by omega) (by omega)
        rw [show renewed ⟨2, o, (b + 8)⟩ o c = (⟨0, 0, 0⟩, 100) from (by unfold renewed; rw [if_pos (by unfold holdsB; simp only [Bool.and_eq_false_iff, beq_eq_false_iff_ne, bne_eq_false_iff_eq, decide_eq_false_iff_not]; omega)]; rfl)] at h
        exact h
      clear hb hc ho1 ho3 hgo hb8
      go_enter Try.func6, Try.ntmps6
      go_wp2_with fail
      refine NW.out.mono ?_
      rintro e w1 ⟨rfl, k1⟩
      have HK1 := Lib.hid k1
      clear NW k1
      go_wp2_with fail
      refine (GR.out _).mono ?_
      rintro e w2 ⟨rfl, k2⟩
      obtain ⟨K3, Y3, Z3⟩ := two_boxes w2 #[.int .u64 (o + 1)] #[.int .i64 2, .int .u64 o, .int .u64 (b + 8)] 24 27
      have HK3 := Lib.hid ((HK1.out.trans k2 (fun _ _ h => h)).trans K3 (fun _ _ h => h))
      have HY3 := Lib.hid Y3
      have HZ3 := Lib.hid Z3
      clear GR HK1 k2 K3 Y3 Z3
      go_upto_region 2 with fail
      generalize ((w2.alloc (.cells #[.int .u64 (o + 1)] 24)).alloc (.cells #[.int .i64 2, .int .u64 o, .int .u64 (b + 8)] 27)) = w3 at *
      have MK : Hid (∀ w', Keep noneOf w3 w' → w'.cell? ⟨w2.heap.size + 1, 0, none⟩ = some (.int .i64 2) ∧ w'.cell? ⟨w2.heap.size + 1, 1, none⟩ = some (.int .u64 o) ∧ w'.cell? ⟨w2.heap.size + 1, 2, none⟩ = some (.int .u64 (b + 8))) := Lib.hid fun w' k' => ⟨(HZ3.out.keep k' id).cell 0, (HZ3.out.keep k' id).cell 1, (HZ3.out.keep k' id).cell 2⟩
      have KA3 : Keep noneOf w3 w3 := Keep.refl _ _
      obtain ⟨c0, c1, c2⟩ := MK.out _ KA3
      have HKA3 := Lib.hid KA3
      clear KA3
      go_wp2_with fail
      refine (HH.out _).mono ?_
      rintro e w4 ⟨rfl, k4⟩
      have KA4 := HKA3.out.trans k4 (fun _ _ h => h)
      clear HKA3 k4 c0 c1 c2
      obtain ⟨c0, c1, c2⟩ := MK.out _ KA4
      have HKA4 := Lib.hid KA4
      clear KA4
      go_wp2_with fail
      refine (RR.out _).mono ?_
      rintro e w5 ⟨rfl, k5⟩
      have KA5 := HKA4.out.trans k5 (fun _ _ h => h)
      clear HKA4 k5 c0 c1 c2
      have HKA := Lib.hid KA5
      clear KA5
      have kb := (Keep.refl noneOf w5).alloc (.cells #[.int .i64 0, .int .u64 0, .int .u64 0] 27)
      have HZ5 := Lib.hid ((HZ3.out.keep HKA.out id).keep kb id)
      have HK5 := Lib.hid ((HK3.out.trans HKA.out (fun _ _ h => h)).trans kb (fun _ _ h => h))
      have HU5 := Lib.hid (Box.new w5 27 #[.int .i64 0, .int .u64 0, .int .u64 0])
      clear MK HK3 HZ3 HKA kb HH RR
      go_upto_region 6 with fail
      generalize w5.alloc (.cells #[.int .i64 0, .int .u64 0, .int .u64 0] 27) = w6 at *
      have MK : Hid (∀ w', Keep noneOf w6 w' → w'.cell? ⟨w2.heap.size + 1, 0, none⟩ = some (.int .i64 2) ∧ w'.cell? ⟨w2.heap.size + 1, 1, none⟩ = some (.int .u64 o) ∧ w'.cell? ⟨w2.heap.size + 1, 2, none⟩ = some (.int .u64 (b + 8)) ∧ w'.cell? ⟨w5.heap.size, 0, none⟩ = some (.int .i64 0) ∧ w'.cell? ⟨w5.heap.size, 1, none⟩ = some (.int .u64 0) ∧ w'.cell? ⟨w5.heap.size, 2, none⟩ = some (.int .u64 0)) := Lib.hid fun w' k' => ⟨(HZ5.out.keep k' id).cell 0, (HZ5.out.keep k' id).cell 1, (HZ5.out.keep k' id).cell 2, (HU5.out.keep k' id).cell 0, (HU5.out.keep k' id).cell 1, (HU5.out.keep k' id).cell 2⟩
      clear HZ5 HU5
      have KQ6 : Keep noneOf w6 w6 := Keep.refl _ _
      obtain ⟨c0, c1, c2, d0, d1, d2⟩ := MK.out _ KQ6
      have HKQ6 := Lib.hid KQ6
      clear KQ6
      go_wp2_with fail
      refine (HA.out _).mono ?_
      rintro e w7 ⟨rfl, k7⟩
      have KQ7 := HKQ6.out.trans k7 (fun _ _ h => h)
      clear HKQ6 k7 c0 c1 c2 d0 d1 d2
      obtain ⟨c0, c1, c2, d0, d1, d2⟩ := MK.out _ KQ7
      have HKQ7 := Lib.hid KQ7
      clear KQ7
      go_wp2_with fail
      refine (HZ.out _).mono ?_
      rintro e w8 ⟨rfl, k8⟩
      have KQ8 := HKQ7.out.trans k8 (fun _ _ h => h)
      clear HKQ7 k8 c0 c1 c2 d0 d1 d2
      obtain ⟨c0, c1, c2, d0, d1, d2⟩ := MK.out _ KQ8
      have HKQ8 := Lib.hid KQ8
      clear KQ8
      go_wp2_with fail
      refine (alive_any _).mono ?_
      rintro e w9 ⟨rfl, k9⟩
      have KQ9 := HKQ8.out.trans k9 (fun _ _ h => h)
      clear HKQ8 k9 c0 c1 c2 d0 d1 d2
      obtain ⟨c0, c1, c2, d0, d1, d2⟩ := MK.out _ KQ9
      have HKQ := Lib.hid KQ9
      clear KQ9
      go_wp2
      go_ret
      exact ⟨rfl, HK5.out.trans HKQ.out (fun _ _ h => h)⟩

namespace LeaseEnds
set_option maxRecDepth 100000 in
theorem lifted (os : Os) (started : os.Started) (H : Type) (enc : TypeId × Value → H) :
    ReturnsInHanded {} Try.checked os 6 .any (Rows.leaseEndsSpec.pre6 enc Try.prog Try.f6 Rows.leaseEndsRow.domain false) (Rows.leaseEndsSpec.post enc Try.prog Try.f6 false true false false) := by
  refine returnsInHanded_of_change_sized (C := Try.checked) own started (by kernel_rfl) Try.func6
    (ChangeSpec.witness6 (enc := enc) (C := Try.checked) false ⟨#[], #[.int .u64 0, .int .u64 0, .int .u64 0], []⟩ 8 (by kernel_rfl) (by kernel_rfl) (by kernel_rfl) (by kernel_rfl)) ?_
  intro W base args ds gs before hval0 hW hcnd hsz _
  have hval : ∀ (j : Nat) t v, Try.f6.params[j]? = some t → args[j]? = some v → Value.okWide Try.prog W .any base t v := hval0
  have hW' := hW
  obtain ⟨p, q, hA0, hV, rfl, hfz, hnd⟩ := hW
  have hA : DataW.TrodAll enc Try.prog W 0 (fun _ => true) true Try.f6.params.toList args.toList ds p := hA0
  rw [Try.params6] at hA hval
  obtain ⟨v0, vs0, d0, ds0, p0, q0, hargs, rfl, rfl, h0, r0⟩ := trodAll_cons hA
  obtain ⟨v1, vs1, d1, ds1, p1, q1, rfl, rfl, rfl, h1, r1⟩ := trodAll_cons r0
  obtain ⟨v2, vs2, d2, ds2, p2, q2, rfl, rfl, rfl, h2, r2⟩ := trodAll_cons r1
  obtain ⟨rfl, rfl, rfl⟩ := trodAll_nil r2
  obtain rfl : args = #[v0, v1, v2] := by cases args; simp_all
  obtain ⟨rfl, rfl⟩ := trodVars_none hV
  obtain ⟨a0, rfl, rfl, rfl, w0⟩ := open_int Try.underlying22 (hval 0 22 v0 rfl rfl) h0
  obtain ⟨a1, rfl, rfl, rfl, w1⟩ := open_int Try.underlying22 (hval 1 22 v1 rfl rfl) h1
  obtain ⟨a2, rfl, rfl, rfl, w2⟩ := open_int Try.underlying22 (hval 2 22 v2 rfl rfl) h2
  clear hA0 hval0
  refine (ends_walk W a0 a1 a2 (u64_in w0).1 (u64_in w0).2 (u64_in w1).1 (u64_in w2).1).mono fun e W' ⟨he, bel0⟩ => ?_
  subst he
  have bel := bel0.all
  exact ⟨_, rfl, _, _, _, [], _, [], hW', trodAll_mk1 (shut_bool Try.underlying4 _), (trodAll_cons_mk (shut_int Try.underlying22 w0) (trodAll_cons_mk (shut_int Try.underlying22 w1) (trodAll_cons_mk (shut_int Try.underlying22 w2) trodAll_mk0))), rfl, bel.frame _, fun h => by cases h⟩

theorem over : Rows.leaseEndsRow.holds Try.pinned (OpenSpec.ofChange Rows.leaseEndsSpec) :=
  OpenClaim.holds_of_wide 6 Try.f6 rfl rfl rfl rfl rfl rfl rfl ⟨rfl, rfl, rfl, rfl, rfl⟩ rfl rfl rfl rfl rfl (by kernel_rfl) Try.func6 (by kernel_rfl)
    (of_decide_eq_true (by kernel_rfl)) (by unfold Func.isWrapper; first | (rw [if_pos (by decide +kernel)]; kernel_rfl) | (rw [if_neg (by decide +kernel)]; exact ⟨rfl, rfl⟩))
    (fun os started H enc _ => lifted os started H enc)

theorem proved : Rows.LeaseEndsSaid := over
end LeaseEnds
end Go.Proofs.Ytcanmgoelbgdfaa
