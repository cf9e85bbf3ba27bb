/-
  dockyardlaw10.alive: a lease that the document fixes.
-/
import Derived.Test.YtcanmgoelbgdfaaLsGrant
namespace Go.Proofs.Ytcanmgoelbgdfaa
open Go.RowKit

theorem granted_alive : granted 5 3 = (6, ⟨2, 5, 11⟩, 0) := by decide
set_option maxRecDepth 100000 in
set_option maxHeartbeats 1000000 in
theorem alive_any (w : World) : Calls Try.prog 12 #[] w (TellsB true w) := by
  have NW := Lib.hid (new_any w 5)
  have GR : Hid (∀ w', Calls Try.prog 10 #[.agg #[.int .u64 5], .int .u64 3] w' (TellsV (.tuple #[.agg #[.int .u64 6], .agg #[.int .i64 2, .int .u64 5, .int .u64 11], .int .i64 0]) w')) := Lib.hid fun w' => by
    have := grant_any w' 5 3 (by decide) (by unfold top; decide) (by decide)
    rw [granted_alive] at this
    exact this
  have NX : Hid (∀ w', Calls Try.prog 13 #[.agg #[.int .u64 6]] w' (TellsV (.int .u64 6) w')) := Lib.hid fun w' => next_any w' 6
  have HO : Hid (∀ w', Calls Try.prog 16 #[.agg #[.int .i64 2, .int .u64 5, .int .u64 11], .int .u64 5, .int .u64 10] w' (TellsB true w')) := Lib.hid fun w' => holds_any w' ⟨2, 5, 11⟩ 5 10 (by decide)
  rw [show max (5 : Int) 1 = 5 from by decide] at NW
  go_enter Try.func12, Try.ntmps12
  go_wp2_with fail
  refine NW.out.mono ?_
  rintro e w1 ⟨rfl, k1⟩
  have HK1 := Lib.hid k1
  clear NW k1
  go_wp2_with fail
  refine (GR.out _).mono ?_
  rintro e w2 ⟨rfl, k2⟩
  have HK2 := Lib.hid (HK1.out.trans k2 (fun _ _ h => h))
  clear GR HK1 k2
  obtain ⟨K3, Y3, Z3⟩ := two_boxes w2 #[.int .u64 6] #[.int .i64 2, .int .u64 5, .int .u64 11] 24 27
  have HK3 := Lib.hid (HK2.out.trans K3 (fun _ _ h => h))
  have MK : Hid (∀ w', Keep noneOf ((w2.alloc (.cells #[.int .u64 6] 24)).alloc (.cells #[.int .i64 2, .int .u64 5, .int .u64 11] 27)) w' → w'.cell? ⟨w2.heap.size, 0, none⟩ = some (.int .u64 6) ∧ w'.cell? ⟨w2.heap.size + 1, 0, none⟩ = some (.int .i64 2) ∧ w'.cell? ⟨w2.heap.size + 1, 1, none⟩ = some (.int .u64 5) ∧ w'.cell? ⟨w2.heap.size + 1, 2, none⟩ = some (.int .u64 11)) := Lib.hid fun w' k' => ⟨(Y3.keep k' id).cell 0, (Z3.keep k' id).cell 0, (Z3.keep k' id).cell 1, (Z3.keep k' id).cell 2⟩
  clear K3 Y3 Z3 HK2
  go_upto_region 2 with fail
  generalize ((w2.alloc (.cells #[.int .u64 6] 24)).alloc (.cells #[.int .i64 2, .int .u64 5, .int .u64 11] 27)) = w3 at *
  have KQ3 : Keep noneOf w3 w3 := Keep.refl _ _
  obtain ⟨c0, d0, d1, d2⟩ := MK.out _ KQ3
  have HKQ3 := Lib.hid KQ3
  clear KQ3
  go_wp2_with fail
  refine (NX.out _).mono ?_
  rintro e w4 ⟨rfl, k4⟩
  have KQ4 := HKQ3.out.trans k4 (fun _ _ h => h)
  clear HKQ3 k4 c0 d0 d1 d2
  obtain ⟨c0, d0, d1, d2⟩ := MK.out _ KQ4
  have HKQ4 := Lib.hid KQ4
  clear KQ4
  go_wp2_with fail
  refine (HO.out _).mono ?_
  rintro e w5 ⟨rfl, k5⟩
  have KQ5 := HKQ4.out.trans k5 (fun _ _ h => h)
  clear HKQ4 k5 c0 d0 d1 d2
  obtain ⟨c0, d0, d1, d2⟩ := MK.out _ KQ5
  have HKQ := Lib.hid KQ5
  clear KQ5
  go_wp2
  go_ret
  exact ⟨rfl, HK3.out.trans HKQ.out (fun _ _ h => h)⟩
end Go.Proofs.Ytcanmgoelbgdfaa
