/-
  Proved: dockyardlaw10.LeaseGrants answers true for every input that can be read, and leaves its arguments as they were. No conditions.
-/
import Derived.Test.YtcanmgoelbgdfaaLsAlive
import Derived.Test.YtcanmgoelbgdfaaLsOwn
namespace Go.Proofs.Ytcanmgoelbgdfaa
open Go.ChangeShapes Go.WideShapes Go.ChangeAt Go.RowKit

set_option maxRecDepth 100000 in
set_option maxHeartbeats 4000000 in
theorem grants_walk (w : World) (a b : Int) (ha0 : 0 ≤ a) (ha1 : a ≤ top) (hb : 0 ≤ b) : Calls Try.prog 3 #[.int .u64 a, .int .u64 b] w (TellsB true w) := by
  have ho1 : 1 ≤ max a 1 := by omega
  have ho2 : max a 1 ≤ top := by unfold top at *; omega
  have NW := Lib.hid (new_any w a)
  have GR : Hid (∀ w', Calls Try.prog 10 #[.agg #[.int .u64 (max a 1)], .int .u64 b] w' (TellsV (.tuple #[.agg #[.int .u64 (granted (max a 1) b).1], (granted (max a 1) b).2.1.agg, .int .i64 (granted (max a 1) b).2.2]) w')) := Lib.hid fun w' => grant_any w' _ b ho1 ho2 hb
  have RG : Hid (∀ w', Calls Try.prog 11 #[.int .u64 (max a 1), .int .u64 b] w' (TellsV (.tuple #[.int .u64 (granted (max a 1) b).1, (granted (max a 1) b).2.1.agg, .int .i64 (granted (max a 1) b).2.2]) w')) := Lib.hid fun w' => refGrant_any w' _ b ho1 ho2 hb
  have NX : Hid (∀ w' n, Calls Try.prog 13 #[.agg #[.int .u64 n]] w' (TellsV (.int .u64 n) w')) := Lib.hid fun w' n => next_any w' n
  generalize granted (max a 1) b = G at *
  obtain ⟨g, ⟨s, t, u⟩, er⟩ := G
  clear ha0 ha1 hb ho1 ho2
  unfold Pst.agg at GR RG
  simp only at GR RG
  go_enter Try.func3, Try.ntmps3
  go_wp2_with fail
  refine NW.out.mono ?_
  rintro e w1 ⟨rfl, k1⟩
  have HK1 := Lib.hid (k1.alloc (.cells #[.int .u64 (max a 1)] 24))
  have HX1 := Lib.hid (Box.new w1 24 #[.int .u64 (max a 1)])
  clear NW k1
  go_wp2_with fail
  refine (GR.out _).mono ?_
  rintro e w2 ⟨rfl, k2⟩
  obtain ⟨K3, Y3, Z3⟩ := two_boxes w2 #[.int .u64 g] #[.int .i64 s, .int .u64 t, .int .u64 u] 24 27
  have HK3 := Lib.hid ((HK1.out.trans k2 (fun _ _ h => h)).trans K3 (fun _ _ h => h))
  have HX3 := Lib.hid ((HX1.out.keep k2 id).keep K3 id)
  have HY3 := Lib.hid Y3
  have HZ3 := Lib.hid Z3
  clear GR HK1 HX1 k2 K3 Y3 Z3
  go_wp2_with fail
  refine (RG.out _).mono ?_
  rintro e w3 ⟨rfl, k3⟩
  have k4 := (Keep.refl noneOf w3).alloc (.cells #[.int .i64 s, .int .u64 t, .int .u64 u] 27)
  have HK4 := Lib.hid ((HK3.out.trans k3 (fun _ _ h => h)).trans k4 (fun _ _ h => h))
  have HX4 := Lib.hid ((HX3.out.keep k3 id).keep k4 id)
  have HY4 := Lib.hid ((HY3.out.keep k3 id).keep k4 id)
  have HZ4 := Lib.hid ((HZ3.out.keep k3 id).keep k4 id)
  have HU4 := Lib.hid (Box.new w3 27 #[.int .i64 s, .int .u64 t, .int .u64 u])
  clear RG HK3 HX3 HY3 HZ3 k3 k4
  go_upto_region 4 with fail
  generalize w3.alloc (.cells #[.int .i64 s, .int .u64 t, .int .u64 u] 27) = w4 at *
  have MK : Hid (∀ w', Keep noneOf w4 w' → w'.cell? ⟨w1.heap.size, 0, none⟩ = some (.int .u64 (max a 1)) ∧ w'.cell? ⟨w2.heap.size, 0, none⟩ = some (.int .u64 g) ∧ w'.cell? ⟨w2.heap.size + 1, 0, none⟩ = some (.int .i64 s) ∧ w'.cell? ⟨w2.heap.size + 1, 1, none⟩ = some (.int .u64 t) ∧ w'.cell? ⟨w2.heap.size + 1, 2, none⟩ = some (.int .u64 u) ∧ w'.cell? ⟨w3.heap.size, 0, none⟩ = some (.int .i64 s) ∧ w'.cell? ⟨w3.heap.size, 1, none⟩ = some (.int .u64 t) ∧ w'.cell? ⟨w3.heap.size, 2, none⟩ = some (.int .u64 u)) := Lib.hid fun w' k' => ⟨(HX4.out.keep k' id).cell 0, (HY4.out.keep k' id).cell 0, (HZ4.out.keep k' id).cell 0, (HZ4.out.keep k' id).cell 1, (HZ4.out.keep k' id).cell 2, (HU4.out.keep k' id).cell 0, (HU4.out.keep k' id).cell 1, (HU4.out.keep k' id).cell 2⟩
  have EQ : ∀ w', (binOp .eql 27 (.agg #[.int .i64 s, .int .u64 t, .int .u64 u]) (.agg #[.int .i64 s, .int .u64 t, .int .u64 u])).run Try.prog w' = .ok (.bool true) w' := fun w' => by rw [run_eql3 w' ⟨s, t, u⟩ ⟨s, t, u⟩, decide_eq_true rfl]
  have EG := fun w' o1 o2 (xs ys : Array Value) => run_eqGuard_agg (P := Try.prog) w' .eql 27 o1 o2 xs ys st_guard
  clear HX4 HY4 HZ4 HU4
  have KQ4 : Keep noneOf w4 w4 := Keep.refl _ _
  obtain ⟨a0, b0, c0, c1, c2, d0, d1, d2⟩ := MK.out _ KQ4
  have HKQ4 := Lib.hid KQ4
  clear KQ4
  go_wp2_with fail
  refine (alive_any _).mono ?_
  rintro e w5 ⟨rfl, k5⟩
  have KQ5 := HKQ4.out.trans k5 (fun _ _ h => h)
  clear HKQ4 k5 a0 b0 c0 c1 c2 d0 d1 d2
  obtain ⟨a0, b0, c0, c1, c2, d0, d1, d2⟩ := MK.out _ KQ5
  have HKQ5 := Lib.hid KQ5
  clear KQ5
  go_wp2_with fail
  refine (NX.out _ _).mono ?_
  rintro e w6 ⟨rfl, k6⟩
  have KQ6 := HKQ5.out.trans k6 (fun _ _ h => h)
  clear HKQ5 k6 a0 b0 c0 c1 c2 d0 d1 d2
  obtain ⟨a0, b0, c0, c1, c2, d0, d1, d2⟩ := MK.out _ KQ6
  have HKQ6 := Lib.hid KQ6
  clear KQ6
  go_wp2_with fail
  refine (NX.out _ _).mono ?_
  rintro e w7 ⟨rfl, k7⟩
  have KQ7 := HKQ6.out.trans k7 (fun _ _ h => h)
  clear HKQ6 k7 a0 b0 c0 c1 c2 d0 d1 d2
  obtain ⟨a0, b0, c0, c1, c2, d0, d1, d2⟩ := MK.out _ KQ7
  have HKQ := Lib.hid KQ7
  clear KQ7
  go_wp2
  go_ret
  exact ⟨rfl, HK4.out.trans HKQ.out (fun _ _ h => h)⟩


namespace LeaseGrants
set_option maxRecDepth 100000 in
theorem lifted (os : Os) (started : os.Started) (H : Type) (enc : TypeId × Value → H) :
    ReturnsInHanded {} Try.checked os 3 .any (Rows.leaseGrantsSpec.pre6 enc Try.prog Try.f3 Rows.leaseGrantsRow.domain false) (Rows.leaseGrantsSpec.post enc Try.prog Try.f3 false true false false) := by
  refine returnsInHanded_of_change_sized (C := Try.checked) own started (by kernel_rfl) Try.func3
    (ChangeSpec.witness6 (enc := enc) (C := Try.checked) false ⟨#[], #[.int .u64 0, .int .u64 0], []⟩ 8 (by kernel_rfl) (by kernel_rfl) (by kernel_rfl) (by kernel_rfl)) ?_
  intro W base args ds gs before hval0 hW hcnd hsz _
  have hval : ∀ (j : Nat) t v, Try.f3.params[j]? = some t → args[j]? = some v → Value.okWide Try.prog W .any base t v := hval0
  have hW' := hW
  obtain ⟨p, q, hA0, hV, rfl, hfz, hnd⟩ := hW
  have hA : DataW.TrodAll enc Try.prog W 0 (fun _ => true) true Try.f3.params.toList args.toList ds p := hA0
  rw [Try.params3] at hA hval
  obtain ⟨v0, vs0, d0, ds0, p0, q0, hargs, rfl, rfl, h0, r0⟩ := trodAll_cons hA
  obtain ⟨v1, vs1, d1, ds1, p1, q1, rfl, rfl, rfl, h1, r1⟩ := trodAll_cons r0
  obtain ⟨rfl, rfl, rfl⟩ := trodAll_nil r1
  obtain rfl : args = #[v0, v1] := by cases args; simp_all
  obtain ⟨rfl, rfl⟩ := trodVars_none hV
  obtain ⟨a0, rfl, rfl, rfl, w0⟩ := open_int Try.underlying22 (hval 0 22 v0 rfl rfl) h0
  obtain ⟨a1, rfl, rfl, rfl, w1⟩ := open_int Try.underlying22 (hval 1 22 v1 rfl rfl) h1
  clear hA0 hval0
  refine (grants_walk W a0 a1 (u64_in w0).1 (u64_in w0).2 (u64_in w1).1).mono fun e W' ⟨he, bel0⟩ => ?_
  subst he
  have bel := bel0.all
  exact ⟨_, rfl, _, _, _, [], _, [], hW', trodAll_mk1 (shut_bool Try.underlying4 _), (trodAll_cons_mk (shut_int Try.underlying22 w0) (trodAll_cons_mk (shut_int Try.underlying22 w1) trodAll_mk0)), rfl, bel.frame _, fun h => by cases h⟩

theorem over : Rows.leaseGrantsRow.holds Try.pinned (OpenSpec.ofChange Rows.leaseGrantsSpec) :=
  OpenClaim.holds_of_wide 3 Try.f3 rfl rfl rfl rfl rfl rfl rfl ⟨rfl, rfl, rfl, rfl, rfl⟩ rfl rfl rfl rfl rfl (by kernel_rfl) Try.func3 (by kernel_rfl)
    (of_decide_eq_true (by kernel_rfl)) (by unfold Func.isWrapper; first | (rw [if_pos (by decide +kernel)]; kernel_rfl) | (rw [if_neg (by decide +kernel)]; exact ⟨rfl, rfl⟩))
    (fun os started H enc _ => lifted os started H enc)

theorem proved : Rows.LeaseGrantsSaid := over
end LeaseGrants
end Go.Proofs.Ytcanmgoelbgdfaa
