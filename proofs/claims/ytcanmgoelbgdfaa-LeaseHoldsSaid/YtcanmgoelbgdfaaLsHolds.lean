/-
  Proved: dockyardlaw10.LeaseHolds answers true for every input that can be read, and leaves its arguments as they were. No conditions.
-/
import Derived.Test.YtcanmgoelbgdfaaLsAlive
import Derived.Test.YtcanmgoelbgdfaaLsOwn
namespace Go.Proofs.Ytcanmgoelbgdfaa
open Go.ChangeShapes Go.WideShapes Go.ChangeAt Go.RowKit

set_option maxRecDepth 100000 in
set_option maxHeartbeats 4000000 in
theorem holds_walk (w : World) (x : Pst) (k n : Int) (hk : 0 ≤ k) (hn : 0 ≤ n) : Calls Try.prog 4 #[x.agg, .int .u64 k, .int .u64 n] w (TellsB true w) := by
  have RN : Hid (∀ w', Calls Try.prog 14 #[.agg #[.int .i64 x.s, .int .u64 x.t, .int .u64 x.u], .int .u64 k, .int .u64 n] w' (TellsV (.tuple #[(renewed x k n).1.agg, .int .i64 (renewed x k n).2]) w')) := Lib.hid fun w' => renew_any w' x k n hk hn
  have RR : Hid (∀ w', Calls Try.prog 15 #[.agg #[.int .i64 x.s, .int .u64 x.t, .int .u64 x.u], .int .u64 k, .int .u64 n] w' (TellsV (.tuple #[(renewed x k n).1.agg, .int .i64 (renewed x k n).2]) w')) := Lib.hid fun w' => refRenew_any w' x k n hk hn
  have HO : Hid (∀ w', Calls Try.prog 16 #[.agg #[.int .i64 x.s, .int .u64 x.t, .int .u64 x.u], .int .u64 k, .int .u64 n] w' (TellsB (holdsB x k n) w')) := Lib.hid fun w' => holds_any w' x k n hk
  have RO : Hid (∀ w', Calls Try.prog 17 #[.agg #[.int .i64 x.s, .int .u64 x.t, .int .u64 x.u], .int .u64 k, .int .u64 n] w' (TellsB (holdsB x k n) w')) := Lib.hid fun w' => refHolds_any w' x k n hk
  generalize renewed x k n = G at *
  generalize holdsB x k n = B at *
  obtain ⟨⟨s, t, u⟩, er⟩ := G
  obtain ⟨p, q, r⟩ := x
  unfold Pst.agg at *
  simp only at RN RR HO RO ⊢
  clear hk hn
  have HK0 := Lib.hid ((Keep.refl noneOf w).alloc (.cells #[.int .i64 p, .int .u64 q, .int .u64 r] 27))
  have HX0 := Lib.hid (Box.new w 27 #[.int .i64 p, .int .u64 q, .int .u64 r])
  obtain ⟨c0, c1, c2⟩ := HX0.out.three
  go_enter Try.func4, Try.ntmps4
  go_wp2_with fail
  refine (RN.out _).mono ?_
  rintro e w1 ⟨rfl, k1⟩
  have ka := (Keep.refl noneOf w1).alloc (.cells #[.int .i64 s, .int .u64 t, .int .u64 u] 27)
  have HK1 := Lib.hid ((HK0.out.trans k1 (fun _ _ h => h)).trans ka (fun _ _ h => h))
  have HX1 := Lib.hid ((HX0.out.keep k1 id).keep ka id)
  have HY1 := Lib.hid (Box.new w1 27 #[.int .i64 s, .int .u64 t, .int .u64 u])
  clear RN HK0 HX0 k1 ka c0 c1 c2
  obtain ⟨c0, c1, c2⟩ := HX1.out.three
  go_wp2_with fail
  refine (RR.out _).mono ?_
  rintro e w2 ⟨rfl, k2⟩
  have kb := (Keep.refl noneOf w2).alloc (.cells #[.int .i64 s, .int .u64 t, .int .u64 u] 27)
  have HK2 := Lib.hid ((HK1.out.trans k2 (fun _ _ h => h)).trans kb (fun _ _ h => h))
  have HX2 := Lib.hid ((HX1.out.keep k2 id).keep kb id)
  have HY2 := Lib.hid ((HY1.out.keep k2 id).keep kb id)
  have HZ2 := Lib.hid (Box.new w2 27 #[.int .i64 s, .int .u64 t, .int .u64 u])
  clear RR HK1 HX1 HY1 k2 kb c0 c1 c2
  go_upto_region 3 with fail
  generalize w2.alloc (.cells #[.int .i64 s, .int .u64 t, .int .u64 u] 27) = w3 at *
  have MK : Hid (∀ w', Keep noneOf w3 w' → w'.cell? ⟨w.heap.size, 0, none⟩ = some (.int .i64 p) ∧ w'.cell? ⟨w.heap.size, 1, none⟩ = some (.int .u64 q) ∧ w'.cell? ⟨w.heap.size, 2, none⟩ = some (.int .u64 r) ∧ w'.cell? ⟨w1.heap.size, 0, none⟩ = some (.int .i64 s) ∧ w'.cell? ⟨w1.heap.size, 1, none⟩ = some (.int .u64 t) ∧ w'.cell? ⟨w1.heap.size, 2, none⟩ = some (.int .u64 u) ∧ w'.cell? ⟨w2.heap.size, 0, none⟩ = some (.int .i64 s) ∧ w'.cell? ⟨w2.heap.size, 1, none⟩ = some (.int .u64 t) ∧ w'.cell? ⟨w2.heap.size, 2, none⟩ = some (.int .u64 u)) := Lib.hid fun w' k' => ⟨(HX2.out.keep k' id).cell 0, (HX2.out.keep k' id).cell 1, (HX2.out.keep k' id).cell 2, (HY2.out.keep k' id).cell 0, (HY2.out.keep k' id).cell 1, (HY2.out.keep k' id).cell 2, (HZ2.out.keep k' id).cell 0, (HZ2.out.keep k' id).cell 1, (HZ2.out.keep k' id).cell 2⟩
  have EQ : ∀ w', (binOp .eql 27 (.agg #[.int .i64 s, .int .u64 t, .int .u64 u]) (.agg #[.int .i64 s, .int .u64 t, .int .u64 u])).run Try.prog w' = .ok (.bool true) w' := fun w' => by rw [run_eql3 w' ⟨s, t, u⟩ ⟨s, t, u⟩, decide_eq_true rfl]
  have EG := fun w' o1 o2 (xs ys : Array Value) => run_eqGuard_agg (P := Try.prog) w' .eql 27 o1 o2 xs ys st_guard
  clear HX2 HY2 HZ2
  have K33 := Keep.refl noneOf w3
  refine wp_region_in (fun w' => Keep noneOf w3 w' ∧ w'.cell? ⟨w.heap.size, 0, none⟩ = some (.int .i64 p) ∧ w'.cell? ⟨w.heap.size, 1, none⟩ = some (.int .u64 q) ∧ w'.cell? ⟨w.heap.size, 2, none⟩ = some (.int .u64 r) ∧ w'.cell? ⟨w1.heap.size, 0, none⟩ = some (.int .i64 s) ∧ w'.cell? ⟨w1.heap.size, 1, none⟩ = some (.int .u64 t) ∧ w'.cell? ⟨w1.heap.size, 2, none⟩ = some (.int .u64 u) ∧ w'.cell? ⟨w2.heap.size, 0, none⟩ = some (.int .i64 s) ∧ w'.cell? ⟨w2.heap.size, 1, none⟩ = some (.int .u64 t) ∧ w'.cell? ⟨w2.heap.size, 2, none⟩ = some (.int .u64 u)) (by kernel_rfl) (by kernel_rfl) ⟨K33.drew, MK.out _ K33.drew⟩ ?_
  repeat
    first
    | go_big_quiet_skip
    | go_big_quiet_want
      go_big_quiet_op
      go_big_quiet_on
    | go_big_quiet_want
      apply quiet_calls
      case he => intro w'; go_simp; exact ⟨rfl, rfl⟩
      case h =>
        intro w' hw'
        first
        | go_at_call 12
          refine (alive_any w').mono ?_
          rintro e w'' ⟨rfl, k''⟩
          exact ⟨rfl, Keep.trans hw'.1 k'' (fun _ _ h => h), MK.out _ (Keep.trans hw'.1 k'' (fun _ _ h => h))⟩
        | go_at_call 16
          refine (HO.out w').mono ?_
          rintro e w'' ⟨rfl, k''⟩
          exact ⟨rfl, Keep.trans hw'.1 k'' (fun _ _ h => h), MK.out _ (Keep.trans hw'.1 k'' (fun _ _ h => h))⟩
        | go_at_call 17
          refine (RO.out w').mono ?_
          rintro e w'' ⟨rfl, k''⟩
          exact ⟨rfl, Keep.trans hw'.1 k'' (fun _ _ h => h), MK.out _ (Keep.trans hw'.1 k'' (fun _ _ h => h))⟩
      simp only [Act.put, List.setIfInBounds_toArray, List.set_cons_zero, List.set_cons_succ]
      go_big_quiet_on
    | go_big_quiet_want
      apply quiet_reads
      case h =>
        intro w' hw'
        try dsimp only at hw'
        go_split_ands
        go_simp
        rfl
      simp only [Act.put, List.setIfInBounds_toArray, List.set_cons_zero, List.set_cons_succ]
      go_big_quiet_on
  refine wpQuiet_nil ?_
  intro w9 hw9
  go_wp2
  go_ret
  exact ⟨rfl, HK2.out.trans hw9.1 (fun _ _ h => h)⟩


namespace LeaseHolds
set_option maxRecDepth 100000 in
theorem lifted (os : Os) (started : os.Started) (H : Type) (enc : TypeId × Value → H) :
    ReturnsInHanded {} Try.checked os 4 .any (Rows.leaseHoldsSpec.pre6 enc Try.prog Try.f4 Rows.leaseHoldsRow.domain false) (Rows.leaseHoldsSpec.post enc Try.prog Try.f4 false true false false) := by
  refine returnsInHanded_of_change_sized (C := Try.checked) own started (by kernel_rfl) Try.func4
    (ChangeSpec.witness6 (enc := enc) (C := Try.checked) false ⟨#[], #[.agg #[.int .i64 0, .int .u64 0, .int .u64 0], .int .u64 0, .int .u64 0], []⟩ 8 (by kernel_rfl) (by kernel_rfl) (by kernel_rfl) (by kernel_rfl)) ?_
  intro W base args ds gs before hval0 hW hcnd hsz _
  have hval : ∀ (j : Nat) t v, Try.f4.params[j]? = some t → args[j]? = some v → Value.okWide Try.prog W .any base t v := hval0
  have hW' := hW
  obtain ⟨p, q, hA0, hV, rfl, hfz, hnd⟩ := hW
  have hA : DataW.TrodAll enc Try.prog W 0 (fun _ => true) true Try.f4.params.toList args.toList ds p := hA0
  rw [Try.params4] at hA hval
  obtain ⟨v0, vs0, d0, ds0, p0, q0, hargs, rfl, rfl, h0, r0⟩ := trodAll_cons hA
  obtain ⟨v1, vs1, d1, ds1, p1, q1, rfl, rfl, rfl, h1, r1⟩ := trodAll_cons r0
  obtain ⟨v2, vs2, d2, ds2, p2, q2, rfl, rfl, rfl, h2, r2⟩ := trodAll_cons r1
  obtain ⟨rfl, rfl, rfl⟩ := trodAll_nil r2
  obtain rfl : args = #[v0, v1, v2] := by cases args; simp_all
  obtain ⟨rfl, rfl⟩ := trodVars_none hV
  have k0 := h0
  have lt0 : ∀ x ∈ p0, x.block < W.heap.size := by obtain ⟨m, hm⟩ := k0; exact DataW.trod_lt m _ _ _ hm
  obtain ⟨x0, rfl⟩ := open_arg_state (hval 0 27 v0 rfl rfl) h0
  obtain ⟨a1, rfl, rfl, rfl, w1⟩ := open_int Try.underlying22 (hval 1 22 v1 rfl rfl) h1
  obtain ⟨a2, rfl, rfl, rfl, w2⟩ := open_int Try.underlying22 (hval 2 22 v2 rfl rfl) h2
  clear hA0 hval0
  refine (holds_walk W x0 a1 a2 (u64_in w1).1 (u64_in w2).1).mono fun e W' ⟨he, bel0⟩ => ?_
  subst he
  have bel := bel0.all
  exact ⟨_, rfl, _, _, _, [], _, [], hW', trodAll_mk1 (shut_bool Try.underlying4 _), (trodAll_cons_mk (Below.trod laidOut (by kernel_rfl) (of_decide_eq_true (by kernel_rfl)) k0 bel lt0) (trodAll_cons_mk (shut_int Try.underlying22 w1) (trodAll_cons_mk (shut_int Try.underlying22 w2) trodAll_mk0))), rfl, bel.frame _, fun h => by cases h⟩

theorem over : Rows.leaseHoldsRow.holds Try.pinned (OpenSpec.ofChange Rows.leaseHoldsSpec) :=
  OpenClaim.holds_of_wide 4 Try.f4 rfl rfl rfl rfl rfl rfl rfl ⟨rfl, rfl, rfl, rfl, rfl⟩ rfl rfl rfl rfl rfl (by kernel_rfl) Try.func4 (by kernel_rfl)
    (of_decide_eq_true (by kernel_rfl)) (by unfold Func.isWrapper; first | (rw [if_pos (by decide +kernel)]; kernel_rfl) | (rw [if_neg (by decide +kernel)]; exact ⟨rfl, rfl⟩))
    (fun os started H enc _ => lifted os started H enc)

theorem proved : Rows.LeaseHoldsSaid := over
end LeaseHolds
end Go.Proofs.Ytcanmgoelbgdfaa
