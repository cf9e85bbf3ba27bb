/-
  Proved: dockyardlaw10.LeaseRises answers true for every input that can be read, and leaves its arguments as they were. No conditions.
-/
import Derived.Test.YtcanmgoelbgdfaaLsAlive
import Derived.Test.YtcanmgoelbgdfaaLsOwn
namespace Go.Proofs.Ytcanmgoelbgdfaa
open Go.ChangeShapes Go.WideShapes Go.ChangeAt Go.RowKit

theorem nums_at {ns : List Int} {k : Nat} (h : k < ns.length) : ns[k]? = some (ns.getD k 0) := by
  rw [List.getD_eq_getElem?_getD, List.getElem?_eq_getElem h]
  rfl
set_option maxRecDepth 100000 in
set_option maxHeartbeats 4000000 in
theorem rises_walk (w : World) (a : Int) (ha0 : 0 ≤ a) (ha1 : a ≤ top) (A : Option Addr) (c : Nat) (ns : List Int) (hn : Nums w (fun _ => True) (.slice A ns.length c) ns) : Calls Try.prog 5 #[.int .u64 a, .slice A ns.length c] w (TellsB true w) := by
  have NW := new_any w a
  have ho1 : 1 ≤ max a 1 := by omega
  have ho2 : max a 1 ≤ top := by unfold top at *; omega
  have HN := Lib.hid hn
  have hlm := hn.few
  unfold maxLen at hlm
  generalize max a 1 = o0 at *
  have HNW := Lib.hid NW
  have H01 := Lib.hid ho1
  have H02 := Lib.hid ho2
  have NX : Hid (∀ w' n, Calls Try.prog 13 #[.agg #[.int .u64 n]] w' (TellsV (.int .u64 n) w')) := Lib.hid fun w' n => next_any w' n
  clear ha0 ha1 hn NW ho1 ho2
  go_enter Try.func5, Try.ntmps5
  go_wp2_with fail
  refine HNW.out.mono ?_
  rintro e w1 ⟨rfl, k1⟩
  have HK1 := Lib.hid (k1.alloc (.cells #[.int .u64 o0] 24))
  have HX1 := Lib.hid (Box.new w1 24 #[.int .u64 o0])
  have HB : Hid (w.heap.size ≤ w1.heap.size) := Lib.hid k1.size
  clear HNW k1
  go_upto_region 2 with fail
  generalize w1.alloc (.cells #[.int .u64 o0] 24) = w2 at *
  generalize w1.heap.size = B at *
  go_wp2
  go_loopw [6, 16] (fun l i wr => ∃ (k : Nat) (o last : Int), k ≤ ns.length ∧ i = .int .i64 k ∧ l = .int .u64 last ∧ 0 ≤ last ∧ last < o ∧ 1 ≤ o ∧ o ≤ top ∧ Keep noneOf w wr ∧ Box wr B 24 #[.int .u64 o]) (fun l i _ => ns.length - (intOf i).toNat)
  case atStart => exact ⟨0, o0, 0, Nat.zero_le _, rfl, rfl, Int.le_refl _, by have := H01.out; omega, H01.out, H02.out, HK1.out, HX1.out⟩
  case round =>
    obtain ⟨k, o, last, hk, rfl, rfl, hl0, hlo, ho1, ho2, hkeep, hbox⟩ := hrel
    have HKP := Lib.hid hkeep
    have HBX := Lib.hid hbox
    have HL0 := Lib.hid hl0
    have HLO := Lib.hid hlo
    have HO1 := Lib.hid ho1
    have HO2 := Lib.hid ho2
    by_cases hlt : k < ns.length
    · have hx := nums_at hlt
      obtain ⟨b, off, rfl, hblk, _, c0⟩ := (HN.out.keep hkeep (fun _ _ _ => id)).cell hx
      have hin := HN.out.2 _ (List.mem_of_getElem? hx)
      generalize ns.getD k 0 = n at *
      have q0 : (0 : Int) ≤ (k : Int) := by omega
      have q1 : (k : Int) < (ns.length : Int) := by omega
      have GR : Hid (∀ w', Calls Try.prog 10 #[.agg #[.int .u64 o], .int .u64 n] w' (TellsV (.tuple #[.agg #[.int .u64 (granted o n).1], (granted o n).2.1.agg, .int .i64 (granted o n).2.2]) w')) := Lib.hid fun w' => grant_any w' _ n ho1 ho2 hin.1
      have b0 := hbox.cell 0
      have EG := fun w' o1 o2 (xs ys : Array Value) => run_eqGuard_agg (P := Try.prog) w' .neq 27 o1 o2 xs ys st_guard
      by_cases hbad : o = top ∨ late < n
      · have hG : granted o n = (o, Pst.zero, 101) := by unfold granted; rw [if_pos hbad]
        rw [hG] at GR
        unfold Pst.agg Pst.zero at GR
        simp only at GR
        have EQ : ∀ w', (binOp .neq 27 (.agg #[.int .i64 0, .int .u64 0, .int .u64 0]) (.agg #[.int .i64 0, .int .u64 0, .int .u64 0])).run Try.prog w' = .ok (.bool false) w' := fun w' => by rw [run_neq3 w' ⟨0, 0, 0⟩ ⟨0, 0, 0⟩, decide_eq_true rfl]; rfl
        clear hG hbad hin hbox hkeep hl0 hlo ho1 ho2
        go_wp2_with fail
        refine (GR.out _).mono ?_
        rintro e w3 ⟨rfl, k3⟩
        obtain ⟨K4, Y4, Z4⟩ := two_boxes w3 #[.int .u64 o] #[.int .i64 0, .int .u64 0, .int .u64 0] 24 27
        have HK4 := Lib.hid (k3.trans K4 (fun _ _ h => h))
        have HY4 := Lib.hid Y4
        have HZ4 := Lib.hid Z4
        have HB4 := Lib.hid ((HBX.out.keep k3 id).keep K4 id)
        clear GR k3 K4 Y4 Z4 c0 b0
        go_upto_region 8 with fail
        generalize ((w3.alloc (.cells #[.int .u64 o] 24)).alloc (.cells #[.int .i64 0, .int .u64 0, .int .u64 0] 27)) = w4 at *
        have MK : Hid (∀ w', Keep noneOf w4 w' → w'.cell? ⟨B, 0, none⟩ = some (.int .u64 o) ∧ w'.cell? ⟨w3.heap.size, 0, none⟩ = some (.int .u64 o) ∧ w'.cell? ⟨w3.heap.size + 1, 0, none⟩ = some (.int .i64 0) ∧ w'.cell? ⟨w3.heap.size + 1, 1, none⟩ = some (.int .u64 0) ∧ w'.cell? ⟨w3.heap.size + 1, 2, none⟩ = some (.int .u64 0)) := Lib.hid fun w' k' => ⟨(HB4.out.keep k' id).cell 0, (HY4.out.keep k' id).cell 0, (HZ4.out.keep k' id).cell 0, (HZ4.out.keep k' id).cell 1, (HZ4.out.keep k' id).cell 2⟩
        have K44 := Keep.refl noneOf w4
        refine wp_region_in (fun w' => Keep noneOf w4 w' ∧ w'.cell? ⟨B, 0, none⟩ = some (.int .u64 o) ∧ w'.cell? ⟨w3.heap.size, 0, none⟩ = some (.int .u64 o) ∧ w'.cell? ⟨w3.heap.size + 1, 0, none⟩ = some (.int .i64 0) ∧ w'.cell? ⟨w3.heap.size + 1, 1, none⟩ = some (.int .u64 0) ∧ w'.cell? ⟨w3.heap.size + 1, 2, none⟩ = some (.int .u64 0)) (by kernel_rfl) (by kernel_rfl) ⟨K44.drew, MK.out _ K44.drew⟩ ?_
        repeat
          first
          | go_big_quiet_skip
          | go_big_quiet_want
            go_big_quiet_op
            go_big_quiet_on
          | go_big_quiet_want
            apply quiet_calls
            case he => intro w'; go_simp; exact ⟨rfl, rfl⟩
            case h =>
              intro w' hw'
              first
              | go_at_call 13
                refine (NX.out w' _).mono ?_
                rintro e w'' ⟨rfl, k''⟩
                exact ⟨rfl, Keep.trans hw'.1 k'' (fun _ _ h => h), MK.out _ (Keep.trans hw'.1 k'' (fun _ _ h => h))⟩
            simp only [Act.put, List.setIfInBounds_toArray, List.set_cons_zero, List.set_cons_succ]
            go_big_quiet_on
          | go_big_quiet_want
            apply quiet_reads
            case h =>
              intro w' hw'
              try dsimp only at hw'
              go_split_ands
              go_simp
              rfl
            simp only [Act.put, List.setIfInBounds_toArray, List.set_cons_zero, List.set_cons_succ]
            go_big_quiet_on
        refine wpQuiet_nil ?_
        intro w9 hw9
        have HK9 := Lib.hid ((HKP.out.trans HK4.out (fun _ _ h => h)).trans hw9.1 (fun _ _ h => h))
        have HB9 := Lib.hid (HB4.out.keep hw9.1 id)
        clear hw9 MK EQ EG K44 HK4 HB4 HY4 HZ4
        go_wp2
        go_roundw
        case rel => exact ⟨k + 1, o, last, by omega, by go_num, rfl, HL0.out, HLO.out, HO1.out, HO2.out, HK9.out, HB9.out⟩
        case measure => simp [intOf]; omega
      · have hG : granted o n = (o + 1, ⟨2, o, n + 8⟩, 0) := by unfold granted; rw [if_neg hbad]
        rw [hG] at GR
        unfold Pst.agg at GR
        simp only at GR
        have ho3 : o < top := by
          have : o ≠ top := fun h => hbad (.inl h)
          omega
        have HO3 := Lib.hid ho3
        have gl : decide (o ≤ last) = false := decide_eq_false (by omega)
        have g2 : decide (o + 1 ≤ o) = false := decide_eq_false (by omega)
        have HH : Hid (∀ w', Calls Try.prog 16 #[.agg #[.int .i64 2, .int .u64 o, .int .u64 (n + 8)], .int .u64 o, .int .u64 n] w' (TellsB true w')) := Lib.hid fun w' => by
          have h := holds_any w' ⟨2, o, (n + 8)⟩ o n (by omega)
          rw [show holdsB ⟨2, o, (n + 8)⟩ o n = true from (by unfold holdsB; simp only [beq_self_eq_true, bne_iff_ne, ne_eq, Bool.and_eq_true, decide_eq_true_eq, true_and]; omega)] at h
          exact h
        clear hG hbad hin hbox hkeep hl0 hlo ho1 ho2 ho3
        go_wp2_with fail
        refine (GR.out _).mono ?_
        rintro e w3 ⟨rfl, k3⟩
        obtain ⟨K4, Y4, Z4⟩ := two_boxes w3 #[.int .u64 (o + 1)] #[.int .i64 2, .int .u64 o, .int .u64 (n + 8)] 24 27
        have HK4 := Lib.hid (k3.trans K4 (fun _ _ h => h))
        have HY4 := Lib.hid Y4
        have HZ4 := Lib.hid Z4
        have HB4 := Lib.hid ((HBX.out.keep k3 id).keep K4 id)
        clear GR k3 K4 Y4 Z4 c0 b0 EG
        go_upto_region 10 with fail
        generalize ((w3.alloc (.cells #[.int .u64 (o + 1)] 24)).alloc (.cells #[.int .i64 2, .int .u64 o, .int .u64 (n + 8)] 27)) = w4 at *
        have MK : Hid (∀ w', Keep noneOf w4 w' → w'.cell? ⟨B, 0, none⟩ = some (.int .u64 o) ∧ w'.cell? ⟨w3.heap.size, 0, none⟩ = some (.int .u64 (o + 1)) ∧ w'.cell? ⟨w3.heap.size + 1, 0, none⟩ = some (.int .i64 2) ∧ w'.cell? ⟨w3.heap.size + 1, 1, none⟩ = some (.int .u64 o) ∧ w'.cell? ⟨w3.heap.size + 1, 2, none⟩ = some (.int .u64 (n + 8))) := Lib.hid fun w' k' => ⟨(HB4.out.keep k' id).cell 0, (HY4.out.keep k' id).cell 0, (HZ4.out.keep k' id).cell 0, (HZ4.out.keep k' id).cell 1, (HZ4.out.keep k' id).cell 2⟩
        have K44 := Keep.refl noneOf w4
        refine wp_region_in (fun w' => Keep noneOf w4 w' ∧ w'.cell? ⟨B, 0, none⟩ = some (.int .u64 o) ∧ w'.cell? ⟨w3.heap.size, 0, none⟩ = some (.int .u64 (o + 1)) ∧ w'.cell? ⟨w3.heap.size + 1, 0, none⟩ = some (.int .i64 2) ∧ w'.cell? ⟨w3.heap.size + 1, 1, none⟩ = some (.int .u64 o) ∧ w'.cell? ⟨w3.heap.size + 1, 2, none⟩ = some (.int .u64 (n + 8))) (by kernel_rfl) (by kernel_rfl) ⟨K44.drew, MK.out _ K44.drew⟩ ?_
        repeat
          first
          | go_big_quiet_skip
          | go_big_quiet_want
            go_big_quiet_op
            go_big_quiet_on
          | go_big_quiet_want
            apply quiet_calls
            case he => intro w'; go_simp; exact ⟨rfl, rfl⟩
            case h =>
              intro w' hw'
              first
              | go_at_call 13
                refine (NX.out w' _).mono ?_
                rintro e w'' ⟨rfl, k''⟩
                exact ⟨rfl, Keep.trans hw'.1 k'' (fun _ _ h => h), MK.out _ (Keep.trans hw'.1 k'' (fun _ _ h => h))⟩
              | go_at_call 16
                refine (HH.out w').mono ?_
                rintro e w'' ⟨rfl, k''⟩
                exact ⟨rfl, Keep.trans hw'.1 k'' (fun _ _ h => h), MK.out _ (Keep.trans hw'.1 k'' (fun _ _ h => h))⟩
            simp only [Act.put, List.setIfInBounds_toArray, List.set_cons_zero, List.set_cons_succ]
            go_big_quiet_on
          | go_big_quiet_want
            apply quiet_reads
            case h =>
              intro w' hw'
              try dsimp only at hw'
              go_split_ands
              go_simp
              rfl
            simp only [Act.put, List.setIfInBounds_toArray, List.set_cons_zero, List.set_cons_succ]
            go_big_quiet_on
        refine wpQuiet_nil ?_
        intro w9 hw9
        have hK9 := (HKP.out.trans HK4.out (fun _ _ h => h)).trans hw9.1 (fun _ _ h => h)
        have hB9 := HB4.out.keep hw9.1 id
        have hb0 := hB9.cell 0
        have hbf := hB9.free 0
        obtain ⟨-, y0, z0, z1, z2⟩ := MK.out _ hw9.1
        have HKA := Lib.hid (hK9.put1 HB.out (.int .u64 (o + 1)))
        have HBA := Lib.hid (hB9.put1 (.int .u64 (o + 1)))
        clear hw9 MK K44 HK4 HB4 HY4 HZ4 hK9 hB9 gl g2
        go_wp2
        go_roundw
        case rel => exact ⟨k + 1, o + 1, o, by omega, by go_num, rfl, by have := HO1.out; omega, by omega, by have := HO1.out; omega, by have := HO3.out; omega, HKA.out, HBA.out⟩
        case measure => simp [intOf]; omega
    · have hkn : ¬ ((k : Int) < (ns.length : Int)) := by omega
      clear hlt hkeep hbox hl0 hlo ho1 ho2
      go_wp2_with fail
      refine (alive_any wr).mono ?_
      rintro e w5 ⟨rfl, k5⟩
      have K5 := Lib.hid (HKP.out.trans k5 (fun _ _ h => h))
      clear k5
      go_wp2
      go_ret
      exact ⟨rfl, K5.out⟩


namespace LeaseRises
set_option maxRecDepth 100000 in
theorem lifted (os : Os) (started : os.Started) (H : Type) (enc : TypeId × Value → H) :
    ReturnsInHanded {} Try.checked os 5 .any (Rows.leaseRisesSpec.pre6 enc Try.prog Try.f5 Rows.leaseRisesRow.domain false) (Rows.leaseRisesSpec.post enc Try.prog Try.f5 false true false false) := by
  refine returnsInHanded_of_change_sized (C := Try.checked) own started (by kernel_rfl) Try.func5
    (ChangeSpec.witness6 (enc := enc) (C := Try.checked) false ⟨#[], #[.int .u64 0, .slice none 0 0], []⟩ 8 (by kernel_rfl) (by kernel_rfl) (by kernel_rfl) (by kernel_rfl)) ?_
  intro W base args ds gs before hval0 hW hcnd hsz _
  have hval : ∀ (j : Nat) t v, Try.f5.params[j]? = some t → args[j]? = some v → Value.okWide Try.prog W .any base t v := hval0
  have hW' := hW
  obtain ⟨p, q, hA0, hV, rfl, hfz, hnd⟩ := hW
  have hA : DataW.TrodAll enc Try.prog W 0 (fun _ => true) true Try.f5.params.toList args.toList ds p := hA0
  rw [Try.params5] at hA hval
  obtain ⟨v0, vs0, d0, ds0, p0, q0, hargs, rfl, rfl, h0, r0⟩ := trodAll_cons hA
  obtain ⟨v1, vs1, d1, ds1, p1, q1, rfl, rfl, rfl, h1, r1⟩ := trodAll_cons r0
  obtain ⟨rfl, rfl, rfl⟩ := trodAll_nil r1
  obtain rfl : args = #[v0, v1] := by cases args; simp_all
  obtain ⟨rfl, rfl⟩ := trodVars_none hV
  have k1 := h1
  have lt1 : ∀ x ∈ p1, x.block < W.heap.size := by obtain ⟨m, hm⟩ := k1; exact DataW.trod_lt m _ _ _ hm
  obtain ⟨a0, rfl, rfl, rfl, w0⟩ := open_int Try.underlying22 (hval 0 22 v0 rfl rfl) h0
  obtain ⟨A1, c1, l1, rfl, hl1⟩ := open_arg_nums (hval 1 39 v1 rfl rfl) h1 (light_arg hsz (j := 1) rfl rfl)
  clear hA0 hval0
  refine (rises_walk W a0 (u64_in w0).1 (u64_in w0).2 A1 c1 l1 hl1).mono fun e W' ⟨he, bel0⟩ => ?_
  subst he
  have bel := bel0.all
  exact ⟨_, rfl, _, _, _, [], _, [], hW', trodAll_mk1 (shut_bool Try.underlying4 _), (trodAll_cons_mk (shut_int Try.underlying22 w0) (trodAll_cons_mk (Below.trod laidOut (by kernel_rfl) (of_decide_eq_true (by kernel_rfl)) k1 bel lt1) trodAll_mk0)), rfl, bel.frame _, fun h => by cases h⟩

theorem over : Rows.leaseRisesRow.holds Try.pinned (OpenSpec.ofChange Rows.leaseRisesSpec) :=
  OpenClaim.holds_of_wide 5 Try.f5 rfl rfl rfl rfl rfl rfl rfl ⟨rfl, rfl, rfl, rfl, rfl⟩ rfl rfl rfl rfl rfl (by kernel_rfl) Try.func5 (by kernel_rfl)
    (of_decide_eq_true (by kernel_rfl)) (by unfold Func.isWrapper; first | (rw [if_pos (by decide +kernel)]; kernel_rfl) | (rw [if_neg (by decide +kernel)]; exact ⟨rfl, rfl⟩))
    (fun os started H enc _ => lifted os started H enc)

theorem proved : Rows.LeaseRisesSaid := over
end LeaseRises
end Go.Proofs.Ytcanmgoelbgdfaa
