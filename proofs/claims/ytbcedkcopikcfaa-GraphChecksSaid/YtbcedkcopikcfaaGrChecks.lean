/-
  Proved: dockyardlaw07.GraphChecks answers true for every input that can be read, and leaves its arguments as they were. No conditions.
-/
import Derived.Test.YtbcedkcopikcfaaGrAlive
import Derived.Test.YtbcedkcopikcfaaGrRCheck
import Derived.Test.YtbcedkcopikcfaaGrOpen
namespace Go.Proofs.Ytbcedkcopikcfaa
open Go.ChangeShapes Go.WideShapes Go.ChangeAt Go.RowKit

set_option maxRecDepth 100000 in
set_option maxHeartbeats 2000000 in
theorem checks_walk (w : World) (A : Option Addr) (c : Nat) (ts : List Tg) (h : Tgs w (fun _ => True) (.slice A ts.length c) ts) :
    Calls Try.prog 3 #[.agg #[.slice A ts.length c]] w fun e w' => e = .returned (.bool true) ∧ Keep noneOf w w' := by
  have HH := Lib.hid h
  obtain ⟨w1, hw1⟩ : ∃ w1, w.alloc (.cells #[.slice A ts.length c] 24) = w1 := ⟨_, rfl⟩
  have K1 : Keep noneOf w w1 := by rw [← hw1]; exact (Keep.refl noneOf w).alloc _
  have X1 : Box w1 w.heap.size 24 #[.slice A ts.length c] := by rw [← hw1]; exact Box.new w _ _
  have MK : Hid (∀ w', Keep noneOf w1 w' → w'.cell? ⟨w.heap.size, 0, none⟩ = some (.slice A ts.length c)) := fun w' k => (X1.keep k id).cell 0
  have CA : Hid (∀ w', Keep noneOf w1 w' → _) := fun w' k' => check_any w' _ _ ts (HH.out.keep (K1.trans k' (fun _ _ h => h)) (fun _ _ _ => id))
  have CB : Hid (∀ w', Keep noneOf w1 w' → _) := fun w' k' => refCheck_any w' _ _ ts (HH.out.keep (K1.trans k' (fun _ _ h => h)) (fun _ _ _ => id))
  generalize grCheck (ts.map Tg.plain) = R at *
  have HK1 := Lib.hid K1
  have K00 := Keep.refl noneOf w1
  have HW1 := Lib.hid hw1
  clear h hw1 K1 X1
  go_enter Try.func3, Try.ntmps3
  go_wp2
  rw [HW1.out]
  refine wp_region_in (fun w' => Keep noneOf w1 w' ∧ w'.cell? ⟨w.heap.size, 0, none⟩ = some (.slice A ts.length c)) (by kernel_rfl) (by kernel_rfl) ⟨K00.drew, MK.out _ K00.drew⟩ ?_
  repeat
    first
    | go_big_quiet_skip
    | go_big_quiet_want
      go_big_quiet_op
      go_big_quiet_on
    | go_big_quiet_want
      apply quiet_calls
      case he => intro w'; go_simp; exact ⟨rfl, rfl⟩
      case h =>
        intro w' hw'
        first
        | go_at_call 8
          refine (alive_any _).mono ?_
          rintro e w'' ⟨rfl, k''⟩
          exact ⟨rfl, Keep.trans hw'.1 k'' (fun _ _ h => h), MK.out _ (Keep.trans hw'.1 k'' (fun _ _ h => h))⟩
        | go_at_call 9
          refine (CA.out _ hw'.1).mono ?_
          rintro e w'' ⟨rfl, k''⟩
          exact ⟨rfl, Keep.trans hw'.1 k'' (fun _ _ h => h), MK.out _ (Keep.trans hw'.1 k'' (fun _ _ h => h))⟩
        | go_at_call 10
          refine (CB.out _ hw'.1).mono ?_
          rintro e w'' ⟨rfl, k''⟩
          exact ⟨rfl, Keep.trans hw'.1 k'' (fun _ _ h => h), MK.out _ (Keep.trans hw'.1 k'' (fun _ _ h => h))⟩
      simp only [Act.put, List.setIfInBounds_toArray, List.set_cons_zero, List.set_cons_succ]
      go_big_quiet_on
    | go_big_quiet_want
      apply quiet_reads
      case h =>
        intro w' hw'
        try dsimp only at hw'
        go_split_ands
        go_simp
        rfl
      simp only [Act.put, List.setIfInBounds_toArray, List.set_cons_zero, List.set_cons_succ]
      go_big_quiet_on
  refine wpQuiet_nil ?_
  intro w6 hw6
  have K6 := HK1.out.trans hw6.1 (fun _ _ h => h)
  clear hw6 K00 MK CA CB
  go_wp2
  go_ret
  refine ⟨ret_bool ?_, K6⟩
  simp

namespace GraphChecks
set_option maxRecDepth 100000 in
theorem lifted (os : Os) (started : os.Started) (H : Type) (enc : TypeId × Value → H) :
    ReturnsInHanded {} Try.checked os 3 .any (Rows.graphChecksSpec.pre6 enc Try.prog Try.f3 Rows.graphChecksRow.domain false) (Rows.graphChecksSpec.post enc Try.prog Try.f3 false true false false) := by
  refine returnsInHanded_of_change_sized (C := Try.checked) own started (by kernel_rfl) Try.func3
    (ChangeSpec.witness6 (enc := enc) (C := Try.checked) false ⟨#[], #[.agg #[.slice none 0 0]], []⟩ 8 (by kernel_rfl) (by kernel_rfl) (by kernel_rfl) (by kernel_rfl)) ?_
  intro W base args ds gs before hval0 hW hcnd hsz _
  have hval : ∀ (j : Nat) t v, Try.f3.params[j]? = some t → args[j]? = some v → Value.okWide Try.prog W .any base t v := hval0
  have hW' := hW
  obtain ⟨p, q, hA0, hV, rfl, hfz, hnd⟩ := hW
  have hA : DataW.TrodAll enc Try.prog W 0 (fun _ => true) true Try.f3.params.toList args.toList ds p := hA0
  rw [Try.params3] at hA hval
  obtain ⟨v0, vs0, d0, ds0, p0, q0, hargs, rfl, rfl, h0, r0⟩ := trodAll_cons hA
  obtain ⟨rfl, rfl, rfl⟩ := trodAll_nil r0
  obtain rfl : args = #[v0] := by cases args; simp_all
  obtain ⟨rfl, rfl⟩ := trodVars_none hV
  have k0 := h0
  have lt0 : ∀ x ∈ p0, x.block < W.heap.size := by obtain ⟨m, hm⟩ := k0; exact DataW.trod_lt m _ _ _ hm
  obtain ⟨A0, c0, ts0, rfl, hts0, _, _⟩ := open_graph (hval 0 24 v0 rfl rfl) h0 (light_arg hsz (j := 0) rfl rfl)
  clear hA0 hval0
  refine (checks_walk W A0 c0 ts0 hts0).mono fun e W' ⟨he, bel0⟩ => ?_
  subst he
  have bel := bel0.all
  exact ⟨_, rfl, _, _, _, [], _, [], hW', trodAll_mk1 (shut_bool Try.underlying4 _), (trodAll_cons_mk (Below.trod laidOut (by kernel_rfl) (of_decide_eq_true (by kernel_rfl)) k0 bel lt0) trodAll_mk0), rfl, bel.frame _, fun h => by cases h⟩

theorem over : Rows.graphChecksRow.holds Try.pinned (OpenSpec.ofChange Rows.graphChecksSpec) :=
  OpenClaim.holds_of_wide 3 Try.f3 rfl rfl rfl rfl rfl rfl rfl ⟨rfl, rfl, rfl, rfl, rfl⟩ rfl rfl rfl rfl rfl (by kernel_rfl) Try.func3 (by kernel_rfl)
    (of_decide_eq_true (by kernel_rfl)) (by unfold Func.isWrapper; first | (rw [if_pos (by decide +kernel)]; kernel_rfl) | (rw [if_neg (by decide +kernel)]; exact ⟨rfl, rfl⟩))
    (fun os started H enc _ => lifted os started H enc)

theorem proved : Rows.GraphChecksSaid := over
end GraphChecks
end Go.Proofs.Ytbcedkcopikcfaa
