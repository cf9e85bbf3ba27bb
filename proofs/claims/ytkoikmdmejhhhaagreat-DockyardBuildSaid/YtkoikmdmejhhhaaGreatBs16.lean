import Derived.BigQuiet
import Derived.Deep.QuietTactic
import Derived.Test.YtkoikmdmejhhhaaGreatBs07
import Derived.Test.YtkoikmdmejhhhaaGreatBs10
import Derived.Test.YtkoikmdmejhhhaaGreatBs11
import Derived.Test.YtkoikmdmejhhhaaGreatBs15
namespace Go.Proofs.YtkoikmdmejhhhaaGreat
open Go.RowKit
theorem three_boxes (w : World) (x y z : Array Value) (t t' t'' : TypeId) :
    Keep noneOf w (((w.alloc (.cells x t)).alloc (.cells y t')).alloc (.cells z t'')) ∧ Box (((w.alloc (.cells x t)).alloc (.cells y t')).alloc (.cells z t'')) w.heap.size t x ∧ Box (((w.alloc (.cells x t)).alloc (.cells y t')).alloc (.cells z t'')) (w.heap.size + 1) t' y ∧ Box (((w.alloc (.cells x t)).alloc (.cells y t')).alloc (.cells z t'')) (w.heap.size + 1 + 1) t'' z := by
  obtain ⟨k, a, b⟩ := two_boxes w x y t t'
  refine ⟨k.alloc _, a.alloc _, b.alloc _, ?_⟩
  have := Box.new ((w.alloc (.cells x t)).alloc (.cells y t')) t'' z
  simpa only [World.size_alloc] using this
set_option maxRecDepth 100000 in
set_option maxHeartbeats 1000000 in
theorem grant_any (w : World) (o n : Int) (h1 : 1 ≤ o) (h2 : o ≤ top) (h0 : 0 ≤ n) : Calls Tryz.prog 146 #[.agg #[.int .u64 o], .int .u64 n] w
    (TellsV (.tuple #[.agg #[.int .u64 (granted o n).1], (granted o n).2.1.agg, .int .i64 (granted o n).2.2]) w) := by
  obtain ⟨K0, X0, Y0, Z0⟩ := three_boxes w #[.int .u64 o] #[.int .u64 0] #[.int .i64 0, .int .u64 0, .int .u64 0] 80 80 64
  have EN := end_any (((w.alloc (.cells #[.int .u64 o] 80)).alloc (.cells #[.int .u64 0] 80)).alloc (.cells #[.int .i64 0, .int .u64 0, .int .u64 0] 64)) n h0
  have HEN := Lib.hid EN
  have HK0 := Lib.hid K0
  have HX0 := Lib.hid X0
  have HY0 := Lib.hid Y0
  have HZ0 := Lib.hid Z0
  generalize hR : granted o n = R
  have HR := Lib.hid hR
  have H0 := Lib.hid h0
  have H1 := Lib.hid h1
  have H2 := Lib.hid h2
  clear K0 X0 Y0 Z0 EN hR h0 h1 h2
  go_enter Tryz.func146, Tryz.ntmps146
  go_wp2_with fail
  refine HEN.out.mono ?_
  rintro e w2 ⟨rfl, k2⟩
  have HK2 := Lib.hid (HK0.out.trans k2 (fun _ _ h => h))
  have HX2 := Lib.hid (HX0.out.keep k2 id)
  have HY2 := Lib.hid (HY0.out.keep k2 id)
  have HZ2 := Lib.hid (HZ0.out.keep k2 id)
  clear HEN k2 HK0 HX0 HY0 HZ0
  have MK : Hid (∀ w', Keep noneOf w2 w' → w'.cell? ⟨w.heap.size, 0, none⟩ = some (.int .u64 o)) := Lib.hid fun w' k' => (HX2.out.keep k' id).cell 0
  have NW : Hid (∀ w', Calls Tryz.prog 35 #[.int .u64 18446744073709551615] w' (TellsV (.agg #[.int .u64 18446744073709551615]) w')) := Lib.hid fun w' => new_any w' 18446744073709551615
  have K22 := Keep.refl noneOf w2
  have EG := fun w' o1 o2 (xs ys : Array Value) => run_eqGuard_agg (P := Tryz.prog) w' .eql 80 o1 o2 xs ys of_guard
  by_cases ho : o = top
  · have hR : R = (o, Pst.zero, 101) := by
      rw [← HR.out]
      unfold granted
      rw [if_pos (.inl ho)]
    subst hR
    unfold top at ho
    subst ho
    generalize (if late < n then 0 else n + 8) = ev
    generalize (!decide (late < n)) = eb
    have EQ : ∀ w', (binOp .eql 80 (.agg #[.int .u64 18446744073709551615]) (.agg #[.int .u64 18446744073709551615])).run Tryz.prog w' = .ok (.bool true) w' := fun w' => by rw [run_eql1]; rfl
    go_wp2
    refine wp_region_in (fun w' => Keep noneOf w2 w' ∧ w'.cell? ⟨w.heap.size, 0, none⟩ = some (.int .u64 18446744073709551615)) (by kernel_rfl) (by kernel_rfl) ⟨K22.drew, MK.out _ K22.drew⟩ ?_
    repeat
      first
      | go_big_quiet_skip
      | go_big_quiet_want
        go_big_quiet_op
        go_big_quiet_on
      | go_big_quiet_want
        apply quiet_calls
        case he => intro w'; go_simp; exact ⟨rfl, rfl⟩
        case h =>
          intro w' hw'
          first
          | go_at_call 35
            refine (NW.out w').mono ?_
            rintro e w'' ⟨rfl, k''⟩
            exact ⟨rfl, Keep.trans hw'.1 k'' (fun _ _ h => h), MK.out _ (Keep.trans hw'.1 k'' (fun _ _ h => h))⟩
        simp only [Act.put, List.setIfInBounds_toArray, List.set_cons_zero, List.set_cons_succ]
        go_big_quiet_on
      | go_big_quiet_want
        apply quiet_reads
        case h =>
          intro w' hw'
          try dsimp only at hw'
          go_split_ands
          go_simp
          rfl
        simp only [Act.put, List.setIfInBounds_toArray, List.set_cons_zero, List.set_cons_succ]
        go_big_quiet_on
    refine wpQuiet_nil ?_
    intro w9 hw9
    have HK9 := Lib.hid (HK2.out.trans hw9.1 (fun _ _ h => h))
    have HX9 := Lib.hid (HX2.out.keep hw9.1 id)
    have HY9 := Lib.hid (HY2.out.keep hw9.1 id)
    have HZ9 := Lib.hid (HZ2.out.keep hw9.1 id)
    clear hw9 HK2 HX2 HY2 HZ2 MK NW EG K22
    have c0 := HX9.out.cell 0
    have b0 := HY9.out.cell 0
    have fb := HY9.out.free 0
    obtain ⟨d0, d1, d2⟩ := HZ9.out.three
    have f0 := HZ9.out.free 0
    have f1 := HZ9.out.free 1
    have f2 := HZ9.out.free 2
    clear EQ
    have YZ := HY9.out.put1 (.int .u64 18446744073709551615)
    have ZZ := (HZ9.out.far (p := ⟨w.heap.size + 1, 0, none⟩) (by simp) (.int .u64 18446744073709551615)).put3 (.int .i64 0) (.int .u64 0) (.int .u64 0)
    have YF := ((YZ.far (p := ⟨w.heap.size + 1 + 1, 0, none⟩) (by simp) (.int .i64 0)).far (p := ⟨w.heap.size + 1 + 1, 1, none⟩) (by simp) (.int .u64 0)).far (p := ⟨w.heap.size + 1 + 1, 2, none⟩) (by simp) (.int .u64 0)
    have KF := (HK9.out.put1 (g := w.heap.size + 1) (by omega) (.int .u64 18446744073709551615)).put3 (g := w.heap.size + 1 + 1) (by omega) (.int .i64 0) (.int .u64 0) (.int .u64 0)
    have HYF := Lib.hid YF
    have HZF := Lib.hid ZZ
    have HKF := Lib.hid KF
    clear YZ YF KF ZZ
    go_wp2
    generalize (((w9.setCell ⟨w.heap.size + 1, 0, none⟩ (.int .u64 18446744073709551615)).setCell ⟨w.heap.size + 1 + 1, 0, none⟩ (.int .i64 0)).setCell ⟨w.heap.size + 1 + 1, 1, none⟩ (.int .u64 0)).setCell ⟨w.heap.size + 1 + 1, 2, none⟩ (.int .u64 0) = wf at *
    obtain ⟨r0, r1, r2⟩ := HZF.out.three
    have r3 := HYF.out.cell 0
    exact bodyPost_ret (v := .tuple #[.agg #[.int .u64 18446744073709551615], Pst.zero.agg, .int .i64 101]) (by simp [results, Tryz.results146, go_sem, Pst.zero, Pst.agg, r0, r1, r2, r3]) rfl ⟨rfl, HKF.out⟩
  · have g1 : (o == 18446744073709551615) = false := beq_eq_false_iff_ne.2 ho
    have EQ : ∀ w', (binOp .eql 80 (.agg #[.int .u64 o]) (.agg #[.int .u64 18446744073709551615])).run Tryz.prog w' = .ok (.bool false) w' := fun w' => by rw [run_eql1, g1]
    clear g1
    by_cases hn : late < n
    · have hR : R = (o, Pst.zero, 101) := by
        rw [← HR.out]
        unfold granted
        rw [if_pos (.inr hn)]
      subst hR
      rw [if_pos hn, decide_eq_true hn]
      clear hn ho
      go_wp2
      refine wp_region_in (fun w' => Keep noneOf w2 w' ∧ w'.cell? ⟨w.heap.size, 0, none⟩ = some (.int .u64 o)) (by kernel_rfl) (by kernel_rfl) ⟨K22.drew, MK.out _ K22.drew⟩ ?_
      repeat
        first
        | go_big_quiet_skip
        | go_big_quiet_want
          go_big_quiet_op
          go_big_quiet_on
        | go_big_quiet_want
          apply quiet_calls
          case he => intro w'; go_simp; exact ⟨rfl, rfl⟩
          case h =>
            intro w' hw'
            first
            | go_at_call 35
              refine (NW.out w').mono ?_
              rintro e w'' ⟨rfl, k''⟩
              exact ⟨rfl, Keep.trans hw'.1 k'' (fun _ _ h => h), MK.out _ (Keep.trans hw'.1 k'' (fun _ _ h => h))⟩
          simp only [Act.put, List.setIfInBounds_toArray, List.set_cons_zero, List.set_cons_succ]
          go_big_quiet_on
        | go_big_quiet_want
          apply quiet_reads
          case h =>
            intro w' hw'
            try dsimp only at hw'
            go_split_ands
            go_simp
            rfl
          simp only [Act.put, List.setIfInBounds_toArray, List.set_cons_zero, List.set_cons_succ]
          go_big_quiet_on
      refine wpQuiet_nil ?_
      intro w9 hw9
      have HK9 := Lib.hid (HK2.out.trans hw9.1 (fun _ _ h => h))
      have HX9 := Lib.hid (HX2.out.keep hw9.1 id)
      have HY9 := Lib.hid (HY2.out.keep hw9.1 id)
      have HZ9 := Lib.hid (HZ2.out.keep hw9.1 id)
      clear hw9 HK2 HX2 HY2 HZ2 MK NW EG K22
      have c0 := HX9.out.cell 0
      have b0 := HY9.out.cell 0
      have fb := HY9.out.free 0
      obtain ⟨d0, d1, d2⟩ := HZ9.out.three
      have f0 := HZ9.out.free 0
      have f1 := HZ9.out.free 1
      have f2 := HZ9.out.free 2
      clear EQ
      have YZ := HY9.out.put1 (.int .u64 o)
      have ZZ := (HZ9.out.far (p := ⟨w.heap.size + 1, 0, none⟩) (by simp) (.int .u64 o)).put3 (.int .i64 0) (.int .u64 0) (.int .u64 0)
      have YF := ((YZ.far (p := ⟨w.heap.size + 1 + 1, 0, none⟩) (by simp) (.int .i64 0)).far (p := ⟨w.heap.size + 1 + 1, 1, none⟩) (by simp) (.int .u64 0)).far (p := ⟨w.heap.size + 1 + 1, 2, none⟩) (by simp) (.int .u64 0)
      have KF := (HK9.out.put1 (g := w.heap.size + 1) (by omega) (.int .u64 o)).put3 (g := w.heap.size + 1 + 1) (by omega) (.int .i64 0) (.int .u64 0) (.int .u64 0)
      have HYF := Lib.hid YF
      have HZF := Lib.hid ZZ
      have HKF := Lib.hid KF
      clear YZ YF KF ZZ
      go_wp2
      generalize (((w9.setCell ⟨w.heap.size + 1, 0, none⟩ (.int .u64 o)).setCell ⟨w.heap.size + 1 + 1, 0, none⟩ (.int .i64 0)).setCell ⟨w.heap.size + 1 + 1, 1, none⟩ (.int .u64 0)).setCell ⟨w.heap.size + 1 + 1, 2, none⟩ (.int .u64 0) = wf at *
      obtain ⟨r0, r1, r2⟩ := HZF.out.three
      have r3 := HYF.out.cell 0
      exact bodyPost_ret (v := .tuple #[.agg #[.int .u64 o], Pst.zero.agg, .int .i64 101]) (by simp [results, Tryz.results146, go_sem, Pst.zero, Pst.agg, r0, r1, r2, r3]) rfl ⟨rfl, HKF.out⟩
    · have hR : R = (o + 1, ⟨2, o, n + 8⟩, 0) := by
        rw [← HR.out]
        unfold granted
        rw [if_neg (by rintro (h | h) <;> contradiction)]
      subst hR
      rw [if_neg hn, decide_eq_false hn]
      have w1 := wrap1 H1.out (by have := H2.out; omega)
      have hm : max (o + 1) 1 = o + 1 := by have := H1.out; omega
      clear hn ho
      go_wp2
      refine wp_region_in (fun w' => Keep noneOf w2 w' ∧ w'.cell? ⟨w.heap.size, 0, none⟩ = some (.int .u64 o)) (by kernel_rfl) (by kernel_rfl) ⟨K22.drew, MK.out _ K22.drew⟩ ?_
      repeat
        first
        | go_big_quiet_skip
        | go_big_quiet_want
          go_big_quiet_op
          go_big_quiet_on
        | go_big_quiet_want
          apply quiet_calls
          case he => intro w'; go_simp; exact ⟨rfl, rfl⟩
          case h =>
            intro w' hw'
            first
            | go_at_call 35
              refine (NW.out w').mono ?_
              rintro e w'' ⟨rfl, k''⟩
              exact ⟨rfl, Keep.trans hw'.1 k'' (fun _ _ h => h), MK.out _ (Keep.trans hw'.1 k'' (fun _ _ h => h))⟩
          simp only [Act.put, List.setIfInBounds_toArray, List.set_cons_zero, List.set_cons_succ]
          go_big_quiet_on
        | go_big_quiet_want
          apply quiet_reads
          case h =>
            intro w' hw'
            try dsimp only at hw'
            go_split_ands
            go_simp
            rfl
          simp only [Act.put, List.setIfInBounds_toArray, List.set_cons_zero, List.set_cons_succ]
          go_big_quiet_on
      refine wpQuiet_nil ?_
      intro w9 hw9
      have HK9 := Lib.hid (HK2.out.trans hw9.1 (fun _ _ h => h))
      have HX9 := Lib.hid (HX2.out.keep hw9.1 id)
      have HY9 := Lib.hid (HY2.out.keep hw9.1 id)
      have HZ9 := Lib.hid (HZ2.out.keep hw9.1 id)
      clear hw9 HK2 HX2 HY2 HZ2 MK NW EG K22
      have c0 := HX9.out.cell 0
      have b0 := HY9.out.cell 0
      have fb := HY9.out.free 0
      obtain ⟨d0, d1, d2⟩ := HZ9.out.three
      have f0 := HZ9.out.free 0
      have f1 := HZ9.out.free 1
      have f2 := HZ9.out.free 2
      clear EQ
      have NW : Hid (∀ w', Calls Tryz.prog 35 #[.int .u64 (o + 1)] w' (TellsV (.agg #[.int .u64 (o + 1)]) w')) := Lib.hid fun w' => by
        have := new_any w' (o + 1)
        rw [hm] at this
        exact this
      have MK : Hid (∀ w', Keep (fun k => k = w.heap.size + 1 ∨ k = w.heap.size + 1 + 1) w9 w' → w'.cell? ⟨w.heap.size, 0, none⟩ = some (.int .u64 o)) := Lib.hid fun w' k' => (HX9.out.keep k' (by omega)).cell 0
      have MS : Hid (∀ w', Keep noneOf w9 w' → w'.cell? ⟨w.heap.size + 1, 0, none⟩ = some (.int .u64 0) ∧ w'.frozen? ⟨w.heap.size + 1, 0, none⟩ = false ∧ w'.cell? ⟨w.heap.size + 1 + 1, 0, none⟩ = some (.int .i64 0) ∧ w'.cell? ⟨w.heap.size + 1 + 1, 1, none⟩ = some (.int .u64 0) ∧ w'.cell? ⟨w.heap.size + 1 + 1, 2, none⟩ = some (.int .u64 0) ∧ w'.frozen? ⟨w.heap.size + 1 + 1, 0, none⟩ = false ∧ w'.frozen? ⟨w.heap.size + 1 + 1, 1, none⟩ = false ∧ w'.frozen? ⟨w.heap.size + 1 + 1, 2, none⟩ = false) := Lib.hid fun w' k' =>
        ⟨(HY9.out.keep k' id).cell 0, (HY9.out.keep k' id).free 0, (HZ9.out.keep k' id).cell 0, (HZ9.out.keep k' id).cell 1, (HZ9.out.keep k' id).cell 2, (HZ9.out.keep k' id).free 0, (HZ9.out.keep k' id).free 1, (HZ9.out.keep k' id).free 2⟩
      have K99 := Keep.refl noneOf w9
      have K9S := Keep.refl (fun k => k = w.heap.size + 1 ∨ k = w.heap.size + 1 + 1) w9
      clear c0 b0 fb d0 d1 d2 f0 f1 f2 hm
      go_wp2
      go_region_held3 (fun w' => Keep (fun k => k = w.heap.size + 1 ∨ k = w.heap.size + 1 + 1) w9 w' ∧ w'.cell? ⟨w.heap.size, 0, none⟩ = some (.int .u64 o))
        (first | exact ⟨K9S.drew, MK.out _ K9S.drew⟩ | (refine (fun k => ⟨k, MK.out _ k⟩) ?_; first | (with_reducible refine Keep.setCell (And.left (by assumption)) ?_ _; exact fun _ => by simp) | (with_reducible refine Keep.setCell (Keep.setCell (Keep.setCell (And.left (by assumption)) ?_ _) ?_ _) ?_ _; all_goals (exact fun _ => by simp)) | (with_reducible exact Keep.andNone (And.left (by assumption)) (by assumption))))
        (first | (go_at_call 35; refine (NW.out _).mono ?_; rintro e w' ⟨rfl, k'⟩; obtain ⟨b0, fb, d0, d1, d2, f0, f1, f2⟩ := MS.out _ (K99.drew.trans k' (fun _ _ h => h))))
      have k9 := K99.drew.trans k' (fun _ _ h => h)
      have HKA := Lib.hid (((HK9.out.trans k9 (fun _ _ h => h)).put1 (g := w.heap.size + 1) (by omega) (.int .u64 (o + 1))).put3 (g := w.heap.size + 1 + 1) (by omega) (.int .i64 2) (.int .u64 o) (.int .u64 (n + 8)))
      have HYA := Lib.hid (((((HY9.out.keep k9 id).put1 (.int .u64 (o + 1))).far (p := ⟨w.heap.size + 1 + 1, 0, none⟩) (by simp) (.int .i64 2)).far (p := ⟨w.heap.size + 1 + 1, 1, none⟩) (by simp) (.int .u64 o)).far (p := ⟨w.heap.size + 1 + 1, 2, none⟩) (by simp) (.int .u64 (n + 8)))
      have HZA := Lib.hid (((HZ9.out.keep k9 id).far (p := ⟨w.heap.size + 1, 0, none⟩) (by simp) (.int .u64 (o + 1))).put3 (.int .i64 2) (.int .u64 o) (.int .u64 (n + 8)))
      clear k9 k' b0 fb d0 d1 d2 f0 f1 f2 MS MK NW K99 K9S HK9 HX9 HY9 HZ9
      generalize (((w'.setCell ⟨w.heap.size + 1, 0, none⟩ (.int .u64 (o + 1))).setCell ⟨w.heap.size + 1 + 1, 0, none⟩ (.int .i64 2)).setCell ⟨w.heap.size + 1 + 1, 1, none⟩ (.int .u64 o)).setCell ⟨w.heap.size + 1 + 1, 2, none⟩ (.int .u64 (n + 8)) = wf at *
      go_wp2
      obtain ⟨r0, r1, r2⟩ := HZA.out.three
      have r3 := HYA.out.cell 0
      exact bodyPost_ret (v := .tuple #[.agg #[.int .u64 (o + 1)], Pst.agg ⟨2, o, n + 8⟩, .int .i64 0]) (by simp [results, Tryz.results146, go_sem, Pst.agg, r0, r1, r2, r3]) rfl ⟨rfl, HKA.out⟩
end Go.Proofs.YtkoikmdmejhhhaaGreat
