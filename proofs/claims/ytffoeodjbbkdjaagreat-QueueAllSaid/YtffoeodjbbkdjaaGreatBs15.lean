import Derived.Deep.DeepCutAuto
import Derived.Test.YtffoeodjbbkdjaaGreatBs14
namespace Go.Proofs.YtffoeodjbbkdjaaGreat
open Go.RowKit
def top : Int := 18446744073709551615
def late : Int := 18446744073709551607
def holdsB (x : Pst) (k n : Int) : Bool := x.s == 2 && x.t == k && k != 0 && decide (n < x.u)
def granted (o n : Int) : Int × Pst × Int := if o = top ∨ late < n then (o, Pst.zero, 101) else (o + 1, ⟨2, o, n + 8⟩, 0)
def renewed (x : Pst) (k n : Int) : Pst × Int := if holdsB x k n = false then (Pst.zero, 100) else if late < n then (Pst.zero, 101) else (⟨x.s, x.t, max x.u (n + 8)⟩, 0)
theorem Box.put1 {w : World} {b : Nat} {t : TypeId} {x : Value} (h : Box w b t #[x]) (u : Value) : Box (w.setCell ⟨b, 0, none⟩ u) b t #[u] := by
 have := h.put 0 u
 simpa using this
theorem Box.put3 {w : World} {b : Nat} {t : TypeId} {x y z : Value} (h : Box w b t #[x, y, z]) (u v r : Value) : Box (((w.setCell ⟨b, 0, none⟩ u).setCell ⟨b, 1, none⟩ v).setCell ⟨b, 2, none⟩ r) b t #[u, v, r] := by
 have := ((h.put 0 u).put 1 v).put 2 r
 simpa using this
def newer (w : World) : Nat → Prop := fun k => w.heap.size ≤ k
theorem ret_bool_L {b c : Bool} (h : c = b) : Ending.returned (.bool c) = .returned (.bool b) := by rw [h]
set_option maxRecDepth 100000 in
theorem new_any (w : World) (n : Int) : Calls Tryz.prog 21 #[.int .u64 n] w (TellsV (.agg #[.int .u64 (max n 1)]) w) := by
 go_enter Tryz.func21, Tryz.ntmps21
 go_wp2
 exact bodyPost_ret (v := .agg #[.int .u64 (max n 1)]) (by simp [results, Tryz.results21, go_sem]) rfl ⟨rfl, (Keep.refl noneOf w).alloc _⟩
set_option maxRecDepth 100000 in
theorem next_any_L (w : World) (n : Int) : Calls Tryz.prog 42 #[.agg #[.int .u64 n]] w (TellsV (.int .u64 n) w) := by
 have c0 : (w.alloc (.cells #[.int .u64 n] 67)).cell? ⟨w.heap.size, 0, none⟩ = some (.int .u64 n) := (Box.new w _ _).cell 0
 go_enter Tryz.func42, Tryz.ntmps42
 go_wp2
 go_ret
 exact ⟨rfl, (Keep.refl noneOf w).alloc _⟩
theorem u64_plus {n m : Int} (h0 : 0 ≤ n) (hm : 0 ≤ m) (h1 : n + m ≤ top) : IntKind.u64.wrap (n + m) = n + m := by
 unfold top at h1
 show (n + m) % 18446744073709551616 = n + m
 omega
set_option maxRecDepth 100000 in
theorem end_any (w : World) (n : Int) (h0 : 0 ≤ n) : Calls Tryz.prog 136 #[.int .u64 n] w (TellsV (.tuple #[.int .u64 (if late < n then 0 else n + 8), .bool (!decide (late < n))]) w) := by
 by_cases h : late < n
 ·
  rw [if_pos h, decide_eq_true h]
  unfold late at h
  go_enter Tryz.func136, Tryz.ntmps136
  go_wp2
  go_ret2
  exact ⟨rfl, Keep.refl noneOf w⟩
 ·
  rw [if_neg h, decide_eq_false h]
  have hw := u64_plus (n := n) (m := 8) h0 (by decide) (by unfold top; unfold late at h; omega)
  unfold late at h
  go_enter Tryz.func136, Tryz.ntmps136
  go_wp2
  go_ret2
  exact ⟨rfl, Keep.refl noneOf w⟩
set_option maxRecDepth 100000 in
set_option maxHeartbeats 1000000 in
theorem holds_any (w : World) (x : Pst) (k n : Int) (h0 : 0 ≤ k) : Calls Tryz.prog 122 #[.agg #[.int .i64 x.s, .int .u64 x.t, .int .u64 x.u], .int .u64 k, .int .u64 n] w (TellsB (holdsB x k n) w) := by
 obtain ⟨s, t, u⟩ := x
 obtain ⟨c0, c1, c2⟩ := box3 w 61 (.int .i64 s) (.int .u64 t) (.int .u64 u)
 have H0 := Lib.hid h0
 simp only
 generalize hR : holdsB ⟨s, t, u⟩ k n = R
 have HR := Lib.hid hR
 clear hR h0
 go_enter Tryz.func122, Tryz.ntmps122
 go_wp2
 all_goals
  go_ret
  refine ⟨ret_bool_L (b := R) ?_, (Keep.refl noneOf w).alloc _⟩
  rw [← HR.out]
  have h0 := H0.out
  unfold holdsB
  simp_all
  try omega
set_option maxRecDepth 100000 in
set_option maxHeartbeats 1000000 in
theorem refHolds_any (w : World) (x : Pst) (k n : Int) (h0 : 0 ≤ k) : Calls Tryz.prog 114 #[.agg #[.int .i64 x.s, .int .u64 x.t, .int .u64 x.u], .int .u64 k, .int .u64 n] w (TellsB (holdsB x k n) w) := by
 obtain ⟨s, t, u⟩ := x
 obtain ⟨c0, c1, c2⟩ := box3 w 61 (.int .i64 s) (.int .u64 t) (.int .u64 u)
 have H0 := Lib.hid h0
 simp only
 generalize hR : holdsB ⟨s, t, u⟩ k n = R
 have HR := Lib.hid hR
 clear hR h0
 go_enter Tryz.func114, Tryz.ntmps114
 go_wp2
 all_goals
  go_ret
  refine ⟨ret_bool_L (b := R) ?_, (Keep.refl noneOf w).alloc _⟩
  rw [← HR.out]
  have h0 := H0.out
  unfold holdsB
  simp_all
  try omega
theorem wrap1 {o : Int} (h0 : 1 ≤ o) (h1 : o < top) : IntKind.u64.wrap (o + 1) = o + 1 := u64_plus (by omega) (by decide) (by omega)
theorem wrap8 {n : Int} (h0 : 0 ≤ n) (h1 : ¬ late < n) : IntKind.u64.wrap (n + 8) = n + 8 := u64_plus h0 (by decide) (by unfold top; unfold late at h1; omega)
set_option maxRecDepth 100000 in
set_option maxHeartbeats 1000000 in
theorem refGrant_any (w : World) (o n : Int) (h1 : 1 ≤ o) (h2 : o ≤ top) (h0 : 0 ≤ n) : Calls Tryz.prog 70 #[.int .u64 o, .int .u64 n] w
  (TellsV (.tuple #[.int .u64 (granted o n).1, (granted o n).2.1.agg, .int .i64 (granted o n).2.2]) w) := by
 have HK := Lib.hid ((Keep.refl noneOf w).alloc (.cells #[.int .i64 0, .int .u64 0, .int .u64 0] 61))
 have HK2 := Lib.hid ((Keep.refl noneOf w).alloc (.cells #[.int .i64 2, .int .u64 o, .int .u64 (n + 8)] 61))
 unfold granted
 by_cases ho : o = top
 ·
  rw [if_pos (.inl ho)]
  subst ho
  unfold top
  clear h1 h2 h0
  go_enter Tryz.func70, Tryz.ntmps70
  go_wp2
  exact bodyPost_ret (v := .tuple #[.int .u64 18446744073709551615, Pst.zero.agg, .int .i64 101]) (by simp [results, Tryz.results70, go_sem, Pst.zero, Pst.agg]) rfl ⟨rfl, HK.out⟩
 ·
  have g1 : (o == 18446744073709551615) = false := beq_eq_false_iff_ne.2 ho
  by_cases hn : late < n
  ·
   rw [if_pos (.inr hn)]
   unfold late at hn
   have g2 : decide (n > 18446744073709551607) = true := decide_eq_true hn
   clear h1 h2 h0 hn ho
   go_enter Tryz.func70, Tryz.ntmps70
   go_wp2
   exact bodyPost_ret (v := .tuple #[.int .u64 o, Pst.zero.agg, .int .i64 101]) (by simp [results, Tryz.results70, go_sem, Pst.zero, Pst.agg]) rfl ⟨rfl, HK.out⟩
  ·
   rw [if_neg (by rintro (h | h) <;> contradiction)]
   have w1 := wrap1 h1 (by omega)
   have w8 := wrap8 h0 hn
   unfold late at hn
   have g2 : decide (n > 18446744073709551607) = false := decide_eq_false hn
   clear h1 h2 h0 hn ho
   go_enter Tryz.func70, Tryz.ntmps70
   go_wp2
   exact bodyPost_ret (v := .tuple #[.int .u64 (o + 1), Pst.agg ⟨2, o, n + 8⟩, .int .i64 0]) (by simp [results, Tryz.results70, go_sem, Pst.agg]) rfl ⟨rfl, HK2.out⟩
theorem two_boxes (w : World) (x y : Array Value) (t t' : TypeId) :
  Keep noneOf w ((w.alloc (.cells x t)).alloc (.cells y t')) ∧ Box ((w.alloc (.cells x t)).alloc (.cells y t')) w.heap.size t x ∧ Box ((w.alloc (.cells x t)).alloc (.cells y t')) (w.heap.size + 1) t' y := by
 refine ⟨((Keep.refl _ _).alloc _).alloc _, (Box.new w t x).alloc _, ?_⟩
 have := Box.new (w.alloc (.cells x t)) t' y
 simpa only [World.size_alloc] using this
theorem Keep.put3 {w w' : World} (h : Keep noneOf w w') {g : Nat} (hg : w.heap.size ≤ g) (x y z : Value) : Keep noneOf w (((w'.setCell ⟨g, 0, none⟩ x).setCell ⟨g, 1, none⟩ y).setCell ⟨g, 2, none⟩ z) :=
 ((h.setCell (p := ⟨g, 0, none⟩) (fun h => absurd h (Nat.not_lt.2 hg)) x).setCell (p := ⟨g, 1, none⟩) (fun h => absurd h (Nat.not_lt.2 hg)) y).setCell (p := ⟨g, 2, none⟩) (fun h => absurd h (Nat.not_lt.2 hg)) z
theorem Keep.put1 {w w' : World} (h : Keep noneOf w w') {g : Nat} (hg : w.heap.size ≤ g) (x : Value) : Keep noneOf w (w'.setCell ⟨g, 0, none⟩ x) :=
 h.setCell (p := ⟨g, 0, none⟩) (fun h => absurd h (Nat.not_lt.2 hg)) x
theorem Box.put2 {w : World} {b : Nat} {t : TypeId} {x y z : Value} (h : Box w b t #[x, y, z]) (u : Value) : Box (w.setCell ⟨b, 2, none⟩ u) b t #[x, y, u] := by
 have := h.put 2 u
 simpa using this
theorem Box.three {w : World} {b : Nat} {t : TypeId} {x y z : Value} (h : Box w b t #[x, y, z]) : w.cell? ⟨b, 0, none⟩ = some x ∧ w.cell? ⟨b, 1, none⟩ = some y ∧ w.cell? ⟨b, 2, none⟩ = some z := ⟨h.cell 0, h.cell 1, h.cell 2⟩
set_option maxRecDepth 100000 in
set_option maxHeartbeats 1000000 in
theorem renew_any (w : World) (x : Pst) (k n : Int) (hk : 0 ≤ k) (h0 : 0 ≤ n) : Calls Tryz.prog 105 #[.agg #[.int .i64 x.s, .int .u64 x.t, .int .u64 x.u], .int .u64 k, .int .u64 n] w
  (TellsV (.tuple #[(renewed x k n).1.agg, .int .i64 (renewed x k n).2]) w) := by
 obtain ⟨s, t, u⟩ := x
 obtain ⟨K0, X0, Y0⟩ := two_boxes w #[.int .i64 s, .int .u64 t, .int .u64 u] #[.int .i64 0, .int .u64 0, .int .u64 0] 61 61
 have HH := Lib.hid (holds_any ((w.alloc (.cells #[.int .i64 s, .int .u64 t, .int .u64 u] 61)).alloc (.cells #[.int .i64 0, .int .u64 0, .int .u64 0] 61)) ⟨s, t, u⟩ k n hk)
 obtain ⟨c0, c1, c2⟩ := X0.three
 have HK0 := Lib.hid K0
 have HX0 := Lib.hid X0
 have HY0 := Lib.hid Y0
 have H0 := Lib.hid h0
 generalize hR : renewed ⟨s, t, u⟩ k n = R
 have HR := Lib.hid hR
 generalize hB : holdsB ⟨s, t, u⟩ k n = B at *
 have HB := Lib.hid hB
 clear K0 X0 Y0 h0 hk hR hB
 go_enter Tryz.func105, Tryz.ntmps105
 go_wp2_with fail
 refine HH.out.mono ?_
 rintro e w2 ⟨rfl, k2⟩
 have HK2 := Lib.hid (HK0.out.trans k2 (fun _ _ h => h))
 have HX2 := Lib.hid (HX0.out.keep k2 id)
 have HY2 := Lib.hid (HY0.out.keep k2 id)
 clear HH k2 HK0 HX0 HY0 c0 c1 c2
 obtain ⟨c0, c1, c2⟩ := HX2.out.three
 obtain ⟨d0, d1, d2⟩ := HY2.out.three
 have f0 := HY2.out.free 0
 have f1 := HY2.out.free 1
 have f2 := HY2.out.free 2
 have HYZ := Lib.hid (HY2.out.put3 (.int .i64 0) (.int .u64 0) (.int .u64 0))
 have HKZ := Lib.hid (HK2.out.put3 (g := w.heap.size + 1) (by omega) (.int .i64 0) (.int .u64 0) (.int .u64 0))
 cases B with
 | false =>
  have hR : R = (Pst.zero, 100) := by
   rw [← HR.out]
   unfold renewed
   rw [if_pos HB.out]
  subst hR
  go_wp2
  generalize ((w2.setCell ⟨w.heap.size + 1, 0, none⟩ (.int .i64 0)).setCell ⟨w.heap.size + 1, 1, none⟩ (.int .u64 0)).setCell ⟨w.heap.size + 1, 2, none⟩ (.int .u64 0) = wf at *
  obtain ⟨r0, r1, r2⟩ := HYZ.out.three
  exact bodyPost_ret (v := .tuple #[Pst.zero.agg, .int .i64 100]) (by simp [results, Tryz.results105, go_sem, Pst.zero, Pst.agg, r0, r1, r2]) rfl ⟨rfl, HKZ.out⟩
 | true =>
  have hB : ¬ holdsB ⟨s, t, u⟩ k n = false := by rw [HB.out]; decide
  by_cases hl : late < n
  ·
   have hR : R = (Pst.zero, 101) := by
    rw [← HR.out]
    unfold renewed
    rw [if_neg hB, if_pos hl]
   subst hR
   have HL := Lib.hid hl
   go_wp2_with fail
   refine (end_any w2 n H0.out).mono ?_
   rintro e w3 ⟨rfl, k3⟩
   rw [if_pos HL.out, decide_eq_true HL.out]
   have HK3 := Lib.hid (HK2.out.trans k3 (fun _ _ h => h))
   have HX3 := Lib.hid (HX2.out.keep k3 id)
   have HY3 := Lib.hid (HY2.out.keep k3 id)
   clear k3 HK2 HX2 HY2 c0 c1 c2 d0 d1 d2 f0 f1 f2 HYZ HKZ hB hl
   obtain ⟨c0, c1, c2⟩ := HX3.out.three
   obtain ⟨d0, d1, d2⟩ := HY3.out.three
   have f0 := HY3.out.free 0
   have f1 := HY3.out.free 1
   have f2 := HY3.out.free 2
   have e2 := HX3.out.free 2
   have HYZ := Lib.hid (HY3.out.put3 (.int .i64 0) (.int .u64 0) (.int .u64 0))
   have HKZ := Lib.hid (HK3.out.put3 (g := w.heap.size + 1) (by omega) (.int .i64 0) (.int .u64 0) (.int .u64 0))
   go_wp2
   generalize ((w3.setCell ⟨w.heap.size + 1, 0, none⟩ (.int .i64 0)).setCell ⟨w.heap.size + 1, 1, none⟩ (.int .u64 0)).setCell ⟨w.heap.size + 1, 2, none⟩ (.int .u64 0) = wf at *
   obtain ⟨r0, r1, r2⟩ := HYZ.out.three
   exact bodyPost_ret (v := .tuple #[Pst.zero.agg, .int .i64 101]) (by simp [results, Tryz.results105, go_sem, Pst.zero, Pst.agg, r0, r1, r2]) rfl ⟨rfl, HKZ.out⟩
  ·
   have hR : R = (⟨s, t, max u (n + 8)⟩, 0) := by
    rw [← HR.out]
    unfold renewed
    rw [if_neg hB, if_neg hl]
   subst hR
   have HL := Lib.hid hl
   have w8 := wrap8 H0.out hl
   go_wp2_with fail
   refine (end_any w2 n H0.out).mono ?_
   rintro e w3 ⟨rfl, k3⟩
   rw [if_neg (Int.not_lt.2 HL.out), decide_eq_false (Int.not_lt.2 HL.out)]
   have HK3 := Lib.hid (HK2.out.trans k3 (fun _ _ h => h))
   have HX3 := Lib.hid (HX2.out.keep k3 id)
   have HY3 := Lib.hid (HY2.out.keep k3 id)
   clear k3 HK2 HX2 HY2 c0 c1 c2 d0 d1 d2 f0 f1 f2 HYZ HKZ hB hl
   obtain ⟨c0, c1, c2⟩ := HX3.out.three
   obtain ⟨d0, d1, d2⟩ := HY3.out.three
   have f0 := HY3.out.free 0
   have f1 := HY3.out.free 1
   have f2 := HY3.out.free 2
   have e2 := HX3.out.free 2
   have kx := HK3.out.setCell (p := ⟨w.heap.size, 2, none⟩) (fun h => absurd h (Nat.lt_irrefl _)) (.int .u64 (max u (n + 8)))
   have X4 := HX3.out.put2 (.int .u64 (max u (n + 8)))
   have Y4 := HY3.out.far (p := ⟨w.heap.size, 2, none⟩) (Nat.succ_ne_self _) (.int .u64 (max u (n + 8)))
   have HYR := Lib.hid (Y4.put3 (.int .i64 s) (.int .u64 t) (.int .u64 (max u (n + 8))))
   have HKR := Lib.hid (kx.put3 (g := w.heap.size + 1) (by omega) (.int .i64 s) (.int .u64 t) (.int .u64 (max u (n + 8))))
   have HX4 := Lib.hid X4
   have HY4 := Lib.hid Y4
   clear kx X4 Y4
   go_upto_region 7 with fail
   generalize w3.setCell ⟨w.heap.size, 2, none⟩ (.int .u64 (max u (n + 8))) = w4 at *
   clear c0 c1 c2 d0 d1 d2 f0 f1 f2 e2
   obtain ⟨c0, c1, c2⟩ := HX4.out.three
   obtain ⟨d0, d1, d2⟩ := HY4.out.three
   have f0 := HY4.out.free 0
   have f1 := HY4.out.free 1
   have f2 := HY4.out.free 2
   go_wp2
   generalize ((w4.setCell ⟨w.heap.size + 1, 0, none⟩ (.int .i64 s)).setCell ⟨w.heap.size + 1, 1, none⟩ (.int .u64 t)).setCell ⟨w.heap.size + 1, 2, none⟩ (.int .u64 (max u (n + 8))) = wf at *
   obtain ⟨r0, r1, r2⟩ := HYR.out.three
   exact bodyPost_ret (v := .tuple #[Pst.agg ⟨s, t, max u (n + 8)⟩, .int .i64 0]) (by simp [results, Tryz.results105, go_sem, Pst.agg, r0, r1, r2]) rfl ⟨rfl, HKR.out⟩
set_option maxRecDepth 100000 in
set_option maxHeartbeats 1000000 in
theorem refRenew_any (w : World) (x : Pst) (k n : Int) (hk : 0 ≤ k) (h0 : 0 ≤ n) : Calls Tryz.prog 73 #[.agg #[.int .i64 x.s, .int .u64 x.t, .int .u64 x.u], .int .u64 k, .int .u64 n] w
  (TellsV (.tuple #[(renewed x k n).1.agg, .int .i64 (renewed x k n).2]) w) := by
 obtain ⟨s, t, u⟩ := x
 obtain ⟨K0, X0, Y0⟩ := two_boxes w #[.int .i64 s, .int .u64 t, .int .u64 u] #[.int .i64 0, .int .u64 0, .int .u64 0] 61 61
 have HH := Lib.hid (refHolds_any ((w.alloc (.cells #[.int .i64 s, .int .u64 t, .int .u64 u] 61)).alloc (.cells #[.int .i64 0, .int .u64 0, .int .u64 0] 61)) ⟨s, t, u⟩ k n hk)
 obtain ⟨c0, c1, c2⟩ := X0.three
 have HK0 := Lib.hid K0
 have HX0 := Lib.hid X0
 have HY0 := Lib.hid Y0
 have H0 := Lib.hid h0
 generalize hR : renewed ⟨s, t, u⟩ k n = R
 have HR := Lib.hid hR
 generalize hB : holdsB ⟨s, t, u⟩ k n = B at *
 have HB := Lib.hid hB
 clear K0 X0 Y0 h0 hk hR hB
 go_enter Tryz.func73, Tryz.ntmps73
 go_wp2_with fail
 refine HH.out.mono ?_
 rintro e w2 ⟨rfl, k2⟩
 have HK2 := Lib.hid (HK0.out.trans k2 (fun _ _ h => h))
 have HX2 := Lib.hid (HX0.out.keep k2 id)
 have HY2 := Lib.hid (HY0.out.keep k2 id)
 clear HH k2 HK0 HX0 HY0 c0 c1 c2
 obtain ⟨c0, c1, c2⟩ := HX2.out.three
 obtain ⟨d0, d1, d2⟩ := HY2.out.three
 have f0 := HY2.out.free 0
 have f1 := HY2.out.free 1
 have f2 := HY2.out.free 2
 have HYZ := Lib.hid (HY2.out.put3 (.int .i64 0) (.int .u64 0) (.int .u64 0))
 have HKZ := Lib.hid (HK2.out.put3 (g := w.heap.size + 1) (by omega) (.int .i64 0) (.int .u64 0) (.int .u64 0))
 cases B with
 | false =>
  have hR : R = (Pst.zero, 100) := by
   rw [← HR.out]
   unfold renewed
   rw [if_pos HB.out]
  subst hR
  go_wp2
  generalize ((w2.setCell ⟨w.heap.size + 1, 0, none⟩ (.int .i64 0)).setCell ⟨w.heap.size + 1, 1, none⟩ (.int .u64 0)).setCell ⟨w.heap.size + 1, 2, none⟩ (.int .u64 0) = wf at *
  obtain ⟨r0, r1, r2⟩ := HYZ.out.three
  exact bodyPost_ret (v := .tuple #[Pst.zero.agg, .int .i64 100]) (by simp [results, Tryz.results73, go_sem, Pst.zero, Pst.agg, r0, r1, r2]) rfl ⟨rfl, HKZ.out⟩
 | true =>
  have hB : ¬ holdsB ⟨s, t, u⟩ k n = false := by rw [HB.out]; decide
  by_cases hl : late < n
  ·
   have hR : R = (Pst.zero, 101) := by
    rw [← HR.out]
    unfold renewed
    rw [if_neg hB, if_pos hl]
   subst hR
   have HL := Lib.hid hl
   unfold late at hl
   have g2 : decide (n > 18446744073709551607) = true := decide_eq_true hl
   clear hl hB
   go_wp2
   generalize ((w2.setCell ⟨w.heap.size + 1, 0, none⟩ (.int .i64 0)).setCell ⟨w.heap.size + 1, 1, none⟩ (.int .u64 0)).setCell ⟨w.heap.size + 1, 2, none⟩ (.int .u64 0) = wf at *
   obtain ⟨r0, r1, r2⟩ := HYZ.out.three
   exact bodyPost_ret (v := .tuple #[Pst.zero.agg, .int .i64 101]) (by simp [results, Tryz.results73, go_sem, Pst.zero, Pst.agg, r0, r1, r2]) rfl ⟨rfl, HKZ.out⟩
  ·
   have hR : R = (⟨s, t, max u (n + 8)⟩, 0) := by
    rw [← HR.out]
    unfold renewed
    rw [if_neg hB, if_neg hl]
   subst hR
   have HL := Lib.hid hl
   have w8 := wrap8 H0.out hl
   unfold late at hl
   have g2 : decide (n > 18446744073709551607) = false := decide_eq_false hl
   have e2 := HX2.out.free 2
   clear hl hB
   have kx := HK2.out.setCell (p := ⟨w.heap.size, 2, none⟩) (fun h => absurd h (Nat.lt_irrefl _)) (.int .u64 (max u (n + 8)))
   have X4 := HX2.out.put2 (.int .u64 (max u (n + 8)))
   have Y4 := HY2.out.far (p := ⟨w.heap.size, 2, none⟩) (Nat.succ_ne_self _) (.int .u64 (max u (n + 8)))
   have HYR := Lib.hid (Y4.put3 (.int .i64 s) (.int .u64 t) (.int .u64 (max u (n + 8))))
   have HKR := Lib.hid (kx.put3 (g := w.heap.size + 1) (by omega) (.int .i64 s) (.int .u64 t) (.int .u64 (max u (n + 8))))
   have HX4 := Lib.hid X4
   have HY4 := Lib.hid Y4
   clear kx X4 Y4
   go_upto_region 7 with fail
   generalize w2.setCell ⟨w.heap.size, 2, none⟩ (.int .u64 (max u (n + 8))) = w4 at *
   clear c0 c1 c2 d0 d1 d2 f0 f1 f2 e2
   obtain ⟨c0, c1, c2⟩ := HX4.out.three
   obtain ⟨d0, d1, d2⟩ := HY4.out.three
   have f0 := HY4.out.free 0
   have f1 := HY4.out.free 1
   have f2 := HY4.out.free 2
   go_wp2
   generalize ((w4.setCell ⟨w.heap.size + 1, 0, none⟩ (.int .i64 s)).setCell ⟨w.heap.size + 1, 1, none⟩ (.int .u64 t)).setCell ⟨w.heap.size + 1, 2, none⟩ (.int .u64 (max u (n + 8))) = wf at *
   obtain ⟨r0, r1, r2⟩ := HYR.out.three
   exact bodyPost_ret (v := .tuple #[Pst.agg ⟨s, t, max u (n + 8)⟩, .int .i64 0]) (by simp [results, Tryz.results73, go_sem, Pst.agg, r0, r1, r2]) rfl ⟨rfl, HKR.out⟩
end Go.Proofs.YtffoeodjbbkdjaaGreat
namespace Go.Proofs.YtffoeodjbbkdjaaGreat
open Go.RowKit
theorem three_boxes (w : World) (x y z : Array Value) (t t' t'' : TypeId) :
  Keep noneOf w (((w.alloc (.cells x t)).alloc (.cells y t')).alloc (.cells z t'')) ∧ Box (((w.alloc (.cells x t)).alloc (.cells y t')).alloc (.cells z t'')) w.heap.size t x ∧ Box (((w.alloc (.cells x t)).alloc (.cells y t')).alloc (.cells z t'')) (w.heap.size + 1) t' y ∧ Box (((w.alloc (.cells x t)).alloc (.cells y t')).alloc (.cells z t'')) (w.heap.size + 1 + 1) t'' z := by
 obtain ⟨k, a, b⟩ := two_boxes w x y t t'
 refine ⟨k.alloc _, a.alloc _, b.alloc _, ?_⟩
 have := Box.new ((w.alloc (.cells x t)).alloc (.cells y t')) t'' z
 simpa only [World.size_alloc] using this
set_option maxRecDepth 100000 in
set_option maxHeartbeats 1000000 in
theorem grant_any (w : World) (o n : Int) (h1 : 1 ≤ o) (h2 : o ≤ top) (h0 : 0 ≤ n) : Calls Tryz.prog 135 #[.agg #[.int .u64 o], .int .u64 n] w
  (TellsV (.tuple #[.agg #[.int .u64 (granted o n).1], (granted o n).2.1.agg, .int .i64 (granted o n).2.2]) w) := by
 obtain ⟨K0, X0, Y0, Z0⟩ := three_boxes w #[.int .u64 o] #[.int .u64 0] #[.int .i64 0, .int .u64 0, .int .u64 0] 67 67 61
 have EN := end_any (((w.alloc (.cells #[.int .u64 o] 67)).alloc (.cells #[.int .u64 0] 67)).alloc (.cells #[.int .i64 0, .int .u64 0, .int .u64 0] 61)) n h0
 have HEN := Lib.hid EN
 have HK0 := Lib.hid K0
 have HX0 := Lib.hid X0
 have HY0 := Lib.hid Y0
 have HZ0 := Lib.hid Z0
 generalize hR : granted o n = R
 have HR := Lib.hid hR
 have H0 := Lib.hid h0
 have H1 := Lib.hid h1
 have H2 := Lib.hid h2
 clear K0 X0 Y0 Z0 EN hR h0 h1 h2
 go_enter Tryz.func135, Tryz.ntmps135
 go_wp2_with fail
 refine HEN.out.mono ?_
 rintro e w2 ⟨rfl, k2⟩
 have HK2 := Lib.hid (HK0.out.trans k2 (fun _ _ h => h))
 have HX2 := Lib.hid (HX0.out.keep k2 id)
 have HY2 := Lib.hid (HY0.out.keep k2 id)
 have HZ2 := Lib.hid (HZ0.out.keep k2 id)
 clear HEN k2 HK0 HX0 HY0 HZ0
 have MK : Hid (∀ w', Keep noneOf w2 w' → w'.cell? ⟨w.heap.size, 0, none⟩ = some (.int .u64 o)) := Lib.hid fun w' k' => (HX2.out.keep k' id).cell 0
 have NW : Hid (∀ w', Calls Tryz.prog 21 #[.int .u64 18446744073709551615] w' (TellsV (.agg #[.int .u64 18446744073709551615]) w')) := Lib.hid fun w' => new_any w' 18446744073709551615
 have K22 := Keep.refl noneOf w2
 have EG := fun w' o1 o2 (xs ys : Array Value) => run_eqGuard_agg (P := Tryz.prog) w' .eql 67 o1 o2 xs ys of_guard
 by_cases ho : o = top
 ·
  have hR : R = (o, Pst.zero, 101) := by
   rw [← HR.out]
   unfold granted
   rw [if_pos (.inl ho)]
  subst hR
  unfold top at ho
  subst ho
  generalize (if late < n then 0 else n + 8) = ev
  generalize (!decide (late < n)) = eb
  have EQ : ∀ w', (binOp .eql 67 (.agg #[.int .u64 18446744073709551615]) (.agg #[.int .u64 18446744073709551615])).run Tryz.prog w' = .ok (.bool true) w' := fun w' => by rw [run_eql1]; rfl
  go_wp2
  refine wp_region_in (fun w' => Keep noneOf w2 w' ∧ w'.cell? ⟨w.heap.size, 0, none⟩ = some (.int .u64 18446744073709551615)) (by kernel_rfl) (by kernel_rfl) ⟨K22.drew, MK.out _ K22.drew⟩ ?_
  repeat
   first
   | go_big_quiet_skip
   |
    go_big_quiet_want
    go_big_quiet_op
    go_big_quiet_on
   |
    go_big_quiet_want
    apply quiet_calls
    case he => intro w'; go_simp; exact ⟨rfl, rfl⟩
    case h =>
     intro w' hw'
     first
     |
      go_at_call 21
      refine (NW.out w').mono ?_
      rintro e w'' ⟨rfl, k''⟩
      exact ⟨rfl, Keep.trans hw'.1 k'' (fun _ _ h => h), MK.out _ (Keep.trans hw'.1 k'' (fun _ _ h => h))⟩
    simp only [Act.put, List.setIfInBounds_toArray, List.set_cons_zero, List.set_cons_succ]
    go_big_quiet_on
   |
    go_big_quiet_want
    apply quiet_reads
    case h =>
     intro w' hw'
     try dsimp only at hw'
     go_split_ands
     go_simp
     rfl
    simp only [Act.put, List.setIfInBounds_toArray, List.set_cons_zero, List.set_cons_succ]
    go_big_quiet_on
  refine wpQuiet_nil ?_
  intro w9 hw9
  have HK9 := Lib.hid (HK2.out.trans hw9.1 (fun _ _ h => h))
  have HX9 := Lib.hid (HX2.out.keep hw9.1 id)
  have HY9 := Lib.hid (HY2.out.keep hw9.1 id)
  have HZ9 := Lib.hid (HZ2.out.keep hw9.1 id)
  clear hw9 HK2 HX2 HY2 HZ2 MK NW EG K22
  have c0 := HX9.out.cell 0
  have b0 := HY9.out.cell 0
  have fb := HY9.out.free 0
  obtain ⟨d0, d1, d2⟩ := HZ9.out.three
  have f0 := HZ9.out.free 0
  have f1 := HZ9.out.free 1
  have f2 := HZ9.out.free 2
  clear EQ
  have YZ := HY9.out.put1 (.int .u64 18446744073709551615)
  have ZZ := (HZ9.out.far (p := ⟨w.heap.size + 1, 0, none⟩) (by simp) (.int .u64 18446744073709551615)).put3 (.int .i64 0) (.int .u64 0) (.int .u64 0)
  have YF := ((YZ.far (p := ⟨w.heap.size + 1 + 1, 0, none⟩) (by simp) (.int .i64 0)).far (p := ⟨w.heap.size + 1 + 1, 1, none⟩) (by simp) (.int .u64 0)).far (p := ⟨w.heap.size + 1 + 1, 2, none⟩) (by simp) (.int .u64 0)
  have KF := (HK9.out.put1 (g := w.heap.size + 1) (by omega) (.int .u64 18446744073709551615)).put3 (g := w.heap.size + 1 + 1) (by omega) (.int .i64 0) (.int .u64 0) (.int .u64 0)
  have HYF := Lib.hid YF
  have HZF := Lib.hid ZZ
  have HKF := Lib.hid KF
  clear YZ YF KF ZZ
  go_wp2
  generalize (((w9.setCell ⟨w.heap.size + 1, 0, none⟩ (.int .u64 18446744073709551615)).setCell ⟨w.heap.size + 1 + 1, 0, none⟩ (.int .i64 0)).setCell ⟨w.heap.size + 1 + 1, 1, none⟩ (.int .u64 0)).setCell ⟨w.heap.size + 1 + 1, 2, none⟩ (.int .u64 0) = wf at *
  obtain ⟨r0, r1, r2⟩ := HZF.out.three
  have r3 := HYF.out.cell 0
  exact bodyPost_ret (v := .tuple #[.agg #[.int .u64 18446744073709551615], Pst.zero.agg, .int .i64 101]) (by simp [results, Tryz.results135, go_sem, Pst.zero, Pst.agg, r0, r1, r2, r3]) rfl ⟨rfl, HKF.out⟩
 ·
  have g1 : (o == 18446744073709551615) = false := beq_eq_false_iff_ne.2 ho
  have EQ : ∀ w', (binOp .eql 67 (.agg #[.int .u64 o]) (.agg #[.int .u64 18446744073709551615])).run Tryz.prog w' = .ok (.bool false) w' := fun w' => by rw [run_eql1, g1]
  clear g1
  by_cases hn : late < n
  ·
   have hR : R = (o, Pst.zero, 101) := by
    rw [← HR.out]
    unfold granted
    rw [if_pos (.inr hn)]
   subst hR
   rw [if_pos hn, decide_eq_true hn]
   clear hn ho
   go_wp2
   refine wp_region_in (fun w' => Keep noneOf w2 w' ∧ w'.cell? ⟨w.heap.size, 0, none⟩ = some (.int .u64 o)) (by kernel_rfl) (by kernel_rfl) ⟨K22.drew, MK.out _ K22.drew⟩ ?_
   repeat
    first
    | go_big_quiet_skip
    |
     go_big_quiet_want
     go_big_quiet_op
     go_big_quiet_on
    |
     go_big_quiet_want
     apply quiet_calls
     case he => intro w'; go_simp; exact ⟨rfl, rfl⟩
     case h =>
      intro w' hw'
      first
      |
       go_at_call 21
       refine (NW.out w').mono ?_
       rintro e w'' ⟨rfl, k''⟩
       exact ⟨rfl, Keep.trans hw'.1 k'' (fun _ _ h => h), MK.out _ (Keep.trans hw'.1 k'' (fun _ _ h => h))⟩
     simp only [Act.put, List.setIfInBounds_toArray, List.set_cons_zero, List.set_cons_succ]
     go_big_quiet_on
    |
     go_big_quiet_want
     apply quiet_reads
     case h =>
      intro w' hw'
      try dsimp only at hw'
      go_split_ands
      go_simp
      rfl
     simp only [Act.put, List.setIfInBounds_toArray, List.set_cons_zero, List.set_cons_succ]
     go_big_quiet_on
   refine wpQuiet_nil ?_
   intro w9 hw9
   have HK9 := Lib.hid (HK2.out.trans hw9.1 (fun _ _ h => h))
   have HX9 := Lib.hid (HX2.out.keep hw9.1 id)
   have HY9 := Lib.hid (HY2.out.keep hw9.1 id)
   have HZ9 := Lib.hid (HZ2.out.keep hw9.1 id)
   clear hw9 HK2 HX2 HY2 HZ2 MK NW EG K22
   have c0 := HX9.out.cell 0
   have b0 := HY9.out.cell 0
   have fb := HY9.out.free 0
   obtain ⟨d0, d1, d2⟩ := HZ9.out.three
   have f0 := HZ9.out.free 0
   have f1 := HZ9.out.free 1
   have f2 := HZ9.out.free 2
   clear EQ
   have YZ := HY9.out.put1 (.int .u64 o)
   have ZZ := (HZ9.out.far (p := ⟨w.heap.size + 1, 0, none⟩) (by simp) (.int .u64 o)).put3 (.int .i64 0) (.int .u64 0) (.int .u64 0)
   have YF := ((YZ.far (p := ⟨w.heap.size + 1 + 1, 0, none⟩) (by simp) (.int .i64 0)).far (p := ⟨w.heap.size + 1 + 1, 1, none⟩) (by simp) (.int .u64 0)).far (p := ⟨w.heap.size + 1 + 1, 2, none⟩) (by simp) (.int .u64 0)
   have KF := (HK9.out.put1 (g := w.heap.size + 1) (by omega) (.int .u64 o)).put3 (g := w.heap.size + 1 + 1) (by omega) (.int .i64 0) (.int .u64 0) (.int .u64 0)
   have HYF := Lib.hid YF
   have HZF := Lib.hid ZZ
   have HKF := Lib.hid KF
   clear YZ YF KF ZZ
   go_wp2
   generalize (((w9.setCell ⟨w.heap.size + 1, 0, none⟩ (.int .u64 o)).setCell ⟨w.heap.size + 1 + 1, 0, none⟩ (.int .i64 0)).setCell ⟨w.heap.size + 1 + 1, 1, none⟩ (.int .u64 0)).setCell ⟨w.heap.size + 1 + 1, 2, none⟩ (.int .u64 0) = wf at *
   obtain ⟨r0, r1, r2⟩ := HZF.out.three
   have r3 := HYF.out.cell 0
   exact bodyPost_ret (v := .tuple #[.agg #[.int .u64 o], Pst.zero.agg, .int .i64 101]) (by simp [results, Tryz.results135, go_sem, Pst.zero, Pst.agg, r0, r1, r2, r3]) rfl ⟨rfl, HKF.out⟩
  ·
   have hR : R = (o + 1, ⟨2, o, n + 8⟩, 0) := by
    rw [← HR.out]
    unfold granted
    rw [if_neg (by rintro (h | h) <;> contradiction)]
   subst hR
   rw [if_neg hn, decide_eq_false hn]
   have w1 := wrap1 H1.out (by have := H2.out; omega)
   have hm : max (o + 1) 1 = o + 1 := by have := H1.out; omega
   clear hn ho
   go_wp2
   refine wp_region_in (fun w' => Keep noneOf w2 w' ∧ w'.cell? ⟨w.heap.size, 0, none⟩ = some (.int .u64 o)) (by kernel_rfl) (by kernel_rfl) ⟨K22.drew, MK.out _ K22.drew⟩ ?_
   repeat
    first
    | go_big_quiet_skip
    |
     go_big_quiet_want
     go_big_quiet_op
     go_big_quiet_on
    |
     go_big_quiet_want
     apply quiet_calls
     case he => intro w'; go_simp; exact ⟨rfl, rfl⟩
     case h =>
      intro w' hw'
      first
      |
       go_at_call 21
       refine (NW.out w').mono ?_
       rintro e w'' ⟨rfl, k''⟩
       exact ⟨rfl, Keep.trans hw'.1 k'' (fun _ _ h => h), MK.out _ (Keep.trans hw'.1 k'' (fun _ _ h => h))⟩
     simp only [Act.put, List.setIfInBounds_toArray, List.set_cons_zero, List.set_cons_succ]
     go_big_quiet_on
    |
     go_big_quiet_want
     apply quiet_reads
     case h =>
      intro w' hw'
      try dsimp only at hw'
      go_split_ands
      go_simp
      rfl
     simp only [Act.put, List.setIfInBounds_toArray, List.set_cons_zero, List.set_cons_succ]
     go_big_quiet_on
   refine wpQuiet_nil ?_
   intro w9 hw9
   have HK9 := Lib.hid (HK2.out.trans hw9.1 (fun _ _ h => h))
   have HX9 := Lib.hid (HX2.out.keep hw9.1 id)
   have HY9 := Lib.hid (HY2.out.keep hw9.1 id)
   have HZ9 := Lib.hid (HZ2.out.keep hw9.1 id)
   clear hw9 HK2 HX2 HY2 HZ2 MK NW EG K22
   have c0 := HX9.out.cell 0
   have b0 := HY9.out.cell 0
   have fb := HY9.out.free 0
   obtain ⟨d0, d1, d2⟩ := HZ9.out.three
   have f0 := HZ9.out.free 0
   have f1 := HZ9.out.free 1
   have f2 := HZ9.out.free 2
   clear EQ
   have NW : Hid (∀ w', Calls Tryz.prog 21 #[.int .u64 (o + 1)] w' (TellsV (.agg #[.int .u64 (o + 1)]) w')) := Lib.hid fun w' => by
    have := new_any w' (o + 1)
    rw [hm] at this
    exact this
   have MK : Hid (∀ w', Keep (fun k => k = w.heap.size + 1 ∨ k = w.heap.size + 1 + 1) w9 w' → w'.cell? ⟨w.heap.size, 0, none⟩ = some (.int .u64 o)) := Lib.hid fun w' k' => (HX9.out.keep k' (by omega)).cell 0
   have MS : Hid (∀ w', Keep noneOf w9 w' → w'.cell? ⟨w.heap.size + 1, 0, none⟩ = some (.int .u64 0) ∧ w'.frozen? ⟨w.heap.size + 1, 0, none⟩ = false ∧ w'.cell? ⟨w.heap.size + 1 + 1, 0, none⟩ = some (.int .i64 0) ∧ w'.cell? ⟨w.heap.size + 1 + 1, 1, none⟩ = some (.int .u64 0) ∧ w'.cell? ⟨w.heap.size + 1 + 1, 2, none⟩ = some (.int .u64 0) ∧ w'.frozen? ⟨w.heap.size + 1 + 1, 0, none⟩ = false ∧ w'.frozen? ⟨w.heap.size + 1 + 1, 1, none⟩ = false ∧ w'.frozen? ⟨w.heap.size + 1 + 1, 2, none⟩ = false) := Lib.hid fun w' k' =>
    ⟨(HY9.out.keep k' id).cell 0, (HY9.out.keep k' id).free 0, (HZ9.out.keep k' id).cell 0, (HZ9.out.keep k' id).cell 1, (HZ9.out.keep k' id).cell 2, (HZ9.out.keep k' id).free 0, (HZ9.out.keep k' id).free 1, (HZ9.out.keep k' id).free 2⟩
   have K99 := Keep.refl noneOf w9
   have K9S := Keep.refl (fun k => k = w.heap.size + 1 ∨ k = w.heap.size + 1 + 1) w9
   clear c0 b0 fb d0 d1 d2 f0 f1 f2 hm
   go_wp2
   go_region_held3 (fun w' => Keep (fun k => k = w.heap.size + 1 ∨ k = w.heap.size + 1 + 1) w9 w' ∧ w'.cell? ⟨w.heap.size, 0, none⟩ = some (.int .u64 o))
    (first | exact ⟨K9S.drew, MK.out _ K9S.drew⟩ | (refine (fun k => ⟨k, MK.out _ k⟩) ?_; first | (with_reducible refine Keep.setCell (And.left (by assumption)) ?_ _; exact fun _ => by simp) | (with_reducible refine Keep.setCell (Keep.setCell (Keep.setCell (And.left (by assumption)) ?_ _) ?_ _) ?_ _; all_goals (exact fun _ => by simp)) | (with_reducible exact Keep.andNone (And.left (by assumption)) (by assumption))))
    (first | (go_at_call 21; refine (NW.out _).mono ?_; rintro e w' ⟨rfl, k'⟩; obtain ⟨b0, fb, d0, d1, d2, f0, f1, f2⟩ := MS.out _ (K99.drew.trans k' (fun _ _ h => h))))
   have k9 := K99.drew.trans k' (fun _ _ h => h)
   have HKA := Lib.hid (((HK9.out.trans k9 (fun _ _ h => h)).put1 (g := w.heap.size + 1) (by omega) (.int .u64 (o + 1))).put3 (g := w.heap.size + 1 + 1) (by omega) (.int .i64 2) (.int .u64 o) (.int .u64 (n + 8)))
   have HYA := Lib.hid (((((HY9.out.keep k9 id).put1 (.int .u64 (o + 1))).far (p := ⟨w.heap.size + 1 + 1, 0, none⟩) (by simp) (.int .i64 2)).far (p := ⟨w.heap.size + 1 + 1, 1, none⟩) (by simp) (.int .u64 o)).far (p := ⟨w.heap.size + 1 + 1, 2, none⟩) (by simp) (.int .u64 (n + 8)))
   have HZA := Lib.hid (((HZ9.out.keep k9 id).far (p := ⟨w.heap.size + 1, 0, none⟩) (by simp) (.int .u64 (o + 1))).put3 (.int .i64 2) (.int .u64 o) (.int .u64 (n + 8)))
   clear k9 k' b0 fb d0 d1 d2 f0 f1 f2 MS MK NW K99 K9S HK9 HX9 HY9 HZ9
   generalize (((w'.setCell ⟨w.heap.size + 1, 0, none⟩ (.int .u64 (o + 1))).setCell ⟨w.heap.size + 1 + 1, 0, none⟩ (.int .i64 2)).setCell ⟨w.heap.size + 1 + 1, 1, none⟩ (.int .u64 o)).setCell ⟨w.heap.size + 1 + 1, 2, none⟩ (.int .u64 (n + 8)) = wf at *
   go_wp2
   obtain ⟨r0, r1, r2⟩ := HZA.out.three
   have r3 := HYA.out.cell 0
   exact bodyPost_ret (v := .tuple #[.agg #[.int .u64 (o + 1)], Pst.agg ⟨2, o, n + 8⟩, .int .i64 0]) (by simp [results, Tryz.results135, go_sem, Pst.agg, r0, r1, r2, r3]) rfl ⟨rfl, HKA.out⟩
end Go.Proofs.YtffoeodjbbkdjaaGreat
