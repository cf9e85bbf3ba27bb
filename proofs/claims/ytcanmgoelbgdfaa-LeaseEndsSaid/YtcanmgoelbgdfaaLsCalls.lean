/-
  The calls of leases: what each answers, of package lease and of the document's own.
-/
import Derived.Test.YtcanmgoelbgdfaaLsMem
import Derived.Deep.DeepCutAuto
namespace Go.Proofs.Ytcanmgoelbgdfaa
open Go.RowKit

def top : Int := 18446744073709551615
def late : Int := 18446744073709551607
/-- Does a token hold? -/
def holdsB (x : Pst) (k n : Int) : Bool := x.s == 2 && x.t == k && k != 0 && decide (n < x.u)
/-- What a grant answers: the next token, the state, the error. -/
def granted (o n : Int) : Int × Pst × Int := if o = top ∨ late < n then (o, Pst.zero, 101) else (o + 1, ⟨2, o, n + 8⟩, 0)
def renewed (x : Pst) (k n : Int) : Pst × Int := if holdsB x k n = false then (Pst.zero, 100) else if late < n then (Pst.zero, 101) else (⟨x.s, x.t, max x.u (n + 8)⟩, 0)

theorem Box.put1 {w : World} {b : Nat} {t : TypeId} {x : Value} (h : Box w b t #[x]) (u : Value) : Box (w.setCell ⟨b, 0, none⟩ u) b t #[u] := by
  have := h.put 0 u
  simpa using this
theorem Box.put3 {w : World} {b : Nat} {t : TypeId} {x y z : Value} (h : Box w b t #[x, y, z]) (u v r : Value) : Box (((w.setCell ⟨b, 0, none⟩ u).setCell ⟨b, 1, none⟩ v).setCell ⟨b, 2, none⟩ r) b t #[u, v, r] := by
  have := ((h.put 0 u).put 1 v).put 2 r
  simpa using this
/-- Stores into new blocks. -/
def newer (w : World) : Nat → Prop := fun k => w.heap.size ≤ k
theorem keep_new {w w' : World} (h : Keep (newer w) w w') : Keep noneOf w w' := h.mono (fun i hi hs => absurd hs (by unfold newer; omega))

theorem ret_bool {b c : Bool} (h : c = b) : Ending.returned (.bool c) = .returned (.bool b) := by rw [h]

set_option maxRecDepth 100000 in
theorem new_any (w : World) (n : Int) : Calls Try.prog 9 #[.int .u64 n] w (TellsV (.agg #[.int .u64 (max n 1)]) w) := by
  go_enter Try.func9, Try.ntmps9
  go_wp2
  exact bodyPost_ret (v := .agg #[.int .u64 (max n 1)]) (by simp [results, Try.results9, go_sem]) rfl ⟨rfl, (Keep.refl noneOf w).alloc _⟩

set_option maxRecDepth 100000 in
theorem next_any (w : World) (n : Int) : Calls Try.prog 13 #[.agg #[.int .u64 n]] w (TellsV (.int .u64 n) w) := by
  have c0 : (w.alloc (.cells #[.int .u64 n] 24)).cell? ⟨w.heap.size, 0, none⟩ = some (.int .u64 n) := (Box.new w _ _).cell 0
  go_enter Try.func13, Try.ntmps13
  go_wp2
  go_ret
  exact ⟨rfl, (Keep.refl noneOf w).alloc _⟩

theorem u64_plus {n m : Int} (h0 : 0 ≤ n) (hm : 0 ≤ m) (h1 : n + m ≤ top) : IntKind.u64.wrap (n + m) = n + m := by
  unfold top at h1
  show (n + m) % 18446744073709551616 = n + m
  omega

set_option maxRecDepth 100000 in
theorem end_any (w : World) (n : Int) (h0 : 0 ≤ n) : Calls Try.prog 18 #[.int .u64 n] w (TellsV (.tuple #[.int .u64 (if late < n then 0 else n + 8), .bool (!decide (late < n))]) w) := by
  by_cases h : late < n
  · rw [if_pos h, decide_eq_true h]
    unfold late at h
    go_enter Try.func18, Try.ntmps18
    go_wp2
    go_ret2
    exact ⟨rfl, Keep.refl noneOf w⟩
  · rw [if_neg h, decide_eq_false h]
    have hw := u64_plus (n := n) (m := 8) h0 (by decide) (by unfold top; unfold late at h; omega)
    unfold late at h
    go_enter Try.func18, Try.ntmps18
    go_wp2
    go_ret2
    exact ⟨rfl, Keep.refl noneOf w⟩

set_option maxRecDepth 100000 in
set_option maxHeartbeats 1000000 in
theorem holds_any (w : World) (x : Pst) (k n : Int) (h0 : 0 ≤ k) : Calls Try.prog 16 #[.agg #[.int .i64 x.s, .int .u64 x.t, .int .u64 x.u], .int .u64 k, .int .u64 n] w (TellsB (holdsB x k n) w) := by
  obtain ⟨s, t, u⟩ := x
  obtain ⟨c0, c1, c2⟩ := box3 w 27 (.int .i64 s) (.int .u64 t) (.int .u64 u)
  have H0 := Lib.hid h0
  simp only
  generalize hR : holdsB ⟨s, t, u⟩ k n = R
  have HR := Lib.hid hR
  clear hR h0
  go_enter Try.func16, Try.ntmps16
  go_wp2
  all_goals
    go_ret
    refine ⟨ret_bool (b := R) ?_, (Keep.refl noneOf w).alloc _⟩
    rw [← HR.out]
    have h0 := H0.out
    unfold holdsB
    simp_all
    try omega

set_option maxRecDepth 100000 in
set_option maxHeartbeats 1000000 in
theorem refHolds_any (w : World) (x : Pst) (k n : Int) (h0 : 0 ≤ k) : Calls Try.prog 17 #[.agg #[.int .i64 x.s, .int .u64 x.t, .int .u64 x.u], .int .u64 k, .int .u64 n] w (TellsB (holdsB x k n) w) := by
  obtain ⟨s, t, u⟩ := x
  obtain ⟨c0, c1, c2⟩ := box3 w 27 (.int .i64 s) (.int .u64 t) (.int .u64 u)
  have H0 := Lib.hid h0
  simp only
  generalize hR : holdsB ⟨s, t, u⟩ k n = R
  have HR := Lib.hid hR
  clear hR h0
  go_enter Try.func17, Try.ntmps17
  go_wp2
  all_goals
    go_ret
    refine ⟨ret_bool (b := R) ?_, (Keep.refl noneOf w).alloc _⟩
    rw [← HR.out]
    have h0 := H0.out
    unfold holdsB
    simp_all
    try omega

theorem wrap1 {o : Int} (h0 : 1 ≤ o) (h1 : o < top) : IntKind.u64.wrap (o + 1) = o + 1 := u64_plus (by omega) (by decide) (by omega)
theorem wrap8 {n : Int} (h0 : 0 ≤ n) (h1 : ¬ late < n) : IntKind.u64.wrap (n + 8) = n + 8 := u64_plus h0 (by decide) (by unfold top; unfold late at h1; omega)

set_option maxRecDepth 100000 in
set_option maxHeartbeats 1000000 in
theorem refGrant_any (w : World) (o n : Int) (h1 : 1 ≤ o) (h2 : o ≤ top) (h0 : 0 ≤ n) : Calls Try.prog 11 #[.int .u64 o, .int .u64 n] w
    (TellsV (.tuple #[.int .u64 (granted o n).1, (granted o n).2.1.agg, .int .i64 (granted o n).2.2]) w) := by
  have HK := Lib.hid ((Keep.refl noneOf w).alloc (.cells #[.int .i64 0, .int .u64 0, .int .u64 0] 27))
  have HK2 := Lib.hid ((Keep.refl noneOf w).alloc (.cells #[.int .i64 2, .int .u64 o, .int .u64 (n + 8)] 27))
  unfold granted
  by_cases ho : o = top
  · rw [if_pos (.inl ho)]
    subst ho
    unfold top
    clear h1 h2 h0
    go_enter Try.func11, Try.ntmps11
    go_wp2
    exact bodyPost_ret (v := .tuple #[.int .u64 18446744073709551615, Pst.zero.agg, .int .i64 101]) (by simp [results, Try.results11, go_sem, Pst.zero, Pst.agg]) rfl ⟨rfl, HK.out⟩
  · have g1 : (o == 18446744073709551615) = false := beq_eq_false_iff_ne.2 ho
    by_cases hn : late < n
    · rw [if_pos (.inr hn)]
      unfold late at hn
      have g2 : decide (n > 18446744073709551607) = true := decide_eq_true hn
      clear h1 h2 h0 hn ho
      go_enter Try.func11, Try.ntmps11
      go_wp2
      exact bodyPost_ret (v := .tuple #[.int .u64 o, Pst.zero.agg, .int .i64 101]) (by simp [results, Try.results11, go_sem, Pst.zero, Pst.agg]) rfl ⟨rfl, HK.out⟩
    · rw [if_neg (by rintro (h | h) <;> contradiction)]
      have w1 := wrap1 h1 (by omega)
      have w8 := wrap8 h0 hn
      unfold late at hn
      have g2 : decide (n > 18446744073709551607) = false := decide_eq_false hn
      clear h1 h2 h0 hn ho
      go_enter Try.func11, Try.ntmps11
      go_wp2
      exact bodyPost_ret (v := .tuple #[.int .u64 (o + 1), Pst.agg ⟨2, o, n + 8⟩, .int .i64 0]) (by simp [results, Try.results11, go_sem, Pst.agg]) rfl ⟨rfl, HK2.out⟩
theorem two_boxes (w : World) (x y : Array Value) (t t' : TypeId) :
    Keep noneOf w ((w.alloc (.cells x t)).alloc (.cells y t')) ∧ Box ((w.alloc (.cells x t)).alloc (.cells y t')) w.heap.size t x ∧ Box ((w.alloc (.cells x t)).alloc (.cells y t')) (w.heap.size + 1) t' y := by
  refine ⟨((Keep.refl _ _).alloc _).alloc _, (Box.new w t x).alloc _, ?_⟩
  have := Box.new (w.alloc (.cells x t)) t' y
  simpa only [World.size_alloc] using this
theorem Keep.put3 {w w' : World} (h : Keep noneOf w w') {g : Nat} (hg : w.heap.size ≤ g) (x y z : Value) : Keep noneOf w (((w'.setCell ⟨g, 0, none⟩ x).setCell ⟨g, 1, none⟩ y).setCell ⟨g, 2, none⟩ z) :=
  ((h.setCell (p := ⟨g, 0, none⟩) (fun h => absurd h (Nat.not_lt.2 hg)) x).setCell (p := ⟨g, 1, none⟩) (fun h => absurd h (Nat.not_lt.2 hg)) y).setCell (p := ⟨g, 2, none⟩) (fun h => absurd h (Nat.not_lt.2 hg)) z
theorem Keep.put1 {w w' : World} (h : Keep noneOf w w') {g : Nat} (hg : w.heap.size ≤ g) (x : Value) : Keep noneOf w (w'.setCell ⟨g, 0, none⟩ x) :=
  h.setCell (p := ⟨g, 0, none⟩) (fun h => absurd h (Nat.not_lt.2 hg)) x
theorem Box.put2 {w : World} {b : Nat} {t : TypeId} {x y z : Value} (h : Box w b t #[x, y, z]) (u : Value) : Box (w.setCell ⟨b, 2, none⟩ u) b t #[x, y, u] := by
  have := h.put 2 u
  simpa using this
theorem Box.three {w : World} {b : Nat} {t : TypeId} {x y z : Value} (h : Box w b t #[x, y, z]) : w.cell? ⟨b, 0, none⟩ = some x ∧ w.cell? ⟨b, 1, none⟩ = some y ∧ w.cell? ⟨b, 2, none⟩ = some z := ⟨h.cell 0, h.cell 1, h.cell 2⟩

set_option maxRecDepth 100000 in
set_option maxHeartbeats 1000000 in
theorem renew_any (w : World) (x : Pst) (k n : Int) (hk : 0 ≤ k) (h0 : 0 ≤ n) : Calls Try.prog 14 #[.agg #[.int .i64 x.s, .int .u64 x.t, .int .u64 x.u], .int .u64 k, .int .u64 n] w
    (TellsV (.tuple #[(renewed x k n).1.agg, .int .i64 (renewed x k n).2]) w) := by
  obtain ⟨s, t, u⟩ := x
  obtain ⟨K0, X0, Y0⟩ := two_boxes w #[.int .i64 s, .int .u64 t, .int .u64 u] #[.int .i64 0, .int .u64 0, .int .u64 0] 27 27
  have HH := Lib.hid (holds_any ((w.alloc (.cells #[.int .i64 s, .int .u64 t, .int .u64 u] 27)).alloc (.cells #[.int .i64 0, .int .u64 0, .int .u64 0] 27)) ⟨s, t, u⟩ k n hk)
  obtain ⟨c0, c1, c2⟩ := X0.three
  have HK0 := Lib.hid K0
  have HX0 := Lib.hid X0
  have HY0 := Lib.hid Y0
  have H0 := Lib.hid h0
  generalize hR : renewed ⟨s, t, u⟩ k n = R
  have HR := Lib.hid hR
  generalize hB : holdsB ⟨s, t, u⟩ k n = B at *
  have HB := Lib.hid hB
  clear K0 X0 Y0 h0 hk hR hB
  go_enter Try.func14, Try.ntmps14
  go_wp2_with fail
  refine HH.out.mono ?_
  rintro e w2 ⟨rfl, k2⟩
  have HK2 := Lib.hid (HK0.out.trans k2 (fun _ _ h => h))
  have HX2 := Lib.hid (HX0.out.keep k2 id)
  have HY2 := Lib.hid (HY0.out.keep k2 id)
  clear HH k2 HK0 HX0 HY0 c0 c1 c2
  obtain ⟨c0, c1, c2⟩ := HX2.out.three
  obtain ⟨d0, d1, d2⟩ := HY2.out.three
  have f0 := HY2.out.free 0
  have f1 := HY2.out.free 1
  have f2 := HY2.out.free 2
  have HYZ := Lib.hid (HY2.out.put3 (.int .i64 0) (.int .u64 0) (.int .u64 0))
  have HKZ := Lib.hid (HK2.out.put3 (g := w.heap.size + 1) (by omega) (.int .i64 0) (.int .u64 0) (.int .u64 0))
  cases B with
  | false =>
    have hR : R = (Pst.zero, 100) := by
      rw [← HR.out]
      unfold renewed
      rw [if_pos HB.out]
    subst hR
    go_wp2
    generalize ((w2.setCell ⟨w.heap.size + 1, 0, none⟩ (.int .i64 0)).setCell ⟨w.heap.size + 1, 1, none⟩ (.int .u64 0)).setCell ⟨w.heap.size + 1, 2, none⟩ (.int .u64 0) = wf at *
    obtain ⟨r0, r1, r2⟩ := HYZ.out.three
    exact bodyPost_ret (v := .tuple #[Pst.zero.agg, .int .i64 100]) (by simp [results, Try.results14, go_sem, Pst.zero, Pst.agg, r0, r1, r2]) rfl ⟨rfl, HKZ.out⟩
  | true =>
    have hB : ¬ holdsB ⟨s, t, u⟩ k n = false := by rw [HB.out]; decide
    by_cases hl : late < n
    · have hR : R = (Pst.zero, 101) := by
        rw [← HR.out]
        unfold renewed
        rw [if_neg hB, if_pos hl]
      subst hR
      have HL := Lib.hid hl
      go_wp2_with fail
      refine (end_any w2 n H0.out).mono ?_
      rintro e w3 ⟨rfl, k3⟩
      rw [if_pos HL.out, decide_eq_true HL.out]
      have HK3 := Lib.hid (HK2.out.trans k3 (fun _ _ h => h))
      have HX3 := Lib.hid (HX2.out.keep k3 id)
      have HY3 := Lib.hid (HY2.out.keep k3 id)
      clear k3 HK2 HX2 HY2 c0 c1 c2 d0 d1 d2 f0 f1 f2 HYZ HKZ hB hl
      obtain ⟨c0, c1, c2⟩ := HX3.out.three
      obtain ⟨d0, d1, d2⟩ := HY3.out.three
      have f0 := HY3.out.free 0
      have f1 := HY3.out.free 1
      have f2 := HY3.out.free 2
      have e2 := HX3.out.free 2
      have HYZ := Lib.hid (HY3.out.put3 (.int .i64 0) (.int .u64 0) (.int .u64 0))
      have HKZ := Lib.hid (HK3.out.put3 (g := w.heap.size + 1) (by omega) (.int .i64 0) (.int .u64 0) (.int .u64 0))
      go_wp2
      generalize ((w3.setCell ⟨w.heap.size + 1, 0, none⟩ (.int .i64 0)).setCell ⟨w.heap.size + 1, 1, none⟩ (.int .u64 0)).setCell ⟨w.heap.size + 1, 2, none⟩ (.int .u64 0) = wf at *
      obtain ⟨r0, r1, r2⟩ := HYZ.out.three
      exact bodyPost_ret (v := .tuple #[Pst.zero.agg, .int .i64 101]) (by simp [results, Try.results14, go_sem, Pst.zero, Pst.agg, r0, r1, r2]) rfl ⟨rfl, HKZ.out⟩
    · have hR : R = (⟨s, t, max u (n + 8)⟩, 0) := by
        rw [← HR.out]
        unfold renewed
        rw [if_neg hB, if_neg hl]
      subst hR
      have HL := Lib.hid hl
      have w8 := wrap8 H0.out hl
      go_wp2_with fail
      refine (end_any w2 n H0.out).mono ?_
      rintro e w3 ⟨rfl, k3⟩
      rw [if_neg (Int.not_lt.2 HL.out), decide_eq_false (Int.not_lt.2 HL.out)]
      have HK3 := Lib.hid (HK2.out.trans k3 (fun _ _ h => h))
      have HX3 := Lib.hid (HX2.out.keep k3 id)
      have HY3 := Lib.hid (HY2.out.keep k3 id)
      clear k3 HK2 HX2 HY2 c0 c1 c2 d0 d1 d2 f0 f1 f2 HYZ HKZ hB hl
      obtain ⟨c0, c1, c2⟩ := HX3.out.three
      obtain ⟨d0, d1, d2⟩ := HY3.out.three
      have f0 := HY3.out.free 0
      have f1 := HY3.out.free 1
      have f2 := HY3.out.free 2
      have e2 := HX3.out.free 2
      have kx := HK3.out.setCell (p := ⟨w.heap.size, 2, none⟩) (fun h => absurd h (Nat.lt_irrefl _)) (.int .u64 (max u (n + 8)))
      have X4 := HX3.out.put2 (.int .u64 (max u (n + 8)))
      have Y4 := HY3.out.far (p := ⟨w.heap.size, 2, none⟩) (Nat.succ_ne_self _) (.int .u64 (max u (n + 8)))
      have HYR := Lib.hid (Y4.put3 (.int .i64 s) (.int .u64 t) (.int .u64 (max u (n + 8))))
      have HKR := Lib.hid (kx.put3 (g := w.heap.size + 1) (by omega) (.int .i64 s) (.int .u64 t) (.int .u64 (max u (n + 8))))
      have HX4 := Lib.hid X4
      have HY4 := Lib.hid Y4
      clear kx X4 Y4
      go_upto_region 7 with fail
      generalize w3.setCell ⟨w.heap.size, 2, none⟩ (.int .u64 (max u (n + 8))) = w4 at *
      clear c0 c1 c2 d0 d1 d2 f0 f1 f2 e2
      obtain ⟨c0, c1, c2⟩ := HX4.out.three
      obtain ⟨d0, d1, d2⟩ := HY4.out.three
      have f0 := HY4.out.free 0
      have f1 := HY4.out.free 1
      have f2 := HY4.out.free 2
      go_wp2
      generalize ((w4.setCell ⟨w.heap.size + 1, 0, none⟩ (.int .i64 s)).setCell ⟨w.heap.size + 1, 1, none⟩ (.int .u64 t)).setCell ⟨w.heap.size + 1, 2, none⟩ (.int .u64 (max u (n + 8))) = wf at *
      obtain ⟨r0, r1, r2⟩ := HYR.out.three
      exact bodyPost_ret (v := .tuple #[Pst.agg ⟨s, t, max u (n + 8)⟩, .int .i64 0]) (by simp [results, Try.results14, go_sem, Pst.agg, r0, r1, r2]) rfl ⟨rfl, HKR.out⟩

set_option maxRecDepth 100000 in
set_option maxHeartbeats 1000000 in
theorem refRenew_any (w : World) (x : Pst) (k n : Int) (hk : 0 ≤ k) (h0 : 0 ≤ n) : Calls Try.prog 15 #[.agg #[.int .i64 x.s, .int .u64 x.t, .int .u64 x.u], .int .u64 k, .int .u64 n] w
    (TellsV (.tuple #[(renewed x k n).1.agg, .int .i64 (renewed x k n).2]) w) := by
  obtain ⟨s, t, u⟩ := x
  obtain ⟨K0, X0, Y0⟩ := two_boxes w #[.int .i64 s, .int .u64 t, .int .u64 u] #[.int .i64 0, .int .u64 0, .int .u64 0] 27 27
  have HH := Lib.hid (refHolds_any ((w.alloc (.cells #[.int .i64 s, .int .u64 t, .int .u64 u] 27)).alloc (.cells #[.int .i64 0, .int .u64 0, .int .u64 0] 27)) ⟨s, t, u⟩ k n hk)
  obtain ⟨c0, c1, c2⟩ := X0.three
  have HK0 := Lib.hid K0
  have HX0 := Lib.hid X0
  have HY0 := Lib.hid Y0
  have H0 := Lib.hid h0
  generalize hR : renewed ⟨s, t, u⟩ k n = R
  have HR := Lib.hid hR
  generalize hB : holdsB ⟨s, t, u⟩ k n = B at *
  have HB := Lib.hid hB
  clear K0 X0 Y0 h0 hk hR hB
  go_enter Try.func15, Try.ntmps15
  go_wp2_with fail
  refine HH.out.mono ?_
  rintro e w2 ⟨rfl, k2⟩
  have HK2 := Lib.hid (HK0.out.trans k2 (fun _ _ h => h))
  have HX2 := Lib.hid (HX0.out.keep k2 id)
  have HY2 := Lib.hid (HY0.out.keep k2 id)
  clear HH k2 HK0 HX0 HY0 c0 c1 c2
  obtain ⟨c0, c1, c2⟩ := HX2.out.three
  obtain ⟨d0, d1, d2⟩ := HY2.out.three
  have f0 := HY2.out.free 0
  have f1 := HY2.out.free 1
  have f2 := HY2.out.free 2
  have HYZ := Lib.hid (HY2.out.put3 (.int .i64 0) (.int .u64 0) (.int .u64 0))
  have HKZ := Lib.hid (HK2.out.put3 (g := w.heap.size + 1) (by omega) (.int .i64 0) (.int .u64 0) (.int .u64 0))
  cases B with
  | false =>
    have hR : R = (Pst.zero, 100) := by
      rw [← HR.out]
      unfold renewed
      rw [if_pos HB.out]
    subst hR
    go_wp2
    generalize ((w2.setCell ⟨w.heap.size + 1, 0, none⟩ (.int .i64 0)).setCell ⟨w.heap.size + 1, 1, none⟩ (.int .u64 0)).setCell ⟨w.heap.size + 1, 2, none⟩ (.int .u64 0) = wf at *
    obtain ⟨r0, r1, r2⟩ := HYZ.out.three
    exact bodyPost_ret (v := .tuple #[Pst.zero.agg, .int .i64 100]) (by simp [results, Try.results15, go_sem, Pst.zero, Pst.agg, r0, r1, r2]) rfl ⟨rfl, HKZ.out⟩
  | true =>
    have hB : ¬ holdsB ⟨s, t, u⟩ k n = false := by rw [HB.out]; decide
    by_cases hl : late < n
    · have hR : R = (Pst.zero, 101) := by
        rw [← HR.out]
        unfold renewed
        rw [if_neg hB, if_pos hl]
      subst hR
      have HL := Lib.hid hl
      unfold late at hl
      have g2 : decide (n > 18446744073709551607) = true := decide_eq_true hl
      clear hl hB
      go_wp2
      generalize ((w2.setCell ⟨w.heap.size + 1, 0, none⟩ (.int .i64 0)).setCell ⟨w.heap.size + 1, 1, none⟩ (.int .u64 0)).setCell ⟨w.heap.size + 1, 2, none⟩ (.int .u64 0) = wf at *
      obtain ⟨r0, r1, r2⟩ := HYZ.out.three
      exact bodyPost_ret (v := .tuple #[Pst.zero.agg, .int .i64 101]) (by simp [results, Try.results15, go_sem, Pst.zero, Pst.agg, r0, r1, r2]) rfl ⟨rfl, HKZ.out⟩
    · have hR : R = (⟨s, t, max u (n + 8)⟩, 0) := by
        rw [← HR.out]
        unfold renewed
        rw [if_neg hB, if_neg hl]
      subst hR
      have HL := Lib.hid hl
      have w8 := wrap8 H0.out hl
      unfold late at hl
      have g2 : decide (n > 18446744073709551607) = false := decide_eq_false hl
      have e2 := HX2.out.free 2
      clear hl hB
      have kx := HK2.out.setCell (p := ⟨w.heap.size, 2, none⟩) (fun h => absurd h (Nat.lt_irrefl _)) (.int .u64 (max u (n + 8)))
      have X4 := HX2.out.put2 (.int .u64 (max u (n + 8)))
      have Y4 := HY2.out.far (p := ⟨w.heap.size, 2, none⟩) (Nat.succ_ne_self _) (.int .u64 (max u (n + 8)))
      have HYR := Lib.hid (Y4.put3 (.int .i64 s) (.int .u64 t) (.int .u64 (max u (n + 8))))
      have HKR := Lib.hid (kx.put3 (g := w.heap.size + 1) (by omega) (.int .i64 s) (.int .u64 t) (.int .u64 (max u (n + 8))))
      have HX4 := Lib.hid X4
      have HY4 := Lib.hid Y4
      clear kx X4 Y4
      go_upto_region 7 with fail
      generalize w2.setCell ⟨w.heap.size, 2, none⟩ (.int .u64 (max u (n + 8))) = w4 at *
      clear c0 c1 c2 d0 d1 d2 f0 f1 f2 e2
      obtain ⟨c0, c1, c2⟩ := HX4.out.three
      obtain ⟨d0, d1, d2⟩ := HY4.out.three
      have f0 := HY4.out.free 0
      have f1 := HY4.out.free 1
      have f2 := HY4.out.free 2
      go_wp2
      generalize ((w4.setCell ⟨w.heap.size + 1, 0, none⟩ (.int .i64 s)).setCell ⟨w.heap.size + 1, 1, none⟩ (.int .u64 t)).setCell ⟨w.heap.size + 1, 2, none⟩ (.int .u64 (max u (n + 8))) = wf at *
      obtain ⟨r0, r1, r2⟩ := HYR.out.three
      exact bodyPost_ret (v := .tuple #[Pst.agg ⟨s, t, max u (n + 8)⟩, .int .i64 0]) (by simp [results, Try.results15, go_sem, Pst.agg, r0, r1, r2]) rfl ⟨rfl, HKR.out⟩

end Go.Proofs.Ytcanmgoelbgdfaa
