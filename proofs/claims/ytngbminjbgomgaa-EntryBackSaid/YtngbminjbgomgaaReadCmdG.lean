/-
  entry.readFields, of a command with a graph.
-/
import Derived.Test.YtngbminjbgomgaaReadCmd
namespace Go.Proofs.Ytngbminjbgomgaa
open Go.RowKit

set_option maxRecDepth 100000 in
set_option maxHeartbeats 2000000 in
theorem readFields_graph (w : World) (p : Nat) (D : Nat → Prop) (u : Value) (k : Int) (s0 s1 s2 s3 s4 s5 s6 s7 : Rs) (n1 n2 n4 n5 n7 : Nat) (g6 : Bool) (pts : List Pt) (h : Rd w p D u s0.left s0.err)
    (E1 : s0.longIf (fSes k) = (n1, s1)) (E2 : s1.longIf (fSeq k) = (n2, s2)) (htrue : fGra k = true)
    (E3' : ∀ w' u', Rd w' p (fun k => D k ∧ k < w.heap.size) u' s2.left s2.err → Calls Try.prog 64 #[.pointer (some ⟨p, 0, none⟩)] w' (GotGraph w' p (fun k => D k ∧ k < w.heap.size) pts s3))
    (E4 : s3.longIf (fId k) = (n4, s4)) (E5 : s4.longIf (fTok k) = (n5, s5)) (E6 : s5.boolIf (fGood k) = (g6, s6)) (E7 : s6.longIf (fTime k) = (n7, s7)) :
    Calls Try.prog 41 #[.pointer (some ⟨p, 0, none⟩), .int .i64 k] w (GotFields w p D k n1 n2 pts n4 n5 g6 n7 s7) := by
  have x0 := Box.new w 38 #[.int .i64 0, .int .u64 0, .int .u64 0, .slice none 0 0, .int .u64 0, .int .u64 0, .bool false, .int .u64 0]
  have k0 := (Keep.refl noneOf w).alloc (.cells #[.int .i64 0, .int .u64 0, .int .u64 0, .slice none 0 0, .int .u64 0, .int .u64 0, .bool false, .int .u64 0] 38)
  have hpl := h.box.lt
  have h0 : Rd w p (fun k => D k ∧ k < w.heap.size) u s0.left s0.err := ⟨h.box, h.bytes.mono (fun i hi hd => ⟨⟨hd.1, hi⟩, hd.2⟩), h.few⟩
  go_enter Try.func41, Try.ntmps41
  go_wp2_with fail
  refine (fieldsOf_any _ k).mono ?_
  rintro e w1 ⟨rfl, k1⟩
  unfold flV
  generalize fSes k = f1 at *
  generalize fSeq k = f2 at *
  rw [htrue]
  clear htrue
  generalize fId k = f4 at *
  generalize fTok k = f5 at *
  generalize fGood k = f6 at *
  generalize fTime k = f7 at *
  generalize known k = kn at *
  have hw1 : w.heap.size < w1.heap.size := (x0.keep k1 id).lt
  have kk := k0.trans k1 (fun _ _ h => h)
  have ka := (kk.alloc (.cells #[.bool f1, .bool f2, .bool true, .bool f4, .bool f5, .bool f6, .bool f7] 81)).alloc (.cells #[.int .i64 k, .int .u64 0, .int .u64 0, .slice none 0 0, .int .u64 0, .int .u64 0, .bool false, .int .u64 0] 38)
  have yc := Box.new (w1.alloc (.cells #[.bool f1, .bool f2, .bool true, .bool f4, .bool f5, .bool f6, .bool f7] 81)) 38 #[.int .i64 k, .int .u64 0, .int .u64 0, .slice none 0 0, .int .u64 0, .int .u64 0, .bool false, .int .u64 0]
  have yf := (Box.new w1 81 #[.bool f1, .bool f2, .bool true, .bool f4, .bool f5, .bool f6, .bool f7]).alloc (.cells #[.int .i64 k, .int .u64 0, .int .u64 0, .slice none 0 0, .int .u64 0, .int .u64 0, .bool false, .int .u64 0] 38)
  have yr := (((x0.keep k1 id).alloc (.cells #[.bool f1, .bool f2, .bool true, .bool f4, .bool f5, .bool f6, .bool f7] 81)).alloc (.cells #[.int .i64 k, .int .u64 0, .int .u64 0, .slice none 0 0, .int .u64 0, .int .u64 0, .bool false, .int .u64 0] 38))
  rw [World.size_alloc] at yc
  have F0 : RF (fun _ => True) w ((w1.alloc (.cells #[.bool f1, .bool f2, .bool true, .bool f4, .bool f5, .bool f6, .bool f7] 81)).alloc (.cells #[.int .i64 k, .int .u64 0, .int .u64 0, .slice none 0 0, .int .u64 0, .int .u64 0, .bool false, .int .u64 0] 38)) p w1.heap.size (w1.heap.size + 1) D #[.bool f1, .bool f2, .bool true, .bool f4, .bool f5, .bool f6, .bool f7] #[.int .i64 k, .int .u64 0, .int .u64 0, .slice none 0 0, .int .u64 0, .int .u64 0, .bool false, .int .u64 0] u s0 :=
    ⟨yr, yf, yc, h0.keep ka id (fun _ _ => id), ka.mono (fun _ _ h => h.elim), hpl, hw1, Nat.lt_succ_self _, trivial, fun _ _ _ _ => trivial⟩
  have HF0 := Lib.hid F0
  have H1 := Lib.hid E1
  have H2 := Lib.hid E2
  have H3' := Lib.hid E3'
  have H4 := Lib.hid E4
  have H5 := Lib.hid E5
  have H6 := Lib.hid E6
  have H7 := Lib.hid E7
  clear x0 k0 kk ka yc yf yr F0 E1 E2 E3' E4 E5 E6 E7 h0 h k1
  go_wp2_with fail
  refine (readLong_any _ p _ u f1 s0 s1 n1 HF0.out.rd H1.out).mono ?_
  rintro e w2 ⟨rfl, k2, u2, r2⟩
  have F2 := HF0.out.call k2 r2
  clear HF0 k2 r2
  have a2 : w2.cell? ⟨w1.heap.size + 1, 1, none⟩ = some (.int .u64 0) := F2.cbx.cell 1
  have b2 := F2.cbx.free 1
  have c2 : w2.cell? ⟨w1.heap.size, 1, none⟩ = some (.bool f2) := F2.fb.cell 1
  have F2' := F2.put 1 (.int .u64 (n1 : Int))
  have HF2 := Lib.hid F2'
  clear F2 F2'
  go_wp2_with fail
  refine (readLong_any _ p _ u2 f2 s1 s2 n2 HF2.out.rd H2.out).mono ?_
  rintro e w3 ⟨rfl, k3, u3, r3⟩
  have F3 := HF2.out.call k3 r3
  clear HF2 k3 r3 a2 b2 c2
  have a3 : w3.cell? ⟨w1.heap.size + 1, 2, none⟩ = some (.int .u64 0) := F3.cbx.cell 2
  have b3 := F3.cbx.free 2
  have c3 : w3.cell? ⟨w1.heap.size, 2, none⟩ = some (.bool true) := F3.fb.cell 2
  have d3 : w3.cell? ⟨w1.heap.size, 3, none⟩ = some (.bool f4) := F3.fb.cell 3
  have F3' := F3.put 2 (.int .u64 (n2 : Int))
  have HF3 := Lib.hid F3'
  clear F3 F3'
  have hbig : w1.heap.size + 1 < (w3.setCell ⟨w1.heap.size + 1, 2, none⟩ (.int .u64 (n2 : Int))).heap.size := HF3.out.cbx.lt
  go_wp2_with fail
  refine (H3'.out _ u3 HF3.out.rd).mono ?_
  rintro e w4 ⟨gv, ts, rfl, k4, ⟨u4, r4⟩, tg4, hpt⟩
  have F4 := HF3.out.call k4 r4
  have HPT := Lib.hid hpt
  obtain ⟨A4, c4, hgv, _⟩ := tg4.1
  subst hgv
  generalize (w3.setCell ⟨w1.heap.size + 1, 2, none⟩ (.int .u64 (n2 : Int))).heap.size = B at *
  have F4 : RF (fun w' => Tgs w' (fun k => B ≤ k) (.slice A4 ts.length c4) ts) w w4 p w1.heap.size (w1.heap.size + 1) D _ _ u4 s3 :=
    ⟨F4.res, F4.fb, F4.cbx, F4.rd, F4.kp, F4.h1, F4.h2, F4.h3, tg4, fun a b ha k => ha.keep k (fun i _ hi h => by omega)⟩
  have a4 : w4.cell? ⟨w1.heap.size + 1, 3, none⟩ = some (.slice none 0 0) := F4.cbx.cell 3
  have b4 := F4.cbx.free 3
  have e4 : w4.cell? ⟨w1.heap.size, 3, none⟩ = some (.bool f4) := F4.fb.cell 3
  have F4' := F4.put 3 (.slice A4 ts.length c4)
  have HF4 := Lib.hid F4'
  clear F4 F4' tg4 hpt k4 r4 HF3 a3 b3 c3 d3
  go_wp2_with fail
  refine (readLong_any _ p _ u4 f4 s3 s4 n4 HF4.out.rd H4.out).mono ?_
  rintro e w5 ⟨rfl, k5, u5, r5⟩
  have F5 := HF4.out.call k5 r5
  clear HF4 k5 r5
  have a5 : w5.cell? ⟨w1.heap.size + 1, 4, none⟩ = some (.int .u64 0) := F5.cbx.cell 4
  have b5 := F5.cbx.free 4
  have c5 : w5.cell? ⟨w1.heap.size, 4, none⟩ = some (.bool f5) := F5.fb.cell 4
  have F5' := F5.put 4 (.int .u64 (n4 : Int))
  have HF5 := Lib.hid F5'
  clear F5 F5'
  go_wp2_with fail
  refine (readLong_any _ p _ u5 f5 s4 s5 n5 HF5.out.rd H5.out).mono ?_
  rintro e w6 ⟨rfl, k6, u6, r6⟩
  have F6 := HF5.out.call k6 r6
  clear HF5 k6 r6 a5 b5 c5
  have a6 : w6.cell? ⟨w1.heap.size + 1, 5, none⟩ = some (.int .u64 0) := F6.cbx.cell 5
  have b6 := F6.cbx.free 5
  have c6 : w6.cell? ⟨w1.heap.size, 5, none⟩ = some (.bool f6) := F6.fb.cell 5
  have d6 : w6.cell? ⟨w1.heap.size, 6, none⟩ = some (.bool f7) := F6.fb.cell 6
  have F6' := F6.put 5 (.int .u64 (n5 : Int))
  have HF6 := Lib.hid F6'
  clear F6 F6'
  cases f6 with
  | false =>
    obtain ⟨rfl, rfl⟩ : false = g6 ∧ s5 = s6 := by simpa [Rs.boolIf] using H6.out
    go_wp2_with fail
    refine (readLong_any _ p _ u6 f7 s5 s7 n7 HF6.out.rd H7.out).mono ?_
    rintro e w8 ⟨rfl, k8, u8, r8⟩
    have F8 := HF6.out.call k8 r8
    clear HF6 k8 r8 a6 b6 c6 d6
    have x0 : w8.cell? ⟨w1.heap.size + 1, 0, none⟩ = some (.int .i64 k) := F8.cbx.cell 0
    have x1 : w8.cell? ⟨w1.heap.size + 1, 1, none⟩ = some (.int .u64 (n1 : Int)) := F8.cbx.cell 1
    have x2 : w8.cell? ⟨w1.heap.size + 1, 2, none⟩ = some (.int .u64 (n2 : Int)) := F8.cbx.cell 2
    have x3 : w8.cell? ⟨w1.heap.size + 1, 3, none⟩ = some (.slice A4 ts.length c4) := F8.cbx.cell 3
    have x4 : w8.cell? ⟨w1.heap.size + 1, 4, none⟩ = some (.int .u64 (n4 : Int)) := F8.cbx.cell 4
    have x5 : w8.cell? ⟨w1.heap.size + 1, 5, none⟩ = some (.int .u64 (n5 : Int)) := F8.cbx.cell 5
    have x6 : w8.cell? ⟨w1.heap.size + 1, 6, none⟩ = some (.bool false) := F8.cbx.cell 6
    have x7 : w8.cell? ⟨w1.heap.size + 1, 7, none⟩ = some (.int .u64 0) := F8.cbx.cell 7
    have y7 := F8.cbx.free 7
    have z0 : w8.cell? ⟨w.heap.size, 0, none⟩ = some (.int .i64 0) := F8.res.cell 0
    have f0' := F8.res.free 0
    have z1 : w8.cell? ⟨w.heap.size, 1, none⟩ = some (.int .u64 0) := F8.res.cell 1
    have f1' := F8.res.free 1
    have z2 : w8.cell? ⟨w.heap.size, 2, none⟩ = some (.int .u64 0) := F8.res.cell 2
    have f2' := F8.res.free 2
    have z3 : w8.cell? ⟨w.heap.size, 3, none⟩ = some (.slice none 0 0) := F8.res.cell 3
    have f3' := F8.res.free 3
    have z4 : w8.cell? ⟨w.heap.size, 4, none⟩ = some (.int .u64 0) := F8.res.cell 4
    have f4' := F8.res.free 4
    have z5 : w8.cell? ⟨w.heap.size, 5, none⟩ = some (.int .u64 0) := F8.res.cell 5
    have f5' := F8.res.free 5
    have z6 : w8.cell? ⟨w.heap.size, 6, none⟩ = some (.bool false) := F8.res.cell 6
    have f6' := F8.res.free 6
    have z7 : w8.cell? ⟨w.heap.size, 7, none⟩ = some (.int .u64 0) := F8.res.cell 7
    have f7' := F8.res.free 7
    have hne : w.heap.size ≠ w1.heap.size + 1 := by omega
    have F9 := F8.put 7 (.int .u64 (n7 : Int))
    have HF9 := Lib.hid F9
    clear F8 F9
    go_wp2
    obtain ⟨hB, hL⟩ := fill8 (.int .i64 k) (.int .u64 (n1 : Int)) (.int .u64 (n2 : Int)) (.slice A4 ts.length c4) (.int .u64 (n4 : Int)) (.int .u64 (n5 : Int)) (.bool false) (.int .u64 (n7 : Int)) HF9.out.res
    generalize ((((((((World.setCell _ ⟨w.heap.size, 0, none⟩ _).setCell ⟨w.heap.size, 1, none⟩ _).setCell ⟨w.heap.size, 2, none⟩ _).setCell ⟨w.heap.size, 3, none⟩ _).setCell ⟨w.heap.size, 4, none⟩ _).setCell ⟨w.heap.size, 5, none⟩ _).setCell ⟨w.heap.size, 6, none⟩ _).setCell ⟨w.heap.size, 7, none⟩ _) = wf at *
    have r0 : wf.cell? ⟨w.heap.size, 0, none⟩ = some (.int .i64 k) := hB.cell 0
    have r1 : wf.cell? ⟨w.heap.size, 1, none⟩ = some (.int .u64 (n1 : Int)) := hB.cell 1
    have r2 : wf.cell? ⟨w.heap.size, 2, none⟩ = some (.int .u64 (n2 : Int)) := hB.cell 2
    have r3 : wf.cell? ⟨w.heap.size, 3, none⟩ = some (.slice A4 ts.length c4) := hB.cell 3
    have r4 : wf.cell? ⟨w.heap.size, 4, none⟩ = some (.int .u64 (n4 : Int)) := hB.cell 4
    have r5 : wf.cell? ⟨w.heap.size, 5, none⟩ = some (.int .u64 (n5 : Int)) := hB.cell 5
    have r6 : wf.cell? ⟨w.heap.size, 6, none⟩ = some (.bool false) := hB.cell 6
    have r7 : wf.cell? ⟨w.heap.size, 7, none⟩ = some (.int .u64 (n7 : Int)) := hB.cell 7
    have R := fields_done (k := k) (n1 := n1) (n2 := n2) (n4 := n4) (n5 := n5) (g6 := false) (n7 := n7) HF9.out hL ((HF9.out.st _ _ HF9.out.ex (hL.mono (fun _ _ h => .inr (.inr h)))).mono (fun i hi h => by omega)) HPT.out
    exact bodyPost_ret (v := .agg #[.int .i64 k, .int .u64 (n1 : Int), .int .u64 (n2 : Int), (.slice A4 ts.length c4), .int .u64 (n4 : Int), .int .u64 (n5 : Int), .bool false, .int .u64 (n7 : Int)]) (by simp [results, Try.results41, go_sem, r0, r1, r2, r3, r4, r5, r6, r7]) rfl R
  | true =>
    go_wp2_with fail
    refine (readBool_any _ p _ u6 s5 s6 g6 HF6.out.rd (by simpa [Rs.boolIf] using H6.out)).mono ?_
    rintro e w7 ⟨rfl, k7, u7, r7⟩
    have F7 := HF6.out.call k7 r7
    clear HF6 k7 r7 a6 b6 c6 d6
    have a7 : w7.cell? ⟨w1.heap.size + 1, 6, none⟩ = some (.bool false) := F7.cbx.cell 6
    have b7 := F7.cbx.free 6
    have c7 : w7.cell? ⟨w1.heap.size, 6, none⟩ = some (.bool f7) := F7.fb.cell 6
    have F7' := F7.put 6 (.bool g6)
    have HF7 := Lib.hid F7'
    clear F7 F7'
    go_wp2_with fail
    refine (readLong_any _ p _ u7 f7 s6 s7 n7 HF7.out.rd H7.out).mono ?_
    rintro e w8 ⟨rfl, k8, u8, r8⟩
    have F8 := HF7.out.call k8 r8
    clear HF7 k8 r8 a7 b7 c7
    have x0 : w8.cell? ⟨w1.heap.size + 1, 0, none⟩ = some (.int .i64 k) := F8.cbx.cell 0
    have x1 : w8.cell? ⟨w1.heap.size + 1, 1, none⟩ = some (.int .u64 (n1 : Int)) := F8.cbx.cell 1
    have x2 : w8.cell? ⟨w1.heap.size + 1, 2, none⟩ = some (.int .u64 (n2 : Int)) := F8.cbx.cell 2
    have x3 : w8.cell? ⟨w1.heap.size + 1, 3, none⟩ = some (.slice A4 ts.length c4) := F8.cbx.cell 3
    have x4 : w8.cell? ⟨w1.heap.size + 1, 4, none⟩ = some (.int .u64 (n4 : Int)) := F8.cbx.cell 4
    have x5 : w8.cell? ⟨w1.heap.size + 1, 5, none⟩ = some (.int .u64 (n5 : Int)) := F8.cbx.cell 5
    have x6 : w8.cell? ⟨w1.heap.size + 1, 6, none⟩ = some (.bool g6) := F8.cbx.cell 6
    have x7 : w8.cell? ⟨w1.heap.size + 1, 7, none⟩ = some (.int .u64 0) := F8.cbx.cell 7
    have y7 := F8.cbx.free 7
    have z0 : w8.cell? ⟨w.heap.size, 0, none⟩ = some (.int .i64 0) := F8.res.cell 0
    have f0' := F8.res.free 0
    have z1 : w8.cell? ⟨w.heap.size, 1, none⟩ = some (.int .u64 0) := F8.res.cell 1
    have f1' := F8.res.free 1
    have z2 : w8.cell? ⟨w.heap.size, 2, none⟩ = some (.int .u64 0) := F8.res.cell 2
    have f2' := F8.res.free 2
    have z3 : w8.cell? ⟨w.heap.size, 3, none⟩ = some (.slice none 0 0) := F8.res.cell 3
    have f3' := F8.res.free 3
    have z4 : w8.cell? ⟨w.heap.size, 4, none⟩ = some (.int .u64 0) := F8.res.cell 4
    have f4' := F8.res.free 4
    have z5 : w8.cell? ⟨w.heap.size, 5, none⟩ = some (.int .u64 0) := F8.res.cell 5
    have f5' := F8.res.free 5
    have z6 : w8.cell? ⟨w.heap.size, 6, none⟩ = some (.bool false) := F8.res.cell 6
    have f6' := F8.res.free 6
    have z7 : w8.cell? ⟨w.heap.size, 7, none⟩ = some (.int .u64 0) := F8.res.cell 7
    have f7' := F8.res.free 7
    have hne : w.heap.size ≠ w1.heap.size + 1 := by omega
    have F9 := F8.put 7 (.int .u64 (n7 : Int))
    have HF9 := Lib.hid F9
    clear F8 F9
    go_wp2
    obtain ⟨hB, hL⟩ := fill8 (.int .i64 k) (.int .u64 (n1 : Int)) (.int .u64 (n2 : Int)) (.slice A4 ts.length c4) (.int .u64 (n4 : Int)) (.int .u64 (n5 : Int)) (.bool g6) (.int .u64 (n7 : Int)) HF9.out.res
    generalize ((((((((World.setCell _ ⟨w.heap.size, 0, none⟩ _).setCell ⟨w.heap.size, 1, none⟩ _).setCell ⟨w.heap.size, 2, none⟩ _).setCell ⟨w.heap.size, 3, none⟩ _).setCell ⟨w.heap.size, 4, none⟩ _).setCell ⟨w.heap.size, 5, none⟩ _).setCell ⟨w.heap.size, 6, none⟩ _).setCell ⟨w.heap.size, 7, none⟩ _) = wf at *
    have r0 : wf.cell? ⟨w.heap.size, 0, none⟩ = some (.int .i64 k) := hB.cell 0
    have r1 : wf.cell? ⟨w.heap.size, 1, none⟩ = some (.int .u64 (n1 : Int)) := hB.cell 1
    have r2 : wf.cell? ⟨w.heap.size, 2, none⟩ = some (.int .u64 (n2 : Int)) := hB.cell 2
    have r3 : wf.cell? ⟨w.heap.size, 3, none⟩ = some (.slice A4 ts.length c4) := hB.cell 3
    have r4 : wf.cell? ⟨w.heap.size, 4, none⟩ = some (.int .u64 (n4 : Int)) := hB.cell 4
    have r5 : wf.cell? ⟨w.heap.size, 5, none⟩ = some (.int .u64 (n5 : Int)) := hB.cell 5
    have r6 : wf.cell? ⟨w.heap.size, 6, none⟩ = some (.bool g6) := hB.cell 6
    have r7 : wf.cell? ⟨w.heap.size, 7, none⟩ = some (.int .u64 (n7 : Int)) := hB.cell 7
    have R := fields_done (k := k) (n1 := n1) (n2 := n2) (n4 := n4) (n5 := n5) (g6 := g6) (n7 := n7) HF9.out hL ((HF9.out.st _ _ HF9.out.ex (hL.mono (fun _ _ h => .inr (.inr h)))).mono (fun i hi h => by omega)) HPT.out
    exact bodyPost_ret (v := .agg #[.int .i64 k, .int .u64 (n1 : Int), .int .u64 (n2 : Int), (.slice A4 ts.length c4), .int .u64 (n4 : Int), .int .u64 (n5 : Int), .bool g6, .int .u64 (n7 : Int)]) (by simp [results, Try.results41, go_sem, r0, r1, r2, r3, r4, r5, r6, r7]) rfl R
end Go.Proofs.Ytngbminjbgomgaa
