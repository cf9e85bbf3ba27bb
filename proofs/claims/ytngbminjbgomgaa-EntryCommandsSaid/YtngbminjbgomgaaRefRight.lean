/-
  The document's commands: dockyardref04.Right.
-/
import Derived.Test.YtngbminjbgomgaaRefNames
import Derived.Deep.Light
namespace Go.Proofs.Ytngbminjbgomgaa
open Go.RowKit

theorem nat_beq0 (n : Nat) : ((n : Int) == 0) = decide (n = 0) := by
  rw [Bool.eq_iff_iff, beq_iff_eq, decide_eq_true_eq]
  omega

set_option maxRecDepth 100000 in
set_option maxHeartbeats 2000000 in
theorem refRight_1 (w : World) (D : Nat → Prop) (ses seq gid tok time : Nat) (good : Bool) (A : Option Addr) (cap : Nat) (ts : List Tg) (h : Tgs w D (.slice A ts.length cap) ts) :
    Calls Try.prog 20 #[.agg #[.int .i64 1, .int .u64 (ses : Int), .int .u64 (seq : Int), .slice A ts.length cap, .int .u64 (gid : Int), .int .u64 (tok : Int), .bool good, .int .u64 (time : Int)]] w fun e w' => e = .returned (.bool (Cmd.right ⟨1, ses, seq, .slice A ts.length cap, ts, gid, tok, good, time⟩)) ∧ Keep noneOf w w' := by
  generalize hR : Cmd.right ⟨1, ses, seq, .slice A ts.length cap, ts, gid, tok, good, time⟩ = R
  have HR := Lib.hid hR
  have hx0 := Box.new w 38 #[.int .i64 1, .int .u64 (ses : Int), .int .u64 (seq : Int), .slice A ts.length cap, .int .u64 (gid : Int), .int .u64 (tok : Int), .bool good, .int .u64 (time : Int)]
  have K0 := (Keep.refl noneOf w).alloc (.cells #[.int .i64 1, .int .u64 (ses : Int), .int .u64 (seq : Int), .slice A ts.length cap, .int .u64 (gid : Int), .int .u64 (tok : Int), .bool good, .int .u64 (time : Int)] 38)
  have SH := Lib.hid (short_any _ D _ ts (h.keep K0 (fun _ _ _ => id)))
  have HK0 := Lib.hid K0
  have HX0 := Lib.hid hx0
  clear hR h hx0 K0
  go_enter Try.func20, Try.ntmps20
  go_wp2_with fail
  refine (names_any _ 1).mono ?_
  rintro e w1 ⟨rfl, rfl⟩
  rw [show namesOf 1 = ⟨#[115]⟩ from rfl]
  go_wp2_with fail
  refine SH.out.mono ?_
  rintro e w1 ⟨rfl, k1⟩
  have K1 := HK0.out.trans k1 (fun _ _ h => h)
  have hx1 := HX0.out.keep k1 id
  have c1 : w1.cell? ⟨w.heap.size, 1, none⟩ = some (.int .u64 (ses : Int)) := hx1.cell 1
  have c2 : w1.cell? ⟨w.heap.size, 2, none⟩ = some (.int .u64 (seq : Int)) := hx1.cell 2
  have c3 : w1.cell? ⟨w.heap.size, 3, none⟩ = some (.slice A ts.length cap) := hx1.cell 3
  have c4 : w1.cell? ⟨w.heap.size, 4, none⟩ = some (.int .u64 (gid : Int)) := hx1.cell 4
  have c5 : w1.cell? ⟨w.heap.size, 5, none⟩ = some (.int .u64 (tok : Int)) := hx1.cell 5
  have c6 : w1.cell? ⟨w.heap.size, 6, none⟩ = some (.bool good) := hx1.cell 6
  have c7 : w1.cell? ⟨w.heap.size, 7, none⟩ = some (.int .u64 (time : Int)) := hx1.cell 7
  have HK1 := Lib.hid K1
  clear SH HK0 HX0 k1 hx1 K1
  cases hq : gFits ts with
  | false =>
    have hR : R = false := by rw [← HR.out]; unfold Cmd.right; simp [hq]
    subst hR
    clear hq
    go_wp2
    go_ret
    exact ⟨rfl, HK1.out⟩
  | true =>
    have HQ := Lib.hid hq
    clear hq
    go_wp2_with fail
    refine (has_any _ _ 115 (by decide)).mono ?_
    rintro e w2 ⟨rfl, rfl⟩
    rw [show hasB ⟨#[115]⟩ 115 = true from rfl]
    go_wp2_with fail
    refine (has_any _ _ 113 (by decide)).mono ?_
    rintro e w2 ⟨rfl, rfl⟩
    rw [show hasB ⟨#[115]⟩ 113 = false from rfl]
    go_wp2_with fail
    refine (has_any _ _ 103 (by decide)).mono ?_
    rintro e w2 ⟨rfl, rfl⟩
    rw [show hasB ⟨#[115]⟩ 103 = false from rfl]
    go_wp2_with fail
    refine (has_any _ _ 105 (by decide)).mono ?_
    rintro e w2 ⟨rfl, rfl⟩
    rw [show hasB ⟨#[115]⟩ 105 = false from rfl]
    go_wp2_with fail
    refine (has_any _ _ 116 (by decide)).mono ?_
    rintro e w2 ⟨rfl, rfl⟩
    rw [show hasB ⟨#[115]⟩ 116 = false from rfl]
    go_wp2_with fail
    refine (has_any _ _ 119 (by decide)).mono ?_
    rintro e w2 ⟨rfl, rfl⟩
    rw [show hasB ⟨#[115]⟩ 119 = false from rfl]
    go_wp2_with fail
    refine (has_any _ _ 109 (by decide)).mono ?_
    rintro e w2 ⟨rfl, rfl⟩
    rw [show hasB ⟨#[115]⟩ 109 = false from rfl]
    go_wp2
    all_goals
      go_ret
      refine ⟨ret_bool ?_, HK1.out⟩
      rw [← HR.out]
      have hq := HQ.out
      clear HR HK1 HQ c1 c2 c3 c4 c5 c6 c7
      simp_all [Cmd.right, known, fSes, fSeq, fGra, fId, fTok, fGood, fTime, nat_beq0]

set_option maxRecDepth 100000 in
set_option maxHeartbeats 2000000 in
theorem refRight_2 (w : World) (D : Nat → Prop) (ses seq gid tok time : Nat) (good : Bool) (A : Option Addr) (cap : Nat) (ts : List Tg) (h : Tgs w D (.slice A ts.length cap) ts) :
    Calls Try.prog 20 #[.agg #[.int .i64 2, .int .u64 (ses : Int), .int .u64 (seq : Int), .slice A ts.length cap, .int .u64 (gid : Int), .int .u64 (tok : Int), .bool good, .int .u64 (time : Int)]] w fun e w' => e = .returned (.bool (Cmd.right ⟨2, ses, seq, .slice A ts.length cap, ts, gid, tok, good, time⟩)) ∧ Keep noneOf w w' := by
  generalize hR : Cmd.right ⟨2, ses, seq, .slice A ts.length cap, ts, gid, tok, good, time⟩ = R
  have HR := Lib.hid hR
  have hx0 := Box.new w 38 #[.int .i64 2, .int .u64 (ses : Int), .int .u64 (seq : Int), .slice A ts.length cap, .int .u64 (gid : Int), .int .u64 (tok : Int), .bool good, .int .u64 (time : Int)]
  have K0 := (Keep.refl noneOf w).alloc (.cells #[.int .i64 2, .int .u64 (ses : Int), .int .u64 (seq : Int), .slice A ts.length cap, .int .u64 (gid : Int), .int .u64 (tok : Int), .bool good, .int .u64 (time : Int)] 38)
  have SH := Lib.hid (short_any _ D _ ts (h.keep K0 (fun _ _ _ => id)))
  have HK0 := Lib.hid K0
  have HX0 := Lib.hid hx0
  clear hR h hx0 K0
  go_enter Try.func20, Try.ntmps20
  go_wp2_with fail
  refine (names_any _ 2).mono ?_
  rintro e w1 ⟨rfl, rfl⟩
  rw [show namesOf 2 = ⟨#[115, 113, 103]⟩ from rfl]
  go_wp2_with fail
  refine SH.out.mono ?_
  rintro e w1 ⟨rfl, k1⟩
  have K1 := HK0.out.trans k1 (fun _ _ h => h)
  have hx1 := HX0.out.keep k1 id
  have c1 : w1.cell? ⟨w.heap.size, 1, none⟩ = some (.int .u64 (ses : Int)) := hx1.cell 1
  have c2 : w1.cell? ⟨w.heap.size, 2, none⟩ = some (.int .u64 (seq : Int)) := hx1.cell 2
  have c3 : w1.cell? ⟨w.heap.size, 3, none⟩ = some (.slice A ts.length cap) := hx1.cell 3
  have c4 : w1.cell? ⟨w.heap.size, 4, none⟩ = some (.int .u64 (gid : Int)) := hx1.cell 4
  have c5 : w1.cell? ⟨w.heap.size, 5, none⟩ = some (.int .u64 (tok : Int)) := hx1.cell 5
  have c6 : w1.cell? ⟨w.heap.size, 6, none⟩ = some (.bool good) := hx1.cell 6
  have c7 : w1.cell? ⟨w.heap.size, 7, none⟩ = some (.int .u64 (time : Int)) := hx1.cell 7
  have HK1 := Lib.hid K1
  clear SH HK0 HX0 k1 hx1 K1
  cases hq : gFits ts with
  | false =>
    have hR : R = false := by rw [← HR.out]; unfold Cmd.right; simp [hq]
    subst hR
    clear hq
    go_wp2
    go_ret
    exact ⟨rfl, HK1.out⟩
  | true =>
    have HQ := Lib.hid hq
    clear hq
    go_wp2_with fail
    refine (has_any _ _ 115 (by decide)).mono ?_
    rintro e w2 ⟨rfl, rfl⟩
    rw [show hasB ⟨#[115, 113, 103]⟩ 115 = true from rfl]
    go_wp2_with fail
    refine (has_any _ _ 113 (by decide)).mono ?_
    rintro e w2 ⟨rfl, rfl⟩
    rw [show hasB ⟨#[115, 113, 103]⟩ 113 = true from rfl]
    go_wp2_with fail
    refine (has_any _ _ 103 (by decide)).mono ?_
    rintro e w2 ⟨rfl, rfl⟩
    rw [show hasB ⟨#[115, 113, 103]⟩ 103 = true from rfl]
    go_wp2_with fail
    refine (has_any _ _ 105 (by decide)).mono ?_
    rintro e w2 ⟨rfl, rfl⟩
    rw [show hasB ⟨#[115, 113, 103]⟩ 105 = false from rfl]
    go_wp2_with fail
    refine (has_any _ _ 116 (by decide)).mono ?_
    rintro e w2 ⟨rfl, rfl⟩
    rw [show hasB ⟨#[115, 113, 103]⟩ 116 = false from rfl]
    go_wp2_with fail
    refine (has_any _ _ 119 (by decide)).mono ?_
    rintro e w2 ⟨rfl, rfl⟩
    rw [show hasB ⟨#[115, 113, 103]⟩ 119 = false from rfl]
    go_wp2_with fail
    refine (has_any _ _ 109 (by decide)).mono ?_
    rintro e w2 ⟨rfl, rfl⟩
    rw [show hasB ⟨#[115, 113, 103]⟩ 109 = false from rfl]
    go_wp2
    all_goals
      go_ret
      refine ⟨ret_bool ?_, HK1.out⟩
      rw [← HR.out]
      have hq := HQ.out
      clear HR HK1 HQ c1 c2 c3 c4 c5 c6 c7
      simp_all [Cmd.right, known, fSes, fSeq, fGra, fId, fTok, fGood, fTime, nat_beq0]

set_option maxRecDepth 100000 in
set_option maxHeartbeats 2000000 in
theorem refRight_3 (w : World) (D : Nat → Prop) (ses seq gid tok time : Nat) (good : Bool) (A : Option Addr) (cap : Nat) (ts : List Tg) (h : Tgs w D (.slice A ts.length cap) ts) :
    Calls Try.prog 20 #[.agg #[.int .i64 3, .int .u64 (ses : Int), .int .u64 (seq : Int), .slice A ts.length cap, .int .u64 (gid : Int), .int .u64 (tok : Int), .bool good, .int .u64 (time : Int)]] w fun e w' => e = .returned (.bool (Cmd.right ⟨3, ses, seq, .slice A ts.length cap, ts, gid, tok, good, time⟩)) ∧ Keep noneOf w w' := by
  generalize hR : Cmd.right ⟨3, ses, seq, .slice A ts.length cap, ts, gid, tok, good, time⟩ = R
  have HR := Lib.hid hR
  have hx0 := Box.new w 38 #[.int .i64 3, .int .u64 (ses : Int), .int .u64 (seq : Int), .slice A ts.length cap, .int .u64 (gid : Int), .int .u64 (tok : Int), .bool good, .int .u64 (time : Int)]
  have K0 := (Keep.refl noneOf w).alloc (.cells #[.int .i64 3, .int .u64 (ses : Int), .int .u64 (seq : Int), .slice A ts.length cap, .int .u64 (gid : Int), .int .u64 (tok : Int), .bool good, .int .u64 (time : Int)] 38)
  have SH := Lib.hid (short_any _ D _ ts (h.keep K0 (fun _ _ _ => id)))
  have HK0 := Lib.hid K0
  have HX0 := Lib.hid hx0
  clear hR h hx0 K0
  go_enter Try.func20, Try.ntmps20
  go_wp2_with fail
  refine (names_any _ 3).mono ?_
  rintro e w1 ⟨rfl, rfl⟩
  rw [show namesOf 3 = ⟨#[115, 113]⟩ from rfl]
  go_wp2_with fail
  refine SH.out.mono ?_
  rintro e w1 ⟨rfl, k1⟩
  have K1 := HK0.out.trans k1 (fun _ _ h => h)
  have hx1 := HX0.out.keep k1 id
  have c1 : w1.cell? ⟨w.heap.size, 1, none⟩ = some (.int .u64 (ses : Int)) := hx1.cell 1
  have c2 : w1.cell? ⟨w.heap.size, 2, none⟩ = some (.int .u64 (seq : Int)) := hx1.cell 2
  have c3 : w1.cell? ⟨w.heap.size, 3, none⟩ = some (.slice A ts.length cap) := hx1.cell 3
  have c4 : w1.cell? ⟨w.heap.size, 4, none⟩ = some (.int .u64 (gid : Int)) := hx1.cell 4
  have c5 : w1.cell? ⟨w.heap.size, 5, none⟩ = some (.int .u64 (tok : Int)) := hx1.cell 5
  have c6 : w1.cell? ⟨w.heap.size, 6, none⟩ = some (.bool good) := hx1.cell 6
  have c7 : w1.cell? ⟨w.heap.size, 7, none⟩ = some (.int .u64 (time : Int)) := hx1.cell 7
  have HK1 := Lib.hid K1
  clear SH HK0 HX0 k1 hx1 K1
  cases hq : gFits ts with
  | false =>
    have hR : R = false := by rw [← HR.out]; unfold Cmd.right; simp [hq]
    subst hR
    clear hq
    go_wp2
    go_ret
    exact ⟨rfl, HK1.out⟩
  | true =>
    have HQ := Lib.hid hq
    clear hq
    go_wp2_with fail
    refine (has_any _ _ 115 (by decide)).mono ?_
    rintro e w2 ⟨rfl, rfl⟩
    rw [show hasB ⟨#[115, 113]⟩ 115 = true from rfl]
    go_wp2_with fail
    refine (has_any _ _ 113 (by decide)).mono ?_
    rintro e w2 ⟨rfl, rfl⟩
    rw [show hasB ⟨#[115, 113]⟩ 113 = true from rfl]
    go_wp2_with fail
    refine (has_any _ _ 103 (by decide)).mono ?_
    rintro e w2 ⟨rfl, rfl⟩
    rw [show hasB ⟨#[115, 113]⟩ 103 = false from rfl]
    go_wp2_with fail
    refine (has_any _ _ 105 (by decide)).mono ?_
    rintro e w2 ⟨rfl, rfl⟩
    rw [show hasB ⟨#[115, 113]⟩ 105 = false from rfl]
    go_wp2_with fail
    refine (has_any _ _ 116 (by decide)).mono ?_
    rintro e w2 ⟨rfl, rfl⟩
    rw [show hasB ⟨#[115, 113]⟩ 116 = false from rfl]
    go_wp2_with fail
    refine (has_any _ _ 119 (by decide)).mono ?_
    rintro e w2 ⟨rfl, rfl⟩
    rw [show hasB ⟨#[115, 113]⟩ 119 = false from rfl]
    go_wp2_with fail
    refine (has_any _ _ 109 (by decide)).mono ?_
    rintro e w2 ⟨rfl, rfl⟩
    rw [show hasB ⟨#[115, 113]⟩ 109 = false from rfl]
    go_wp2
    all_goals
      go_ret
      refine ⟨ret_bool ?_, HK1.out⟩
      rw [← HR.out]
      have hq := HQ.out
      clear HR HK1 HQ c1 c2 c3 c4 c5 c6 c7
      simp_all [Cmd.right, known, fSes, fSeq, fGra, fId, fTok, fGood, fTime, nat_beq0]

set_option maxRecDepth 100000 in
set_option maxHeartbeats 2000000 in
theorem refRight_4 (w : World) (D : Nat → Prop) (ses seq gid tok time : Nat) (good : Bool) (A : Option Addr) (cap : Nat) (ts : List Tg) (h : Tgs w D (.slice A ts.length cap) ts) :
    Calls Try.prog 20 #[.agg #[.int .i64 4, .int .u64 (ses : Int), .int .u64 (seq : Int), .slice A ts.length cap, .int .u64 (gid : Int), .int .u64 (tok : Int), .bool good, .int .u64 (time : Int)]] w fun e w' => e = .returned (.bool (Cmd.right ⟨4, ses, seq, .slice A ts.length cap, ts, gid, tok, good, time⟩)) ∧ Keep noneOf w w' := by
  generalize hR : Cmd.right ⟨4, ses, seq, .slice A ts.length cap, ts, gid, tok, good, time⟩ = R
  have HR := Lib.hid hR
  have hx0 := Box.new w 38 #[.int .i64 4, .int .u64 (ses : Int), .int .u64 (seq : Int), .slice A ts.length cap, .int .u64 (gid : Int), .int .u64 (tok : Int), .bool good, .int .u64 (time : Int)]
  have K0 := (Keep.refl noneOf w).alloc (.cells #[.int .i64 4, .int .u64 (ses : Int), .int .u64 (seq : Int), .slice A ts.length cap, .int .u64 (gid : Int), .int .u64 (tok : Int), .bool good, .int .u64 (time : Int)] 38)
  have SH := Lib.hid (short_any _ D _ ts (h.keep K0 (fun _ _ _ => id)))
  have HK0 := Lib.hid K0
  have HX0 := Lib.hid hx0
  clear hR h hx0 K0
  go_enter Try.func20, Try.ntmps20
  go_wp2_with fail
  refine (names_any _ 4).mono ?_
  rintro e w1 ⟨rfl, rfl⟩
  rw [show namesOf 4 = ⟨#[115, 113, 116]⟩ from rfl]
  go_wp2_with fail
  refine SH.out.mono ?_
  rintro e w1 ⟨rfl, k1⟩
  have K1 := HK0.out.trans k1 (fun _ _ h => h)
  have hx1 := HX0.out.keep k1 id
  have c1 : w1.cell? ⟨w.heap.size, 1, none⟩ = some (.int .u64 (ses : Int)) := hx1.cell 1
  have c2 : w1.cell? ⟨w.heap.size, 2, none⟩ = some (.int .u64 (seq : Int)) := hx1.cell 2
  have c3 : w1.cell? ⟨w.heap.size, 3, none⟩ = some (.slice A ts.length cap) := hx1.cell 3
  have c4 : w1.cell? ⟨w.heap.size, 4, none⟩ = some (.int .u64 (gid : Int)) := hx1.cell 4
  have c5 : w1.cell? ⟨w.heap.size, 5, none⟩ = some (.int .u64 (tok : Int)) := hx1.cell 5
  have c6 : w1.cell? ⟨w.heap.size, 6, none⟩ = some (.bool good) := hx1.cell 6
  have c7 : w1.cell? ⟨w.heap.size, 7, none⟩ = some (.int .u64 (time : Int)) := hx1.cell 7
  have HK1 := Lib.hid K1
  clear SH HK0 HX0 k1 hx1 K1
  cases hq : gFits ts with
  | false =>
    have hR : R = false := by rw [← HR.out]; unfold Cmd.right; simp [hq]
    subst hR
    clear hq
    go_wp2
    go_ret
    exact ⟨rfl, HK1.out⟩
  | true =>
    have HQ := Lib.hid hq
    clear hq
    go_wp2_with fail
    refine (has_any _ _ 115 (by decide)).mono ?_
    rintro e w2 ⟨rfl, rfl⟩
    rw [show hasB ⟨#[115, 113, 116]⟩ 115 = true from rfl]
    go_wp2_with fail
    refine (has_any _ _ 113 (by decide)).mono ?_
    rintro e w2 ⟨rfl, rfl⟩
    rw [show hasB ⟨#[115, 113, 116]⟩ 113 = true from rfl]
    go_wp2_with fail
    refine (has_any _ _ 103 (by decide)).mono ?_
    rintro e w2 ⟨rfl, rfl⟩
    rw [show hasB ⟨#[115, 113, 116]⟩ 103 = false from rfl]
    go_wp2_with fail
    refine (has_any _ _ 105 (by decide)).mono ?_
    rintro e w2 ⟨rfl, rfl⟩
    rw [show hasB ⟨#[115, 113, 116]⟩ 105 = false from rfl]
    go_wp2_with fail
    refine (has_any _ _ 116 (by decide)).mono ?_
    rintro e w2 ⟨rfl, rfl⟩
    rw [show hasB ⟨#[115, 113, 116]⟩ 116 = true from rfl]
    go_wp2_with fail
    refine (has_any _ _ 119 (by decide)).mono ?_
    rintro e w2 ⟨rfl, rfl⟩
    rw [show hasB ⟨#[115, 113, 116]⟩ 119 = false from rfl]
    go_wp2_with fail
    refine (has_any _ _ 109 (by decide)).mono ?_
    rintro e w2 ⟨rfl, rfl⟩
    rw [show hasB ⟨#[115, 113, 116]⟩ 109 = false from rfl]
    go_wp2
    all_goals
      go_ret
      refine ⟨ret_bool ?_, HK1.out⟩
      rw [← HR.out]
      have hq := HQ.out
      clear HR HK1 HQ c1 c2 c3 c4 c5 c6 c7
      simp_all [Cmd.right, known, fSes, fSeq, fGra, fId, fTok, fGood, fTime, nat_beq0]

set_option maxRecDepth 100000 in
set_option maxHeartbeats 2000000 in
theorem refRight_5 (w : World) (D : Nat → Prop) (ses seq gid tok time : Nat) (good : Bool) (A : Option Addr) (cap : Nat) (ts : List Tg) (h : Tgs w D (.slice A ts.length cap) ts) :
    Calls Try.prog 20 #[.agg #[.int .i64 5, .int .u64 (ses : Int), .int .u64 (seq : Int), .slice A ts.length cap, .int .u64 (gid : Int), .int .u64 (tok : Int), .bool good, .int .u64 (time : Int)]] w fun e w' => e = .returned (.bool (Cmd.right ⟨5, ses, seq, .slice A ts.length cap, ts, gid, tok, good, time⟩)) ∧ Keep noneOf w w' := by
  generalize hR : Cmd.right ⟨5, ses, seq, .slice A ts.length cap, ts, gid, tok, good, time⟩ = R
  have HR := Lib.hid hR
  have hx0 := Box.new w 38 #[.int .i64 5, .int .u64 (ses : Int), .int .u64 (seq : Int), .slice A ts.length cap, .int .u64 (gid : Int), .int .u64 (tok : Int), .bool good, .int .u64 (time : Int)]
  have K0 := (Keep.refl noneOf w).alloc (.cells #[.int .i64 5, .int .u64 (ses : Int), .int .u64 (seq : Int), .slice A ts.length cap, .int .u64 (gid : Int), .int .u64 (tok : Int), .bool good, .int .u64 (time : Int)] 38)
  have SH := Lib.hid (short_any _ D _ ts (h.keep K0 (fun _ _ _ => id)))
  have HK0 := Lib.hid K0
  have HX0 := Lib.hid hx0
  clear hR h hx0 K0
  go_enter Try.func20, Try.ntmps20
  go_wp2_with fail
  refine (names_any _ 5).mono ?_
  rintro e w1 ⟨rfl, rfl⟩
  rw [show namesOf 5 = ⟨#[115, 113, 116, 119]⟩ from rfl]
  go_wp2_with fail
  refine SH.out.mono ?_
  rintro e w1 ⟨rfl, k1⟩
  have K1 := HK0.out.trans k1 (fun _ _ h => h)
  have hx1 := HX0.out.keep k1 id
  have c1 : w1.cell? ⟨w.heap.size, 1, none⟩ = some (.int .u64 (ses : Int)) := hx1.cell 1
  have c2 : w1.cell? ⟨w.heap.size, 2, none⟩ = some (.int .u64 (seq : Int)) := hx1.cell 2
  have c3 : w1.cell? ⟨w.heap.size, 3, none⟩ = some (.slice A ts.length cap) := hx1.cell 3
  have c4 : w1.cell? ⟨w.heap.size, 4, none⟩ = some (.int .u64 (gid : Int)) := hx1.cell 4
  have c5 : w1.cell? ⟨w.heap.size, 5, none⟩ = some (.int .u64 (tok : Int)) := hx1.cell 5
  have c6 : w1.cell? ⟨w.heap.size, 6, none⟩ = some (.bool good) := hx1.cell 6
  have c7 : w1.cell? ⟨w.heap.size, 7, none⟩ = some (.int .u64 (time : Int)) := hx1.cell 7
  have HK1 := Lib.hid K1
  clear SH HK0 HX0 k1 hx1 K1
  cases hq : gFits ts with
  | false =>
    have hR : R = false := by rw [← HR.out]; unfold Cmd.right; simp [hq]
    subst hR
    clear hq
    go_wp2
    go_ret
    exact ⟨rfl, HK1.out⟩
  | true =>
    have HQ := Lib.hid hq
    clear hq
    go_wp2_with fail
    refine (has_any _ _ 115 (by decide)).mono ?_
    rintro e w2 ⟨rfl, rfl⟩
    rw [show hasB ⟨#[115, 113, 116, 119]⟩ 115 = true from rfl]
    go_wp2_with fail
    refine (has_any _ _ 113 (by decide)).mono ?_
    rintro e w2 ⟨rfl, rfl⟩
    rw [show hasB ⟨#[115, 113, 116, 119]⟩ 113 = true from rfl]
    go_wp2_with fail
    refine (has_any _ _ 103 (by decide)).mono ?_
    rintro e w2 ⟨rfl, rfl⟩
    rw [show hasB ⟨#[115, 113, 116, 119]⟩ 103 = false from rfl]
    go_wp2_with fail
    refine (has_any _ _ 105 (by decide)).mono ?_
    rintro e w2 ⟨rfl, rfl⟩
    rw [show hasB ⟨#[115, 113, 116, 119]⟩ 105 = false from rfl]
    go_wp2_with fail
    refine (has_any _ _ 116 (by decide)).mono ?_
    rintro e w2 ⟨rfl, rfl⟩
    rw [show hasB ⟨#[115, 113, 116, 119]⟩ 116 = true from rfl]
    go_wp2_with fail
    refine (has_any _ _ 119 (by decide)).mono ?_
    rintro e w2 ⟨rfl, rfl⟩
    rw [show hasB ⟨#[115, 113, 116, 119]⟩ 119 = true from rfl]
    go_wp2_with fail
    refine (has_any _ _ 109 (by decide)).mono ?_
    rintro e w2 ⟨rfl, rfl⟩
    rw [show hasB ⟨#[115, 113, 116, 119]⟩ 109 = false from rfl]
    go_wp2
    all_goals
      go_ret
      refine ⟨ret_bool ?_, HK1.out⟩
      rw [← HR.out]
      have hq := HQ.out
      clear HR HK1 HQ c1 c2 c3 c4 c5 c6 c7
      simp_all [Cmd.right, known, fSes, fSeq, fGra, fId, fTok, fGood, fTime, nat_beq0]

set_option maxRecDepth 100000 in
set_option maxHeartbeats 2000000 in
theorem refRight_6 (w : World) (D : Nat → Prop) (ses seq gid tok time : Nat) (good : Bool) (A : Option Addr) (cap : Nat) (ts : List Tg) (h : Tgs w D (.slice A ts.length cap) ts) :
    Calls Try.prog 20 #[.agg #[.int .i64 6, .int .u64 (ses : Int), .int .u64 (seq : Int), .slice A ts.length cap, .int .u64 (gid : Int), .int .u64 (tok : Int), .bool good, .int .u64 (time : Int)]] w fun e w' => e = .returned (.bool (Cmd.right ⟨6, ses, seq, .slice A ts.length cap, ts, gid, tok, good, time⟩)) ∧ Keep noneOf w w' := by
  generalize hR : Cmd.right ⟨6, ses, seq, .slice A ts.length cap, ts, gid, tok, good, time⟩ = R
  have HR := Lib.hid hR
  have hx0 := Box.new w 38 #[.int .i64 6, .int .u64 (ses : Int), .int .u64 (seq : Int), .slice A ts.length cap, .int .u64 (gid : Int), .int .u64 (tok : Int), .bool good, .int .u64 (time : Int)]
  have K0 := (Keep.refl noneOf w).alloc (.cells #[.int .i64 6, .int .u64 (ses : Int), .int .u64 (seq : Int), .slice A ts.length cap, .int .u64 (gid : Int), .int .u64 (tok : Int), .bool good, .int .u64 (time : Int)] 38)
  have SH := Lib.hid (short_any _ D _ ts (h.keep K0 (fun _ _ _ => id)))
  have HK0 := Lib.hid K0
  have HX0 := Lib.hid hx0
  clear hR h hx0 K0
  go_enter Try.func20, Try.ntmps20
  go_wp2_with fail
  refine (names_any _ 6).mono ?_
  rintro e w1 ⟨rfl, rfl⟩
  rw [show namesOf 6 = ⟨#[115, 113, 105]⟩ from rfl]
  go_wp2_with fail
  refine SH.out.mono ?_
  rintro e w1 ⟨rfl, k1⟩
  have K1 := HK0.out.trans k1 (fun _ _ h => h)
  have hx1 := HX0.out.keep k1 id
  have c1 : w1.cell? ⟨w.heap.size, 1, none⟩ = some (.int .u64 (ses : Int)) := hx1.cell 1
  have c2 : w1.cell? ⟨w.heap.size, 2, none⟩ = some (.int .u64 (seq : Int)) := hx1.cell 2
  have c3 : w1.cell? ⟨w.heap.size, 3, none⟩ = some (.slice A ts.length cap) := hx1.cell 3
  have c4 : w1.cell? ⟨w.heap.size, 4, none⟩ = some (.int .u64 (gid : Int)) := hx1.cell 4
  have c5 : w1.cell? ⟨w.heap.size, 5, none⟩ = some (.int .u64 (tok : Int)) := hx1.cell 5
  have c6 : w1.cell? ⟨w.heap.size, 6, none⟩ = some (.bool good) := hx1.cell 6
  have c7 : w1.cell? ⟨w.heap.size, 7, none⟩ = some (.int .u64 (time : Int)) := hx1.cell 7
  have HK1 := Lib.hid K1
  clear SH HK0 HX0 k1 hx1 K1
  cases hq : gFits ts with
  | false =>
    have hR : R = false := by rw [← HR.out]; unfold Cmd.right; simp [hq]
    subst hR
    clear hq
    go_wp2
    go_ret
    exact ⟨rfl, HK1.out⟩
  | true =>
    have HQ := Lib.hid hq
    clear hq
    go_wp2_with fail
    refine (has_any _ _ 115 (by decide)).mono ?_
    rintro e w2 ⟨rfl, rfl⟩
    rw [show hasB ⟨#[115, 113, 105]⟩ 115 = true from rfl]
    go_wp2_with fail
    refine (has_any _ _ 113 (by decide)).mono ?_
    rintro e w2 ⟨rfl, rfl⟩
    rw [show hasB ⟨#[115, 113, 105]⟩ 113 = true from rfl]
    go_wp2_with fail
    refine (has_any _ _ 103 (by decide)).mono ?_
    rintro e w2 ⟨rfl, rfl⟩
    rw [show hasB ⟨#[115, 113, 105]⟩ 103 = false from rfl]
    go_wp2_with fail
    refine (has_any _ _ 105 (by decide)).mono ?_
    rintro e w2 ⟨rfl, rfl⟩
    rw [show hasB ⟨#[115, 113, 105]⟩ 105 = true from rfl]
    go_wp2_with fail
    refine (has_any _ _ 116 (by decide)).mono ?_
    rintro e w2 ⟨rfl, rfl⟩
    rw [show hasB ⟨#[115, 113, 105]⟩ 116 = false from rfl]
    go_wp2_with fail
    refine (has_any _ _ 119 (by decide)).mono ?_
    rintro e w2 ⟨rfl, rfl⟩
    rw [show hasB ⟨#[115, 113, 105]⟩ 119 = false from rfl]
    go_wp2_with fail
    refine (has_any _ _ 109 (by decide)).mono ?_
    rintro e w2 ⟨rfl, rfl⟩
    rw [show hasB ⟨#[115, 113, 105]⟩ 109 = false from rfl]
    go_wp2
    all_goals
      go_ret
      refine ⟨ret_bool ?_, HK1.out⟩
      rw [← HR.out]
      have hq := HQ.out
      clear HR HK1 HQ c1 c2 c3 c4 c5 c6 c7
      simp_all [Cmd.right, known, fSes, fSeq, fGra, fId, fTok, fGood, fTime, nat_beq0]

set_option maxRecDepth 100000 in
set_option maxHeartbeats 2000000 in
theorem refRight_7 (w : World) (D : Nat → Prop) (ses seq gid tok time : Nat) (good : Bool) (A : Option Addr) (cap : Nat) (ts : List Tg) (h : Tgs w D (.slice A ts.length cap) ts) :
    Calls Try.prog 20 #[.agg #[.int .i64 7, .int .u64 (ses : Int), .int .u64 (seq : Int), .slice A ts.length cap, .int .u64 (gid : Int), .int .u64 (tok : Int), .bool good, .int .u64 (time : Int)]] w fun e w' => e = .returned (.bool (Cmd.right ⟨7, ses, seq, .slice A ts.length cap, ts, gid, tok, good, time⟩)) ∧ Keep noneOf w w' := by
  generalize hR : Cmd.right ⟨7, ses, seq, .slice A ts.length cap, ts, gid, tok, good, time⟩ = R
  have HR := Lib.hid hR
  have hx0 := Box.new w 38 #[.int .i64 7, .int .u64 (ses : Int), .int .u64 (seq : Int), .slice A ts.length cap, .int .u64 (gid : Int), .int .u64 (tok : Int), .bool good, .int .u64 (time : Int)]
  have K0 := (Keep.refl noneOf w).alloc (.cells #[.int .i64 7, .int .u64 (ses : Int), .int .u64 (seq : Int), .slice A ts.length cap, .int .u64 (gid : Int), .int .u64 (tok : Int), .bool good, .int .u64 (time : Int)] 38)
  have SH := Lib.hid (short_any _ D _ ts (h.keep K0 (fun _ _ _ => id)))
  have HK0 := Lib.hid K0
  have HX0 := Lib.hid hx0
  clear hR h hx0 K0
  go_enter Try.func20, Try.ntmps20
  go_wp2_with fail
  refine (names_any _ 7).mono ?_
  rintro e w1 ⟨rfl, rfl⟩
  rw [show namesOf 7 = ⟨#[109]⟩ from rfl]
  go_wp2_with fail
  refine SH.out.mono ?_
  rintro e w1 ⟨rfl, k1⟩
  have K1 := HK0.out.trans k1 (fun _ _ h => h)
  have hx1 := HX0.out.keep k1 id
  have c1 : w1.cell? ⟨w.heap.size, 1, none⟩ = some (.int .u64 (ses : Int)) := hx1.cell 1
  have c2 : w1.cell? ⟨w.heap.size, 2, none⟩ = some (.int .u64 (seq : Int)) := hx1.cell 2
  have c3 : w1.cell? ⟨w.heap.size, 3, none⟩ = some (.slice A ts.length cap) := hx1.cell 3
  have c4 : w1.cell? ⟨w.heap.size, 4, none⟩ = some (.int .u64 (gid : Int)) := hx1.cell 4
  have c5 : w1.cell? ⟨w.heap.size, 5, none⟩ = some (.int .u64 (tok : Int)) := hx1.cell 5
  have c6 : w1.cell? ⟨w.heap.size, 6, none⟩ = some (.bool good) := hx1.cell 6
  have c7 : w1.cell? ⟨w.heap.size, 7, none⟩ = some (.int .u64 (time : Int)) := hx1.cell 7
  have HK1 := Lib.hid K1
  clear SH HK0 HX0 k1 hx1 K1
  cases hq : gFits ts with
  | false =>
    have hR : R = false := by rw [← HR.out]; unfold Cmd.right; simp [hq]
    subst hR
    clear hq
    go_wp2
    go_ret
    exact ⟨rfl, HK1.out⟩
  | true =>
    have HQ := Lib.hid hq
    clear hq
    go_wp2_with fail
    refine (has_any _ _ 115 (by decide)).mono ?_
    rintro e w2 ⟨rfl, rfl⟩
    rw [show hasB ⟨#[109]⟩ 115 = false from rfl]
    go_wp2_with fail
    refine (has_any _ _ 113 (by decide)).mono ?_
    rintro e w2 ⟨rfl, rfl⟩
    rw [show hasB ⟨#[109]⟩ 113 = false from rfl]
    go_wp2_with fail
    refine (has_any _ _ 103 (by decide)).mono ?_
    rintro e w2 ⟨rfl, rfl⟩
    rw [show hasB ⟨#[109]⟩ 103 = false from rfl]
    go_wp2_with fail
    refine (has_any _ _ 105 (by decide)).mono ?_
    rintro e w2 ⟨rfl, rfl⟩
    rw [show hasB ⟨#[109]⟩ 105 = false from rfl]
    go_wp2_with fail
    refine (has_any _ _ 116 (by decide)).mono ?_
    rintro e w2 ⟨rfl, rfl⟩
    rw [show hasB ⟨#[109]⟩ 116 = false from rfl]
    go_wp2_with fail
    refine (has_any _ _ 119 (by decide)).mono ?_
    rintro e w2 ⟨rfl, rfl⟩
    rw [show hasB ⟨#[109]⟩ 119 = false from rfl]
    go_wp2_with fail
    refine (has_any _ _ 109 (by decide)).mono ?_
    rintro e w2 ⟨rfl, rfl⟩
    rw [show hasB ⟨#[109]⟩ 109 = true from rfl]
    go_wp2
    all_goals
      go_ret
      refine ⟨ret_bool ?_, HK1.out⟩
      rw [← HR.out]
      have hq := HQ.out
      clear HR HK1 HQ c1 c2 c3 c4 c5 c6 c7
      simp_all [Cmd.right, known, fSes, fSeq, fGra, fId, fTok, fGood, fTime]

set_option maxRecDepth 100000 in
set_option maxHeartbeats 2000000 in
theorem refRight_none (k : Int) (hk : k < 1 ∨ 7 < k) (w : World) (D : Nat → Prop) (ses seq gid tok time : Nat) (good : Bool) (A : Option Addr) (cap : Nat) (ts : List Tg) (h : Tgs w D (.slice A ts.length cap) ts) :
    Calls Try.prog 20 #[.agg #[.int .i64 k, .int .u64 (ses : Int), .int .u64 (seq : Int), .slice A ts.length cap, .int .u64 (gid : Int), .int .u64 (tok : Int), .bool good, .int .u64 (time : Int)]] w fun e w' => e = .returned (.bool (Cmd.right ⟨k, ses, seq, .slice A ts.length cap, ts, gid, tok, good, time⟩)) ∧ Keep noneOf w w' := by
  have hR : Cmd.right ⟨k, ses, seq, .slice A ts.length cap, ts, gid, tok, good, time⟩ = false := by unfold Cmd.right known; simp; omega
  rw [hR]
  have K0 := (Keep.refl noneOf w).alloc (.cells #[.int .i64 k, .int .u64 (ses : Int), .int .u64 (seq : Int), .slice A ts.length cap, .int .u64 (gid : Int), .int .u64 (tok : Int), .bool good, .int .u64 (time : Int)] 38)
  have SH := Lib.hid (short_any _ D _ ts (h.keep K0 (fun _ _ _ => id)))
  have HK0 := Lib.hid K0
  have HN := Lib.hid (show namesOf k = ⟨#[]⟩ by unfold namesOf; rw [if_neg (by omega), if_neg (by omega), if_neg (by omega), if_neg (by omega), if_neg (by omega), if_neg (by omega), if_neg (by omega)])
  clear hR h hk K0
  go_enter Try.func20, Try.ntmps20
  go_wp2_with fail
  refine (names_any _ k).mono ?_
  rintro e w1 ⟨rfl, rfl⟩
  rw [HN.out]
  go_wp2_with fail
  refine SH.out.mono ?_
  rintro e w1 ⟨rfl, k1⟩
  have HK1 := Lib.hid (HK0.out.trans k1 (fun _ _ h => h))
  clear SH HK0 k1
  go_wp2
  go_ret
  exact ⟨rfl, HK1.out⟩

theorem refRight_any (w : World) (D : Nat → Prop) (c : Cmd) (h : Tgs w D c.gv c.ts) :
    Calls Try.prog 20 #[.agg c.cells] w fun e w' => e = .returned (.bool c.right) ∧ Keep noneOf w w' := by
  obtain ⟨k, ses, seq, gv, ts, gid, tok, good, time⟩ := c
  obtain ⟨A, cap, hv, _⟩ := h.1
  simp only at hv h
  subst hv
  rcases (show k = 1 ∨ k = 2 ∨ k = 3 ∨ k = 4 ∨ k = 5 ∨ k = 6 ∨ k = 7 ∨ (k < 1 ∨ 7 < k) from by omega) with rfl | rfl | rfl | rfl | rfl | rfl | rfl | hk
  · exact refRight_1 w D ses seq gid tok time good A cap ts h
  · exact refRight_2 w D ses seq gid tok time good A cap ts h
  · exact refRight_3 w D ses seq gid tok time good A cap ts h
  · exact refRight_4 w D ses seq gid tok time good A cap ts h
  · exact refRight_5 w D ses seq gid tok time good A cap ts h
  · exact refRight_6 w D ses seq gid tok time good A cap ts h
  · exact refRight_7 w D ses seq gid tok time good A cap ts h
  · exact refRight_none k hk w D ses seq gid tok time good A cap ts h
end Go.Proofs.Ytngbminjbgomgaa
