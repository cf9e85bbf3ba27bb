/-
  entry.Right: which commands may be: the whole.
-/
import Derived.Test.YtngbminjbgomgaaRight
import Derived.Deep.Light
namespace Go.Proofs.Ytngbminjbgomgaa
open Go.RowKit

/-- A command, with the value of the slice of its targets. -/
structure Cmd where
  kind : Int
  ses : Nat
  seq : Nat
  gv : Value
  ts : List Tg
  id : Nat
  tok : Nat
  good : Bool
  time : Nat
def Cmd.cells (c : Cmd) : Array Value := #[.int .i64 c.kind, .int .u64 (c.ses : Int), .int .u64 (c.seq : Int), c.gv, .int .u64 (c.id : Int), .int .u64 (c.tok : Int), .bool c.good, .int .u64 (c.time : Int)]
/-- Its numbers are numbers of 64 bits, and its targets lie in memory as they should. -/
structure Cmd.lies (w : World) (D : Nat → Prop) (c : Cmd) : Prop where
  ses : (c.ses : Int) < 18446744073709551616
  seq : (c.seq : Int) < 18446744073709551616
  id : (c.id : Int) < 18446744073709551616
  tok : (c.tok : Int) < 18446744073709551616
  time : (c.time : Int) < 18446744073709551616
  ts : Tgs w D c.gv c.ts

def Cmd.right (c : Cmd) : Bool :=
  known c.kind && (fSes c.kind || decide (c.ses = 0)) && (fSeq c.kind || decide (c.seq = 0)) && (fGra c.kind || decide (c.ts.length = 0)) && (fId c.kind || decide (c.id = 0)) && (fTok c.kind || decide (c.tok = 0)) &&
    (fGood c.kind || !c.good) && (fTime c.kind || decide (c.time = 0)) && gFits c.ts

set_option maxRecDepth 100000 in
set_option maxHeartbeats 2000000 in
theorem right_1 (w : World) (D : Nat → Prop) (ses seq gid tok time : Nat) (good : Bool) (A : Option Addr) (cap : Nat) (ts : List Tg) (h : Tgs w D (.slice A ts.length cap) ts) :
    Calls Try.prog 19 #[.agg #[.int .i64 1, .int .u64 (ses : Int), .int .u64 (seq : Int), .slice A ts.length cap, .int .u64 (gid : Int), .int .u64 (tok : Int), .bool good, .int .u64 (time : Int)]] w
      fun e w' => e = .returned (.bool (Cmd.right ⟨1, ses, seq, .slice A ts.length cap, ts, gid, tok, good, time⟩)) ∧ Keep noneOf w w' := by
  generalize hR : Cmd.right ⟨1, ses, seq, .slice A ts.length cap, ts, gid, tok, good, time⟩ = R
  have HR := Lib.hid hR
  have hx0 := Box.new w 38 #[.int .i64 1, .int .u64 (ses : Int), .int .u64 (seq : Int), .slice A ts.length cap, .int .u64 (gid : Int), .int .u64 (tok : Int), .bool good, .int .u64 (time : Int)]
  have h0 := h.keep ((Keep.refl noneOf w).alloc (.cells #[.int .i64 1, .int .u64 (ses : Int), .int .u64 (seq : Int), .slice A ts.length cap, .int .u64 (gid : Int), .int .u64 (tok : Int), .bool good, .int .u64 (time : Int)] 38)) (fun _ _ _ => id)
  clear hR h
  go_enter Try.func19, Try.ntmps19
  simp only [List.append_eq, List.cons_append, List.nil_append]
  go_wp2_with fail
  refine (fieldsOf_any _ 1).mono ?_
  rintro e w1 ⟨rfl, k1⟩
  rw [show flV 1 = .agg #[.bool true, .bool false, .bool false, .bool false, .bool false, .bool false, .bool false] from rfl, show known 1 = true from rfl]
  have hx1 := hx0.keep k1 id
  have h1 := (h0.keep k1 (fun _ _ _ => id)).keep ((Keep.refl noneOf w1).alloc (.cells #[.bool true, .bool false, .bool false, .bool false, .bool false, .bool false, .bool false] 81)) (fun _ _ _ => id)
  have K1 := Lib.hid ((((Keep.refl noneOf w).alloc _).trans k1 (fun _ _ h => h)).alloc (.cells #[.bool true, .bool false, .bool false, .bool false, .bool false, .bool false, .bool false] 81))
  have c1 : w1.cell? ⟨w.heap.size, 1, none⟩ = some (.int .u64 (ses : Int)) := hx1.cell 1
  have c2 : w1.cell? ⟨w.heap.size, 2, none⟩ = some (.int .u64 (seq : Int)) := hx1.cell 2
  have c3 : w1.cell? ⟨w.heap.size, 3, none⟩ = some (.slice A ts.length cap) := hx1.cell 3
  have c4 : w1.cell? ⟨w.heap.size, 4, none⟩ = some (.int .u64 (gid : Int)) := hx1.cell 4
  have c5 : w1.cell? ⟨w.heap.size, 5, none⟩ = some (.int .u64 (tok : Int)) := hx1.cell 5
  have c6 : w1.cell? ⟨w.heap.size, 6, none⟩ = some (.bool good) := hx1.cell 6
  have c7 : w1.cell? ⟨w.heap.size, 7, none⟩ = some (.int .u64 (time : Int)) := hx1.cell 7
  have hlt := hx1.lt
  have FT := Lib.hid (fits_any _ D _ ts h1)
  clear hx0 h0 k1 hx1 h1
  go_wp2_with fail
  all_goals first
    | (go_ret
       refine ⟨ret_bool ?_, K1.out⟩
       rw [← HR.out]
       clear HR K1 FT c1 c2 c3 c4 c5 c6 c7 hlt
       go_light
       simp_all [Cmd.right, known, fSes, fSeq, fGra, fId, fTok, fGood, fTime])
    | ((try (obtain rfl : ts = [] := by assumption))
       refine FT.out.mono ?_
       rintro e w2 ⟨rfl, k2⟩
       have K2 := K1.out.trans k2 (fun _ _ h => h)
       clear c1 c2 c3 c4 c5 c6 c7 K1 k2 FT
       go_wp2
       go_ret
       refine ⟨ret_bool ?_, K2⟩
       rw [← HR.out]
       clear HR K2 hlt
       go_light
       simp_all [Cmd.right, known, fSes, fSeq, fGra, fId, fTok, fGood, fTime])

set_option maxRecDepth 100000 in
set_option maxHeartbeats 2000000 in
theorem right_2 (w : World) (D : Nat → Prop) (ses seq gid tok time : Nat) (good : Bool) (A : Option Addr) (cap : Nat) (ts : List Tg) (h : Tgs w D (.slice A ts.length cap) ts) :
    Calls Try.prog 19 #[.agg #[.int .i64 2, .int .u64 (ses : Int), .int .u64 (seq : Int), .slice A ts.length cap, .int .u64 (gid : Int), .int .u64 (tok : Int), .bool good, .int .u64 (time : Int)]] w
      fun e w' => e = .returned (.bool (Cmd.right ⟨2, ses, seq, .slice A ts.length cap, ts, gid, tok, good, time⟩)) ∧ Keep noneOf w w' := by
  generalize hR : Cmd.right ⟨2, ses, seq, .slice A ts.length cap, ts, gid, tok, good, time⟩ = R
  have HR := Lib.hid hR
  have hx0 := Box.new w 38 #[.int .i64 2, .int .u64 (ses : Int), .int .u64 (seq : Int), .slice A ts.length cap, .int .u64 (gid : Int), .int .u64 (tok : Int), .bool good, .int .u64 (time : Int)]
  have h0 := h.keep ((Keep.refl noneOf w).alloc (.cells #[.int .i64 2, .int .u64 (ses : Int), .int .u64 (seq : Int), .slice A ts.length cap, .int .u64 (gid : Int), .int .u64 (tok : Int), .bool good, .int .u64 (time : Int)] 38)) (fun _ _ _ => id)
  clear hR h
  go_enter Try.func19, Try.ntmps19
  simp only [List.append_eq, List.cons_append, List.nil_append]
  go_wp2_with fail
  refine (fieldsOf_any _ 2).mono ?_
  rintro e w1 ⟨rfl, k1⟩
  rw [show flV 2 = .agg #[.bool true, .bool true, .bool true, .bool false, .bool false, .bool false, .bool false] from rfl, show known 2 = true from rfl]
  have hx1 := hx0.keep k1 id
  have h1 := (h0.keep k1 (fun _ _ _ => id)).keep ((Keep.refl noneOf w1).alloc (.cells #[.bool true, .bool true, .bool true, .bool false, .bool false, .bool false, .bool false] 81)) (fun _ _ _ => id)
  have K1 := Lib.hid ((((Keep.refl noneOf w).alloc _).trans k1 (fun _ _ h => h)).alloc (.cells #[.bool true, .bool true, .bool true, .bool false, .bool false, .bool false, .bool false] 81))
  have c1 : w1.cell? ⟨w.heap.size, 1, none⟩ = some (.int .u64 (ses : Int)) := hx1.cell 1
  have c2 : w1.cell? ⟨w.heap.size, 2, none⟩ = some (.int .u64 (seq : Int)) := hx1.cell 2
  have c3 : w1.cell? ⟨w.heap.size, 3, none⟩ = some (.slice A ts.length cap) := hx1.cell 3
  have c4 : w1.cell? ⟨w.heap.size, 4, none⟩ = some (.int .u64 (gid : Int)) := hx1.cell 4
  have c5 : w1.cell? ⟨w.heap.size, 5, none⟩ = some (.int .u64 (tok : Int)) := hx1.cell 5
  have c6 : w1.cell? ⟨w.heap.size, 6, none⟩ = some (.bool good) := hx1.cell 6
  have c7 : w1.cell? ⟨w.heap.size, 7, none⟩ = some (.int .u64 (time : Int)) := hx1.cell 7
  have hlt := hx1.lt
  have FT := Lib.hid (fits_any _ D _ ts h1)
  clear hx0 h0 k1 hx1 h1
  go_wp2_with fail
  all_goals first
    | (go_ret
       refine ⟨ret_bool ?_, K1.out⟩
       rw [← HR.out]
       clear HR K1 FT c1 c2 c3 c4 c5 c6 c7 hlt
       go_light
       simp_all [Cmd.right, known, fSes, fSeq, fGra, fId, fTok, fGood, fTime])
    | (refine FT.out.mono ?_
       rintro e w2 ⟨rfl, k2⟩
       have K2 := K1.out.trans k2 (fun _ _ h => h)
       clear c1 c2 c3 c4 c5 c6 c7 K1 k2 FT
       go_wp2
       go_ret
       refine ⟨ret_bool ?_, K2⟩
       rw [← HR.out]
       clear HR K2 hlt
       go_light
       simp_all [Cmd.right, known, fSes, fSeq, fGra, fId, fTok, fGood, fTime])

set_option maxRecDepth 100000 in
set_option maxHeartbeats 2000000 in
theorem right_3 (w : World) (D : Nat → Prop) (ses seq gid tok time : Nat) (good : Bool) (A : Option Addr) (cap : Nat) (ts : List Tg) (h : Tgs w D (.slice A ts.length cap) ts) :
    Calls Try.prog 19 #[.agg #[.int .i64 3, .int .u64 (ses : Int), .int .u64 (seq : Int), .slice A ts.length cap, .int .u64 (gid : Int), .int .u64 (tok : Int), .bool good, .int .u64 (time : Int)]] w
      fun e w' => e = .returned (.bool (Cmd.right ⟨3, ses, seq, .slice A ts.length cap, ts, gid, tok, good, time⟩)) ∧ Keep noneOf w w' := by
  generalize hR : Cmd.right ⟨3, ses, seq, .slice A ts.length cap, ts, gid, tok, good, time⟩ = R
  have HR := Lib.hid hR
  have hx0 := Box.new w 38 #[.int .i64 3, .int .u64 (ses : Int), .int .u64 (seq : Int), .slice A ts.length cap, .int .u64 (gid : Int), .int .u64 (tok : Int), .bool good, .int .u64 (time : Int)]
  have h0 := h.keep ((Keep.refl noneOf w).alloc (.cells #[.int .i64 3, .int .u64 (ses : Int), .int .u64 (seq : Int), .slice A ts.length cap, .int .u64 (gid : Int), .int .u64 (tok : Int), .bool good, .int .u64 (time : Int)] 38)) (fun _ _ _ => id)
  clear hR h
  go_enter Try.func19, Try.ntmps19
  simp only [List.append_eq, List.cons_append, List.nil_append]
  go_wp2_with fail
  refine (fieldsOf_any _ 3).mono ?_
  rintro e w1 ⟨rfl, k1⟩
  rw [show flV 3 = .agg #[.bool true, .bool true, .bool false, .bool false, .bool false, .bool false, .bool false] from rfl, show known 3 = true from rfl]
  have hx1 := hx0.keep k1 id
  have h1 := (h0.keep k1 (fun _ _ _ => id)).keep ((Keep.refl noneOf w1).alloc (.cells #[.bool true, .bool true, .bool false, .bool false, .bool false, .bool false, .bool false] 81)) (fun _ _ _ => id)
  have K1 := Lib.hid ((((Keep.refl noneOf w).alloc _).trans k1 (fun _ _ h => h)).alloc (.cells #[.bool true, .bool true, .bool false, .bool false, .bool false, .bool false, .bool false] 81))
  have c1 : w1.cell? ⟨w.heap.size, 1, none⟩ = some (.int .u64 (ses : Int)) := hx1.cell 1
  have c2 : w1.cell? ⟨w.heap.size, 2, none⟩ = some (.int .u64 (seq : Int)) := hx1.cell 2
  have c3 : w1.cell? ⟨w.heap.size, 3, none⟩ = some (.slice A ts.length cap) := hx1.cell 3
  have c4 : w1.cell? ⟨w.heap.size, 4, none⟩ = some (.int .u64 (gid : Int)) := hx1.cell 4
  have c5 : w1.cell? ⟨w.heap.size, 5, none⟩ = some (.int .u64 (tok : Int)) := hx1.cell 5
  have c6 : w1.cell? ⟨w.heap.size, 6, none⟩ = some (.bool good) := hx1.cell 6
  have c7 : w1.cell? ⟨w.heap.size, 7, none⟩ = some (.int .u64 (time : Int)) := hx1.cell 7
  have hlt := hx1.lt
  have FT := Lib.hid (fits_any _ D _ ts h1)
  clear hx0 h0 k1 hx1 h1
  go_wp2_with fail
  all_goals first
    | (go_ret
       refine ⟨ret_bool ?_, K1.out⟩
       rw [← HR.out]
       clear HR K1 FT c1 c2 c3 c4 c5 c6 c7 hlt
       go_light
       simp_all [Cmd.right, known, fSes, fSeq, fGra, fId, fTok, fGood, fTime])
    | ((try (obtain rfl : ts = [] := by assumption))
       refine FT.out.mono ?_
       rintro e w2 ⟨rfl, k2⟩
       have K2 := K1.out.trans k2 (fun _ _ h => h)
       clear c1 c2 c3 c4 c5 c6 c7 K1 k2 FT
       go_wp2
       go_ret
       refine ⟨ret_bool ?_, K2⟩
       rw [← HR.out]
       clear HR K2 hlt
       go_light
       simp_all [Cmd.right, known, fSes, fSeq, fGra, fId, fTok, fGood, fTime])

set_option maxRecDepth 100000 in
set_option maxHeartbeats 2000000 in
theorem right_4 (w : World) (D : Nat → Prop) (ses seq gid tok time : Nat) (good : Bool) (A : Option Addr) (cap : Nat) (ts : List Tg) (h : Tgs w D (.slice A ts.length cap) ts) :
    Calls Try.prog 19 #[.agg #[.int .i64 4, .int .u64 (ses : Int), .int .u64 (seq : Int), .slice A ts.length cap, .int .u64 (gid : Int), .int .u64 (tok : Int), .bool good, .int .u64 (time : Int)]] w
      fun e w' => e = .returned (.bool (Cmd.right ⟨4, ses, seq, .slice A ts.length cap, ts, gid, tok, good, time⟩)) ∧ Keep noneOf w w' := by
  generalize hR : Cmd.right ⟨4, ses, seq, .slice A ts.length cap, ts, gid, tok, good, time⟩ = R
  have HR := Lib.hid hR
  have hx0 := Box.new w 38 #[.int .i64 4, .int .u64 (ses : Int), .int .u64 (seq : Int), .slice A ts.length cap, .int .u64 (gid : Int), .int .u64 (tok : Int), .bool good, .int .u64 (time : Int)]
  have h0 := h.keep ((Keep.refl noneOf w).alloc (.cells #[.int .i64 4, .int .u64 (ses : Int), .int .u64 (seq : Int), .slice A ts.length cap, .int .u64 (gid : Int), .int .u64 (tok : Int), .bool good, .int .u64 (time : Int)] 38)) (fun _ _ _ => id)
  clear hR h
  go_enter Try.func19, Try.ntmps19
  simp only [List.append_eq, List.cons_append, List.nil_append]
  go_wp2_with fail
  refine (fieldsOf_any _ 4).mono ?_
  rintro e w1 ⟨rfl, k1⟩
  rw [show flV 4 = .agg #[.bool true, .bool true, .bool false, .bool false, .bool true, .bool false, .bool false] from rfl, show known 4 = true from rfl]
  have hx1 := hx0.keep k1 id
  have h1 := (h0.keep k1 (fun _ _ _ => id)).keep ((Keep.refl noneOf w1).alloc (.cells #[.bool true, .bool true, .bool false, .bool false, .bool true, .bool false, .bool false] 81)) (fun _ _ _ => id)
  have K1 := Lib.hid ((((Keep.refl noneOf w).alloc _).trans k1 (fun _ _ h => h)).alloc (.cells #[.bool true, .bool true, .bool false, .bool false, .bool true, .bool false, .bool false] 81))
  have c1 : w1.cell? ⟨w.heap.size, 1, none⟩ = some (.int .u64 (ses : Int)) := hx1.cell 1
  have c2 : w1.cell? ⟨w.heap.size, 2, none⟩ = some (.int .u64 (seq : Int)) := hx1.cell 2
  have c3 : w1.cell? ⟨w.heap.size, 3, none⟩ = some (.slice A ts.length cap) := hx1.cell 3
  have c4 : w1.cell? ⟨w.heap.size, 4, none⟩ = some (.int .u64 (gid : Int)) := hx1.cell 4
  have c5 : w1.cell? ⟨w.heap.size, 5, none⟩ = some (.int .u64 (tok : Int)) := hx1.cell 5
  have c6 : w1.cell? ⟨w.heap.size, 6, none⟩ = some (.bool good) := hx1.cell 6
  have c7 : w1.cell? ⟨w.heap.size, 7, none⟩ = some (.int .u64 (time : Int)) := hx1.cell 7
  have hlt := hx1.lt
  have FT := Lib.hid (fits_any _ D _ ts h1)
  clear hx0 h0 k1 hx1 h1
  go_wp2_with fail
  all_goals first
    | (go_ret
       refine ⟨ret_bool ?_, K1.out⟩
       rw [← HR.out]
       clear HR K1 FT c1 c2 c3 c4 c5 c6 c7 hlt
       go_light
       simp_all [Cmd.right, known, fSes, fSeq, fGra, fId, fTok, fGood, fTime])
    | ((try (obtain rfl : ts = [] := by assumption))
       refine FT.out.mono ?_
       rintro e w2 ⟨rfl, k2⟩
       have K2 := K1.out.trans k2 (fun _ _ h => h)
       clear c1 c2 c3 c4 c5 c6 c7 K1 k2 FT
       go_wp2
       go_ret
       refine ⟨ret_bool ?_, K2⟩
       rw [← HR.out]
       clear HR K2 hlt
       go_light
       simp_all [Cmd.right, known, fSes, fSeq, fGra, fId, fTok, fGood, fTime])

set_option maxRecDepth 100000 in
set_option maxHeartbeats 2000000 in
theorem right_5 (w : World) (D : Nat → Prop) (ses seq gid tok time : Nat) (good : Bool) (A : Option Addr) (cap : Nat) (ts : List Tg) (h : Tgs w D (.slice A ts.length cap) ts) :
    Calls Try.prog 19 #[.agg #[.int .i64 5, .int .u64 (ses : Int), .int .u64 (seq : Int), .slice A ts.length cap, .int .u64 (gid : Int), .int .u64 (tok : Int), .bool good, .int .u64 (time : Int)]] w
      fun e w' => e = .returned (.bool (Cmd.right ⟨5, ses, seq, .slice A ts.length cap, ts, gid, tok, good, time⟩)) ∧ Keep noneOf w w' := by
  generalize hR : Cmd.right ⟨5, ses, seq, .slice A ts.length cap, ts, gid, tok, good, time⟩ = R
  have HR := Lib.hid hR
  have hx0 := Box.new w 38 #[.int .i64 5, .int .u64 (ses : Int), .int .u64 (seq : Int), .slice A ts.length cap, .int .u64 (gid : Int), .int .u64 (tok : Int), .bool good, .int .u64 (time : Int)]
  have h0 := h.keep ((Keep.refl noneOf w).alloc (.cells #[.int .i64 5, .int .u64 (ses : Int), .int .u64 (seq : Int), .slice A ts.length cap, .int .u64 (gid : Int), .int .u64 (tok : Int), .bool good, .int .u64 (time : Int)] 38)) (fun _ _ _ => id)
  clear hR h
  go_enter Try.func19, Try.ntmps19
  simp only [List.append_eq, List.cons_append, List.nil_append]
  go_wp2_with fail
  refine (fieldsOf_any _ 5).mono ?_
  rintro e w1 ⟨rfl, k1⟩
  rw [show flV 5 = .agg #[.bool true, .bool true, .bool false, .bool false, .bool true, .bool true, .bool false] from rfl, show known 5 = true from rfl]
  have hx1 := hx0.keep k1 id
  have h1 := (h0.keep k1 (fun _ _ _ => id)).keep ((Keep.refl noneOf w1).alloc (.cells #[.bool true, .bool true, .bool false, .bool false, .bool true, .bool true, .bool false] 81)) (fun _ _ _ => id)
  have K1 := Lib.hid ((((Keep.refl noneOf w).alloc _).trans k1 (fun _ _ h => h)).alloc (.cells #[.bool true, .bool true, .bool false, .bool false, .bool true, .bool true, .bool false] 81))
  have c1 : w1.cell? ⟨w.heap.size, 1, none⟩ = some (.int .u64 (ses : Int)) := hx1.cell 1
  have c2 : w1.cell? ⟨w.heap.size, 2, none⟩ = some (.int .u64 (seq : Int)) := hx1.cell 2
  have c3 : w1.cell? ⟨w.heap.size, 3, none⟩ = some (.slice A ts.length cap) := hx1.cell 3
  have c4 : w1.cell? ⟨w.heap.size, 4, none⟩ = some (.int .u64 (gid : Int)) := hx1.cell 4
  have c5 : w1.cell? ⟨w.heap.size, 5, none⟩ = some (.int .u64 (tok : Int)) := hx1.cell 5
  have c6 : w1.cell? ⟨w.heap.size, 6, none⟩ = some (.bool good) := hx1.cell 6
  have c7 : w1.cell? ⟨w.heap.size, 7, none⟩ = some (.int .u64 (time : Int)) := hx1.cell 7
  have hlt := hx1.lt
  have FT := Lib.hid (fits_any _ D _ ts h1)
  clear hx0 h0 k1 hx1 h1
  go_wp2_with fail
  all_goals first
    | (go_ret
       refine ⟨ret_bool ?_, K1.out⟩
       rw [← HR.out]
       clear HR K1 FT c1 c2 c3 c4 c5 c6 c7 hlt
       go_light
       simp_all [Cmd.right, known, fSes, fSeq, fGra, fId, fTok, fGood, fTime])
    | ((try (obtain rfl : ts = [] := by assumption))
       refine FT.out.mono ?_
       rintro e w2 ⟨rfl, k2⟩
       have K2 := K1.out.trans k2 (fun _ _ h => h)
       clear c1 c2 c3 c4 c5 c6 c7 K1 k2 FT
       go_wp2
       go_ret
       refine ⟨ret_bool ?_, K2⟩
       rw [← HR.out]
       clear HR K2 hlt
       go_light
       simp_all [Cmd.right, known, fSes, fSeq, fGra, fId, fTok, fGood, fTime])

set_option maxRecDepth 100000 in
set_option maxHeartbeats 2000000 in
theorem right_6 (w : World) (D : Nat → Prop) (ses seq gid tok time : Nat) (good : Bool) (A : Option Addr) (cap : Nat) (ts : List Tg) (h : Tgs w D (.slice A ts.length cap) ts) :
    Calls Try.prog 19 #[.agg #[.int .i64 6, .int .u64 (ses : Int), .int .u64 (seq : Int), .slice A ts.length cap, .int .u64 (gid : Int), .int .u64 (tok : Int), .bool good, .int .u64 (time : Int)]] w
      fun e w' => e = .returned (.bool (Cmd.right ⟨6, ses, seq, .slice A ts.length cap, ts, gid, tok, good, time⟩)) ∧ Keep noneOf w w' := by
  generalize hR : Cmd.right ⟨6, ses, seq, .slice A ts.length cap, ts, gid, tok, good, time⟩ = R
  have HR := Lib.hid hR
  have hx0 := Box.new w 38 #[.int .i64 6, .int .u64 (ses : Int), .int .u64 (seq : Int), .slice A ts.length cap, .int .u64 (gid : Int), .int .u64 (tok : Int), .bool good, .int .u64 (time : Int)]
  have h0 := h.keep ((Keep.refl noneOf w).alloc (.cells #[.int .i64 6, .int .u64 (ses : Int), .int .u64 (seq : Int), .slice A ts.length cap, .int .u64 (gid : Int), .int .u64 (tok : Int), .bool good, .int .u64 (time : Int)] 38)) (fun _ _ _ => id)
  clear hR h
  go_enter Try.func19, Try.ntmps19
  simp only [List.append_eq, List.cons_append, List.nil_append]
  go_wp2_with fail
  refine (fieldsOf_any _ 6).mono ?_
  rintro e w1 ⟨rfl, k1⟩
  rw [show flV 6 = .agg #[.bool true, .bool true, .bool false, .bool true, .bool false, .bool false, .bool false] from rfl, show known 6 = true from rfl]
  have hx1 := hx0.keep k1 id
  have h1 := (h0.keep k1 (fun _ _ _ => id)).keep ((Keep.refl noneOf w1).alloc (.cells #[.bool true, .bool true, .bool false, .bool true, .bool false, .bool false, .bool false] 81)) (fun _ _ _ => id)
  have K1 := Lib.hid ((((Keep.refl noneOf w).alloc _).trans k1 (fun _ _ h => h)).alloc (.cells #[.bool true, .bool true, .bool false, .bool true, .bool false, .bool false, .bool false] 81))
  have c1 : w1.cell? ⟨w.heap.size, 1, none⟩ = some (.int .u64 (ses : Int)) := hx1.cell 1
  have c2 : w1.cell? ⟨w.heap.size, 2, none⟩ = some (.int .u64 (seq : Int)) := hx1.cell 2
  have c3 : w1.cell? ⟨w.heap.size, 3, none⟩ = some (.slice A ts.length cap) := hx1.cell 3
  have c4 : w1.cell? ⟨w.heap.size, 4, none⟩ = some (.int .u64 (gid : Int)) := hx1.cell 4
  have c5 : w1.cell? ⟨w.heap.size, 5, none⟩ = some (.int .u64 (tok : Int)) := hx1.cell 5
  have c6 : w1.cell? ⟨w.heap.size, 6, none⟩ = some (.bool good) := hx1.cell 6
  have c7 : w1.cell? ⟨w.heap.size, 7, none⟩ = some (.int .u64 (time : Int)) := hx1.cell 7
  have hlt := hx1.lt
  have FT := Lib.hid (fits_any _ D _ ts h1)
  clear hx0 h0 k1 hx1 h1
  go_wp2_with fail
  all_goals first
    | (go_ret
       refine ⟨ret_bool ?_, K1.out⟩
       rw [← HR.out]
       clear HR K1 FT c1 c2 c3 c4 c5 c6 c7 hlt
       go_light
       simp_all [Cmd.right, known, fSes, fSeq, fGra, fId, fTok, fGood, fTime])
    | ((try (obtain rfl : ts = [] := by assumption))
       refine FT.out.mono ?_
       rintro e w2 ⟨rfl, k2⟩
       have K2 := K1.out.trans k2 (fun _ _ h => h)
       clear c1 c2 c3 c4 c5 c6 c7 K1 k2 FT
       go_wp2
       go_ret
       refine ⟨ret_bool ?_, K2⟩
       rw [← HR.out]
       clear HR K2 hlt
       go_light
       simp_all [Cmd.right, known, fSes, fSeq, fGra, fId, fTok, fGood, fTime])

set_option maxRecDepth 100000 in
set_option maxHeartbeats 2000000 in
theorem right_7 (w : World) (D : Nat → Prop) (ses seq gid tok time : Nat) (good : Bool) (A : Option Addr) (cap : Nat) (ts : List Tg) (h : Tgs w D (.slice A ts.length cap) ts) :
    Calls Try.prog 19 #[.agg #[.int .i64 7, .int .u64 (ses : Int), .int .u64 (seq : Int), .slice A ts.length cap, .int .u64 (gid : Int), .int .u64 (tok : Int), .bool good, .int .u64 (time : Int)]] w
      fun e w' => e = .returned (.bool (Cmd.right ⟨7, ses, seq, .slice A ts.length cap, ts, gid, tok, good, time⟩)) ∧ Keep noneOf w w' := by
  generalize hR : Cmd.right ⟨7, ses, seq, .slice A ts.length cap, ts, gid, tok, good, time⟩ = R
  have HR := Lib.hid hR
  have hx0 := Box.new w 38 #[.int .i64 7, .int .u64 (ses : Int), .int .u64 (seq : Int), .slice A ts.length cap, .int .u64 (gid : Int), .int .u64 (tok : Int), .bool good, .int .u64 (time : Int)]
  have h0 := h.keep ((Keep.refl noneOf w).alloc (.cells #[.int .i64 7, .int .u64 (ses : Int), .int .u64 (seq : Int), .slice A ts.length cap, .int .u64 (gid : Int), .int .u64 (tok : Int), .bool good, .int .u64 (time : Int)] 38)) (fun _ _ _ => id)
  clear hR h
  go_enter Try.func19, Try.ntmps19
  simp only [List.append_eq, List.cons_append, List.nil_append]
  go_wp2_with fail
  refine (fieldsOf_any _ 7).mono ?_
  rintro e w1 ⟨rfl, k1⟩
  rw [show flV 7 = .agg #[.bool false, .bool false, .bool false, .bool false, .bool false, .bool false, .bool true] from rfl, show known 7 = true from rfl]
  have hx1 := hx0.keep k1 id
  have h1 := (h0.keep k1 (fun _ _ _ => id)).keep ((Keep.refl noneOf w1).alloc (.cells #[.bool false, .bool false, .bool false, .bool false, .bool false, .bool false, .bool true] 81)) (fun _ _ _ => id)
  have K1 := Lib.hid ((((Keep.refl noneOf w).alloc _).trans k1 (fun _ _ h => h)).alloc (.cells #[.bool false, .bool false, .bool false, .bool false, .bool false, .bool false, .bool true] 81))
  have c1 : w1.cell? ⟨w.heap.size, 1, none⟩ = some (.int .u64 (ses : Int)) := hx1.cell 1
  have c2 : w1.cell? ⟨w.heap.size, 2, none⟩ = some (.int .u64 (seq : Int)) := hx1.cell 2
  have c3 : w1.cell? ⟨w.heap.size, 3, none⟩ = some (.slice A ts.length cap) := hx1.cell 3
  have c4 : w1.cell? ⟨w.heap.size, 4, none⟩ = some (.int .u64 (gid : Int)) := hx1.cell 4
  have c5 : w1.cell? ⟨w.heap.size, 5, none⟩ = some (.int .u64 (tok : Int)) := hx1.cell 5
  have c6 : w1.cell? ⟨w.heap.size, 6, none⟩ = some (.bool good) := hx1.cell 6
  have c7 : w1.cell? ⟨w.heap.size, 7, none⟩ = some (.int .u64 (time : Int)) := hx1.cell 7
  have hlt := hx1.lt
  have FT := Lib.hid (fits_any _ D _ ts h1)
  clear hx0 h0 k1 hx1 h1
  go_wp2_with fail
  all_goals first
    | (go_ret
       refine ⟨ret_bool ?_, K1.out⟩
       rw [← HR.out]
       clear HR K1 FT c1 c2 c3 c4 c5 c6 c7 hlt
       go_light
       simp_all [Cmd.right, known, fSes, fSeq, fGra, fId, fTok, fGood, fTime])
    | ((try (obtain rfl : ts = [] := by assumption))
       refine FT.out.mono ?_
       rintro e w2 ⟨rfl, k2⟩
       have K2 := K1.out.trans k2 (fun _ _ h => h)
       clear c1 c2 c3 c4 c5 c6 c7 K1 k2 FT
       go_wp2
       go_ret
       refine ⟨ret_bool ?_, K2⟩
       rw [← HR.out]
       clear HR K2 hlt
       go_light
       simp_all [Cmd.right, known, fSes, fSeq, fGra, fId, fTok, fGood, fTime])

theorem unknown_kind (k : Int) (hk : k < 1 ∨ 7 < k) : flV k = .agg #[.bool false, .bool false, .bool false, .bool false, .bool false, .bool false, .bool false] ∧ known k = false := by
  unfold flV fSes fSeq fGra fId fTok fGood fTime known
  simp only [decide_eq_false_iff_not, Value.agg.injEq, Array.mk.injEq, List.cons.injEq, Value.bool.injEq, and_true]
  omega

set_option maxRecDepth 100000 in
set_option maxHeartbeats 2000000 in
theorem right_none (w : World) (k : Int) (hk : k < 1 ∨ 7 < k) (ses seq gid tok time : Nat) (good : Bool) (A : Option Addr) (cap : Nat) (ts : List Tg) :
    Calls Try.prog 19 #[.agg #[.int .i64 k, .int .u64 (ses : Int), .int .u64 (seq : Int), .slice A ts.length cap, .int .u64 (gid : Int), .int .u64 (tok : Int), .bool good, .int .u64 (time : Int)]] w
      fun e w' => e = .returned (.bool (Cmd.right ⟨k, ses, seq, .slice A ts.length cap, ts, gid, tok, good, time⟩)) ∧ Keep noneOf w w' := by
  have HU := Lib.hid (unknown_kind k hk)
  have hR : Cmd.right ⟨k, ses, seq, .slice A ts.length cap, ts, gid, tok, good, time⟩ = false := by unfold Cmd.right; simp [HU.out.2]
  rw [hR]
  clear hR hk
  go_enter Try.func19, Try.ntmps19
  simp only [List.append_eq, List.cons_append, List.nil_append]
  go_wp2_with fail
  refine (fieldsOf_any _ k).mono ?_
  rintro e w1 ⟨rfl, k1⟩
  rw [HU.out.1, HU.out.2]
  have K1 := (((Keep.refl noneOf w).alloc _).trans k1 (fun _ _ h => h)).alloc (.cells #[.bool false, .bool false, .bool false, .bool false, .bool false, .bool false, .bool false] 81)
  clear k1
  go_wp2
  go_ret
  exact ⟨rfl, K1⟩

/-- **entry.Right, of whatever command.** -/
theorem right_any (w : World) (D : Nat → Prop) (c : Cmd) (h : Tgs w D c.gv c.ts) :
    Calls Try.prog 19 #[.agg c.cells] w fun e w' => e = .returned (.bool c.right) ∧ Keep noneOf w w' := by
  obtain ⟨k, ses, seq, gv, ts, gid, tok, good, time⟩ := c
  simp only at h
  have h' := h
  obtain ⟨A, cap, rfl, _⟩ := h'.1
  unfold Cmd.cells
  simp only
  rcases (show k = 1 ∨ k = 2 ∨ k = 3 ∨ k = 4 ∨ k = 5 ∨ k = 6 ∨ k = 7 ∨ (k < 1 ∨ 7 < k) from by omega) with rfl | rfl | rfl | rfl | rfl | rfl | rfl | hk
  · exact right_1 w D ses seq gid tok time good A cap ts h
  · exact right_2 w D ses seq gid tok time good A cap ts h
  · exact right_3 w D ses seq gid tok time good A cap ts h
  · exact right_4 w D ses seq gid tok time good A cap ts h
  · exact right_5 w D ses seq gid tok time good A cap ts h
  · exact right_6 w D ses seq gid tok time good A cap ts h
  · exact right_7 w D ses seq gid tok time good A cap ts h
  · exact right_none w k hk ses seq gid tok time good A cap ts
end Go.Proofs.Ytngbminjbgomgaa
