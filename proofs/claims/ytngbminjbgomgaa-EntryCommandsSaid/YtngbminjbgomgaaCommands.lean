/-
  Proved: dockyardlaw04.EntryCommands answers true for every input that can be read, and leaves its arguments as they were. No conditions.
-/
import Derived.Test.YtngbminjbgomgaaRefReadCmd
import Derived.Test.YtngbminjbgomgaaSameCmd
namespace Go.Proofs.Ytngbminjbgomgaa
open Go.ChangeShapes Go.WideShapes Go.ChangeAt Go.RowKit

theorem same_self (x y : Cmd) (h : x.pc = y.pc) : x.same y = true := by
  obtain ⟨k, ses, seq, gv, ts, gid, tok, good, time⟩ := x
  obtain ⟨k', ses', seq', gv', ts', gid', tok', good', time'⟩ := y
  simp only [Cmd.pc, PC.mk.injEq] at h
  rw [Cmd.same_iff]
  exact ⟨h.2.2.2.1, h.1, h.2.1, h.2.2.1, h.2.2.2.2.1, h.2.2.2.2.2.1, h.2.2.2.2.2.2.1, h.2.2.2.2.2.2.2⟩

set_option maxRecDepth 100000 in
set_option maxHeartbeats 8000000 in
theorem commands_walk (w : World) (k : Int) (ses seq gid tok time : Nat) (good : Bool) (A : Option Addr) (cap : Nat) (ts : List Tg) (hc : Cmd.lies w (fun _ => True) ⟨k, ses, seq, .slice A ts.length cap, ts, gid, tok, good, time⟩)
    (bA : Option Addr) (bc : Nat) (bs : List UInt8) (hb : Bytes w (fun _ => True) (.slice bA bs.length bc) bs) (hl : bs.length ≤ lim) :
    Calls Try.prog 4 #[.agg #[.int .i64 k, .int .u64 (ses : Int), .int .u64 (seq : Int), .slice A ts.length cap, .int .u64 (gid : Int), .int .u64 (tok : Int), .bool good, .int .u64 (time : Int)], .slice bA bs.length bc] w fun e w' => e = .returned (.bool true) ∧ Keep noneOf w w' := by
  obtain ⟨es, xs, hans⟩ := cmdAns_some ⟨k, ses, seq, .slice A ts.length cap, ts, gid, tok, good, time⟩
  obtain ⟨d, er, hrd⟩ := rdAns_some bs
  have hlk : ∀ w', Keep noneOf w w' → Cmd.lies w' (fun _ => True) ⟨k, ses, seq, .slice A ts.length cap, ts, gid, tok, good, time⟩ := fun w' k' => ⟨hc.ses, hc.seq, hc.id, hc.tok, hc.time, hc.ts.keep k' (fun _ _ _ => id)⟩
  have C1 : Hid (∀ w', Keep noneOf w w' → Calls Try.prog 15 #[.agg #[.int .i64 k, .int .u64 (ses : Int), .int .u64 (seq : Int), .slice A ts.length cap, .int .u64 (gid : Int), .int .u64 (tok : Int), .bool good, .int .u64 (time : Int)]] w' (Answer2 w' es xs)) := Lib.hid fun w' k' => (command_any w' (fun _ => True) _ (hlk w' k')).mono fun _ _ h => command2 h hans
  have C2 : Hid (∀ w', Keep noneOf w w' → Calls Try.prog 16 #[.agg #[.int .i64 k, .int .u64 (ses : Int), .int .u64 (seq : Int), .slice A ts.length cap, .int .u64 (gid : Int), .int .u64 (tok : Int), .bool good, .int .u64 (time : Int)]] w' (Answer2 w' es xs)) := Lib.hid fun w' k' => (refCommand_any w' (fun _ => True) _ (hlk w' k')).mono fun _ _ h => command2 h hans
  have C3 : Hid (∀ w', Keep noneOf w w' → Calls Try.prog 17 #[.slice bA bs.length bc] w' (Read2 w' d er)) := Lib.hid fun w' k' => read2 w' _ _ bs d er (hb.keep k' (fun _ _ _ => id)) hl hrd
  have C4 : Hid (∀ w', Keep noneOf w w' → Calls Try.prog 18 #[.slice bA bs.length bc] w' (Read2 w' d er)) := Lib.hid fun w' k' => refReadCommand_any w' _ _ bs d er (hb.keep k' (fun _ _ _ => id)) hl hrd
  have C5 : Hid (∀ w', Keep noneOf w w' → Calls Try.prog 19 #[.agg #[.int .i64 k, .int .u64 (ses : Int), .int .u64 (seq : Int), .slice A ts.length cap, .int .u64 (gid : Int), .int .u64 (tok : Int), .bool good, .int .u64 (time : Int)]] w' fun e w'' => e = .returned (.bool (Cmd.right ⟨k, ses, seq, .slice A ts.length cap, ts, gid, tok, good, time⟩)) ∧ Keep noneOf w' w'') := Lib.hid fun w' k' => right_any w' (fun _ => True) _ (hlk w' k').ts
  have C6 : Hid (∀ w', Keep noneOf w w' → Calls Try.prog 20 #[.agg #[.int .i64 k, .int .u64 (ses : Int), .int .u64 (seq : Int), .slice A ts.length cap, .int .u64 (gid : Int), .int .u64 (tok : Int), .bool good, .int .u64 (time : Int)]] w' fun e w'' => e = .returned (.bool (Cmd.right ⟨k, ses, seq, .slice A ts.length cap, ts, gid, tok, good, time⟩)) ∧ Keep noneOf w' w'') := Lib.hid fun w' k' => refRight_any w' (fun _ => True) _ (hlk w' k').ts
  have HX0 := Lib.hid (Box.new w 38 #[.int .i64 k, .int .u64 (ses : Int), .int .u64 (seq : Int), .slice A ts.length cap, .int .u64 (gid : Int), .int .u64 (tok : Int), .bool good, .int .u64 (time : Int)])
  have HK0 := Lib.hid ((Keep.refl noneOf w).alloc (.cells #[.int .i64 k, .int .u64 (ses : Int), .int .u64 (seq : Int), .slice A ts.length cap, .int .u64 (gid : Int), .int .u64 (tok : Int), .bool good, .int .u64 (time : Int)] 38))
  generalize Cmd.right ⟨k, ses, seq, .slice A ts.length cap, ts, gid, tok, good, time⟩ = rg at *
  clear hc hb hl hans hrd hlk
  go_enter Try.func4, Try.ntmps4
  go_wp2_with fail
  refine (C1.out _ HK0.out).mono ?_
  rintro e w1 ⟨k1, A1, c1, rfl, b1⟩
  have X1 := HX0.out.keep k1 id
  have a0 : w1.cell? ⟨w.heap.size, 0, none⟩ = some (.int .i64 k) := X1.cell 0
  have a1 : w1.cell? ⟨w.heap.size, 1, none⟩ = some (.int .u64 (ses : Int)) := X1.cell 1
  have a2 : w1.cell? ⟨w.heap.size, 2, none⟩ = some (.int .u64 (seq : Int)) := X1.cell 2
  have a3 : w1.cell? ⟨w.heap.size, 3, none⟩ = some (.slice A ts.length cap) := X1.cell 3
  have a4 : w1.cell? ⟨w.heap.size, 4, none⟩ = some (.int .u64 (gid : Int)) := X1.cell 4
  have a5 : w1.cell? ⟨w.heap.size, 5, none⟩ = some (.int .u64 (tok : Int)) := X1.cell 5
  have a6 : w1.cell? ⟨w.heap.size, 6, none⟩ = some (.bool good) := X1.cell 6
  have a7 : w1.cell? ⟨w.heap.size, 7, none⟩ = some (.int .u64 (time : Int)) := X1.cell 7
  have HK1 := Lib.hid (HK0.out.trans k1 (fun _ _ h => h))
  have HX1 := Lib.hid X1
  have HB1 := Lib.hid b1
  clear X1 b1 k1 HX0 HK0 C1
  go_wp2_with fail
  refine (C2.out _ HK1.out).mono ?_
  rintro e w2 ⟨k2, A2, c2, rfl, b2⟩
  have HK2 := Lib.hid (HK1.out.trans k2 (fun _ _ h => h))
  have HX2 := Lib.hid (HX1.out.keep k2 id)
  have HB2 := Lib.hid (HB1.out.keep k2 (fun _ _ _ => id))
  have HY2 := Lib.hid b2
  clear a0 a1 a2 a3 a4 a5 a6 a7 b2 k2 HX1 HK1 HB1 C2
  go_wp2_with fail
  refine (C3.out _ HK2.out).mono ?_
  rintro e w3 ⟨k3, oA, oc, ots, rfl, t3, p3⟩
  have ka := (Keep.refl noneOf w3).alloc (.cells #[.int .i64 d.kind, .int .u64 (d.ses : Int), .int .u64 (d.seq : Int), .slice oA (List.length ots) oc, .int .u64 (d.id : Int), .int .u64 (d.tok : Int), .bool d.good, .int .u64 (d.time : Int)] 38)
  have k34 := k3.trans ka (fun _ _ h => h)
  have HK4 := Lib.hid (HK2.out.trans k34 (fun _ _ h => h))
  have HX4 := Lib.hid (HX2.out.keep k34 id)
  have HB4 := Lib.hid (HB2.out.keep k34 (fun _ _ _ => id))
  have HY4 := Lib.hid (HY2.out.keep k34 (fun _ _ _ => id))
  have HO4 := Lib.hid (Box.new w3 38 #[.int .i64 d.kind, .int .u64 (d.ses : Int), .int .u64 (d.seq : Int), .slice oA (List.length ots) oc, .int .u64 (d.id : Int), .int .u64 (d.tok : Int), .bool d.good, .int .u64 (d.time : Int)])
  have HOT4 := Lib.hid (t3.keep ka (fun _ _ _ => id))
  have HOP := Lib.hid p3
  clear t3 p3 ka k34 k3 HK2 HX2 HB2 HY2 C3
  go_wp2_with fail
  refine (C4.out _ HK4.out).mono ?_
  rintro e w5 ⟨k5, pA, pc, pts, rfl, t5, p5⟩
  have ka := (Keep.refl noneOf w5).alloc (.cells #[.int .i64 d.kind, .int .u64 (d.ses : Int), .int .u64 (d.seq : Int), .slice pA (List.length pts) pc, .int .u64 (d.id : Int), .int .u64 (d.tok : Int), .bool d.good, .int .u64 (d.time : Int)] 38)
  have k56 := k5.trans ka (fun _ _ h => h)
  have K6 := HK4.out.trans k56 (fun _ _ h => h)
  have HK6 := Lib.hid K6
  have HC6 := Lib.hid (HX4.out.keep k56 id)
  have HX6 := Lib.hid (HB4.out.keep k56 (fun _ _ _ => id))
  have HY6 := Lib.hid (HY4.out.keep k56 (fun _ _ _ => id))
  have HO6 := Lib.hid (HO4.out.keep k56 id)
  have HP6 := Lib.hid (Box.new w5 38 #[.int .i64 d.kind, .int .u64 (d.ses : Int), .int .u64 (d.seq : Int), .slice pA (List.length pts) pc, .int .u64 (d.id : Int), .int .u64 (d.tok : Int), .bool d.good, .int .u64 (d.time : Int)])
  have OT6 := HOT4.out.keep k56 (fun _ _ _ => id)
  have PT6 := t5.keep ka (fun _ _ _ => id)
  have hsame : Cmd.same ⟨d.kind, d.ses, d.seq, .slice oA (List.length ots) oc, ots, d.id, d.tok, d.good, d.time⟩ ⟨d.kind, d.ses, d.seq, .slice pA (List.length pts) pc, pts, d.id, d.tok, d.good, d.time⟩ = true := same_self _ _ (by unfold Cmd.pc; simp only [HOP.out, p5])
  clear p5 k56 k5 HX4 HB4 HY4 HO4 HOT4 HK4 C4 HOP
  generalize hw6 : w5.alloc (.cells #[.int .i64 d.kind, .int .u64 (d.ses : Int), .int .u64 (d.seq : Int), .slice pA (List.length pts) pc, .int .u64 (d.id : Int), .int .u64 (d.tok : Int), .bool d.good, .int .u64 (d.time : Int)] 38) = w6 at *
  have HW6 := Lib.hid hw6
  have SC : Hid (∀ w', Keep noneOf w6 w' → Calls Try.prog 21 #[.agg #[.int .i64 d.kind, .int .u64 (d.ses : Int), .int .u64 (d.seq : Int), .slice oA (List.length ots) oc, .int .u64 (d.id : Int), .int .u64 (d.tok : Int), .bool d.good, .int .u64 (d.time : Int)], .agg #[.int .i64 d.kind, .int .u64 (d.ses : Int), .int .u64 (d.seq : Int), .slice pA (List.length pts) pc, .int .u64 (d.id : Int), .int .u64 (d.tok : Int), .bool d.good, .int .u64 (d.time : Int)]] w' fun e w'' => e = .returned (.bool true) ∧ Keep noneOf w' w'') := Lib.hid fun w' k' => by
    have := sameCommand_any w' (fun _ => True) (fun _ => True) ⟨d.kind, d.ses, d.seq, .slice oA (List.length ots) oc, ots, d.id, d.tok, d.good, d.time⟩ ⟨d.kind, d.ses, d.seq, .slice pA (List.length pts) pc, pts, d.id, d.tok, d.good, d.time⟩ (OT6.keep k' (fun _ _ _ => id)) (PT6.keep k' (fun _ _ _ => id))
    rw [hsame] at this
    exact this
  have AL : Hid (∀ w', Keep noneOf w6 w' → Calls Try.prog 13 #[] w' fun e w'' => e = .returned (.bool true) ∧ Keep noneOf w' w'') := Lib.hid fun w' _ => alive_any w'
  have R5 : Hid (∀ w', Keep noneOf w6 w' → Calls Try.prog 19 #[.agg #[.int .i64 k, .int .u64 (ses : Int), .int .u64 (seq : Int), .slice A ts.length cap, .int .u64 (gid : Int), .int .u64 (tok : Int), .bool good, .int .u64 (time : Int)]] w' fun e w'' => e = .returned (.bool rg) ∧ Keep noneOf w' w'') := Lib.hid fun w' k' => C5.out w' (K6.trans k' (fun _ _ h => h))
  have R6 : Hid (∀ w', Keep noneOf w6 w' → Calls Try.prog 20 #[.agg #[.int .i64 k, .int .u64 (ses : Int), .int .u64 (seq : Int), .slice A ts.length cap, .int .u64 (gid : Int), .int .u64 (tok : Int), .bool good, .int .u64 (time : Int)]] w' fun e w'' => e = .returned (.bool rg) ∧ Keep noneOf w' w'') := Lib.hid fun w' k' => C6.out w' (K6.trans k' (fun _ _ h => h))
  have MK : Hid (∀ w', Keep noneOf w6 w' → (convert 23 9 (.slice A1 xs.length c1)).run Try.prog w' = .ok (.string (strOf xs)) w' ∧ (convert 23 9 (.slice A2 xs.length c2)).run Try.prog w' = .ok (.string (strOf xs)) w' ∧ w'.cell? ⟨w.heap.size, 0, none⟩ = some (.int .i64 k) ∧ w'.cell? ⟨w.heap.size, 1, none⟩ = some (.int .u64 (ses : Int)) ∧ w'.cell? ⟨w.heap.size, 2, none⟩ = some (.int .u64 (seq : Int)) ∧ w'.cell? ⟨w.heap.size, 3, none⟩ = some (.slice A ts.length cap) ∧ w'.cell? ⟨w.heap.size, 4, none⟩ = some (.int .u64 (gid : Int)) ∧ w'.cell? ⟨w.heap.size, 5, none⟩ = some (.int .u64 (tok : Int)) ∧ w'.cell? ⟨w.heap.size, 6, none⟩ = some (.bool good) ∧ w'.cell? ⟨w.heap.size, 7, none⟩ = some (.int .u64 (time : Int)) ∧ w'.cell? ⟨w3.heap.size, 0, none⟩ = some (.int .i64 d.kind) ∧ w'.cell? ⟨w3.heap.size, 1, none⟩ = some (.int .u64 (d.ses : Int)) ∧ w'.cell? ⟨w3.heap.size, 2, none⟩ = some (.int .u64 (d.seq : Int)) ∧ w'.cell? ⟨w3.heap.size, 3, none⟩ = some (.slice oA (List.length ots) oc) ∧ w'.cell? ⟨w3.heap.size, 4, none⟩ = some (.int .u64 (d.id : Int)) ∧ w'.cell? ⟨w3.heap.size, 5, none⟩ = some (.int .u64 (d.tok : Int)) ∧ w'.cell? ⟨w3.heap.size, 6, none⟩ = some (.bool d.good) ∧ w'.cell? ⟨w3.heap.size, 7, none⟩ = some (.int .u64 (d.time : Int)) ∧ w'.cell? ⟨w5.heap.size, 0, none⟩ = some (.int .i64 d.kind) ∧ w'.cell? ⟨w5.heap.size, 1, none⟩ = some (.int .u64 (d.ses : Int)) ∧ w'.cell? ⟨w5.heap.size, 2, none⟩ = some (.int .u64 (d.seq : Int)) ∧ w'.cell? ⟨w5.heap.size, 3, none⟩ = some (.slice pA (List.length pts) pc) ∧ w'.cell? ⟨w5.heap.size, 4, none⟩ = some (.int .u64 (d.id : Int)) ∧ w'.cell? ⟨w5.heap.size, 5, none⟩ = some (.int .u64 (d.tok : Int)) ∧ w'.cell? ⟨w5.heap.size, 6, none⟩ = some (.bool d.good) ∧ w'.cell? ⟨w5.heap.size, 7, none⟩ = some (.int .u64 (d.time : Int))) := Lib.hid fun w' k => ⟨run_str (HX6.out.keep k (fun _ _ _ => id)), run_str (HY6.out.keep k (fun _ _ _ => id)), (HC6.out.keep k id).cell 0, (HC6.out.keep k id).cell 1, (HC6.out.keep k id).cell 2, (HC6.out.keep k id).cell 3, (HC6.out.keep k id).cell 4, (HC6.out.keep k id).cell 5, (HC6.out.keep k id).cell 6, (HC6.out.keep k id).cell 7, (HO6.out.keep k id).cell 0, (HO6.out.keep k id).cell 1, (HO6.out.keep k id).cell 2, (HO6.out.keep k id).cell 3, (HO6.out.keep k id).cell 4, (HO6.out.keep k id).cell 5, (HO6.out.keep k id).cell 6, (HO6.out.keep k id).cell 7, (HP6.out.keep k id).cell 0, (HP6.out.keep k id).cell 1, (HP6.out.keep k id).cell 2, (HP6.out.keep k id).cell 3, (HP6.out.keep k id).cell 4, (HP6.out.keep k id).cell 5, (HP6.out.keep k id).cell 6, (HP6.out.keep k id).cell 7⟩
  have K00 := Keep.refl noneOf w6
  have gr : (rg == rg) = true := by rw [beq_self_eq_true]
  have ge : ((es : Int) == es) = true := by rw [beq_self_eq_true]
  have gf : ((er : Int) == er) = true := by rw [beq_self_eq_true]
  have gs : ((strOf xs).toList == (strOf xs).toList) = true := by rw [beq_self_eq_true]
  clear hw6 OT6 PT6 hsame K6 C5 C6 HC6 HX6 HY6 HO6 HP6 ka t5
  go_wp2
  rw [HW6.out]
  refine wp_region_in (fun w' => Keep noneOf w6 w' ∧ (convert 23 9 (.slice A1 xs.length c1)).run Try.prog w' = .ok (.string (strOf xs)) w' ∧ (convert 23 9 (.slice A2 xs.length c2)).run Try.prog w' = .ok (.string (strOf xs)) w' ∧ w'.cell? ⟨w.heap.size, 0, none⟩ = some (.int .i64 k) ∧ w'.cell? ⟨w.heap.size, 1, none⟩ = some (.int .u64 (ses : Int)) ∧ w'.cell? ⟨w.heap.size, 2, none⟩ = some (.int .u64 (seq : Int)) ∧ w'.cell? ⟨w.heap.size, 3, none⟩ = some (.slice A ts.length cap) ∧ w'.cell? ⟨w.heap.size, 4, none⟩ = some (.int .u64 (gid : Int)) ∧ w'.cell? ⟨w.heap.size, 5, none⟩ = some (.int .u64 (tok : Int)) ∧ w'.cell? ⟨w.heap.size, 6, none⟩ = some (.bool good) ∧ w'.cell? ⟨w.heap.size, 7, none⟩ = some (.int .u64 (time : Int)) ∧ w'.cell? ⟨w3.heap.size, 0, none⟩ = some (.int .i64 d.kind) ∧ w'.cell? ⟨w3.heap.size, 1, none⟩ = some (.int .u64 (d.ses : Int)) ∧ w'.cell? ⟨w3.heap.size, 2, none⟩ = some (.int .u64 (d.seq : Int)) ∧ w'.cell? ⟨w3.heap.size, 3, none⟩ = some (.slice oA (List.length ots) oc) ∧ w'.cell? ⟨w3.heap.size, 4, none⟩ = some (.int .u64 (d.id : Int)) ∧ w'.cell? ⟨w3.heap.size, 5, none⟩ = some (.int .u64 (d.tok : Int)) ∧ w'.cell? ⟨w3.heap.size, 6, none⟩ = some (.bool d.good) ∧ w'.cell? ⟨w3.heap.size, 7, none⟩ = some (.int .u64 (d.time : Int)) ∧ w'.cell? ⟨w5.heap.size, 0, none⟩ = some (.int .i64 d.kind) ∧ w'.cell? ⟨w5.heap.size, 1, none⟩ = some (.int .u64 (d.ses : Int)) ∧ w'.cell? ⟨w5.heap.size, 2, none⟩ = some (.int .u64 (d.seq : Int)) ∧ w'.cell? ⟨w5.heap.size, 3, none⟩ = some (.slice pA (List.length pts) pc) ∧ w'.cell? ⟨w5.heap.size, 4, none⟩ = some (.int .u64 (d.id : Int)) ∧ w'.cell? ⟨w5.heap.size, 5, none⟩ = some (.int .u64 (d.tok : Int)) ∧ w'.cell? ⟨w5.heap.size, 6, none⟩ = some (.bool d.good) ∧ w'.cell? ⟨w5.heap.size, 7, none⟩ = some (.int .u64 (d.time : Int))) (by kernel_rfl) (by kernel_rfl) ⟨K00.drew, MK.out _ K00.drew⟩ ?_
  repeat
    first
    | go_big_quiet_skip
    | go_big_quiet_want
      go_big_quiet_op
      go_big_quiet_on
    | go_big_quiet_want
      apply quiet_calls
      case he => intro w'; go_simp; exact ⟨rfl, rfl⟩
      case h =>
        intro w' hw'
        go_at_call 13
        refine (AL.out _ hw'.1).mono ?_
        rintro e w'' ⟨rfl, k''⟩
        exact ⟨rfl, Keep.trans hw'.1 k'' (fun _ _ h => h), MK.out _ (Keep.trans hw'.1 k'' (fun _ _ h => h))⟩
      simp only [Act.put, List.setIfInBounds_toArray, List.set_cons_zero, List.set_cons_succ]
      go_big_quiet_on
    | go_big_quiet_want
      apply quiet_calls
      case he => intro w'; go_simp; exact ⟨rfl, rfl⟩
      case h =>
        intro w' hw'
        go_at_call 19
        refine (R5.out _ hw'.1).mono ?_
        rintro e w'' ⟨rfl, k''⟩
        exact ⟨rfl, Keep.trans hw'.1 k'' (fun _ _ h => h), MK.out _ (Keep.trans hw'.1 k'' (fun _ _ h => h))⟩
      simp only [Act.put, List.setIfInBounds_toArray, List.set_cons_zero, List.set_cons_succ]
      go_big_quiet_on
    | go_big_quiet_want
      apply quiet_calls
      case he => intro w'; go_simp; exact ⟨rfl, rfl⟩
      case h =>
        intro w' hw'
        go_at_call 20
        refine (R6.out _ hw'.1).mono ?_
        rintro e w'' ⟨rfl, k''⟩
        exact ⟨rfl, Keep.trans hw'.1 k'' (fun _ _ h => h), MK.out _ (Keep.trans hw'.1 k'' (fun _ _ h => h))⟩
      simp only [Act.put, List.setIfInBounds_toArray, List.set_cons_zero, List.set_cons_succ]
      go_big_quiet_on
    | go_big_quiet_want
      apply quiet_calls
      case he => intro w'; go_simp; exact ⟨rfl, rfl⟩
      case h =>
        intro w' hw'
        go_at_call 21
        refine (SC.out _ hw'.1).mono ?_
        rintro e w'' ⟨rfl, k''⟩
        exact ⟨rfl, Keep.trans hw'.1 k'' (fun _ _ h => h), MK.out _ (Keep.trans hw'.1 k'' (fun _ _ h => h))⟩
      simp only [Act.put, List.setIfInBounds_toArray, List.set_cons_zero, List.set_cons_succ]
      go_big_quiet_on
    | go_big_quiet_want
      apply quiet_reads
      case h =>
        intro w' hw'
        try dsimp only at hw'
        go_split_ands
        go_simp
        rfl
      simp only [Act.put, List.setIfInBounds_toArray, List.set_cons_zero, List.set_cons_succ]
      go_big_quiet_on
  refine wpQuiet_nil ?_
  intro w9 hw9
  have HK9 := Lib.hid (HK6.out.trans hw9.1 (fun _ _ h => h))
  clear hw9 K00 MK SC AL R5 R6 HK6
  go_wp2
  go_ret
  exact ⟨rfl, HK9.out⟩

namespace EntryCommands
set_option maxRecDepth 100000 in
theorem lifted (os : Os) (started : os.Started) (H : Type) (enc : TypeId × Value → H) :
    ReturnsInHanded {} Try.checked os 4 .any (Rows.entryCommandsSpec.pre6 enc Try.prog Try.f4 Rows.entryCommandsRow.domain false) (Rows.entryCommandsSpec.post enc Try.prog Try.f4 false true false false) := by
  refine returnsInHanded_of_change_sized (C := Try.checked) own started (by kernel_rfl) Try.func4
    (ChangeSpec.witness6 (enc := enc) (C := Try.checked) false ⟨#[], #[.agg #[.int .i64 0, .int .u64 0, .int .u64 0, .slice none 0 0, .int .u64 0, .int .u64 0, .bool false, .int .u64 0], .slice none 0 0], []⟩ 8 (by kernel_rfl) (by kernel_rfl) (by kernel_rfl) (by kernel_rfl)) ?_
  intro W base args ds gs before hval0 hW hcnd hsz _
  have hval : ∀ (j : Nat) t v, Try.f4.params[j]? = some t → args[j]? = some v → Value.okWide Try.prog W .any base t v := hval0
  have hW' := hW
  obtain ⟨p, q, hA0, hV, rfl, hfz, hnd⟩ := hW
  have hA : DataW.TrodAll enc Try.prog W 0 (fun _ => true) true Try.f4.params.toList args.toList ds p := hA0
  rw [Try.params4] at hA hval
  obtain ⟨v0, vs0, d0, ds0, p0, q0, hargs, rfl, rfl, h0, r0⟩ := trodAll_cons hA
  obtain ⟨v1, vs1, d1, ds1, p1, q1, rfl, rfl, rfl, h1, r1⟩ := trodAll_cons r0
  obtain ⟨rfl, rfl, rfl⟩ := trodAll_nil r1
  obtain rfl : args = #[v0, v1] := by cases args; simp_all
  obtain ⟨rfl, rfl⟩ := trodVars_none hV
  have k0 := h0
  have k1 := h1
  have lt0 : ∀ x ∈ p0, x.block < W.heap.size := by obtain ⟨m, hm⟩ := k0; exact DataW.trod_lt m _ _ _ hm
  have lt1 : ∀ x ∈ p1, x.block < W.heap.size := by obtain ⟨m, hm⟩ := k1; exact DataW.trod_lt m _ _ _ hm
  obtain ⟨c, hcc, hlies⟩ := open_cmd (hval 0 38 v0 rfl rfl) h0
  obtain ⟨bs, hbs, hlen⟩ := open_arg_bytes (okWide_slice Try.underlying23 (hval 1 23 v1 rfl rfl)) h1
  have hl : bs.length ≤ lim := by
    rcases hlen with rfl | ⟨elems, spare, hd, hle⟩
    · exact Nat.zero_le _
    · have hs := sized_slice (j := 1) (t := 23) (e := 5) (elems := elems) (spare := spare) hsz (by rfl) (by rw [hd]; rfl) Try.underlying23
      have hB : Try.checked.prog.bytesOf 5 = 1 := by kernel_rfl
      rw [hB, Nat.mul_one] at hs
      have hR : reachBytes = lim := rfl
      omega
  clear hA0 hval0
  have hbs' := hbs
  obtain ⟨bA, bc, hbv, _⟩ := hbs
  subst hbv
  obtain ⟨ck, cses, cseq, cgv, cts, cid, ctok, cgood, ctime⟩ := c
  obtain ⟨cA, cc, hcv, _⟩ := id hlies.ts.1
  simp only at hcv
  subst hcv
  unfold Cmd.cells at hcc
  simp only at hcc
  subst hcc
  refine (commands_walk W ck cses cseq cid ctok ctime cgood cA cc cts hlies bA bc bs hbs' hl).mono fun e W' ⟨he, bel0⟩ => ?_
  subst he
  have bel := bel0.all
  exact ⟨_, rfl, _, _, _, [], _, [], hW', trodAll_mk1 (shut_bool Try.underlying4 _), (trodAll_cons_mk (Below.trod laidOut (by kernel_rfl) (of_decide_eq_true (by kernel_rfl)) k0 bel lt0) (trodAll_cons_mk (Below.trod laidOut (by kernel_rfl) (of_decide_eq_true (by kernel_rfl)) k1 bel lt1) trodAll_mk0)), rfl, bel.frame _, fun h => by cases h⟩

theorem over : Rows.entryCommandsRow.holds Try.pinned (OpenSpec.ofChange Rows.entryCommandsSpec) :=
  OpenClaim.holds_of_wide 4 Try.f4 rfl rfl rfl rfl rfl rfl rfl ⟨rfl, rfl, rfl, rfl, rfl⟩ rfl rfl rfl rfl rfl (by kernel_rfl) Try.func4 (by kernel_rfl)
    (of_decide_eq_true (by kernel_rfl)) (by unfold Func.isWrapper; first | (rw [if_pos (by decide +kernel)]; kernel_rfl) | (rw [if_neg (by decide +kernel)]; exact ⟨rfl, rfl⟩))
    (fun os started H enc _ => lifted os started H enc)

theorem proved : Rows.EntryCommandsSaid := over
end EntryCommands
end Go.Proofs.Ytngbminjbgomgaa
