/-
  Proved: dockyardlaw04.EntryBack answers true for every input that can be read, and leaves its arguments as they were. No conditions.
-/
import Derived.Test.YtngbminjbgomgaaAns
import Derived.Deep.DeepCutAuto
namespace Go.Proofs.Ytngbminjbgomgaa
open Go.ChangeShapes Go.WideShapes Go.ChangeAt Go.RowKit

set_option maxRecDepth 100000 in
set_option maxHeartbeats 4000000 in
theorem back_walk (w : World) (ei et : Nat) (ek : Int) (eA : Option Addr) (ec : Nat) (ecs : List UInt8) (k : Int) (ses seq gid tok time : Nat) (good : Bool) (A : Option Addr) (cap : Nat) (ts : List Tg) (bA : Option Addr) (bc : Nat) (bs : List UInt8)
    (hei : (ei : Int) < 18446744073709551616) (het : (et : Int) < 18446744073709551616) (he : Bytes w (fun _ => True) (.slice eA ecs.length ec) ecs)
    (hc : Cmd.lies w (fun _ => True) ⟨k, ses, seq, .slice A ts.length cap, ts, gid, tok, good, time⟩) (hb : Bytes w (fun _ => True) (.slice bA bs.length bc) bs) (hl : bs.length ≤ lim)
    (er dr cr fr : Int) (xs ys : List UInt8) (di dt : Nat) (dk : Int) (dcs : List UInt8) (dK : Int) (dS dQ dI dT dM : Nat) (dG : Bool) (dP : List Pt)
    (h1 : entAns ei et ek ecs er xs) (h2 : cmdAns ⟨k, ses, seq, .slice A ts.length cap, ts, gid, tok, good, time⟩ cr ys) (h3 : rdAns bs ⟨dK, dS, dQ, dP, dI, dT, dG, dM⟩ dr) (h4 : decAns bs fr di dt dk dcs) :
    Calls Try.prog 5 #[.agg #[.int .u64 (ei : Int), .int .u64 (et : Int), .int .i64 ek, .slice eA ecs.length ec], .agg #[.int .i64 k, .int .u64 (ses : Int), .int .u64 (seq : Int), .slice A ts.length cap, .int .u64 (gid : Int), .int .u64 (tok : Int), .bool good, .int .u64 (time : Int)], .slice bA bs.length bc] w fun e w' => e = .returned (.bool true) ∧ Keep noneOf w w' := by
  have K0 := ((Keep.refl noneOf w).alloc (.cells #[.int .u64 (ei : Int), .int .u64 (et : Int), .int .i64 ek, .slice eA ecs.length ec] 25)).alloc (.cells #[.int .i64 k, .int .u64 (ses : Int), .int .u64 (seq : Int), .slice A ts.length cap, .int .u64 (gid : Int), .int .u64 (tok : Int), .bool good, .int .u64 (time : Int)] 38)
  have X0 := (Box.new w 25 #[.int .u64 (ei : Int), .int .u64 (et : Int), .int .i64 ek, .slice eA ecs.length ec]).alloc (.cells #[.int .i64 k, .int .u64 (ses : Int), .int .u64 (seq : Int), .slice A ts.length cap, .int .u64 (gid : Int), .int .u64 (tok : Int), .bool good, .int .u64 (time : Int)] 38)
  have Y0 := Box.new (w.alloc (.cells #[.int .u64 (ei : Int), .int .u64 (et : Int), .int .i64 ek, .slice eA ecs.length ec] 25)) 38 #[.int .i64 k, .int .u64 (ses : Int), .int .u64 (seq : Int), .slice A ts.length cap, .int .u64 (gid : Int), .int .u64 (tok : Int), .bool good, .int .u64 (time : Int)]
  rw [World.size_alloc] at Y0
  have C1 : Hid (∀ w', Keep noneOf w w' → Calls Try.prog 9 #[.agg #[.int .u64 (ei : Int), .int .u64 (et : Int), .int .i64 ek, .slice eA ecs.length ec]] w' (Answer2 w' er xs)) := fun w' kk => (encode_any w' (fun _ => True) ei et ek _ ecs hei het (he.keep kk (fun _ _ _ => id))).mono fun _ _ h => answer2 h h1
  have HX0 := Lib.hid X0
  have HY0 := Lib.hid Y0
  have HK0 := Lib.hid K0
  have HE := Lib.hid he
  have HC := Lib.hid hc
  have HB := Lib.hid hb
  have HL := Lib.hid hl
  have H1 := Lib.hid h1
  have H2 := Lib.hid h2
  have H3 := Lib.hid h3
  have H4 := Lib.hid h4
  have HEI := Lib.hid hei
  have HET := Lib.hid het
  clear X0 Y0 K0 he hc hb hl h1 h2 h3 h4 hei het
  go_enter Try.func5, Try.ntmps5
  go_wp2_with fail
  refine (C1.out _ HK0.out).mono ?_
  rintro e w1 ⟨k1, A1, c1, rfl, b1⟩
  have X1 := HX0.out.keep k1 id
  have Y1 := HY0.out.keep k1 id
  have K1 := HK0.out.trans k1 (fun _ _ h => h)
  have HB1 := Lib.hid b1
  have HX1 := Lib.hid X1
  have HY1 := Lib.hid Y1
  have HK1 := Lib.hid K1
  clear HX0 HY0 HK0 C1 k1 b1 X1 Y1 K1
  go_upto_if 29 with fail
  go_cut [9, 10] (fun _ _ wx => Keep noneOf w1 wx)
  case first =>
    rcases H1.out with ⟨hr1, he1, hxe⟩ | ⟨hr1, he1, hxe⟩
    · clear hr1 hxe H1
      subst he1
      rw [show ((40 : Int) == 0) = false from rfl]
      clear HEI HET HL H2 H3 H4 HE HB HC
      go_wp2_with fail
      go_meet
      case rel => exact Keep.refl _ _
    · subst he1
      rw [show ((0 : Int) == 0) = true from rfl]
      have DA : decAns xs 0 ei et ek ecs := by
        obtain ⟨q1, q2, q3, q4, q5⟩ := dec_back ei et ek ecs HEI.out HET.out hr1
        rw [hxe]
        exact .inr ⟨q1, rfl, q2.symm, q3.symm, q4.symm, q5.symm⟩
      have hxl : xs.length ≤ lim := by have := entBytes_lim ei et ek ecs hr1; rw [hxe]; omega
      have CD := Lib.hid ((decode_any w1 (fun _ => True) _ xs HB1.out hxl).mono fun _ _ h => decode2 h DA)
      clear DA hxl hxe hr1 H1 H2 H3 H4 HB HC HY1 HL HEI HET
      go_wp2_with fail
      refine CD.out.mono ?_
      rintro e w2 ⟨k2, A2, c2, rfl, b2⟩
      have ka := (Keep.refl noneOf w2).alloc (.cells #[.int .u64 (ei : Int), .int .u64 (et : Int), .int .i64 ek, .slice A2 ecs.length c2] 25)
      have bx := Box.new w2 25 #[.int .u64 (ei : Int), .int .u64 (et : Int), .int .i64 ek, .slice A2 ecs.length c2]
      have X2 := (HX1.out.keep k2 id).keep ka id
      have p0 : (w2.alloc (.cells #[.int .u64 (ei : Int), .int .u64 (et : Int), .int .i64 ek, .slice A2 ecs.length c2] 25)).cell? ⟨w2.heap.size, 0, none⟩ = some (.int .u64 (ei : Int)) := bx.cell 0
      have p1 : (w2.alloc (.cells #[.int .u64 (ei : Int), .int .u64 (et : Int), .int .i64 ek, .slice A2 ecs.length c2] 25)).cell? ⟨w2.heap.size, 1, none⟩ = some (.int .u64 (et : Int)) := bx.cell 1
      have p2 : (w2.alloc (.cells #[.int .u64 (ei : Int), .int .u64 (et : Int), .int .i64 ek, .slice A2 ecs.length c2] 25)).cell? ⟨w2.heap.size, 2, none⟩ = some (.int .i64 ek) := bx.cell 2
      have p3 : (w2.alloc (.cells #[.int .u64 (ei : Int), .int .u64 (et : Int), .int .i64 ek, .slice A2 ecs.length c2] 25)).cell? ⟨w2.heap.size, 3, none⟩ = some (.slice A2 ecs.length c2) := bx.cell 3
      have q0 : (w2.alloc (.cells #[.int .u64 (ei : Int), .int .u64 (et : Int), .int .i64 ek, .slice A2 ecs.length c2] 25)).cell? ⟨w.heap.size, 0, none⟩ = some (.int .u64 (ei : Int)) := X2.cell 0
      have q1 : (w2.alloc (.cells #[.int .u64 (ei : Int), .int .u64 (et : Int), .int .i64 ek, .slice A2 ecs.length c2] 25)).cell? ⟨w.heap.size, 1, none⟩ = some (.int .u64 (et : Int)) := X2.cell 1
      have q2 : (w2.alloc (.cells #[.int .u64 (ei : Int), .int .u64 (et : Int), .int .i64 ek, .slice A2 ecs.length c2] 25)).cell? ⟨w.heap.size, 2, none⟩ = some (.int .i64 ek) := X2.cell 2
      have q3 : (w2.alloc (.cells #[.int .u64 (ei : Int), .int .u64 (et : Int), .int .i64 ek, .slice A2 ecs.length c2] 25)).cell? ⟨w.heap.size, 3, none⟩ = some (.slice eA ecs.length ec) := X2.cell 3
      have SE := Lib.hid (sameEntry_any (w2.alloc (.cells #[.int .u64 (ei : Int), .int .u64 (et : Int), .int .i64 ek, .slice A2 ecs.length c2] 25)) _ _ ei et ei et ek ek _ _ ecs ecs (b2.keep ka (fun _ _ _ => id)) (HE.out.keep ((HK1.out.trans k2 (fun _ _ h => h)).trans ka (fun _ _ h => h)) (fun _ _ _ => id)))
      have hse : sameEnt ei et ek ecs ei et ek ecs = true := by unfold sameEnt; simp
      rw [hse] at SE
      have HK2 := Lib.hid (k2.trans ka (fun _ _ h => h))
      clear hse bx X2 ka k2 b2 CD HX1 HB1 HE HK1
      go_wp2_with fail
      refine SE.out.mono ?_
      rintro e w3 ⟨rfl, k3⟩
      go_wp2_with fail
      go_meet
      case rel => exact HK2.out.trans k3 (fun _ _ h => h)
  case rest =>
    have HYc := Lib.hid (HY1.out.keep hcut id)
    have HKc := Lib.hid (HK1.out.trans hcut (fun _ _ h => h))
    clear HX1 HY1 HK1 H1 HB1 HE hcut
    have y0 : wc.cell? ⟨w.heap.size + 1, 0, none⟩ = some (.int .i64 k) := HYc.out.cell 0
    have y1 : wc.cell? ⟨w.heap.size + 1, 1, none⟩ = some (.int .u64 (ses : Int)) := HYc.out.cell 1
    have y2 : wc.cell? ⟨w.heap.size + 1, 2, none⟩ = some (.int .u64 (seq : Int)) := HYc.out.cell 2
    have y3 : wc.cell? ⟨w.heap.size + 1, 3, none⟩ = some (.slice A ts.length cap) := HYc.out.cell 3
    have y4 : wc.cell? ⟨w.heap.size + 1, 4, none⟩ = some (.int .u64 (gid : Int)) := HYc.out.cell 4
    have y5 : wc.cell? ⟨w.heap.size + 1, 5, none⟩ = some (.int .u64 (tok : Int)) := HYc.out.cell 5
    have y6 : wc.cell? ⟨w.heap.size + 1, 6, none⟩ = some (.bool good) := HYc.out.cell 6
    have y7 : wc.cell? ⟨w.heap.size + 1, 7, none⟩ = some (.int .u64 (time : Int)) := HYc.out.cell 7
    have C2 := Lib.hid ((command_any wc (fun _ => True) ⟨k, ses, seq, .slice A ts.length cap, ts, gid, tok, good, time⟩ ⟨HC.out.ses, HC.out.seq, HC.out.id, HC.out.tok, HC.out.time, HC.out.ts.keep HKc.out (fun _ _ _ => id)⟩).mono fun _ _ h => command2 h H2.out)
    unfold Cmd.cells at C2
    simp only at C2
    go_wp2_with fail
    refine C2.out.mono ?_
    rintro e w1 ⟨k1, A1, c1, rfl, b1⟩
    have HB1 := Lib.hid b1
    have HY1 := Lib.hid (HYc.out.keep k1 id)
    have HK1 := Lib.hid (HKc.out.trans k1 (fun _ _ h => h))
    clear y0 y1 y2 y3 y4 y5 y6 y7 C2 k1 b1 HYc HKc
    go_upto_if 49 with fail
    go_cut [13, 14] (fun _ _ wx => Keep noneOf w1 wx)
    case first =>
      rcases H2.out with ⟨hr1, he1, hxe⟩ | ⟨hr1, he1, hxe⟩
      · clear hr1 hxe H2
        subst he1
        rw [show ((40 : Int) == 0) = false from rfl]
        clear HEI HET HL H3 H4 HB HC
        go_wp2_with fail
        go_meet
        case rel => exact Keep.refl _ _
      · subst he1
        rw [show ((0 : Int) == 0) = true from rfl]
        have DA : rdAns ys (Cmd.pc ⟨k, ses, seq, .slice A ts.length cap, ts, gid, tok, good, time⟩) 0 := by
          rw [hxe]
          exact .inr ⟨rdCommand_back _ HC.out.small hr1, rfl⟩
        have hxl : ys.length ≤ lim := by have := cmdBytes_lim _ hr1; rw [hxe]; omega
        have CD := Lib.hid (read2 w1 (fun _ => True) _ ys _ 0 HB1.out hxl DA)
        unfold Cmd.pc at CD
        simp only at CD
        clear DA hxl hxe hr1 H2 H3 H4 HB HL HEI HET
        go_wp2_with fail
        refine CD.out.mono ?_
        rintro e w2 ⟨k2, A2, c2, ts2, rfl, t2, hp2⟩
        simp only at hp2
        have ka := (Keep.refl noneOf w2).alloc (.cells #[.int .i64 k, .int .u64 (ses : Int), .int .u64 (seq : Int), .slice A2 ts2.length c2, .int .u64 (gid : Int), .int .u64 (tok : Int), .bool good, .int .u64 (time : Int)] 38)
        have bx := Box.new w2 38 #[.int .i64 k, .int .u64 (ses : Int), .int .u64 (seq : Int), .slice A2 ts2.length c2, .int .u64 (gid : Int), .int .u64 (tok : Int), .bool good, .int .u64 (time : Int)]
        have Y2 := (HY1.out.keep k2 id).keep ka id
        have p0 : (w2.alloc (.cells #[.int .i64 k, .int .u64 (ses : Int), .int .u64 (seq : Int), .slice A2 ts2.length c2, .int .u64 (gid : Int), .int .u64 (tok : Int), .bool good, .int .u64 (time : Int)] 38)).cell? ⟨w2.heap.size, 0, none⟩ = some (.int .i64 k) := bx.cell 0
        have p1 : (w2.alloc (.cells #[.int .i64 k, .int .u64 (ses : Int), .int .u64 (seq : Int), .slice A2 ts2.length c2, .int .u64 (gid : Int), .int .u64 (tok : Int), .bool good, .int .u64 (time : Int)] 38)).cell? ⟨w2.heap.size, 1, none⟩ = some (.int .u64 (ses : Int)) := bx.cell 1
        have p2 : (w2.alloc (.cells #[.int .i64 k, .int .u64 (ses : Int), .int .u64 (seq : Int), .slice A2 ts2.length c2, .int .u64 (gid : Int), .int .u64 (tok : Int), .bool good, .int .u64 (time : Int)] 38)).cell? ⟨w2.heap.size, 2, none⟩ = some (.int .u64 (seq : Int)) := bx.cell 2
        have p3 : (w2.alloc (.cells #[.int .i64 k, .int .u64 (ses : Int), .int .u64 (seq : Int), .slice A2 ts2.length c2, .int .u64 (gid : Int), .int .u64 (tok : Int), .bool good, .int .u64 (time : Int)] 38)).cell? ⟨w2.heap.size, 3, none⟩ = some (.slice A2 ts2.length c2) := bx.cell 3
        have p4 : (w2.alloc (.cells #[.int .i64 k, .int .u64 (ses : Int), .int .u64 (seq : Int), .slice A2 ts2.length c2, .int .u64 (gid : Int), .int .u64 (tok : Int), .bool good, .int .u64 (time : Int)] 38)).cell? ⟨w2.heap.size, 4, none⟩ = some (.int .u64 (gid : Int)) := bx.cell 4
        have p5 : (w2.alloc (.cells #[.int .i64 k, .int .u64 (ses : Int), .int .u64 (seq : Int), .slice A2 ts2.length c2, .int .u64 (gid : Int), .int .u64 (tok : Int), .bool good, .int .u64 (time : Int)] 38)).cell? ⟨w2.heap.size, 5, none⟩ = some (.int .u64 (tok : Int)) := bx.cell 5
        have p6 : (w2.alloc (.cells #[.int .i64 k, .int .u64 (ses : Int), .int .u64 (seq : Int), .slice A2 ts2.length c2, .int .u64 (gid : Int), .int .u64 (tok : Int), .bool good, .int .u64 (time : Int)] 38)).cell? ⟨w2.heap.size, 6, none⟩ = some (.bool good) := bx.cell 6
        have p7 : (w2.alloc (.cells #[.int .i64 k, .int .u64 (ses : Int), .int .u64 (seq : Int), .slice A2 ts2.length c2, .int .u64 (gid : Int), .int .u64 (tok : Int), .bool good, .int .u64 (time : Int)] 38)).cell? ⟨w2.heap.size, 7, none⟩ = some (.int .u64 (time : Int)) := bx.cell 7
        have q0 : (w2.alloc (.cells #[.int .i64 k, .int .u64 (ses : Int), .int .u64 (seq : Int), .slice A2 ts2.length c2, .int .u64 (gid : Int), .int .u64 (tok : Int), .bool good, .int .u64 (time : Int)] 38)).cell? ⟨w.heap.size + 1, 0, none⟩ = some (.int .i64 k) := Y2.cell 0
        have q1 : (w2.alloc (.cells #[.int .i64 k, .int .u64 (ses : Int), .int .u64 (seq : Int), .slice A2 ts2.length c2, .int .u64 (gid : Int), .int .u64 (tok : Int), .bool good, .int .u64 (time : Int)] 38)).cell? ⟨w.heap.size + 1, 1, none⟩ = some (.int .u64 (ses : Int)) := Y2.cell 1
        have q2 : (w2.alloc (.cells #[.int .i64 k, .int .u64 (ses : Int), .int .u64 (seq : Int), .slice A2 ts2.length c2, .int .u64 (gid : Int), .int .u64 (tok : Int), .bool good, .int .u64 (time : Int)] 38)).cell? ⟨w.heap.size + 1, 2, none⟩ = some (.int .u64 (seq : Int)) := Y2.cell 2
        have q3 : (w2.alloc (.cells #[.int .i64 k, .int .u64 (ses : Int), .int .u64 (seq : Int), .slice A2 ts2.length c2, .int .u64 (gid : Int), .int .u64 (tok : Int), .bool good, .int .u64 (time : Int)] 38)).cell? ⟨w.heap.size + 1, 3, none⟩ = some (.slice A ts.length cap) := Y2.cell 3
        have q4 : (w2.alloc (.cells #[.int .i64 k, .int .u64 (ses : Int), .int .u64 (seq : Int), .slice A2 ts2.length c2, .int .u64 (gid : Int), .int .u64 (tok : Int), .bool good, .int .u64 (time : Int)] 38)).cell? ⟨w.heap.size + 1, 4, none⟩ = some (.int .u64 (gid : Int)) := Y2.cell 4
        have q5 : (w2.alloc (.cells #[.int .i64 k, .int .u64 (ses : Int), .int .u64 (seq : Int), .slice A2 ts2.length c2, .int .u64 (gid : Int), .int .u64 (tok : Int), .bool good, .int .u64 (time : Int)] 38)).cell? ⟨w.heap.size + 1, 5, none⟩ = some (.int .u64 (tok : Int)) := Y2.cell 5
        have q6 : (w2.alloc (.cells #[.int .i64 k, .int .u64 (ses : Int), .int .u64 (seq : Int), .slice A2 ts2.length c2, .int .u64 (gid : Int), .int .u64 (tok : Int), .bool good, .int .u64 (time : Int)] 38)).cell? ⟨w.heap.size + 1, 6, none⟩ = some (.bool good) := Y2.cell 6
        have q7 : (w2.alloc (.cells #[.int .i64 k, .int .u64 (ses : Int), .int .u64 (seq : Int), .slice A2 ts2.length c2, .int .u64 (gid : Int), .int .u64 (tok : Int), .bool good, .int .u64 (time : Int)] 38)).cell? ⟨w.heap.size + 1, 7, none⟩ = some (.int .u64 (time : Int)) := Y2.cell 7
        have SE := Lib.hid (sameCommand_any (w2.alloc (.cells #[.int .i64 k, .int .u64 (ses : Int), .int .u64 (seq : Int), .slice A2 ts2.length c2, .int .u64 (gid : Int), .int .u64 (tok : Int), .bool good, .int .u64 (time : Int)] 38)) _ _ ⟨k, ses, seq, .slice A2 ts2.length c2, ts2, gid, tok, good, time⟩ ⟨k, ses, seq, .slice A ts.length cap, ts, gid, tok, good, time⟩ (t2.keep ka (fun _ _ _ => id)) (HC.out.ts.keep ((HK1.out.trans k2 (fun _ _ h => h)).trans ka (fun _ _ h => h)) (fun _ _ _ => id)))
        have hse : Cmd.same ⟨k, ses, seq, .slice A2 ts2.length c2, ts2, gid, tok, good, time⟩ ⟨k, ses, seq, .slice A ts.length cap, ts, gid, tok, good, time⟩ = true := (Cmd.same_iff _ _).2 ⟨hp2, rfl, rfl, rfl, rfl, rfl, rfl, rfl⟩
        rw [hse] at SE
        unfold Cmd.cells at SE
        simp only at SE
        have HK2 := Lib.hid (k2.trans ka (fun _ _ h => h))
        clear hse bx Y2 ka k2 t2 hp2 CD HY1 HB1 HC HK1
        go_wp2_with fail
        refine SE.out.mono ?_
        rintro e w3 ⟨rfl, k3⟩
        go_wp2_with fail
        go_meet
        case rel => exact HK2.out.trans k3 (fun _ _ h => h)
    case rest =>
      have HKd := Lib.hid (HK1.out.trans hcut (fun _ _ h => h))
      clear HY1 HK1 H2 HB1 hcut HC
      have CD := Lib.hid (read2 wc (fun _ => True) _ bs _ dr (HB.out.keep HKd.out (fun _ _ _ => id)) HL.out H3.out)
      unfold Read2 at CD
      simp only at CD
      go_wp2_with fail
      refine CD.out.mono ?_
      rintro e w2 ⟨k2, A2, c2, ts2, rfl, t2, hp2⟩
      have ka := (Keep.refl noneOf w2).alloc (.cells #[.int .i64 dK, .int .u64 (dS : Int), .int .u64 (dQ : Int), .slice A2 ts2.length c2, .int .u64 (dI : Int), .int .u64 (dT : Int), .bool dG, .int .u64 (dM : Int)] 38)
      have O2 := Box.new w2 38 #[.int .i64 dK, .int .u64 (dS : Int), .int .u64 (dQ : Int), .slice A2 ts2.length c2, .int .u64 (dI : Int), .int .u64 (dT : Int), .bool dG, .int .u64 (dM : Int)]
      have HO2 := Lib.hid O2
      have HT2 := Lib.hid (t2.keep ka (fun _ _ _ => id))
      have HP2 := Lib.hid hp2
      have HK2 := Lib.hid ((HKd.out.trans k2 (fun _ _ h => h)).trans ka (fun _ _ h => h))
      clear CD k2 ka O2 t2 hp2 HKd
      go_upto_if 69 with fail
      go_cut [17, 18] (fun _ _ wx => Keep noneOf (w2.alloc (.cells #[.int .i64 dK, .int .u64 (dS : Int), .int .u64 (dQ : Int), .slice A2 ts2.length c2, .int .u64 (dI : Int), .int .u64 (dT : Int), .bool dG, .int .u64 (dM : Int)] 38)) wx)
      case first =>
        rcases H3.out with ⟨hr1, he1, hxe⟩ | ⟨hr1, he1⟩
        · clear hr1 hxe H3
          subst he1
          rw [show ((40 : Int) == 0) = false from rfl]
          clear HL H4 HB HO2 HT2 HP2 HK2
          go_wp2_with fail
          go_meet
          case rel => exact Keep.refl _ _
        · subst he1
          rw [show ((0 : Int) == 0) = true from rfl]
          obtain ⟨q1, q2, q3⟩ := rdCommand_was bs _ hr1
          have hpc : Cmd.pc ⟨dK, dS, dQ, .slice A2 ts2.length c2, ts2, dI, dT, dG, dM⟩ = ⟨dK, dS, dQ, dP, dI, dT, dG, dM⟩ := by unfold Cmd.pc; simp only [HP2.out]
          have CA : cmdAns ⟨dK, dS, dQ, .slice A2 ts2.length c2, ts2, dI, dT, dG, dM⟩ 0 bs := .inr ⟨by rw [right_pc, hpc]; exact q2, rfl, by rw [cmdBytes_pc, hpc]; exact q1⟩
          have CM := Lib.hid ((command_any (w2.alloc (.cells #[.int .i64 dK, .int .u64 (dS : Int), .int .u64 (dQ : Int), .slice A2 ts2.length c2, .int .u64 (dI : Int), .int .u64 (dT : Int), .bool dG, .int .u64 (dM : Int)] 38)) (fun _ => True) ⟨dK, dS, dQ, .slice A2 ts2.length c2, ts2, dI, dT, dG, dM⟩ ⟨q3.ses, q3.seq, q3.id, q3.tok, q3.time, HT2.out⟩).mono fun _ _ h => command2 h CA)
          unfold Cmd.cells at CM
          simp only at CM
          clear CA hpc q1 q2 q3 hr1 H3 H4 HL HT2 HP2
          have p0 : (w2.alloc (.cells #[.int .i64 dK, .int .u64 (dS : Int), .int .u64 (dQ : Int), .slice A2 ts2.length c2, .int .u64 (dI : Int), .int .u64 (dT : Int), .bool dG, .int .u64 (dM : Int)] 38)).cell? ⟨w2.heap.size, 0, none⟩ = some (.int .i64 dK) := HO2.out.cell 0
          have p1 : (w2.alloc (.cells #[.int .i64 dK, .int .u64 (dS : Int), .int .u64 (dQ : Int), .slice A2 ts2.length c2, .int .u64 (dI : Int), .int .u64 (dT : Int), .bool dG, .int .u64 (dM : Int)] 38)).cell? ⟨w2.heap.size, 1, none⟩ = some (.int .u64 (dS : Int)) := HO2.out.cell 1
          have p2 : (w2.alloc (.cells #[.int .i64 dK, .int .u64 (dS : Int), .int .u64 (dQ : Int), .slice A2 ts2.length c2, .int .u64 (dI : Int), .int .u64 (dT : Int), .bool dG, .int .u64 (dM : Int)] 38)).cell? ⟨w2.heap.size, 2, none⟩ = some (.int .u64 (dQ : Int)) := HO2.out.cell 2
          have p3 : (w2.alloc (.cells #[.int .i64 dK, .int .u64 (dS : Int), .int .u64 (dQ : Int), .slice A2 ts2.length c2, .int .u64 (dI : Int), .int .u64 (dT : Int), .bool dG, .int .u64 (dM : Int)] 38)).cell? ⟨w2.heap.size, 3, none⟩ = some (.slice A2 ts2.length c2) := HO2.out.cell 3
          have p4 : (w2.alloc (.cells #[.int .i64 dK, .int .u64 (dS : Int), .int .u64 (dQ : Int), .slice A2 ts2.length c2, .int .u64 (dI : Int), .int .u64 (dT : Int), .bool dG, .int .u64 (dM : Int)] 38)).cell? ⟨w2.heap.size, 4, none⟩ = some (.int .u64 (dI : Int)) := HO2.out.cell 4
          have p5 : (w2.alloc (.cells #[.int .i64 dK, .int .u64 (dS : Int), .int .u64 (dQ : Int), .slice A2 ts2.length c2, .int .u64 (dI : Int), .int .u64 (dT : Int), .bool dG, .int .u64 (dM : Int)] 38)).cell? ⟨w2.heap.size, 5, none⟩ = some (.int .u64 (dT : Int)) := HO2.out.cell 5
          have p6 : (w2.alloc (.cells #[.int .i64 dK, .int .u64 (dS : Int), .int .u64 (dQ : Int), .slice A2 ts2.length c2, .int .u64 (dI : Int), .int .u64 (dT : Int), .bool dG, .int .u64 (dM : Int)] 38)).cell? ⟨w2.heap.size, 6, none⟩ = some (.bool dG) := HO2.out.cell 6
          have p7 : (w2.alloc (.cells #[.int .i64 dK, .int .u64 (dS : Int), .int .u64 (dQ : Int), .slice A2 ts2.length c2, .int .u64 (dI : Int), .int .u64 (dT : Int), .bool dG, .int .u64 (dM : Int)] 38)).cell? ⟨w2.heap.size, 7, none⟩ = some (.int .u64 (dM : Int)) := HO2.out.cell 7
          go_wp2_with fail
          refine CM.out.mono ?_
          rintro e w3 ⟨k3, A3, c3, rfl, b3⟩
          have r1 := run_str b3
          have r2 := run_str (HB.out.keep (HK2.out.trans k3 (fun _ _ h => h)) (fun _ _ _ => id))
          have HK3 := Lib.hid k3
          clear p0 p1 p2 p3 p4 p5 p6 p7 CM k3 b3 HB HK2
          go_wp2_with fail
          go_meet
          case rel => exact HK3.out
      case rest =>
        have HKe := Lib.hid (HK2.out.trans hcut (fun _ _ h => h))
        clear HO2 HT2 HP2 HK2 H3 hcut
        have DD4 := Lib.hid ((decode_any wc (fun _ => True) _ bs (HB.out.keep HKe.out (fun _ _ _ => id)) HL.out).mono fun _ _ h => decode2 h H4.out)
        go_wp2_with fail
        refine DD4.out.mono ?_
        rintro e w3 ⟨k3, A3, c3, rfl, b3⟩
        have ka := (Keep.refl noneOf w3).alloc (.cells #[.int .u64 (di : Int), .int .u64 (dt : Int), .int .i64 dk, .slice A3 dcs.length c3] 25)
        have O3 := Box.new w3 25 #[.int .u64 (di : Int), .int .u64 (dt : Int), .int .i64 dk, .slice A3 dcs.length c3]
        have HO3 := Lib.hid O3
        have HB3 := Lib.hid (b3.keep ka (fun _ _ _ => id))
        have HK3 := Lib.hid ((HKe.out.trans k3 (fun _ _ h => h)).trans ka (fun _ _ h => h))
        clear DD4 k3 ka O3 b3 HKe HL
        rcases H4.out with ⟨hr1, he1, z1, z2, z3, z4⟩ | ⟨hr1, he1, q1, q2, q3, q4⟩
        · clear hr1 z1 z2 z3 z4 H4 HO3 HB3 HB
          subst he1
          go_wp2_with fail
          refine (alive_any _).mono ?_
          rintro e w4 ⟨rfl, k4⟩
          have HK4 := Lib.hid (HK3.out.trans k4 (fun _ _ h => h))
          clear k4 HK3
          go_wp2
          go_ret
          exact ⟨rfl, HK4.out⟩
        · subst he1
          have hrt : entRight di dt dk dcs.length = true := by
            have h := hr1
            unfold decOk at h
            rw [Bool.and_eq_true] at h
            rw [q1, q2, q3, q4]
            exact h.2
          have hby : entBytes di dt dk.toNat dcs = bs := by
            have := dec_read bs hr1
            rw [q1, q2, q3, q4]
            exact this
          have EA : entAns di dt dk dcs 0 bs := .inr ⟨hrt, rfl, hby.symm⟩
          have b1 : (di : Int) < 18446744073709551616 := by rw [q1]; exact num_lt64 _ (take_length _ _)
          have b2 : (dt : Int) < 18446744073709551616 := by rw [q2]; exact num_lt64 _ (take_length _ _)
          have CE := Lib.hid ((encode_any _ (fun _ => True) di dt dk _ dcs b1 b2 HB3.out).mono fun _ _ h => answer2 h EA)
          have p0 : (w3.alloc (.cells #[.int .u64 (di : Int), .int .u64 (dt : Int), .int .i64 dk, .slice A3 dcs.length c3] 25)).cell? ⟨w3.heap.size, 0, none⟩ = some (.int .u64 (di : Int)) := HO3.out.cell 0
          have p1 : (w3.alloc (.cells #[.int .u64 (di : Int), .int .u64 (dt : Int), .int .i64 dk, .slice A3 dcs.length c3] 25)).cell? ⟨w3.heap.size, 1, none⟩ = some (.int .u64 (dt : Int)) := HO3.out.cell 1
          have p2 : (w3.alloc (.cells #[.int .u64 (di : Int), .int .u64 (dt : Int), .int .i64 dk, .slice A3 dcs.length c3] 25)).cell? ⟨w3.heap.size, 2, none⟩ = some (.int .i64 dk) := HO3.out.cell 2
          have p3 : (w3.alloc (.cells #[.int .u64 (di : Int), .int .u64 (dt : Int), .int .i64 dk, .slice A3 dcs.length c3] 25)).cell? ⟨w3.heap.size, 3, none⟩ = some (.slice A3 dcs.length c3) := HO3.out.cell 3
          clear EA hrt hby b1 b2 q1 q2 q3 q4 hr1 H4 HB3 HO3
          go_wp2_with fail
          refine CE.out.mono ?_
          rintro e w4 ⟨k4, A4, c4, rfl, b4⟩
          have HB4 := Lib.hid b4
          have HK4 := Lib.hid (HK3.out.trans k4 (fun _ _ h => h))
          clear p0 p1 p2 p3 CE k4 b4 HK3
          go_wp2_with fail
          refine (alive_any _).mono ?_
          rintro e w5 ⟨rfl, k5⟩
          have r1 := run_str (HB4.out.keep k5 (fun _ _ _ => id))
          have r2 := run_str (HB.out.keep (HK4.out.trans k5 (fun _ _ h => h)) (fun _ _ _ => id))
          have HK5 := Lib.hid (HK4.out.trans k5 (fun _ _ h => h))
          clear k5 HB4 HK4 HB
          go_wp2
          go_ret
          exact ⟨rfl, HK5.out⟩

namespace EntryBack
set_option maxRecDepth 100000 in
theorem lifted (os : Os) (started : os.Started) (H : Type) (enc : TypeId × Value → H) :
    ReturnsInHanded {} Try.checked os 5 .any (Rows.entryBackSpec.pre6 enc Try.prog Try.f5 Rows.entryBackRow.domain false) (Rows.entryBackSpec.post enc Try.prog Try.f5 false true false false) := by
  refine returnsInHanded_of_change_sized (C := Try.checked) own started (by kernel_rfl) Try.func5
    (ChangeSpec.witness6 (enc := enc) (C := Try.checked) false ⟨#[], #[.agg #[.int .u64 0, .int .u64 0, .int .i64 0, .slice none 0 0], .agg #[.int .i64 0, .int .u64 0, .int .u64 0, .slice none 0 0, .int .u64 0, .int .u64 0, .bool false, .int .u64 0], .slice none 0 0], []⟩ 8 (by kernel_rfl) (by kernel_rfl) (by kernel_rfl) (by kernel_rfl)) ?_
  intro W base args ds gs before hval0 hW hcnd hsz _
  have hval : ∀ (j : Nat) t v, Try.f5.params[j]? = some t → args[j]? = some v → Value.okWide Try.prog W .any base t v := hval0
  have hW' := hW
  obtain ⟨p, q, hA0, hV, rfl, hfz, hnd⟩ := hW
  have hA : DataW.TrodAll enc Try.prog W 0 (fun _ => true) true Try.f5.params.toList args.toList ds p := hA0
  rw [Try.params5] at hA hval
  obtain ⟨v0, vs0, d0, ds0, p0, q0, hargs, rfl, rfl, h0, r0⟩ := trodAll_cons hA
  obtain ⟨v1, vs1, d1, ds1, p1, q1, rfl, rfl, rfl, h1, r1⟩ := trodAll_cons r0
  obtain ⟨v2, vs2, d2, ds2, p2, q2, rfl, rfl, rfl, h2, r2⟩ := trodAll_cons r1
  obtain ⟨rfl, rfl, rfl⟩ := trodAll_nil r2
  obtain rfl : args = #[v0, v1, v2] := by cases args; simp_all
  obtain ⟨rfl, rfl⟩ := trodVars_none hV
  have k0 := h0
  have k1 := h1
  have k2 := h2
  have lt0 : ∀ x ∈ p0, x.block < W.heap.size := by obtain ⟨m, hm⟩ := k0; exact DataW.trod_lt m _ _ _ hm
  have lt1 : ∀ x ∈ p1, x.block < W.heap.size := by obtain ⟨m, hm⟩ := k1; exact DataW.trod_lt m _ _ _ hm
  have lt2 : ∀ x ∈ p2, x.block < W.heap.size := by obtain ⟨m, hm⟩ := k2; exact DataW.trod_lt m _ _ _ hm
  obtain ⟨ei, et, ek, eu, ecs, rfl, hei, het, hec⟩ := open_ent (hval 0 25 v0 rfl rfl) h0
  obtain ⟨c, hcc, hlies⟩ := open_cmd (hval 1 38 v1 rfl rfl) h1
  obtain ⟨bs, hbs, hlen⟩ := open_arg_bytes (okWide_slice Try.underlying23 (hval 2 23 v2 rfl rfl)) h2
  have hl : bs.length ≤ lim := by
    rcases hlen with rfl | ⟨elems, spare, hd, hle⟩
    · exact Nat.zero_le _
    · have hs := sized_slice (j := 2) (t := 23) (e := 5) (elems := elems) (spare := spare) hsz (by rfl) (by rw [hd]; rfl) Try.underlying23
      have hB : Try.checked.prog.bytesOf 5 = 1 := by kernel_rfl
      rw [hB, Nat.mul_one] at hs
      have hR : reachBytes = lim := rfl
      omega
  clear hA0 hval0
  have hec' := hec
  have hbs' := hbs
  obtain ⟨eA, ec, hev, _⟩ := hec
  obtain ⟨bA, bc, hbv, _⟩ := hbs
  subst hev hbv
  obtain ⟨k, ses, seq, gv, ts, gid, tok, good, time⟩ := c
  have hl' := hlies
  obtain ⟨A, cap, hgv, _⟩ := hlies.ts.1
  simp only at hgv
  subst hgv
  unfold Cmd.cells at hcc
  simp only at hcc
  subst hcc
  obtain ⟨er, xs, a1⟩ := entAns_some ei et ek ecs
  obtain ⟨cr, ys, a2⟩ := cmdAns_some ⟨k, ses, seq, .slice A ts.length cap, ts, gid, tok, good, time⟩
  obtain ⟨⟨dK, dS, dQ, dP, dI, dT, dG, dM⟩, dr, a3⟩ := rdAns_some bs
  obtain ⟨fr, di, dt, dk, dcs, a4⟩ := decAns_some bs
  refine (back_walk W ei et ek eA ec ecs k ses seq gid tok time good A cap ts bA bc bs hei het hec' hl' hbs' hl er dr cr fr xs ys di dt dk dcs dK dS dQ dI dT dM dG dP a1 a2 a3 a4).mono fun e W' ⟨he, bel0⟩ => ?_
  subst he
  have bel := bel0.all
  exact ⟨_, rfl, _, _, _, [], _, [], hW', trodAll_mk1 (shut_bool Try.underlying4 _), (trodAll_cons_mk (Below.trod laidOut (by kernel_rfl) (of_decide_eq_true (by kernel_rfl)) k0 bel lt0) (trodAll_cons_mk (Below.trod laidOut (by kernel_rfl) (of_decide_eq_true (by kernel_rfl)) k1 bel lt1) (trodAll_cons_mk (Below.trod laidOut (by kernel_rfl) (of_decide_eq_true (by kernel_rfl)) k2 bel lt2) trodAll_mk0))), rfl, bel.frame _, fun h => by cases h⟩

theorem over : Rows.entryBackRow.holds Try.pinned (OpenSpec.ofChange Rows.entryBackSpec) :=
  OpenClaim.holds_of_wide 5 Try.f5 rfl rfl rfl rfl rfl rfl rfl ⟨rfl, rfl, rfl, rfl, rfl⟩ rfl rfl rfl rfl rfl (by kernel_rfl) Try.func5 (by kernel_rfl)
    (of_decide_eq_true (by kernel_rfl)) (by unfold Func.isWrapper; first | (rw [if_pos (by decide +kernel)]; kernel_rfl) | (rw [if_neg (by decide +kernel)]; exact ⟨rfl, rfl⟩))
    (fun os started H enc _ => lifted os started H enc)

theorem proved : Rows.EntryBackSaid := over
end EntryBack
end Go.Proofs.Ytngbminjbgomgaa
