/-
  Proved: dockyardlaw04.EntryCuts answers true for every input that can be read, and leaves its arguments as they were. No conditions.
-/
import Derived.Test.YtngbminjbgomgaaAns
import Derived.Test.YtngbminjbgomgaaRef
import Derived.Deep.DeepCutAuto
namespace Go.Proofs.Ytngbminjbgomgaa
open Go.ChangeShapes Go.WideShapes Go.ChangeAt Go.RowKit

/-- An entry's bytes with others behind them. -/
theorem dec_front (i t : Nat) (k : Int) (cs r : List UInt8) (hi : (i : Int) < 18446744073709551616) (ht : (t : Int) < 18446744073709551616) (hr : entRight i t k cs.length = true) :
    decOk (entBytes i t k.toNat cs ++ r) = decide ((⟨r, 0⟩ : Rs).end_ = 0) := by
  obtain ⟨_, _, h3, h4⟩ := (entRight_iff _ _ _ _).1 hr
  have e1 : decI (entBytes i t k.toNat cs ++ r) = (be i 8, ⟨be t 8 ++ ([UInt8.ofNat k.toNat] ++ (textBytes cs ++ r)), 0⟩) := by
    unfold decI entBytes
    simp only [List.append_assoc]
    exact Rs.take_all _ _ _ (be_length i 8)
  have e2 : decT (entBytes i t k.toNat cs ++ r) = (be t 8, ⟨[UInt8.ofNat k.toNat] ++ (textBytes cs ++ r), 0⟩) := by
    unfold decT
    rw [e1]
    exact Rs.take_all _ _ _ (be_length t 8)
  have e3 : decK (entBytes i t k.toNat cs ++ r) = ([UInt8.ofNat k.toNat], ⟨textBytes cs ++ r, 0⟩) := by
    unfold decK
    rw [e2]
    exact Rs.take_all _ _ _ rfl
  have e4 : decD (entBytes i t k.toNat cs ++ r) = (cs, ⟨r, 0⟩) := by
    unfold decD
    rw [e3]
    exact text_back cs r 65536 h3 (by omega)
  have n1 : num (be i 8) = i := num_be i 8 (by rw [pow8]; omega)
  have n2 : num (be t 8) = t := num_be t 8 (by rw [pow8]; omega)
  have n3 : (num [UInt8.ofNat k.toNat] : Int) = k := by
    have : num [UInt8.ofNat k.toNat] = k.toNat := by
      simp only [num, List.foldl_cons, List.foldl_nil, Nat.zero_mul, Nat.zero_add, UInt8.toNat_ofNat']
      omega
    rw [this]
    omega
  unfold decOk
  rw [e1, e2, e3, e4]
  simp only
  rw [n1, n2, n3, hr, Bool.and_true]
theorem dec_more (i t : Nat) (k : Int) (cs : List UInt8) (b : UInt8) (hi : (i : Int) < 18446744073709551616) (ht : (t : Int) < 18446744073709551616) (hr : entRight i t k cs.length = true) : decOk (entBytes i t k.toNat cs ++ [b]) = false := by
  rw [dec_front i t k cs [b] hi ht hr]
  rfl
theorem dec_cut (i t : Nat) (k : Int) (cs : List UInt8) (n : Nat) (hi : (i : Int) < 18446744073709551616) (ht : (t : Int) < 18446744073709551616) (hr : entRight i t k cs.length = true) (hn : n < (entBytes i t k.toNat cs).length) : decOk ((entBytes i t k.toNat cs).take n) = false := by
  cases h : decOk ((entBytes i t k.toNat cs).take n) with
  | false => rfl
  | true =>
    exfalso
    have hb := dec_read _ h
    have hr' := h
    unfold decOk at hr'
    rw [Bool.and_eq_true] at hr'
    have e1 := dec_front (num (decI ((entBytes i t k.toNat cs).take n)).1) (num (decT ((entBytes i t k.toNat cs).take n)).1) (num (decK ((entBytes i t k.toNat cs).take n)).1 : Int) (decD ((entBytes i t k.toNat cs).take n)).1 ((entBytes i t k.toNat cs).drop n) (num_lt64 _ (take_length _ _)) (num_lt64 _ (take_length _ _)) hr'.2
    rw [Int.toNat_natCast, hb, List.take_append_drop, (dec_back i t k cs hi ht hr).1] at e1
    have : ((entBytes i t k.toNat cs).drop n).length = 0 := by
      cases hd : (entBytes i t k.toNat cs).drop n with
      | nil => rfl
      | cons a l =>
        rw [hd] at e1
        simp [Rs.end_] at e1
    rw [List.length_drop] at this
    omega
theorem fresh_zero (w : World) : Fresh w (w.alloc (.cells #[] 5)) (.slice (some ⟨w.heap.size, 0, none⟩) 0 0) [] := by
  refine ⟨(Keep.refl _ _).alloc _, ⟨?_, .inr ⟨w.heap.size, 0, #[], rfl, Nat.zero_le _, Box.new w _ _, Nat.le_refl _, Nat.zero_le _, rfl, by simp⟩⟩, fun k hk => ?_⟩
  · simp
  · have : w.heap.size = k := by simpa [Value.ownBlock] using hk
    omega

set_option maxRecDepth 100000 in
set_option maxHeartbeats 4000000 in
theorem cuts_walk (w : World) (ei et : Nat) (ek : Int) (eA : Option Addr) (ec : Nat) (ecs : List UInt8) (k : Int) (ses seq gid tok time : Nat) (good : Bool) (A : Option Addr) (cap : Nat) (ts : List Tg) (cut : Int)
    (hei : (ei : Int) < 18446744073709551616) (het : (et : Int) < 18446744073709551616) (he : Bytes w (fun _ => True) (.slice eA ecs.length ec) ecs)
    (hc : Cmd.lies w (fun _ => True) ⟨k, ses, seq, .slice A ts.length cap, ts, gid, tok, good, time⟩)
    (er cr : Int) (xs ys : List UInt8)
    (h1 : entAns ei et ek ecs er xs) (h2 : cmdAns ⟨k, ses, seq, .slice A ts.length cap, ts, gid, tok, good, time⟩ cr ys) :
    Calls Try.prog 6 #[.agg #[.int .u64 (ei : Int), .int .u64 (et : Int), .int .i64 ek, .slice eA ecs.length ec], .agg #[.int .i64 k, .int .u64 (ses : Int), .int .u64 (seq : Int), .slice A ts.length cap, .int .u64 (gid : Int), .int .u64 (tok : Int), .bool good, .int .u64 (time : Int)], .int .i64 cut] w fun e w' => e = .returned (.bool true) ∧ Keep noneOf w w' := by
  obtain ⟨i1, hi1, hz0, hz1, hz2⟩ := info_parts u8info
  have K0 := ((Keep.refl noneOf w).alloc (.cells #[.int .u64 (ei : Int), .int .u64 (et : Int), .int .i64 ek, .slice eA ecs.length ec] 25)).alloc (.cells #[.int .i64 k, .int .u64 (ses : Int), .int .u64 (seq : Int), .slice A ts.length cap, .int .u64 (gid : Int), .int .u64 (tok : Int), .bool good, .int .u64 (time : Int)] 38)
  have X0 := (Box.new w 25 #[.int .u64 (ei : Int), .int .u64 (et : Int), .int .i64 ek, .slice eA ecs.length ec]).alloc (.cells #[.int .i64 k, .int .u64 (ses : Int), .int .u64 (seq : Int), .slice A ts.length cap, .int .u64 (gid : Int), .int .u64 (tok : Int), .bool good, .int .u64 (time : Int)] 38)
  have Y0 := Box.new (w.alloc (.cells #[.int .u64 (ei : Int), .int .u64 (et : Int), .int .i64 ek, .slice eA ecs.length ec] 25)) 38 #[.int .i64 k, .int .u64 (ses : Int), .int .u64 (seq : Int), .slice A ts.length cap, .int .u64 (gid : Int), .int .u64 (tok : Int), .bool good, .int .u64 (time : Int)]
  rw [World.size_alloc] at Y0
  have C1 : Hid (∀ w', Keep noneOf w w' → Calls Try.prog 9 #[.agg #[.int .u64 (ei : Int), .int .u64 (et : Int), .int .i64 ek, .slice eA ecs.length ec]] w' (Answer2 w' er xs)) := fun w' kk => (encode_any w' (fun _ => True) ei et ek _ ecs hei het (he.keep kk (fun _ _ _ => id))).mono fun _ _ h => answer2 h h1
  have HX0 := Lib.hid X0
  have HY0 := Lib.hid Y0
  have HK0 := Lib.hid K0
  have HE := Lib.hid he
  have HC := Lib.hid hc
  have H1 := Lib.hid h1
  have H2 := Lib.hid h2
  have HEI := Lib.hid hei
  have HET := Lib.hid het
  clear X0 Y0 K0 he hc h1 h2 hei het
  go_enter Try.func6, Try.ntmps6
  go_wp2_with fail
  refine (C1.out _ HK0.out).mono ?_
  rintro e w1 ⟨k1, A1, c1, rfl, b1⟩
  have X1 := HX0.out.keep k1 id
  have Y1 := HY0.out.keep k1 id
  have K1 := HK0.out.trans k1 (fun _ _ h => h)
  have HB1 := Lib.hid b1
  have HX1 := Lib.hid X1
  have HY1 := Lib.hid Y1
  have HK1 := Lib.hid K1
  clear HX0 HY0 HK0 C1 k1 b1 X1 Y1 K1
  obtain ⟨bb, hbb⟩ : ∃ bb : Bool, decide (er = 0 ∧ 0 ≤ cut ∧ cut < (xs.length : Int)) = bb := ⟨_, rfl⟩
  have HBB := Lib.hid hbb
  clear hbb
  go_upto_region 2 with fail
  go_cut [35] (fun c wx => c = .bool bb ∧ wx = w1)
  case first =>
    have hd := HBB.out
    clear HBB H1 H2 HE HC HEI HET HB1 HX1 HY1 HK1
    by_cases g1 : er = 0
    · have e1 : (er == 0) = true := beq_iff_eq.2 g1
      by_cases g2 : 0 ≤ cut
      · by_cases g3 : cut < (xs.length : Int)
        · have hd' : bb = true := by rw [← hd]; exact decide_eq_true ⟨g1, g2, g3⟩
          clear hd g1
          subst hd'
          go_wp2
          go_meet
          case rel => exact ⟨rfl, rfl⟩
        · have hd' : bb = false := by rw [← hd]; exact decide_eq_false (fun h => g3 h.2.2)
          clear hd g1
          subst hd'
          go_wp2
          go_meet
          case rel => exact ⟨rfl, rfl⟩
      · have hd' : bb = false := by rw [← hd]; exact decide_eq_false (fun h => g2 h.2.1)
        clear hd g1
        subst hd'
        go_wp2
        go_meet
        case rel => exact ⟨rfl, rfl⟩
    · have hd' : bb = false := by rw [← hd]; exact decide_eq_false (fun h => g1 h.1)
      have e1 : (er == 0) = false := beq_eq_false_iff_ne.2 g1
      clear hd g1
      subst hd'
      go_wp2
      go_meet
      case rel => exact ⟨rfl, rfl⟩
  case rest =>
    obtain ⟨rfl, rfl⟩ := hcut
    go_upto_if 35 with fail
    go_cut [9, 10, 11, 12] (fun _ _ _ _ wx => Keep noneOf wc wx)
    case first =>
      cases bb with
      | false =>
        clear HBB H1 H2 HE HC HEI HET HB1 HX1 HY1 HK1
        go_wp2
        go_meet
        case rel => exact Keep.refl _ _
      | true =>
        obtain ⟨g1, g2, g3⟩ := of_decide_eq_true HBB.out
        obtain ⟨hr1, hxe⟩ : entRight ei et ek ecs.length = true ∧ xs = entBytes ei et ek.toNat ecs := by
          rcases H1.out with ⟨_, h, _⟩ | ⟨h1, _, h2⟩
          · rw [g1] at h; cases h
          · exact ⟨h1, h2⟩
        obtain ⟨n, rfl⟩ : ∃ n : Nat, cut = (n : Int) := ⟨cut.toNat, by omega⟩
        have hn : n < xs.length := by omega
        have hxl : xs.length + 1 ≤ lim := by have := entBytes_lim ei et ek ecs hr1; rw [hxe]; exact this
        have D1 : decAns (xs.take n) 40 0 0 0 [] := .inl ⟨by rw [hxe]; exact dec_cut ei et ek ecs n HEI.out HET.out hr1 (by rw [← hxe]; exact hn), rfl, rfl, rfl, rfl, rfl⟩
        have D2 : decAns (xs ++ [by8 0]) 40 0 0 0 [] := .inl ⟨by rw [hxe]; exact dec_more ei et ek ecs (by8 0) HEI.out HET.out hr1, rfl, rfl, rfl, rfl, rfl⟩
        have bt := HB1.out.take (n := n) (by omega)
        have CD := Lib.hid ((decode_any wc (fun _ => True) _ (xs.take n) bt (by rw [List.length_take]; omega)).mono fun _ _ h => decode2 h D1)
        have CE : Hid (∀ w' v, Bytes w' (fun _ => True) v (xs ++ [by8 0]) → Calls Try.prog 11 #[v] w' (Decode2 w' 40 0 0 0 [])) := fun w' v hb => (decode_any w' (fun _ => True) v _ hb (by rw [List.length_append]; exact hxl)).mono fun _ _ h => decode2 h D2
        have HXL := Lib.hid hxl
        have hcc : n ≤ c1 := by
          obtain ⟨_, _, e, hle, _⟩ := HB1.out
          injection e with _ _ e3
          omega
        have hcm : c1 ≤ maxLen := by
          obtain ⟨_, _, e, _, hle, _⟩ := HB1.out
          injection e with _ _ e3
          omega
        unfold maxLen at hcm
        clear g1 g3 hr1 hxe hxl D1 D2 bt H1 H2 HE HC HEI HET HX1 HY1 HK1 HBB
        go_wp2_with fail
        refine CD.out.mono ?_
        rintro e w2 ⟨k2, A2, c2, rfl, _⟩
        rw [List.length_nil]
        have ka := (Keep.refl noneOf w2).alloc (.cells #[.int .u64 0, .int .u64 0, .int .i64 0, .slice A2 0 c2] 25)
        have bx := HB1.out.keep (k2.trans ka (fun _ _ h => h)) (fun _ _ _ => id)
        have HK2 := Lib.hid (k2.trans ka (fun _ _ h => h))
        have HBX := Lib.hid bx
        clear bx k2 ka CD HB1 hcc hcm
        have Z3 := fresh_zero (w2.alloc (.cells #[.int .u64 0, .int .u64 0, .int .i64 0, .slice A2 0 c2] 25))
        rw [World.size_alloc] at Z3
        have o3 := Z3.own
        have b3 := HBX.out.keep Z3.keep (fun _ _ _ => id)
        have HZ3 := Lib.hid Z3
        clear Z3
        go_wp2_with (at_builtin; refine wpList_append_read _ rfl (.tmp 44) (.tmp 45) 23 rfl 5 i1 _ Try.underlying23 hi1 hz0 hz1 hz2 rfl _ _ [] xs _ rfl rfl o3 b3 (by have := HXL.out; rw [List.length_nil]; omega) ?_)
        intro v4 w4 o4 gr4 at4 _
        have F4 := HZ3.out.append (cs := xs) gr4 (by simpa using at4) (by simpa using o4)
        obtain ⟨A4, c4, hs4⟩ := own_shape F4.own
        subst hs4
        rw [List.nil_append] at F4
        have F5 := F4.later ((Keep.refl noneOf w4).alloc (.cells #[.int .u8 0] 5))
        have o5 := F5.own
        have b5 := (fresh_one w4 0 (by decide) (by decide)).any
        have HF5 := Lib.hid F5
        clear o3 b3 o4 gr4 at4 F4 F5 HZ3
        go_wp2_with (at_builtin; refine wpList_append_read _ rfl (.tmp 46) (.tmp 47) 23 rfl 5 i1 _ Try.underlying23 hi1 hz0 hz1 hz2 rfl _ _ xs [by8 0] _ rfl rfl o5 b5 (by have := HXL.out; rw [List.length_cons, List.length_nil]; omega) ?_)
        intro v6 w6 o6 gr6 at6 _
        have F6 := HF5.out.append (cs := [by8 0]) gr6 (by simpa using at6) (by simpa using o6)
        obtain ⟨A6, c6, hs6⟩ := own_shape F6.own
        subst hs6
        have K6 := F6.keep
        have B6 := F6.any
        rw [show (xs ++ [by8 0]).length = xs.length + 1 from by simp] at B6
        clear o5 b5 o6 gr6 at6 HF5 F6

        have HK6 := Lib.hid (HK2.out.trans K6 (fun _ _ h => h))
        have HB6 := Lib.hid B6
        clear K6 B6 HBX HK2
        go_wp2_with fail
        refine (CE.out _ _ HB6.out).mono ?_
        rintro e w7 ⟨k7, A7, c7, rfl, _⟩
        rw [List.length_nil]
        have HK7 := Lib.hid ((HK6.out.trans k7 (fun _ _ h => h)).alloc (.cells #[.int .u64 0, .int .u64 0, .int .i64 0, .slice A7 0 c7] 25))
        clear k7 HK6 HB6 CE HXL
        go_wp2
        go_meet
        case rel => exact HK7.out
    case rest =>
      have HYc := Lib.hid (HY1.out.keep hcut id)
      have HKc := Lib.hid (HK1.out.trans hcut (fun _ _ h => h))
      clear HX1 HY1 HK1 H1 HB1 HE hcut HBB HEI HET
      have y0 : wc.cell? ⟨w.heap.size + 1, 0, none⟩ = some (.int .i64 k) := HYc.out.cell 0
      have y1 : wc.cell? ⟨w.heap.size + 1, 1, none⟩ = some (.int .u64 (ses : Int)) := HYc.out.cell 1
      have y2 : wc.cell? ⟨w.heap.size + 1, 2, none⟩ = some (.int .u64 (seq : Int)) := HYc.out.cell 2
      have y3 : wc.cell? ⟨w.heap.size + 1, 3, none⟩ = some (.slice A ts.length cap) := HYc.out.cell 3
      have y4 : wc.cell? ⟨w.heap.size + 1, 4, none⟩ = some (.int .u64 (gid : Int)) := HYc.out.cell 4
      have y5 : wc.cell? ⟨w.heap.size + 1, 5, none⟩ = some (.int .u64 (tok : Int)) := HYc.out.cell 5
      have y6 : wc.cell? ⟨w.heap.size + 1, 6, none⟩ = some (.bool good) := HYc.out.cell 6
      have y7 : wc.cell? ⟨w.heap.size + 1, 7, none⟩ = some (.int .u64 (time : Int)) := HYc.out.cell 7
      have C2 := Lib.hid ((command_any wc (fun _ => True) ⟨k, ses, seq, .slice A ts.length cap, ts, gid, tok, good, time⟩ ⟨HC.out.ses, HC.out.seq, HC.out.id, HC.out.tok, HC.out.time, HC.out.ts.keep HKc.out (fun _ _ _ => id)⟩).mono fun _ _ h => command2 h H2.out)
      unfold Cmd.cells at C2
      simp only at C2
      have HSM := Lib.hid HC.out.small
      clear HC
      go_wp2_with fail
      refine C2.out.mono ?_
      rintro e w1 ⟨k1, A1, c1, rfl, b1⟩
      have HB1 := Lib.hid b1
      have HK1 := Lib.hid (HKc.out.trans k1 (fun _ _ h => h))
      clear y0 y1 y2 y3 y4 y5 y6 y7 C2 k1 b1 HYc HKc
      obtain ⟨bd, hbd⟩ : ∃ bd : Bool, decide (cr ≠ 0 ∨ cut < 0 ∨ (ys.length : Int) ≤ cut) = bd := ⟨_, rfl⟩
      have HBD := Lib.hid hbd
      clear hbd
      go_upto_region 8 with fail
      go_cut [74] (fun c wx => c = .bool bd ∧ wx = w1)
      case first =>
        have hd := HBD.out
        clear HBD H2 HB1 HK1 HSM
        by_cases g1 : cr = 0
        · have e1 : (cr != 0) = false := by rw [bne_eq_false_iff_eq]; exact g1
          by_cases g2 : cut < 0
          · have hd' : bd = true := by rw [← hd]; exact decide_eq_true (.inr (.inl g2))
            clear hd g1
            subst hd'
            go_wp2
            go_meet
            case rel => exact ⟨rfl, rfl⟩
          · by_cases g3 : (ys.length : Int) ≤ cut
            · have hd' : bd = true := by rw [← hd]; exact decide_eq_true (.inr (.inr g3))
              clear hd g1
              subst hd'
              go_wp2
              go_meet
              case rel => exact ⟨rfl, rfl⟩
            · have hd' : bd = false := by rw [← hd]; exact decide_eq_false (fun h => by rcases h with h | h | h <;> omega)
              clear hd g1
              subst hd'
              go_wp2
              go_meet
              case rel => exact ⟨rfl, rfl⟩
        · have hd' : bd = true := by rw [← hd]; exact decide_eq_true (.inl g1)
          have e1 : (cr != 0) = true := by rw [bne_iff_ne]; exact g1
          clear hd g1
          subst hd'
          go_wp2
          go_meet
          case rel => exact ⟨rfl, rfl⟩
      case rest =>
        obtain ⟨rfl, hwx⟩ := hcut
        subst hwx
        cases bd with
        | true =>
          clear HBD H2 HB1 HSM
          go_wp2_with fail
          refine (alive_any _).mono ?_
          rintro e w4 ⟨rfl, k4⟩
          have HK4 := Lib.hid (HK1.out.trans k4 (fun _ _ h => h))
          clear k4 HK1
          go_wp2
          go_ret
          exact ⟨rfl, HK4.out⟩
        | false =>
          have hnn := of_decide_eq_false HBD.out
          obtain ⟨g1, g2, g3⟩ : cr = 0 ∧ 0 ≤ cut ∧ cut < (ys.length : Int) := ⟨Decidable.by_contra fun h => hnn (.inl h), by omega, by omega⟩
          obtain ⟨hr1, hxe⟩ : Cmd.right ⟨k, ses, seq, .slice A ts.length cap, ts, gid, tok, good, time⟩ = true ∧ ys = cmdBytes ⟨k, ses, seq, .slice A ts.length cap, ts, gid, tok, good, time⟩ := by
            rcases H2.out with ⟨_, h, _⟩ | ⟨h1, _, h2⟩
            · rw [g1] at h; cases h
            · exact ⟨h1, h2⟩
          obtain ⟨n, rfl⟩ : ∃ n : Nat, cut = (n : Int) := ⟨cut.toNat, by omega⟩
          have hn : n < ys.length := by omega
          have hxl : ys.length + 1 ≤ lim := by have := cmdBytes_lim _ hr1; rw [hxe]; exact this
          have D1 : rdAns (ys.take n) ⟨0, 0, 0, [], 0, 0, false, 0⟩ 40 := .inl ⟨by rw [hxe]; exact rdCommand_cut _ HSM.out hr1 n (by rw [← hxe]; exact hn), rfl, rfl⟩
          have D2 : rdAns (ys ++ [by8 0]) ⟨0, 0, 0, [], 0, 0, false, 0⟩ 40 := .inl ⟨by rw [hxe]; exact rdCommand_more _ HSM.out hr1 (by8 0), rfl, rfl⟩
          have bt := HB1.out.take (n := n) (by omega)
          have CD := Lib.hid (read2 wc (fun _ => True) _ (ys.take n) _ 40 bt (by rw [List.length_take]; omega) D1)
          have CE : Hid (∀ w' v, Bytes w' (fun _ => True) v (ys ++ [by8 0]) → Calls Try.prog 17 #[v] w' (Read2 w' ⟨0, 0, 0, [], 0, 0, false, 0⟩ 40)) := fun w' v hb => read2 w' (fun _ => True) v _ _ 40 hb (by rw [List.length_append]; exact hxl) D2
          have HXL := Lib.hid hxl
          have hcc : n ≤ c1 := by
            obtain ⟨_, _, e, hle, _⟩ := HB1.out
            injection e with _ _ e3
            omega
          have hcm : c1 ≤ maxLen := by
            obtain ⟨_, _, e, _, hle, _⟩ := HB1.out
            injection e with _ _ e3
            omega
          unfold maxLen at hcm
          clear hnn g1 g3 hr1 hxe hxl D1 D2 bt H2 HBD HSM
          go_wp2_with fail
          refine CD.out.mono ?_
          rintro e w2 ⟨k2, A2, c2, ts2, rfl, _, hp2⟩
          have ht2 : ts2 = [] := List.map_eq_nil_iff.1 hp2
          subst ht2
          clear hp2
          simp only [List.length_nil, Int.natCast_zero]
          have ka := (Keep.refl noneOf w2).alloc (.cells #[.int .i64 0, .int .u64 0, .int .u64 0, .slice A2 0 c2, .int .u64 0, .int .u64 0, .bool false, .int .u64 0] 38)
          have bx := HB1.out.keep (k2.trans ka (fun _ _ h => h)) (fun _ _ _ => id)
          have HK2 := Lib.hid (HK1.out.trans (k2.trans ka (fun _ _ h => h)) (fun _ _ h => h))
          have HBX := Lib.hid bx
          clear bx k2 ka CD HB1 hcc hcm HK1
          have Z3 := fresh_zero (w2.alloc (.cells #[.int .i64 0, .int .u64 0, .int .u64 0, .slice A2 0 c2, .int .u64 0, .int .u64 0, .bool false, .int .u64 0] 38))
          rw [World.size_alloc] at Z3
          have o3 := Z3.own
          have b3 := HBX.out.keep Z3.keep (fun _ _ _ => id)
          have HZ3 := Lib.hid Z3
          clear Z3
          go_wp2_with (at_builtin; refine wpList_append_read _ rfl (.tmp 84) (.tmp 85) 23 rfl 5 i1 _ Try.underlying23 hi1 hz0 hz1 hz2 rfl _ _ [] ys _ rfl rfl o3 b3 (by have := HXL.out; rw [List.length_nil]; omega) ?_)
          intro v4 w4 o4 gr4 at4 _
          have F4 := HZ3.out.append (cs := ys) gr4 (by simpa using at4) (by simpa using o4)
          obtain ⟨A4, c4, hs4⟩ := own_shape F4.own
          subst hs4
          rw [List.nil_append] at F4
          have F5 := F4.later ((Keep.refl noneOf w4).alloc (.cells #[.int .u8 0] 5))
          have o5 := F5.own
          have b5 := (fresh_one w4 0 (by decide) (by decide)).any
          have HF5 := Lib.hid F5
          clear o3 b3 o4 gr4 at4 F4 F5 HZ3
          go_wp2_with (at_builtin; refine wpList_append_read _ rfl (.tmp 86) (.tmp 87) 23 rfl 5 i1 _ Try.underlying23 hi1 hz0 hz1 hz2 rfl _ _ ys [by8 0] _ rfl rfl o5 b5 (by have := HXL.out; rw [List.length_cons, List.length_nil]; omega) ?_)
          intro v6 w6 o6 gr6 at6 _
          have F6 := HF5.out.append (cs := [by8 0]) gr6 (by simpa using at6) (by simpa using o6)
          obtain ⟨A6, c6, hs6⟩ := own_shape F6.own
          subst hs6
          have K6 := F6.keep
          have B6 := F6.any
          rw [show (ys ++ [by8 0]).length = ys.length + 1 from by simp] at B6
          clear o5 b5 o6 gr6 at6 HF5 F6

          have HK6 := Lib.hid (HK2.out.trans K6 (fun _ _ h => h))
          have HB6 := Lib.hid B6
          clear K6 B6 HBX HK2
          go_wp2_with fail
          refine (CE.out _ _ HB6.out).mono ?_
          rintro e w7 ⟨k7, A7, c7, ts7, rfl, _, hp7⟩
          have ht7 : ts7 = [] := List.map_eq_nil_iff.1 hp7
          subst ht7
          clear hp7
          simp only [List.length_nil, Int.natCast_zero]
          have HK7 := Lib.hid ((HK6.out.trans k7 (fun _ _ h => h)).alloc (.cells #[.int .i64 0, .int .u64 0, .int .u64 0, .slice A7 0 c7, .int .u64 0, .int .u64 0, .bool false, .int .u64 0] 38))
          clear k7 HK6 HB6 CE HXL
          go_wp2_with fail
          refine (alive_any _).mono ?_
          rintro e w8 ⟨rfl, k8⟩
          have HK8 := Lib.hid (HK7.out.trans k8 (fun _ _ h => h))
          clear k8 HK7
          go_wp2
          go_ret
          exact ⟨rfl, HK8.out⟩

namespace EntryCuts
set_option maxRecDepth 100000 in
theorem lifted (os : Os) (started : os.Started) (H : Type) (enc : TypeId × Value → H) :
    ReturnsInHanded {} Try.checked os 6 .any (Rows.entryCutsSpec.pre6 enc Try.prog Try.f6 Rows.entryCutsRow.domain false) (Rows.entryCutsSpec.post enc Try.prog Try.f6 false true false false) := by
  refine returnsInHanded_of_change (C := Try.checked) own started (by kernel_rfl) Try.func6
    (ChangeSpec.witness6 (enc := enc) (C := Try.checked) false ⟨#[], #[.agg #[.int .u64 0, .int .u64 0, .int .i64 0, .slice none 0 0], .agg #[.int .i64 0, .int .u64 0, .int .u64 0, .slice none 0 0, .int .u64 0, .int .u64 0, .bool false, .int .u64 0], .int .i64 0], []⟩ 8 (by kernel_rfl) (by kernel_rfl) (by kernel_rfl) (by kernel_rfl)) ?_
  intro W base args ds gs before hval0 hW hcnd _
  have hval : ∀ (j : Nat) t v, Try.f6.params[j]? = some t → args[j]? = some v → Value.okWide Try.prog W .any base t v := hval0
  have hW' := hW
  obtain ⟨p, q, hA0, hV, rfl, hfz, hnd⟩ := hW
  have hA : DataW.TrodAll enc Try.prog W 0 (fun _ => true) true Try.f6.params.toList args.toList ds p := hA0
  rw [Try.params6] at hA hval
  obtain ⟨v0, vs0, d0, ds0, p0, q0, hargs, rfl, rfl, h0, r0⟩ := trodAll_cons hA
  obtain ⟨v1, vs1, d1, ds1, p1, q1, rfl, rfl, rfl, h1, r1⟩ := trodAll_cons r0
  obtain ⟨v2, vs2, d2, ds2, p2, q2, rfl, rfl, rfl, h2, r2⟩ := trodAll_cons r1
  obtain ⟨rfl, rfl, rfl⟩ := trodAll_nil r2
  obtain rfl : args = #[v0, v1, v2] := by cases args; simp_all
  obtain ⟨rfl, rfl⟩ := trodVars_none hV
  have k0 := h0
  have k1 := h1
  have lt0 : ∀ x ∈ p0, x.block < W.heap.size := by obtain ⟨m, hm⟩ := k0; exact DataW.trod_lt m _ _ _ hm
  have lt1 : ∀ x ∈ p1, x.block < W.heap.size := by obtain ⟨m, hm⟩ := k1; exact DataW.trod_lt m _ _ _ hm
  obtain ⟨ei, et, ek, eu, ecs, rfl, hei, het, hec⟩ := open_ent (hval 0 25 v0 rfl rfl) h0
  obtain ⟨c, hcc, hlies⟩ := open_cmd (hval 1 38 v1 rfl rfl) h1
  obtain ⟨cut, rfl, rfl, rfl, w2⟩ := open_int Try.underlying3 (hval 2 3 v2 rfl rfl) h2
  clear hA0 hval0
  have hec' := hec
  obtain ⟨eA, ec, hev, _⟩ := hec
  subst hev
  obtain ⟨k, ses, seq, gv, ts, gid, tok, good, time⟩ := c
  have hl' := hlies
  obtain ⟨A, cap, hgv, _⟩ := hlies.ts.1
  simp only at hgv
  subst hgv
  unfold Cmd.cells at hcc
  simp only at hcc
  subst hcc
  obtain ⟨er, xs, a1⟩ := entAns_some ei et ek ecs
  obtain ⟨cr, ys, a2⟩ := cmdAns_some ⟨k, ses, seq, .slice A ts.length cap, ts, gid, tok, good, time⟩
  refine (cuts_walk W ei et ek eA ec ecs k ses seq gid tok time good A cap ts cut hei het hec' hl' er cr xs ys a1 a2).mono fun e W' ⟨he, bel0⟩ => ?_
  subst he
  have bel := bel0.all
  exact ⟨_, rfl, _, _, _, [], _, [], hW', trodAll_mk1 (shut_bool Try.underlying4 _), (trodAll_cons_mk (Below.trod laidOut (by kernel_rfl) (of_decide_eq_true (by kernel_rfl)) k0 bel lt0) (trodAll_cons_mk (Below.trod laidOut (by kernel_rfl) (of_decide_eq_true (by kernel_rfl)) k1 bel lt1) (trodAll_cons_mk (shut_int Try.underlying3 w2) trodAll_mk0))), rfl, bel.frame _, fun h => by cases h⟩

theorem over : Rows.entryCutsRow.holds Try.pinned (OpenSpec.ofChange Rows.entryCutsSpec) :=
  OpenClaim.holds_of_wide 6 Try.f6 rfl rfl rfl rfl rfl rfl rfl ⟨rfl, rfl, rfl, rfl, rfl⟩ rfl rfl rfl rfl rfl (by kernel_rfl) Try.func6 (by kernel_rfl)
    (of_decide_eq_true (by kernel_rfl)) (by unfold Func.isWrapper; first | (rw [if_pos (by decide +kernel)]; kernel_rfl) | (rw [if_neg (by decide +kernel)]; exact ⟨rfl, rfl⟩))
    (fun os started H enc _ => lifted os started H enc)

theorem proved : Rows.EntryCutsSaid := over
end EntryCuts
end Go.Proofs.Ytngbminjbgomgaa
