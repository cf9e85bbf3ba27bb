/-
  dockyardref04.ReadCommand.
-/
import Derived.Test.YtngbminjbgomgaaRefGTargets
import Derived.Test.YtngbminjbgomgaaRefRdM
import Derived.Test.YtngbminjbgomgaaRefCommand
import Derived.Test.YtngbminjbgomgaaAns
namespace Go.Proofs.Ytngbminjbgomgaa
open Go.RowKit

def cmdZero : Array Value := #[.int .i64 0, .int .u64 0, .int .u64 0, .slice none 0 0, .int .u64 0, .int .u64 0, .bool false, .int .u64 0]
def pcCells (x : PC) (gv : Value) : Array Value := #[.int .i64 x.kind, .int .u64 (x.ses : Int), .int .u64 (x.seq : Int), gv, .int .u64 (x.id : Int), .int .u64 (x.tok : Int), .bool x.good, .int .u64 (x.time : Int)]


set_option maxRecDepth 100000 in
set_option maxHeartbeats 8000000 in
theorem refReadCommand_any (w : World) (D : Nat → Prop) (v : Value) (bs : List UInt8) (d : PC) (er : Int) (hs : Bytes w D v bs) (hl : bs.length ≤ lim) (hx : rdAns bs d er) :
    Calls Try.prog 18 #[v] w (Read2 w d er) := by
  have HS := Lib.hid hs
  have HL := Lib.hid hl
  obtain ⟨A, c, rfl, hlc, hcm, hn, hcell⟩ := hs
  have HXX := Lib.hid hx
  obtain ⟨ck, s0, hk0⟩ : ∃ a b, Rs.take ⟨bs, 0⟩ 1 = (a, b) := ⟨_, _, rfl⟩
  have HREF := Lib.hid (show rdRef bs = rdSteps (namesOf (num ck)).data.toList (PC.zero (num ck), s0) by unfold rdRef; rw [hk0])
  have X0 := (Box.new w 38 cmdZero).alloc (.cells #[.slice A bs.length c, .int .i64 0, .int .i64 0] 67)
  have Y0 := Box.new (w.alloc (.cells cmdZero 38)) 67 #[.slice A bs.length c, .int .i64 0, .int .i64 0]
  rw [show (w.alloc (.cells cmdZero 38)).heap.size = w.heap.size + 1 from by simp] at Y0
  have K0 := ((Keep.refl noneOf w).alloc (.cells cmdZero 38)).alloc (.cells #[.slice A bs.length c, .int .i64 0, .int .i64 0] 67)
  have GK := Lib.hid (refGet_any _ D A c bs ck 0 1 0 s0 (HS.out.keep K0 (fun _ _ _ => id)) hl (Nat.zero_le _) (by decide) (by rw [List.drop_zero]; exact hk0))
  have hkk : num ck < 256 := by
    have := num_lt ck
    have h1 : ck.length ≤ 1 := by have := take_length ⟨bs, 0⟩ 1; rw [hk0] at this; exact this
    have : 256 ^ ck.length ≤ 256 ^ 1 := Nat.pow_le_pow_right (by decide) h1
    omega
  unfold cmdZero at X0 Y0 K0 GK
  have HX0 := Lib.hid X0
  have HY0 := Lib.hid Y0
  have HK0 := Lib.hid K0
  clear hx hl hcell hk0 X0 Y0 K0 hn
  go_enter Try.func18, Try.ntmps18
  go_wp2_with fail
  refine GK.out.mono ?_
  rintro e w1 ⟨at1, rfl, ha1, hd1, k1⟩
  have X1 := HX0.out.keep k1 id
  have Y1 := HY0.out.keep k1 id
  have y0 := Y1.cell 0
  have y1 := Y1.cell 1
  have y2 := Y1.cell 2
  have f0 := Y1.free 0
  have f1 := Y1.free 1
  have f2 := Y1.free 2
  simp only [List.getElem?_toArray, List.getElem?_cons_zero, List.getElem?_cons_succ] at y0 y1 y2
  have kp := Keep.put3 (w := w1) (w.heap.size + 1) (.slice A bs.length c) (.int .i64 at1) (.int .i64 s0.err)
  have HX2 := Lib.hid (X1.keep kp (by omega))
  have HY2 := Lib.hid (Y1.put3 (.slice A bs.length c) (.int .i64 at1) (.int .i64 s0.err))
  have HK2 := Lib.hid ((HK0.out.trans k1 (fun _ _ h => h)).trans kp (fun i hi e => by omega))
  have hs0 : s0 = ⟨bs.drop at1, s0.err⟩ := by rw [hd1]
  rw [hs0] at HREF
  generalize s0.err = e0 at *
  generalize num ck = kk at *
  clear GK HX0 HY0 HK0 X1 Y1 kp hs0 hd1 k1
  go_upto_region 3 with fail
  generalize ((w1.setCell ⟨w.heap.size + 1, 0, none⟩ (.slice A bs.length c)).setCell ⟨w.heap.size + 1, 1, none⟩ (.int .i64 at1)).setCell ⟨w.heap.size + 1, 2, none⟩ (.int .i64 e0) = w2 at *
  clear y0 y1 y2 f0 f1 f2
  have hz2 := HY2.out.lt
  have X3 := HX2.out.alloc (.cells #[.int .i64 (kk : Int), .int .u64 0, .int .u64 0, .slice none 0 0, .int .u64 0, .int .u64 0, .bool false, .int .u64 0] 38)
  have Y3 := HY2.out.alloc (.cells #[.int .i64 (kk : Int), .int .u64 0, .int .u64 0, .slice none 0 0, .int .u64 0, .int .u64 0, .bool false, .int .u64 0] 38)
  have C3 := Box.new w2 38 #[.int .i64 (kk : Int), .int .u64 0, .int .u64 0, .slice none 0 0, .int .u64 0, .int .u64 0, .bool false, .int .u64 0]
  have c30 := C3.cell 0
  simp only [List.getElem?_toArray, List.getElem?_cons_zero] at c30
  have HX3 := Lib.hid X3
  have HY3 := Lib.hid Y3
  have HC3 := Lib.hid C3
  have HK3 := Lib.hid (HK2.out.alloc (.cells #[.int .i64 (kk : Int), .int .u64 0, .int .u64 0, .slice none 0 0, .int .u64 0, .int .u64 0, .bool false, .int .u64 0] 38))
  have NM := Lib.hid (names_any (w2.alloc (.cells #[.int .i64 (kk : Int), .int .u64 0, .int .u64 0, .slice none 0 0, .int .u64 0, .int .u64 0, .bool false, .int .u64 0] 38)) (kk : Int))
  clear X3 Y3 C3 HX2 HY2 HK2
  have hkI : ((kk : Nat) : Int) < 256 := by omega
  -- LOOP
  go_wp2_with fail
  refine NM.out.mono ?_
  rintro e w3 ⟨rfl, hw3⟩
  have HW3 := Lib.hid hw3
  clear NM c30 hw3
  have HSM := Lib.hid (rdSteps_small (namesOf (kk : Int)).data.toList (PC.zero kk, ⟨bs.drop at1, e0⟩) (zero_small _))
  have hnl : (namesOf (kk : Int)).size ≤ 4 := by
    unfold namesOf
    repeat' split
    all_goals decide
  generalize namesOf (kk : Int) = nms at *
  have hsz3 : w2.heap.size < w3.heap.size := by rw [← HW3.out]; simp
  rw [HW3.out] at HX3 HY3 HC3 HK3
  clear HW3
  go_wp2
  generalize w2.heap.size = J at *
  go_loopw [8] (fun i wr => ∃ (j at' : Nat) (er' : Int) (x : PC) (gv : Value) (hts : List Tg), j ≤ nms.size ∧ i = .int .i64 j ∧ at' ≤ bs.length ∧ Keep noneOf w wr ∧ Box wr w.heap.size 38 #[.int .i64 0, .int .u64 0, .int .u64 0, .slice none 0 0, .int .u64 0, .int .u64 0, .bool false, .int .u64 0] ∧ Box wr (w.heap.size + 1) 67 #[.slice A bs.length c, .int .i64 at', .int .i64 er'] ∧ Box wr J 38 #[.int .i64 x.kind, .int .u64 (x.ses : Int), .int .u64 (x.seq : Int), gv, .int .u64 (x.id : Int), .int .u64 (x.tok : Int), .bool x.good, .int .u64 (x.time : Int)] ∧ Tgs wr (fun k => J < k) gv hts ∧ hts.map Tg.plain = x.pts ∧ rdSteps (nms.data.toList.take j) (PC.zero kk, ⟨bs.drop at1, e0⟩) = (x, ⟨bs.drop at', er'⟩)) (fun i _ => nms.size - (intOf i).toNat)
  case atStart => exact ⟨0, at1, e0, PC.zero kk, .slice none 0 0, [], Nat.zero_le _, rfl, ha1, HK3.out, HX3.out, HY3.out, HC3.out, Tgs.nil _ _, rfl, rfl⟩
  case round =>
    obtain ⟨j, at', er', x, gv, hts, hj, rfl, hat, hkeep, hX, hY, hC, hT, hpt, hst⟩ := hrel
    have HKP := Lib.hid hkeep
    have HX := Lib.hid hX
    have HY := Lib.hid hY
    have HC := Lib.hid hC
    have HT := Lib.hid hT
    have HPT := Lib.hid hpt
    have HST := Lib.hid hst
    obtain ⟨Ag, cg, hvg⟩ : ∃ Ag cg, gv = .slice Ag hts.length cg := by obtain ⟨a, b, e, _⟩ := hT.1; exact ⟨a, b, e⟩
    subst hvg
    have hqJ : w.heap.size + 1 ≠ J := hY.ne hC (by decide)
    have hxJ : w.heap.size ≠ J := by omega
    have hJw := hC.lt
    have hQw := hY.lt
    have y0 := hY.cell 0
    have y1 := hY.cell 1
    have y2 := hY.cell 2
    simp only [List.getElem?_toArray, List.getElem?_cons_zero, List.getElem?_cons_succ] at y0 y1 y2
    clear HX3 HY3 HC3 HK3 hpt hst
    by_cases hlt : j < nms.size
    · have hch : nms.data.toList[j]'(by simpa using hlt) = nms[j] := rfl
      have HSTEP := Lib.hid (rdSteps_take nms.data.toList (PC.zero kk, ⟨bs.drop at1, e0⟩) j (by simpa using hlt))
      rw [HST.out, hch] at HSTEP
      have hb256 : nms[j].toNat < 256 := nms[j].toNat_lt
      clear hch
      rcases (show nms[j] = 115 ∨ nms[j] = 113 ∨ nms[j] = 103 ∨ nms[j] = 105 ∨ nms[j] = 116 ∨ nms[j] = 119 ∨ nms[j] = 109 ∨ (nms[j] ≠ 115 ∧ nms[j] ≠ 113 ∧ nms[j] ≠ 103 ∧ nms[j] ≠ 105 ∧ nms[j] ≠ 116 ∧ nms[j] ≠ 119 ∧ nms[j] ≠ 109) from by
        by_cases a1 : nms[j] = 115
        · exact .inl a1
        by_cases a2 : nms[j] = 113
        · exact .inr (.inl a2)
        by_cases a3 : nms[j] = 103
        · exact .inr (.inr (.inl a3))
        by_cases a4 : nms[j] = 105
        · exact .inr (.inr (.inr (.inl a4)))
        by_cases a5 : nms[j] = 116
        · exact .inr (.inr (.inr (.inr (.inl a5))))
        by_cases a6 : nms[j] = 119
        · exact .inr (.inr (.inr (.inr (.inr (.inl a6)))))
        by_cases a7 : nms[j] = 109
        · exact .inr (.inr (.inr (.inr (.inr (.inr (.inl a7))))))
        exact .inr (.inr (.inr (.inr (.inr (.inr (.inr ⟨a1, a2, a3, a4, a5, a6, a7⟩))))))) with hc | hc | hc | hc | hc | hc | hc | ⟨hc1, hc2, hc3, hc4, hc5, hc6, hc7⟩
      · rw [hc] at HSTEP
        have hcn : nms[j].toNat = 115 := by rw [hc]; rfl
        obtain ⟨cs, sx, htk⟩ : ∃ a b, Rs.take ⟨bs.drop at', er'⟩ 8 = (a, b) := ⟨_, _, rfl⟩
        rw [show rdStep (x, ⟨bs.drop at', er'⟩) 115 = ({ x with ses := num (Rs.take ⟨bs.drop at', er'⟩ 8).1 }, (Rs.take ⟨bs.drop at', er'⟩ 8).2) from rfl, htk] at HSTEP
        have GG := Lib.hid (refGet_any wr D A c bs cs at' 8 er' sx (HS.out.keep hkeep (fun _ _ _ => id)) HL.out hat (by decide) htk)
        have n1 : ((nms[j].toNat : Int) == 115) = true := by rw [hcn]; rfl
        clear htk hc hcn
        go_wp2_with fail
        refine GG.out.mono ?_
        rintro e w5 ⟨at5, rfl, ha5, hd5, k5⟩
        have Y5 := hY.keep k5 id
        have z0 := Y5.cell 0
        have z1 := Y5.cell 1
        have z2 := Y5.cell 2
        have f0 := Y5.free 0
        have f1 := Y5.free 1
        have f2 := Y5.free 2
        simp only [List.getElem?_toArray, List.getElem?_cons_zero, List.getElem?_cons_succ] at z0 z1 z2
        have kp := Keep.put3 (w := w5) (w.heap.size + 1) (.slice A bs.length c) (.int .i64 at5) (.int .i64 sx.err)
        have Y6 := Y5.put3 (.slice A bs.length c) (.int .i64 at5) (.int .i64 sx.err)
        have C6 := (hC.keep k5 id).keep kp (fun e => hqJ e.symm)
        have c6 := C6.cell 1
        have fc6 := C6.free 1
        simp only [List.getElem?_toArray, List.getElem?_cons_zero, List.getElem?_cons_succ] at c6
        have K6 := (hkeep.trans k5 (fun _ _ h => h)).trans kp (fun i hi e => by omega)
        have X6 := (hX.keep k5 id).keep kp (by omega)
        have T6 := (hT.keep k5 (fun _ _ _ => id)).keep kp (fun i _ hi e => by omega)
        have hsx : sx = ⟨bs.drop at5, sx.err⟩ := by rw [hd5]
        rw [hsx] at HSTEP
        generalize sx.err = e5 at *
        have ks := (Keep.refl (fun k => k = J) (((w5.setCell ⟨w.heap.size + 1, 0, none⟩ (.slice A bs.length c)).setCell ⟨w.heap.size + 1, 1, none⟩ (.int .i64 at5)).setCell ⟨w.heap.size + 1, 2, none⟩ (.int .i64 e5))).setCell (p := ⟨J, 1, none⟩) (fun _ => rfl) (.int .u64 (num cs : Int))
        have HK7 := Lib.hid (K6.trans ks (fun i hi e => by omega))
        have HX7 := Lib.hid (X6.keep ks hxJ)
        have HY7 := Lib.hid (Y6.keep ks hqJ)
        have HC7 := Lib.hid (C6.put 1 (.int .u64 (num cs : Int)))
        have HT7 := Lib.hid (T6.keep ks (fun i _ hi e => by omega))
        clear GG k5 Y5 kp Y6 C6 K6 X6 T6 hsx ks hkeep hX hY hC hT hd5
        go_wp2
        go_roundw
        case rel => exact ⟨j + 1, at5, e5, { x with ses := num cs }, _, hts, by omega, by go_num, ha5, HK7.out, HX7.out, HY7.out, HC7.out, HT7.out, HPT.out, HSTEP.out⟩
        case measure => simp [intOf]; omega
      · rw [hc] at HSTEP
        have hcn : nms[j].toNat = 113 := by rw [hc]; rfl
        obtain ⟨cs, sx, htk⟩ : ∃ a b, Rs.take ⟨bs.drop at', er'⟩ 8 = (a, b) := ⟨_, _, rfl⟩
        rw [show rdStep (x, ⟨bs.drop at', er'⟩) 113 = ({ x with seq := num (Rs.take ⟨bs.drop at', er'⟩ 8).1 }, (Rs.take ⟨bs.drop at', er'⟩ 8).2) from rfl, htk] at HSTEP
        have GG := Lib.hid (refGet_any wr D A c bs cs at' 8 er' sx (HS.out.keep hkeep (fun _ _ _ => id)) HL.out hat (by decide) htk)
        have n1 : ((nms[j].toNat : Int) == 115) = false := by rw [hcn]; rfl
        have n2 : ((nms[j].toNat : Int) == 113) = true := by rw [hcn]; rfl
        clear htk hc hcn
        go_wp2_with fail
        refine GG.out.mono ?_
        rintro e w5 ⟨at5, rfl, ha5, hd5, k5⟩
        have Y5 := hY.keep k5 id
        have z0 := Y5.cell 0
        have z1 := Y5.cell 1
        have z2 := Y5.cell 2
        have f0 := Y5.free 0
        have f1 := Y5.free 1
        have f2 := Y5.free 2
        simp only [List.getElem?_toArray, List.getElem?_cons_zero, List.getElem?_cons_succ] at z0 z1 z2
        have kp := Keep.put3 (w := w5) (w.heap.size + 1) (.slice A bs.length c) (.int .i64 at5) (.int .i64 sx.err)
        have Y6 := Y5.put3 (.slice A bs.length c) (.int .i64 at5) (.int .i64 sx.err)
        have C6 := (hC.keep k5 id).keep kp (fun e => hqJ e.symm)
        have c6 := C6.cell 2
        have fc6 := C6.free 2
        simp only [List.getElem?_toArray, List.getElem?_cons_zero, List.getElem?_cons_succ] at c6
        have K6 := (hkeep.trans k5 (fun _ _ h => h)).trans kp (fun i hi e => by omega)
        have X6 := (hX.keep k5 id).keep kp (by omega)
        have T6 := (hT.keep k5 (fun _ _ _ => id)).keep kp (fun i _ hi e => by omega)
        have hsx : sx = ⟨bs.drop at5, sx.err⟩ := by rw [hd5]
        rw [hsx] at HSTEP
        generalize sx.err = e5 at *
        have ks := (Keep.refl (fun k => k = J) (((w5.setCell ⟨w.heap.size + 1, 0, none⟩ (.slice A bs.length c)).setCell ⟨w.heap.size + 1, 1, none⟩ (.int .i64 at5)).setCell ⟨w.heap.size + 1, 2, none⟩ (.int .i64 e5))).setCell (p := ⟨J, 2, none⟩) (fun _ => rfl) (.int .u64 (num cs : Int))
        have HK7 := Lib.hid (K6.trans ks (fun i hi e => by omega))
        have HX7 := Lib.hid (X6.keep ks hxJ)
        have HY7 := Lib.hid (Y6.keep ks hqJ)
        have HC7 := Lib.hid (C6.put 2 (.int .u64 (num cs : Int)))
        have HT7 := Lib.hid (T6.keep ks (fun i _ hi e => by omega))
        clear GG k5 Y5 kp Y6 C6 K6 X6 T6 hsx ks hkeep hX hY hC hT hd5
        go_wp2
        go_roundw
        case rel => exact ⟨j + 1, at5, e5, { x with seq := num cs }, _, hts, by omega, by go_num, ha5, HK7.out, HX7.out, HY7.out, HC7.out, HT7.out, HPT.out, HSTEP.out⟩
        case measure => simp [intOf]; omega
      · rw [hc] at HSTEP
        have hcn : nms[j].toNat = 103 := by rw [hc]; rfl
        obtain ⟨pts, sx, htk⟩ : ∃ a b, rdGraph ⟨bs.drop at', er'⟩ = (a, b) := ⟨_, _, rfl⟩
        rw [show rdStep (x, ⟨bs.drop at', er'⟩) 103 = ({ x with pts := (rdGraph ⟨bs.drop at', er'⟩).1 }, (rdGraph ⟨bs.drop at', er'⟩).2) from rfl, htk] at HSTEP
        have GG := Lib.hid (refGetTargets_any wr D A c bs at' er' pts sx (HS.out.keep hkeep (fun _ _ _ => id)) HL.out hat htk)
        have n1 : ((nms[j].toNat : Int) == 115) = false := by rw [hcn]; rfl
        have n2 : ((nms[j].toNat : Int) == 113) = false := by rw [hcn]; rfl
        have n3 : ((nms[j].toNat : Int) == 103) = true := by rw [hcn]; rfl
        clear htk hc hcn
        go_wp2_with fail
        refine GG.out.mono ?_
        rintro e w5 ⟨at5, A5, c5, ts5, rfl, ha5, hd5, k5, t5, pt5⟩
        have Y5 := hY.keep k5 id
        have z0 := Y5.cell 0
        have z1 := Y5.cell 1
        have z2 := Y5.cell 2
        have f0 := Y5.free 0
        have f1 := Y5.free 1
        have f2 := Y5.free 2
        simp only [List.getElem?_toArray, List.getElem?_cons_zero, List.getElem?_cons_succ] at z0 z1 z2
        have kp := Keep.put3 (w := w5) (w.heap.size + 1) (.slice A bs.length c) (.int .i64 at5) (.int .i64 sx.err)
        have Y6 := Y5.put3 (.slice A bs.length c) (.int .i64 at5) (.int .i64 sx.err)
        have C6 := (hC.keep k5 id).keep kp (fun e => hqJ e.symm)
        have c6 := C6.cell 3
        have fc6 := C6.free 3
        simp only [List.getElem?_toArray, List.getElem?_cons_zero, List.getElem?_cons_succ] at c6
        have K6 := (hkeep.trans k5 (fun _ _ h => h)).trans kp (fun i hi e => by omega)
        have X6 := (hX.keep k5 id).keep kp (by omega)
        have T6 := (t5.mono (D' := fun k => J < k) (fun i _ hi => by omega)).keep kp (fun i _ hi e => by omega)
        have hsx : sx = ⟨bs.drop at5, sx.err⟩ := by rw [hd5]
        rw [hsx] at HSTEP
        have HPT5 := Lib.hid pt5
        generalize sx.err = e5 at *
        have ks := (Keep.refl (fun k => k = J) (((w5.setCell ⟨w.heap.size + 1, 0, none⟩ (.slice A bs.length c)).setCell ⟨w.heap.size + 1, 1, none⟩ (.int .i64 at5)).setCell ⟨w.heap.size + 1, 2, none⟩ (.int .i64 e5))).setCell (p := ⟨J, 3, none⟩) (fun _ => rfl) (.slice A5 ts5.length c5)
        have HK7 := Lib.hid (K6.trans ks (fun i hi e => by omega))
        have HX7 := Lib.hid (X6.keep ks hxJ)
        have HY7 := Lib.hid (Y6.keep ks hqJ)
        have HC7 := Lib.hid (C6.put 3 (.slice A5 ts5.length c5))
        have HT7 := Lib.hid (T6.keep ks (fun i _ hi e => by omega))
        clear GG k5 Y5 kp Y6 C6 K6 X6 T6 hsx ks hkeep hX hY hC hT hd5 pt5 t5
        go_wp2
        go_roundw
        case rel => exact ⟨j + 1, at5, e5, { x with pts := pts }, _, ts5, by omega, by go_num, ha5, HK7.out, HX7.out, HY7.out, HC7.out, HT7.out, HPT5.out, HSTEP.out⟩
        case measure => simp [intOf]; omega
      · rw [hc] at HSTEP
        have hcn : nms[j].toNat = 105 := by rw [hc]; rfl
        obtain ⟨cs, sx, htk⟩ : ∃ a b, Rs.take ⟨bs.drop at', er'⟩ 8 = (a, b) := ⟨_, _, rfl⟩
        rw [show rdStep (x, ⟨bs.drop at', er'⟩) 105 = ({ x with id := num (Rs.take ⟨bs.drop at', er'⟩ 8).1 }, (Rs.take ⟨bs.drop at', er'⟩ 8).2) from rfl, htk] at HSTEP
        have GG := Lib.hid (refGet_any wr D A c bs cs at' 8 er' sx (HS.out.keep hkeep (fun _ _ _ => id)) HL.out hat (by decide) htk)
        have n1 : ((nms[j].toNat : Int) == 115) = false := by rw [hcn]; rfl
        have n2 : ((nms[j].toNat : Int) == 113) = false := by rw [hcn]; rfl
        have n3 : ((nms[j].toNat : Int) == 103) = false := by rw [hcn]; rfl
        have n4 : ((nms[j].toNat : Int) == 105) = true := by rw [hcn]; rfl
        clear htk hc hcn
        go_wp2_with fail
        refine GG.out.mono ?_
        rintro e w5 ⟨at5, rfl, ha5, hd5, k5⟩
        have Y5 := hY.keep k5 id
        have z0 := Y5.cell 0
        have z1 := Y5.cell 1
        have z2 := Y5.cell 2
        have f0 := Y5.free 0
        have f1 := Y5.free 1
        have f2 := Y5.free 2
        simp only [List.getElem?_toArray, List.getElem?_cons_zero, List.getElem?_cons_succ] at z0 z1 z2
        have kp := Keep.put3 (w := w5) (w.heap.size + 1) (.slice A bs.length c) (.int .i64 at5) (.int .i64 sx.err)
        have Y6 := Y5.put3 (.slice A bs.length c) (.int .i64 at5) (.int .i64 sx.err)
        have C6 := (hC.keep k5 id).keep kp (fun e => hqJ e.symm)
        have c6 := C6.cell 4
        have fc6 := C6.free 4
        simp only [List.getElem?_toArray, List.getElem?_cons_zero, List.getElem?_cons_succ] at c6
        have K6 := (hkeep.trans k5 (fun _ _ h => h)).trans kp (fun i hi e => by omega)
        have X6 := (hX.keep k5 id).keep kp (by omega)
        have T6 := (hT.keep k5 (fun _ _ _ => id)).keep kp (fun i _ hi e => by omega)
        have hsx : sx = ⟨bs.drop at5, sx.err⟩ := by rw [hd5]
        rw [hsx] at HSTEP
        generalize sx.err = e5 at *
        have ks := (Keep.refl (fun k => k = J) (((w5.setCell ⟨w.heap.size + 1, 0, none⟩ (.slice A bs.length c)).setCell ⟨w.heap.size + 1, 1, none⟩ (.int .i64 at5)).setCell ⟨w.heap.size + 1, 2, none⟩ (.int .i64 e5))).setCell (p := ⟨J, 4, none⟩) (fun _ => rfl) (.int .u64 (num cs : Int))
        have HK7 := Lib.hid (K6.trans ks (fun i hi e => by omega))
        have HX7 := Lib.hid (X6.keep ks hxJ)
        have HY7 := Lib.hid (Y6.keep ks hqJ)
        have HC7 := Lib.hid (C6.put 4 (.int .u64 (num cs : Int)))
        have HT7 := Lib.hid (T6.keep ks (fun i _ hi e => by omega))
        clear GG k5 Y5 kp Y6 C6 K6 X6 T6 hsx ks hkeep hX hY hC hT hd5
        go_wp2
        go_roundw
        case rel => exact ⟨j + 1, at5, e5, { x with id := num cs }, _, hts, by omega, by go_num, ha5, HK7.out, HX7.out, HY7.out, HC7.out, HT7.out, HPT.out, HSTEP.out⟩
        case measure => simp [intOf]; omega
      · rw [hc] at HSTEP
        have hcn : nms[j].toNat = 116 := by rw [hc]; rfl
        obtain ⟨cs, sx, htk⟩ : ∃ a b, Rs.take ⟨bs.drop at', er'⟩ 8 = (a, b) := ⟨_, _, rfl⟩
        rw [show rdStep (x, ⟨bs.drop at', er'⟩) 116 = ({ x with tok := num (Rs.take ⟨bs.drop at', er'⟩ 8).1 }, (Rs.take ⟨bs.drop at', er'⟩ 8).2) from rfl, htk] at HSTEP
        have GG := Lib.hid (refGet_any wr D A c bs cs at' 8 er' sx (HS.out.keep hkeep (fun _ _ _ => id)) HL.out hat (by decide) htk)
        have n1 : ((nms[j].toNat : Int) == 115) = false := by rw [hcn]; rfl
        have n2 : ((nms[j].toNat : Int) == 113) = false := by rw [hcn]; rfl
        have n3 : ((nms[j].toNat : Int) == 103) = false := by rw [hcn]; rfl
        have n4 : ((nms[j].toNat : Int) == 105) = false := by rw [hcn]; rfl
        have n5 : ((nms[j].toNat : Int) == 116) = true := by rw [hcn]; rfl
        clear htk hc hcn
        go_wp2_with fail
        refine GG.out.mono ?_
        rintro e w5 ⟨at5, rfl, ha5, hd5, k5⟩
        have Y5 := hY.keep k5 id
        have z0 := Y5.cell 0
        have z1 := Y5.cell 1
        have z2 := Y5.cell 2
        have f0 := Y5.free 0
        have f1 := Y5.free 1
        have f2 := Y5.free 2
        simp only [List.getElem?_toArray, List.getElem?_cons_zero, List.getElem?_cons_succ] at z0 z1 z2
        have kp := Keep.put3 (w := w5) (w.heap.size + 1) (.slice A bs.length c) (.int .i64 at5) (.int .i64 sx.err)
        have Y6 := Y5.put3 (.slice A bs.length c) (.int .i64 at5) (.int .i64 sx.err)
        have C6 := (hC.keep k5 id).keep kp (fun e => hqJ e.symm)
        have c6 := C6.cell 5
        have fc6 := C6.free 5
        simp only [List.getElem?_toArray, List.getElem?_cons_zero, List.getElem?_cons_succ] at c6
        have K6 := (hkeep.trans k5 (fun _ _ h => h)).trans kp (fun i hi e => by omega)
        have X6 := (hX.keep k5 id).keep kp (by omega)
        have T6 := (hT.keep k5 (fun _ _ _ => id)).keep kp (fun i _ hi e => by omega)
        have hsx : sx = ⟨bs.drop at5, sx.err⟩ := by rw [hd5]
        rw [hsx] at HSTEP
        generalize sx.err = e5 at *
        have ks := (Keep.refl (fun k => k = J) (((w5.setCell ⟨w.heap.size + 1, 0, none⟩ (.slice A bs.length c)).setCell ⟨w.heap.size + 1, 1, none⟩ (.int .i64 at5)).setCell ⟨w.heap.size + 1, 2, none⟩ (.int .i64 e5))).setCell (p := ⟨J, 5, none⟩) (fun _ => rfl) (.int .u64 (num cs : Int))
        have HK7 := Lib.hid (K6.trans ks (fun i hi e => by omega))
        have HX7 := Lib.hid (X6.keep ks hxJ)
        have HY7 := Lib.hid (Y6.keep ks hqJ)
        have HC7 := Lib.hid (C6.put 5 (.int .u64 (num cs : Int)))
        have HT7 := Lib.hid (T6.keep ks (fun i _ hi e => by omega))
        clear GG k5 Y5 kp Y6 C6 K6 X6 T6 hsx ks hkeep hX hY hC hT hd5
        go_wp2
        go_roundw
        case rel => exact ⟨j + 1, at5, e5, { x with tok := num cs }, _, hts, by omega, by go_num, ha5, HK7.out, HX7.out, HY7.out, HC7.out, HT7.out, HPT.out, HSTEP.out⟩
        case measure => simp [intOf]; omega
      · rw [hc] at HSTEP
        have hcn : nms[j].toNat = 119 := by rw [hc]; rfl
        obtain ⟨cs, sx, htk⟩ : ∃ a b, Rs.take ⟨bs.drop at', er'⟩ 1 = (a, b) := ⟨_, _, rfl⟩
        rw [show rdStep (x, ⟨bs.drop at', er'⟩) 119 = ({ x with good := decide (num (Rs.take ⟨bs.drop at', er'⟩ 1).1 = 1) }, (Rs.take ⟨bs.drop at', er'⟩ 1).2) from rfl, htk] at HSTEP
        have GG := Lib.hid (refGet_any wr D A c bs cs at' 1 er' sx (HS.out.keep hkeep (fun _ _ _ => id)) HL.out hat (by decide) htk)
        have n1 : ((nms[j].toNat : Int) == 115) = false := by rw [hcn]; rfl
        have n2 : ((nms[j].toNat : Int) == 113) = false := by rw [hcn]; rfl
        have n3 : ((nms[j].toNat : Int) == 103) = false := by rw [hcn]; rfl
        have n4 : ((nms[j].toNat : Int) == 105) = false := by rw [hcn]; rfl
        have n5 : ((nms[j].toNat : Int) == 116) = false := by rw [hcn]; rfl
        have n6 : ((nms[j].toNat : Int) == 119) = true := by rw [hcn]; rfl
        clear htk hc hcn
        go_wp2_with fail
        refine GG.out.mono ?_
        rintro e w5 ⟨at5, rfl, ha5, hd5, k5⟩
        have Y5 := hY.keep k5 id
        have z0 := Y5.cell 0
        have z1 := Y5.cell 1
        have z2 := Y5.cell 2
        have f0 := Y5.free 0
        have f1 := Y5.free 1
        have f2 := Y5.free 2
        simp only [List.getElem?_toArray, List.getElem?_cons_zero, List.getElem?_cons_succ] at z0 z1 z2
        have kp := Keep.put3 (w := w5) (w.heap.size + 1) (.slice A bs.length c) (.int .i64 at5) (.int .i64 sx.err)
        have Y6 := Y5.put3 (.slice A bs.length c) (.int .i64 at5) (.int .i64 sx.err)
        have C6 := (hC.keep k5 id).keep kp (fun e => hqJ e.symm)
        have c6 := C6.cell 6
        have fc6 := C6.free 6
        simp only [List.getElem?_toArray, List.getElem?_cons_zero, List.getElem?_cons_succ] at c6
        have K6 := (hkeep.trans k5 (fun _ _ h => h)).trans kp (fun i hi e => by omega)
        have X6 := (hX.keep k5 id).keep kp (by omega)
        have T6 := (hT.keep k5 (fun _ _ _ => id)).keep kp (fun i _ hi e => by omega)
        have hsx : sx = ⟨bs.drop at5, sx.err⟩ := by rw [hd5]
        rw [hsx] at HSTEP
        generalize sx.err = e5 at *
        have hgd : ((num cs : Int) == 1) = decide (num cs = 1) := by rw [Bool.eq_iff_iff, beq_iff_eq, decide_eq_true_eq]; omega
        generalize decide (num cs = 1) = gd at *
        generalize num cs = nn at *
        have ks := (Keep.refl (fun k => k = J) (((w5.setCell ⟨w.heap.size + 1, 0, none⟩ (.slice A bs.length c)).setCell ⟨w.heap.size + 1, 1, none⟩ (.int .i64 at5)).setCell ⟨w.heap.size + 1, 2, none⟩ (.int .i64 e5))).setCell (p := ⟨J, 6, none⟩) (fun _ => rfl) (.bool gd)
        have HK7 := Lib.hid (K6.trans ks (fun i hi e => by omega))
        have HX7 := Lib.hid (X6.keep ks hxJ)
        have HY7 := Lib.hid (Y6.keep ks hqJ)
        have HC7 := Lib.hid (C6.put 6 (.bool gd))
        have HT7 := Lib.hid (T6.keep ks (fun i _ hi e => by omega))
        clear GG k5 Y5 kp Y6 C6 K6 X6 T6 hsx ks hkeep hX hY hC hT hd5
        go_wp2
        go_roundw
        case rel => exact ⟨j + 1, at5, e5, { x with good := gd }, _, hts, by omega, by go_num, ha5, HK7.out, HX7.out, HY7.out, HC7.out, HT7.out, HPT.out, HSTEP.out⟩
        case measure => simp [intOf]; omega
      · rw [hc] at HSTEP
        have hcn : nms[j].toNat = 109 := by rw [hc]; rfl
        obtain ⟨cs, sx, htk⟩ : ∃ a b, Rs.take ⟨bs.drop at', er'⟩ 8 = (a, b) := ⟨_, _, rfl⟩
        rw [show rdStep (x, ⟨bs.drop at', er'⟩) 109 = ({ x with time := num (Rs.take ⟨bs.drop at', er'⟩ 8).1 }, (Rs.take ⟨bs.drop at', er'⟩ 8).2) from rfl, htk] at HSTEP
        have GG := Lib.hid (refGet_any wr D A c bs cs at' 8 er' sx (HS.out.keep hkeep (fun _ _ _ => id)) HL.out hat (by decide) htk)
        have n1 : ((nms[j].toNat : Int) == 115) = false := by rw [hcn]; rfl
        have n2 : ((nms[j].toNat : Int) == 113) = false := by rw [hcn]; rfl
        have n3 : ((nms[j].toNat : Int) == 103) = false := by rw [hcn]; rfl
        have n4 : ((nms[j].toNat : Int) == 105) = false := by rw [hcn]; rfl
        have n5 : ((nms[j].toNat : Int) == 116) = false := by rw [hcn]; rfl
        have n6 : ((nms[j].toNat : Int) == 119) = false := by rw [hcn]; rfl
        have n7 : ((nms[j].toNat : Int) == 109) = true := by rw [hcn]; rfl
        clear htk hc hcn
        go_wp2_with fail
        refine GG.out.mono ?_
        rintro e w5 ⟨at5, rfl, ha5, hd5, k5⟩
        have Y5 := hY.keep k5 id
        have z0 := Y5.cell 0
        have z1 := Y5.cell 1
        have z2 := Y5.cell 2
        have f0 := Y5.free 0
        have f1 := Y5.free 1
        have f2 := Y5.free 2
        simp only [List.getElem?_toArray, List.getElem?_cons_zero, List.getElem?_cons_succ] at z0 z1 z2
        have kp := Keep.put3 (w := w5) (w.heap.size + 1) (.slice A bs.length c) (.int .i64 at5) (.int .i64 sx.err)
        have Y6 := Y5.put3 (.slice A bs.length c) (.int .i64 at5) (.int .i64 sx.err)
        have C6 := (hC.keep k5 id).keep kp (fun e => hqJ e.symm)
        have c6 := C6.cell 7
        have fc6 := C6.free 7
        simp only [List.getElem?_toArray, List.getElem?_cons_zero, List.getElem?_cons_succ] at c6
        have K6 := (hkeep.trans k5 (fun _ _ h => h)).trans kp (fun i hi e => by omega)
        have X6 := (hX.keep k5 id).keep kp (by omega)
        have T6 := (hT.keep k5 (fun _ _ _ => id)).keep kp (fun i _ hi e => by omega)
        have hsx : sx = ⟨bs.drop at5, sx.err⟩ := by rw [hd5]
        rw [hsx] at HSTEP
        generalize sx.err = e5 at *
        have ks := (Keep.refl (fun k => k = J) (((w5.setCell ⟨w.heap.size + 1, 0, none⟩ (.slice A bs.length c)).setCell ⟨w.heap.size + 1, 1, none⟩ (.int .i64 at5)).setCell ⟨w.heap.size + 1, 2, none⟩ (.int .i64 e5))).setCell (p := ⟨J, 7, none⟩) (fun _ => rfl) (.int .u64 (num cs : Int))
        have HK7 := Lib.hid (K6.trans ks (fun i hi e => by omega))
        have HX7 := Lib.hid (X6.keep ks hxJ)
        have HY7 := Lib.hid (Y6.keep ks hqJ)
        have HC7 := Lib.hid (C6.put 7 (.int .u64 (num cs : Int)))
        have HT7 := Lib.hid (T6.keep ks (fun i _ hi e => by omega))
        clear GG k5 Y5 kp Y6 C6 K6 X6 T6 hsx ks hkeep hX hY hC hT hd5
        go_wp2
        go_roundw
        case rel => exact ⟨j + 1, at5, e5, { x with time := num cs }, _, hts, by omega, by go_num, ha5, HK7.out, HX7.out, HY7.out, HC7.out, HT7.out, HPT.out, HSTEP.out⟩
        case measure => simp [intOf]; omega
      · have hoth : rdStep (x, ⟨bs.drop at', er'⟩) nms[j] = (x, ⟨bs.drop at', er'⟩) := by
          unfold rdStep
          rw [if_neg hc1, if_neg hc2, if_neg hc3, if_neg hc4, if_neg hc5, if_neg hc6, if_neg hc7]
        rw [hoth] at HSTEP
        have n1 : ((nms[j].toNat : Int) == 115) = false := by rw [beq_eq_false_iff_ne]; intro e; exact hc1 (UInt8.toNat_inj.1 (by show nms[j].toNat = 115; omega))
        have n2 : ((nms[j].toNat : Int) == 113) = false := by rw [beq_eq_false_iff_ne]; intro e; exact hc2 (UInt8.toNat_inj.1 (by show nms[j].toNat = 113; omega))
        have n3 : ((nms[j].toNat : Int) == 103) = false := by rw [beq_eq_false_iff_ne]; intro e; exact hc3 (UInt8.toNat_inj.1 (by show nms[j].toNat = 103; omega))
        have n4 : ((nms[j].toNat : Int) == 105) = false := by rw [beq_eq_false_iff_ne]; intro e; exact hc4 (UInt8.toNat_inj.1 (by show nms[j].toNat = 105; omega))
        have n5 : ((nms[j].toNat : Int) == 116) = false := by rw [beq_eq_false_iff_ne]; intro e; exact hc5 (UInt8.toNat_inj.1 (by show nms[j].toNat = 116; omega))
        have n6 : ((nms[j].toNat : Int) == 119) = false := by rw [beq_eq_false_iff_ne]; intro e; exact hc6 (UInt8.toNat_inj.1 (by show nms[j].toNat = 119; omega))
        have n7 : ((nms[j].toNat : Int) == 109) = false := by rw [beq_eq_false_iff_ne]; intro e; exact hc7 (UInt8.toNat_inj.1 (by show nms[j].toNat = 109; omega))
        clear hoth hc1 hc2 hc3 hc4 hc5 hc6 hc7
        clear hkeep hX hY hC hT
        go_wp2
        go_roundw
        case rel => exact ⟨j + 1, at', er', x, _, hts, by omega, by go_num, hat, HKP.out, HX.out, HY.out, HC.out, HT.out, HPT.out, HSTEP.out⟩
        case measure => simp [intOf]; omega
    · have e1 : nms.data.toList.take j = nms.data.toList := List.take_of_length_le (by simp; omega)
      rw [e1] at HST
      have hjn : ¬ ((j : Int) < (nms.size : Int)) := by omega
      have hrr : rdRef bs = (x, ⟨bs.drop at', er'⟩) := by rw [HREF.out, HST.out]
      have hsm : x.small := by have := HSM.out; rw [HST.out] at this; exact this
      have hpc : Cmd.pc ⟨x.kind, x.ses, x.seq, .slice Ag hts.length cg, hts, x.id, x.tok, x.good, x.time⟩ = x := by
        unfold Cmd.pc
        rw [HPT.out]
      obtain ⟨es, xs, hans⟩ := cmdAns_some ⟨x.kind, x.ses, x.seq, .slice Ag hts.length cg, hts, x.id, x.tok, x.good, x.time⟩
      have RC := Lib.hid (refCommand_any wr (fun k => J < k) ⟨x.kind, x.ses, x.seq, .slice Ag hts.length cg, hts, x.id, x.tok, x.good, x.time⟩ ⟨hsm.ses, hsm.seq, hsm.id, hsm.tok, hsm.time, hT⟩)
      unfold Cmd.cells at RC
      simp only at RC
      have HANS := Lib.hid hans
      have HPC := Lib.hid hpc
      have HRR := Lib.hid hrr
      have c0 := hC.cell 0
      have c1 := hC.cell 1
      have c2 := hC.cell 2
      have c3 := hC.cell 3
      have c4 := hC.cell 4
      have c5 := hC.cell 5
      have c6 := hC.cell 6
      have c7 := hC.cell 7
      simp only [List.getElem?_toArray, List.getElem?_cons_zero, List.getElem?_cons_succ] at c0 c1 c2 c3 c4 c5 c6 c7
      clear e1 hrr hsm hpc hans hlt hX hY hC hT HREF HSM HST y0 y1 y2
      obtain ⟨kind, ses, seq, pts, gid, tok, good, time⟩ := x
      simp only at RC c0 c1 c2 c4 c5 c6 c7
      go_wp2_with fail
      refine RC.out.mono ?_
      intro e w4 hcmd
      obtain ⟨k4, A4, c4', rfl, B4⟩ := command2 hcmd HANS.out
      have Y4 := HY.out.keep k4 id
      have y0 := Y4.cell 0
      have y1 := Y4.cell 1
      have y2 := Y4.cell 2
      simp only [List.getElem?_toArray, List.getElem?_cons_zero, List.getElem?_cons_succ] at y0 y1 y2
      have HB4 := Lib.hid B4
      have HK4 := Lib.hid (hkeep.trans k4 (fun _ _ h => h))
      have HX4 := Lib.hid (HX.out.keep k4 id)
      have HC4 := Lib.hid (HC.out.keep k4 id)
      have HT4 := Lib.hid (HT.out.keep k4 (fun _ _ _ => id))
      have EN := Lib.hid (refEnd_any w4 A c at' bs er' hat)
      clear RC hcmd k4 Y4 B4 c0 c1 c2 c3 c4 c5 c6 c7 hkeep
      generalize hen : Rs.end_ ⟨bs.drop at', er'⟩ = en at *
      have HEN := Lib.hid hen
      clear hen
      go_wp2_with fail
      refine EN.out.mono ?_
      rintro e w5 ⟨rfl, k5⟩
      have HK5 := Lib.hid (HK4.out.trans k5 (fun _ _ h => h))
      have HX5 := Lib.hid (HX4.out.keep k5 id)
      have HC5 := Lib.hid (HC4.out.keep k5 id)
      have HT5 := Lib.hid (HT4.out.keep k5 (fun _ _ _ => id))
      have hs1 := run_str (HB4.out.keep k5 (fun _ _ _ => id))
      have hs2 := run_str (HS.out.keep HK5.out (fun _ _ _ => id))
      have x0 := HX5.out.cell 0
      have x1 := HX5.out.cell 1
      have x2 := HX5.out.cell 2
      have x3 := HX5.out.cell 3
      have x4 := HX5.out.cell 4
      have x5 := HX5.out.cell 5
      have x6 := HX5.out.cell 6
      have x7 := HX5.out.cell 7
      have f0 := HX5.out.free 0
      have f1 := HX5.out.free 1
      have f2 := HX5.out.free 2
      have f3 := HX5.out.free 3
      have f4 := HX5.out.free 4
      have f5 := HX5.out.free 5
      have f6 := HX5.out.free 6
      have f7 := HX5.out.free 7
      simp only [List.getElem?_toArray, List.getElem?_cons_zero, List.getElem?_cons_succ] at x0 x1 x2 x3 x4 x5 x6 x7
      clear EN HK4 HX4 HC4 HT4 HB4 k5 y0 y1 y2 HKP HX HY HC HT
      have HNO : Hid (¬ refOk bs → d = ⟨0, 0, 0, [], 0, 0, false, 0⟩ ∧ er = 40) := Lib.hid fun hno => by
        rcases HXX.out with ⟨_, h1, h2⟩ | ⟨h1, _⟩
        · exact ⟨h2, h1⟩
        · exact absurd (refOk_of bs d h1).1 hno
      by_cases hen0 : en = 0
      · subst hen0
        rcases id HANS.out with ⟨hr, rfl, rfl⟩ | ⟨hr, rfl, hxs⟩
        · have hno : ¬ refOk bs := by
            rintro ⟨_, h2, _⟩
            rw [HRR.out] at h2
            rw [right_pc, HPC.out, h2] at hr
            cases hr
          obtain ⟨rfl, rfl⟩ := HNO.out hno
          clear HNO hno hr HANS
          have xf : Box ((((((((w5.setCell ⟨w.heap.size, 0, none⟩ (.int .i64 0)).setCell ⟨w.heap.size, 1, none⟩ (.int .u64 0)).setCell ⟨w.heap.size, 2, none⟩ (.int .u64 0)).setCell ⟨w.heap.size, 3, none⟩ (.slice none 0 0)).setCell ⟨w.heap.size, 4, none⟩ (.int .u64 0)).setCell ⟨w.heap.size, 5, none⟩ (.int .u64 0)).setCell ⟨w.heap.size, 6, none⟩ (.bool false)).setCell ⟨w.heap.size, 7, none⟩ (.int .u64 0)) w.heap.size 38 #[.int .i64 0, .int .u64 0, .int .u64 0, .slice none 0 0, .int .u64 0, .int .u64 0, .bool false, .int .u64 0] := by simpa using ((((((((HX5.out.put 0 (.int .i64 0)).put 1 (.int .u64 0)).put 2 (.int .u64 0)).put 3 (.slice none 0 0)).put 4 (.int .u64 0)).put 5 (.int .u64 0)).put 6 (.bool false)).put 7 (.int .u64 0))
          have kf := (((((((((Keep.refl (fun k => k = w.heap.size) w5).setCell (p := ⟨w.heap.size, 0, none⟩) (fun _ => rfl) (.int .i64 0)).setCell (p := ⟨w.heap.size, 1, none⟩) (fun _ => rfl) (.int .u64 0)).setCell (p := ⟨w.heap.size, 2, none⟩) (fun _ => rfl) (.int .u64 0)).setCell (p := ⟨w.heap.size, 3, none⟩) (fun _ => rfl) (.slice none 0 0)).setCell (p := ⟨w.heap.size, 4, none⟩) (fun _ => rfl) (.int .u64 0)).setCell (p := ⟨w.heap.size, 5, none⟩) (fun _ => rfl) (.int .u64 0)).setCell (p := ⟨w.heap.size, 6, none⟩) (fun _ => rfl) (.bool false)).setCell (p := ⟨w.heap.size, 7, none⟩) (fun _ => rfl) (.int .u64 0))
          have HXF := Lib.hid xf
          have HKF := Lib.hid (HK5.out.trans kf (fun i hi e => by omega))
          have HTF := Lib.hid (HT5.out.keep kf (fun i _ hi e => by omega))
          clear xf kf
          go_wp2
          have r0 := HXF.out.cell 0
          have r1 := HXF.out.cell 1
          have r2 := HXF.out.cell 2
          have r3 := HXF.out.cell 3
          have r4 := HXF.out.cell 4
          have r5 := HXF.out.cell 5
          have r6 := HXF.out.cell 6
          have r7 := HXF.out.cell 7
          simp only [List.getElem?_toArray, List.getElem?_cons_zero, List.getElem?_cons_succ] at r0 r1 r2 r3 r4 r5 r6 r7
          exact bodyPost_ret (v := .tuple #[.agg #[.int .i64 0, .int .u64 0, .int .u64 0, .slice none 0 0, .int .u64 0, .int .u64 0, .bool false, .int .u64 0], .int .i64 40]) (by simp [results, Try.results18, go_sem, r0, r1, r2, r3, r4, r5, r6, r7]) rfl ⟨HKF.out, none, 0, [], rfl, Tgs.nil _ _, rfl⟩
        · by_cases hb : xs = bs
          · have hok : refOk bs := by
              refine ⟨by rw [HRR.out]; exact HEN.out, by rw [HRR.out]; have hr2 := hr; rw [right_pc, HPC.out] at hr2; exact hr2, by rw [HRR.out, ← hb, hxs, cmdBytes_pc, HPC.out]⟩
            have hd : d = ⟨kind, ses, seq, pts, gid, tok, good, time⟩ ∧ er = 0 := by
              rcases HXX.out with ⟨h1, _, _⟩ | ⟨h1, h2⟩
              · exact absurd hok (refOk_not bs h1)
              · have := (refOk_of bs d h1).2
                rw [HRR.out] at this
                exact ⟨this.symm, h2⟩
            obtain ⟨rfl, rfl⟩ := hd
            rw [hb] at hs1
            have gs : ((strOf bs).toList == (strOf bs).toList) = true := by rw [beq_self_eq_true]
            have gs' : ((strOf bs).toList != (strOf bs).toList) = false := by rw [bne_self_eq_false]
            have c0 := HC5.out.cell 0
            have c1 := HC5.out.cell 1
            have c2 := HC5.out.cell 2
            have c3 := HC5.out.cell 3
            have c4 := HC5.out.cell 4
            have c5 := HC5.out.cell 5
            have c6 := HC5.out.cell 6
            have c7 := HC5.out.cell 7
            simp only [List.getElem?_toArray, List.getElem?_cons_zero, List.getElem?_cons_succ] at c0 c1 c2 c3 c4 c5 c6 c7
            clear hok HNO hxs hr HANS HRR
            subst hb
            have xf : Box ((((((((w5.setCell ⟨w.heap.size, 0, none⟩ (.int .i64 kind)).setCell ⟨w.heap.size, 1, none⟩ (.int .u64 (ses : Int))).setCell ⟨w.heap.size, 2, none⟩ (.int .u64 (seq : Int))).setCell ⟨w.heap.size, 3, none⟩ (.slice Ag hts.length cg)).setCell ⟨w.heap.size, 4, none⟩ (.int .u64 (gid : Int))).setCell ⟨w.heap.size, 5, none⟩ (.int .u64 (tok : Int))).setCell ⟨w.heap.size, 6, none⟩ (.bool good)).setCell ⟨w.heap.size, 7, none⟩ (.int .u64 (time : Int))) w.heap.size 38 #[.int .i64 kind, .int .u64 (ses : Int), .int .u64 (seq : Int), .slice Ag hts.length cg, .int .u64 (gid : Int), .int .u64 (tok : Int), .bool good, .int .u64 (time : Int)] := by simpa using ((((((((HX5.out.put 0 (.int .i64 kind)).put 1 (.int .u64 (ses : Int))).put 2 (.int .u64 (seq : Int))).put 3 (.slice Ag hts.length cg)).put 4 (.int .u64 (gid : Int))).put 5 (.int .u64 (tok : Int))).put 6 (.bool good)).put 7 (.int .u64 (time : Int)))
            have kf := (((((((((Keep.refl (fun k => k = w.heap.size) w5).setCell (p := ⟨w.heap.size, 0, none⟩) (fun _ => rfl) (.int .i64 kind)).setCell (p := ⟨w.heap.size, 1, none⟩) (fun _ => rfl) (.int .u64 (ses : Int))).setCell (p := ⟨w.heap.size, 2, none⟩) (fun _ => rfl) (.int .u64 (seq : Int))).setCell (p := ⟨w.heap.size, 3, none⟩) (fun _ => rfl) (.slice Ag hts.length cg)).setCell (p := ⟨w.heap.size, 4, none⟩) (fun _ => rfl) (.int .u64 (gid : Int))).setCell (p := ⟨w.heap.size, 5, none⟩) (fun _ => rfl) (.int .u64 (tok : Int))).setCell (p := ⟨w.heap.size, 6, none⟩) (fun _ => rfl) (.bool good)).setCell (p := ⟨w.heap.size, 7, none⟩) (fun _ => rfl) (.int .u64 (time : Int)))
            have HXF := Lib.hid xf
            have HKF := Lib.hid (HK5.out.trans kf (fun i hi e => by omega))
            have HTF := Lib.hid (HT5.out.keep kf (fun i _ hi e => by omega))
            clear xf kf
            go_wp2
            have r0 := HXF.out.cell 0
            have r1 := HXF.out.cell 1
            have r2 := HXF.out.cell 2
            have r3 := HXF.out.cell 3
            have r4 := HXF.out.cell 4
            have r5 := HXF.out.cell 5
            have r6 := HXF.out.cell 6
            have r7 := HXF.out.cell 7
            simp only [List.getElem?_toArray, List.getElem?_cons_zero, List.getElem?_cons_succ] at r0 r1 r2 r3 r4 r5 r6 r7
            exact bodyPost_ret (v := .tuple #[.agg #[.int .i64 kind, .int .u64 (ses : Int), .int .u64 (seq : Int), .slice Ag hts.length cg, .int .u64 (gid : Int), .int .u64 (tok : Int), .bool good, .int .u64 (time : Int)], .int .i64 0]) (by simp [results, Try.results18, go_sem, r0, r1, r2, r3, r4, r5, r6, r7]) rfl ⟨HKF.out, Ag, cg, hts, rfl, HTF.out.mono (fun _ _ _ => trivial), HPT.out⟩
          · have hno : ¬ refOk bs := by
              rintro ⟨_, _, h3⟩
              rw [HRR.out] at h3
              exact hb (by rw [hxs, cmdBytes_pc, HPC.out]; exact h3)
            obtain ⟨rfl, rfl⟩ := HNO.out hno
            have gs : ((strOf xs).toList == (strOf bs).toList) = false := by rw [str_beq, decide_eq_false_iff_not, strOf_eq]; exact hb
            have gs' : ((strOf xs).toList != (strOf bs).toList) = true := by rw [bne, gs]; rfl
            clear HNO hno hxs hr HANS hb
            have xf : Box ((((((((w5.setCell ⟨w.heap.size, 0, none⟩ (.int .i64 0)).setCell ⟨w.heap.size, 1, none⟩ (.int .u64 0)).setCell ⟨w.heap.size, 2, none⟩ (.int .u64 0)).setCell ⟨w.heap.size, 3, none⟩ (.slice none 0 0)).setCell ⟨w.heap.size, 4, none⟩ (.int .u64 0)).setCell ⟨w.heap.size, 5, none⟩ (.int .u64 0)).setCell ⟨w.heap.size, 6, none⟩ (.bool false)).setCell ⟨w.heap.size, 7, none⟩ (.int .u64 0)) w.heap.size 38 #[.int .i64 0, .int .u64 0, .int .u64 0, .slice none 0 0, .int .u64 0, .int .u64 0, .bool false, .int .u64 0] := by simpa using ((((((((HX5.out.put 0 (.int .i64 0)).put 1 (.int .u64 0)).put 2 (.int .u64 0)).put 3 (.slice none 0 0)).put 4 (.int .u64 0)).put 5 (.int .u64 0)).put 6 (.bool false)).put 7 (.int .u64 0))
            have kf := (((((((((Keep.refl (fun k => k = w.heap.size) w5).setCell (p := ⟨w.heap.size, 0, none⟩) (fun _ => rfl) (.int .i64 0)).setCell (p := ⟨w.heap.size, 1, none⟩) (fun _ => rfl) (.int .u64 0)).setCell (p := ⟨w.heap.size, 2, none⟩) (fun _ => rfl) (.int .u64 0)).setCell (p := ⟨w.heap.size, 3, none⟩) (fun _ => rfl) (.slice none 0 0)).setCell (p := ⟨w.heap.size, 4, none⟩) (fun _ => rfl) (.int .u64 0)).setCell (p := ⟨w.heap.size, 5, none⟩) (fun _ => rfl) (.int .u64 0)).setCell (p := ⟨w.heap.size, 6, none⟩) (fun _ => rfl) (.bool false)).setCell (p := ⟨w.heap.size, 7, none⟩) (fun _ => rfl) (.int .u64 0))
            have HXF := Lib.hid xf
            have HKF := Lib.hid (HK5.out.trans kf (fun i hi e => by omega))
            have HTF := Lib.hid (HT5.out.keep kf (fun i _ hi e => by omega))
            clear xf kf
            go_wp2
            have r0 := HXF.out.cell 0
            have r1 := HXF.out.cell 1
            have r2 := HXF.out.cell 2
            have r3 := HXF.out.cell 3
            have r4 := HXF.out.cell 4
            have r5 := HXF.out.cell 5
            have r6 := HXF.out.cell 6
            have r7 := HXF.out.cell 7
            simp only [List.getElem?_toArray, List.getElem?_cons_zero, List.getElem?_cons_succ] at r0 r1 r2 r3 r4 r5 r6 r7
            exact bodyPost_ret (v := .tuple #[.agg #[.int .i64 0, .int .u64 0, .int .u64 0, .slice none 0 0, .int .u64 0, .int .u64 0, .bool false, .int .u64 0], .int .i64 40]) (by simp [results, Try.results18, go_sem, r0, r1, r2, r3, r4, r5, r6, r7]) rfl ⟨HKF.out, none, 0, [], rfl, Tgs.nil _ _, rfl⟩
      · have hno : ¬ refOk bs := by
          rintro ⟨h1, _, _⟩
          rw [HRR.out] at h1
          exact hen0 (HEN.out ▸ h1)
        obtain ⟨rfl, rfl⟩ := HNO.out hno
        have g1 : (en == 0) = false := by rw [beq_eq_false_iff_ne]; exact hen0
        have g2 : (en != 0) = true := by rw [bne_iff_ne]; exact hen0
        clear HNO hno hen0
        have xf : Box ((((((((w5.setCell ⟨w.heap.size, 0, none⟩ (.int .i64 0)).setCell ⟨w.heap.size, 1, none⟩ (.int .u64 0)).setCell ⟨w.heap.size, 2, none⟩ (.int .u64 0)).setCell ⟨w.heap.size, 3, none⟩ (.slice none 0 0)).setCell ⟨w.heap.size, 4, none⟩ (.int .u64 0)).setCell ⟨w.heap.size, 5, none⟩ (.int .u64 0)).setCell ⟨w.heap.size, 6, none⟩ (.bool false)).setCell ⟨w.heap.size, 7, none⟩ (.int .u64 0)) w.heap.size 38 #[.int .i64 0, .int .u64 0, .int .u64 0, .slice none 0 0, .int .u64 0, .int .u64 0, .bool false, .int .u64 0] := by simpa using ((((((((HX5.out.put 0 (.int .i64 0)).put 1 (.int .u64 0)).put 2 (.int .u64 0)).put 3 (.slice none 0 0)).put 4 (.int .u64 0)).put 5 (.int .u64 0)).put 6 (.bool false)).put 7 (.int .u64 0))
        have kf := (((((((((Keep.refl (fun k => k = w.heap.size) w5).setCell (p := ⟨w.heap.size, 0, none⟩) (fun _ => rfl) (.int .i64 0)).setCell (p := ⟨w.heap.size, 1, none⟩) (fun _ => rfl) (.int .u64 0)).setCell (p := ⟨w.heap.size, 2, none⟩) (fun _ => rfl) (.int .u64 0)).setCell (p := ⟨w.heap.size, 3, none⟩) (fun _ => rfl) (.slice none 0 0)).setCell (p := ⟨w.heap.size, 4, none⟩) (fun _ => rfl) (.int .u64 0)).setCell (p := ⟨w.heap.size, 5, none⟩) (fun _ => rfl) (.int .u64 0)).setCell (p := ⟨w.heap.size, 6, none⟩) (fun _ => rfl) (.bool false)).setCell (p := ⟨w.heap.size, 7, none⟩) (fun _ => rfl) (.int .u64 0))
        have HXF := Lib.hid xf
        have HKF := Lib.hid (HK5.out.trans kf (fun i hi e => by omega))
        have HTF := Lib.hid (HT5.out.keep kf (fun i _ hi e => by omega))
        clear xf kf
        go_wp2
        have r0 := HXF.out.cell 0
        have r1 := HXF.out.cell 1
        have r2 := HXF.out.cell 2
        have r3 := HXF.out.cell 3
        have r4 := HXF.out.cell 4
        have r5 := HXF.out.cell 5
        have r6 := HXF.out.cell 6
        have r7 := HXF.out.cell 7
        simp only [List.getElem?_toArray, List.getElem?_cons_zero, List.getElem?_cons_succ] at r0 r1 r2 r3 r4 r5 r6 r7
        exact bodyPost_ret (v := .tuple #[.agg #[.int .i64 0, .int .u64 0, .int .u64 0, .slice none 0 0, .int .u64 0, .int .u64 0, .bool false, .int .u64 0], .int .i64 40]) (by simp [results, Try.results18, go_sem, r0, r1, r2, r3, r4, r5, r6, r7]) rfl ⟨HKF.out, none, 0, [], rfl, Tgs.nil _ _, rfl⟩
end Go.Proofs.Ytngbminjbgomgaa
