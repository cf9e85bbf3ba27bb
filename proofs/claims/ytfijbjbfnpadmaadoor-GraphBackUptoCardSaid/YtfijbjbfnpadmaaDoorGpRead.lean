/-
  graph.readGraph, Parse.
-/
import Derived.Test.YtfijbjbfnpadmaaDoorGpAdd
import Derived.Test.YtfijbjbfnpadmaaDoorGrCheck
namespace Go.Proofs.YtfijbjbfnpadmaaDoor
open Go.RowKit

/-- What is behind a call that reads a text's lines. -/
def ToldRead (r : Option (List Pt)) (w : World) (e : Ending) (w' : World) : Prop := ∃ A c ts, e = .returned (.tuple #[.agg #[.slice A (List.length ts) c], .bool r.isSome]) ∧ Keep noneOf w w' ∧ ∀ ps, r = some ps → ts.map Tg.plain = ps ∧ Tgs w' (fun k => w.heap.size ≤ k) (.slice A ts.length c) ts
theorem told_read_none {r : Option (List Pt)} {w w' : World} (h : r = none) (k : Keep noneOf w w') : ToldRead r w (.returned (.tuple #[.agg #[.slice none 0 0], .bool false])) w' := by
  subst h
  exact ⟨none, 0, [], rfl, k, fun ps h => by cases h⟩
theorem parse_more {a r : List UInt8} (ps : List Pt) (h : ∀ b ∈ a, b ≠ 10) : parseL (splitB 10 (a ++ 10 :: r)) ps = (addLineP ps a).bind (parseL (splitB 10 r)) := by
  rw [split_in r h]
  obtain ⟨m, ls, e⟩ := splitB_ne 10 r
  rw [e]
  rfl
def sizeOfS (v : Value) : Nat := match v with
  | .string b => b.size
  | _ => 0

set_option maxRecDepth 100000 in
set_option maxHeartbeats 4000000 in
theorem readGraph_any (w : World) (s : ByteArray) (hm : MaxCell w) (hs : s.size ≤ 2097152) : Calls Tryd.prog 15 #[.string s] w (ToldRead (parseP (bl s)) w) := by
  generalize hPP : parseP (bl s) = PP
  have HPP0 := Lib.hid (show PP = parseL (splitB 10 (bl s)) (([] : List Tg).map Tg.plain) from hPP.symm)
  have HX0 := Lib.hid ((Box.new w 24 #[.slice none 0 0]).alloc (.cells #[.slice none 0 0] 24))
  have hY0 := Box.new (w.alloc (.cells #[.slice none 0 0] 24)) 24 #[.slice none 0 0]
  rw [show (w.alloc (.cells #[.slice none 0 0] 24)).heap.size = w.heap.size + 1 from by simp] at hY0
  have HY0 := Lib.hid hY0
  have HK0 := Lib.hid (((Keep.refl noneOf w).alloc (.cells #[.slice none 0 0] 24)).alloc (.cells #[.slice none 0 0] 24))
  have HM := Lib.hid hm
  clear hY0 hPP hm
  go_enter Tryd.func15, Tryd.ntmps15
  go_wp2
  generalize (w.alloc (.cells #[.slice none 0 0] 24)).alloc (.cells #[.slice none 0 0] 24) = W1 at *
  go_loopw [0] (fun v wr => ∃ (l : List UInt8) (ts : List Tg), v = .string (mk l) ∧ ts.length + l.length ≤ s.size ∧ Keep noneOf w wr ∧ Box wr w.heap.size 24 #[.slice none 0 0] ∧ GraphAt wr (w.heap.size + 1) (w.heap.size + 2) ts ∧ PP = parseL (splitB 10 l) (ts.map Tg.plain)) (fun v _ => sizeOfS v)
  case atStart => exact ⟨bl s, [], rfl, by rw [bl_length]; simp, HK0.out, HX0.out, ⟨none, 0, HY0.out, World.ownsRow_nil _ _ _ _, fun t ht => by cases ht⟩, HPP0.out⟩
  case round =>
    obtain ⟨l, ts, rfl, hlen, hkeep, hX, hG, hPP⟩ := hrel
    have HKP := Lib.hid hkeep
    have HX := Lib.hid hX
    have HG := Lib.hid hG
    have HPP := Lib.hid hPP
    have hWS : w.heap.size + 2 ≤ wr.heap.size := by
      obtain ⟨_, _, hb, _⟩ := hG
      have := hb.lt
      omega
    clear hkeep hX hG hPP HX0 HY0 HK0 HPP0
    by_cases hl : l = []
    · have g1 : (mk l).toList.isEmpty = true := by rw [hl, ByteArray.toList_eq]; rfl
      have hyes : PP = some (ts.map Tg.plain) := by
        rw [HPP.out, hl]
        rfl
      have HYES := Lib.hid hyes
      obtain ⟨A, c, hY, hO, hH⟩ := HG.out
      have y0 := hY.cell 0
      have d0 := HX.out.cell 0
      have f0 := HX.out.free 0
      simp only [List.getElem?_toArray, List.getElem?_cons_zero] at y0 d0
      have ks := gkeep wr w.heap.size (.slice A ts.length c)
      have HXF := Lib.hid (gput HX.out (.slice A ts.length c))
      have HKF := Lib.hid (keep_own HKP.out ks (Nat.le_refl _))
      have HTF := Lib.hid ((Tgs.of_held hO hH).keep ks (fun i _ h e => by omega))
      clear hyes hY hO hH ks hl HG HPP
      go_wp2
      have r0 := HXF.out.cell 0
      simp only [List.getElem?_toArray, List.getElem?_cons_zero] at r0
      exact bodyPost_ret (v := .tuple #[.agg #[.slice A ts.length c], .bool true]) (by simp [results, Tryd.results15, go_sem, r0]) rfl ⟨A, c, ts, by rw [HYES.out]; rfl, HKF.out, fun ps h => by
        rw [HYES.out] at h
        injection h with h
        exact ⟨h, HTF.out.mono' (fun i _ h => by omega)⟩⟩
    · have g1 : (mk l).toList.isEmpty = false := by
        rw [ByteArray.toList_eq]
        cases l with
        | nil => exact absurd rfl hl
        | cons x l => rfl
      have CU := cut_any wr (mk l) 10 (HM.out.keep HKP.out id) (by rw [mk_size]; omega)
      rw [bl_mk] at CU
      rcases byte_cases 10 l with h | ⟨a, r, h, ha⟩
      · have hno : PP = none := by
          rw [HPP.out]
          exact parse_end _ h hl
        rw [cut_out h] at CU
        have HNO := Lib.hid hno
        have HCU := Lib.hid CU
        simp only at HCU
        clear hno CU h hl HPP
        go_wp2_with fail
        refine HCU.out.mono ?_
        rintro e w2 ⟨rfl, k2⟩
        have HX2 := Lib.hid (HX.out.keep k2 id)
        have HK2 := Lib.hid (HKP.out.trans k2 (fun _ _ h => h))
        clear HCU k2 HX HKP HG
        have d0 := HX2.out.cell 0
        have f0 := HX2.out.free 0
        simp only [List.getElem?_toArray, List.getElem?_cons_zero] at d0
        have HKF := Lib.hid (keep_own HK2.out (gkeep w2 w.heap.size (.slice none 0 0)) (Nat.le_refl _))
        have HXF := Lib.hid (gput HX2.out (.slice none 0 0))
        go_wp2
        have r0 := HXF.out.cell 0
        simp only [List.getElem?_toArray, List.getElem?_cons_zero] at r0
        exact bodyPost_ret (v := .tuple #[.agg #[.slice none 0 0], .bool false]) (by simp [results, Tryd.results15, go_sem, r0]) rfl (told_read_none HNO.out HKF.out)
      · have hstep : PP = (addLineP (ts.map Tg.plain) a).bind (parseL (splitB 10 r)) := by
          rw [HPP.out, h]
          exact parse_more _ ha
        have hll : l.length = a.length + (r.length + 1) := by rw [h]; simp
        rw [h, cut_in r ha] at CU
        have HCU := Lib.hid CU
        simp only at HCU
        rw [← h] at HCU
        have HST := Lib.hid hstep
        have HLL := Lib.hid hll
        have HLEN := Lib.hid hlen
        clear CU hstep hl HPP h ha
        go_wp2_with fail
        refine HCU.out.mono ?_
        rintro e w2 ⟨rfl, k2⟩
        have HX2 := Lib.hid (HX.out.keep k2 id)
        have HK2 := Lib.hid (HKP.out.trans k2 (fun _ _ h => h))
        have AL := addLine_any w2 (w.heap.size + 1) (w.heap.size + 2) ts a (HM.out.keep HK2.out id) (by omega) (by
          obtain ⟨A, c, hY, hO, hH⟩ := HG.out
          exact ⟨A, c, hY.keep k2 id, own_keep hO k2 (fun _ _ h => h), fun t ht => (hH t ht).keep k2 (fun _ _ h => h.elim)⟩) (by omega) (Nat.le_trans hWS k2.size) (by omega) (by omega)
        generalize addLineP (ts.map Tg.plain) a = R at *
        have HAL := Lib.hid AL
        clear HCU k2 HX HKP HG AL
        go_wp2_with fail
        refine HAL.out.mono ?_
        rintro e w3 ⟨rfl, k3, h3⟩
        have HX3 := Lib.hid (HX2.out.keep k3 (by omega))
        have HK3 := Lib.hid (HK2.out.trans k3 (fun i hi h => by omega))
        have H3 := Lib.hid h3
        clear HAL k3 h3 HX2 HK2
        cases R with
        | none =>
          have hno : PP = none := HST.out
          have HNO := Lib.hid hno
          clear hno
          simp only [Option.isSome_none]
          have d0 := HX3.out.cell 0
          have f0 := HX3.out.free 0
          simp only [List.getElem?_toArray, List.getElem?_cons_zero] at d0
          have HKF := Lib.hid (keep_own HK3.out (gkeep w3 w.heap.size (.slice none 0 0)) (Nat.le_refl _))
          have HXF := Lib.hid (gput HX3.out (.slice none 0 0))
          go_wp2
          have r0 := HXF.out.cell 0
          simp only [List.getElem?_toArray, List.getElem?_cons_zero] at r0
          exact bodyPost_ret (v := .tuple #[.agg #[.slice none 0 0], .bool false]) (by simp [results, Tryd.results15, go_sem, r0]) rfl (told_read_none HNO.out HKF.out)
        | some qs =>
          obtain ⟨ts2, h1, h2, h3⟩ := H3.out qs rfl
          have HG3 := Lib.hid h3
          have HP3 := Lib.hid (show PP = parseL (splitB 10 r) (ts2.map Tg.plain) by rw [HST.out, h1]; rfl)
          have HL2 := Lib.hid h2
          clear h1 h2 h3 H3 HST
          simp only [Option.isSome_some]
          go_wp2
          go_roundw
          case rel => exact ⟨r, ts2, rfl, by have := HL2.out; have := HLL.out; have := HLEN.out; omega, HK3.out, HX3.out, HG3.out, HP3.out⟩
          case measure =>
            show (mk r).size < (mk l).size
            rw [mk_size, mk_size, HLL.out]
            omega

set_option maxRecDepth 100000 in
set_option maxHeartbeats 4000000 in
theorem parse_any (w : World) (s : ByteArray) (hm : MaxCell w) (hs : s.size ≤ 2097152) : Calls Tryd.prog 7 #[.string s] w (ToldGraph (parseRes (bl s)) w) := by
  have HRES := Lib.hid (show parseRes (bl s) = (match parseP (bl s) with
    | none => ([], 70)
    | some ps => if grCheck ps = 0 then (ps, 0) else ([], grCheck ps)) from rfl)
  have RG := readGraph_any (w.alloc (.cells #[.slice none 0 0] 24)) s (hm.keep ((Keep.refl noneOf w).alloc _) id) hs
  generalize parseRes (bl s) = RS at *
  generalize parseP (bl s) = PP at *
  have HRG := Lib.hid RG
  have HX0 := Lib.hid (Box.new w 24 #[.slice none 0 0])
  have HK0 := Lib.hid ((Keep.refl noneOf w).alloc (.cells #[.slice none 0 0] 24))
  clear RG hm
  go_enter Tryd.func7, Tryd.ntmps7
  go_wp2_with fail
  refine HRG.out.mono ?_
  rintro e w2 ⟨A, c, ts, rfl, k2, ht⟩
  have k3 := (Keep.refl noneOf w2).alloc (.cells #[.slice A ts.length c] 24)
  have HX3 := Lib.hid ((HX0.out.keep k2 id).keep k3 id)
  have HK3 := Lib.hid ((HK0.out.trans k2 (fun _ _ h => h)).trans k3 (fun _ _ h => h))
  have HY3 := Lib.hid (Box.new w2 24 #[.slice A ts.length c])
  have HT3 := Lib.hid (show ∀ ps, PP = some ps → ts.map Tg.plain = ps ∧ Tgs (w2.alloc (.cells #[.slice A ts.length c] 24)) (fun k => w.heap.size + 1 ≤ k) (.slice A ts.length c) ts from fun ps h => by
    obtain ⟨h1, h2⟩ := ht ps h
    refine ⟨h1, (h2.keep k3 (fun _ _ _ => id)).mono' (fun i _ hi => ?_)⟩
    simpa using hi)
  clear HRG k2 k3 HX0 HK0 ht
  cases PP with
  | none =>
    have hRS : RS = ([], 70) := HRES.out
    subst hRS
    simp only [Option.isSome_none]
    go_upto_region 2 with fail
    generalize w2.alloc (.cells #[.slice A ts.length c] 24) = w3 at *
    have d0 := HX3.out.cell 0
    have f0 := HX3.out.free 0
    simp only [List.getElem?_toArray, List.getElem?_cons_zero] at d0
    have HKF := Lib.hid (keep_own HK3.out (gkeep w3 w.heap.size (.slice none 0 0)) (Nat.le_refl _))
    have HXF := Lib.hid (gput HX3.out (.slice none 0 0))
    clear HRES
    go_wp2
    have r9 := HXF.out.cell 0
    simp only [List.getElem?_toArray, List.getElem?_cons_zero] at r9
    exact bodyPost_ret (v := .tuple #[.agg #[.slice none 0 0], .int .i64 70]) (by simp [results, Tryd.results7, go_sem, r9]) rfl (told_none rfl HKF.out)
  | some ps =>
    obtain ⟨hp, hT⟩ := HT3.out ps rfl
    simp only [Option.isSome_some]
    have hRS : RS = if grCheck ps = 0 then (ps, 0) else ([], grCheck ps) := HRES.out
    have HRS := Lib.hid hRS
    have HP := Lib.hid hp
    have HTT := Lib.hid hT
    clear HRES hRS hT hp HT3
    go_upto_region 2 with fail
    generalize w2.alloc (.cells #[.slice A ts.length c] 24) = w3 at *
    generalize w2.heap.size = B at *
    have y0 := HY3.out.cell 0
    simp only [List.getElem?_toArray, List.getElem?_cons_zero] at y0
    have CK := check_any w3 _ _ ts HTT.out
    rw [HP.out] at CK
    have HCK := Lib.hid CK
    clear CK
    go_wp2_with fail
    refine HCK.out.mono ?_
    rintro e w4 ⟨rfl, k4⟩
    have HX4 := Lib.hid (HX3.out.keep k4 id)
    have HK4 := Lib.hid (HK3.out.trans k4 (fun _ _ h => h))
    have HY4 := Lib.hid (HY3.out.keep k4 id)
    have HT4 := Lib.hid (HTT.out.keep k4 (fun _ _ _ => id))
    clear HCK k4 HX3 HK3 HY3 HTT y0
    have d0 := HX4.out.cell 0
    have f0 := HX4.out.free 0
    have y0 := HY4.out.cell 0
    simp only [List.getElem?_toArray, List.getElem?_cons_zero] at d0 y0
    by_cases hq : grCheck ps = 0
    · have hR : RS = (ps, 0) := by rw [HRS.out, if_pos hq]
      subst hR
      rw [hq]
      have g1 : ((0 : Int) != 0) = false := rfl
      have ks := gkeep w4 w.heap.size (.slice A ts.length c)
      have HKF := Lib.hid (keep_own HK4.out ks (Nat.le_refl _))
      have HXF := Lib.hid (gput HX4.out (.slice A ts.length c))
      have HTF := Lib.hid ((HT4.out.keep ks (fun i _ hi e => by omega)).mono' (D' := fun k => w.heap.size ≤ k) (fun i _ hi => by omega))
      clear ks HRS hq HX4 HK4 HY4 HT4
      go_wp2
      have r9 := HXF.out.cell 0
      simp only [List.getElem?_toArray, List.getElem?_cons_zero] at r9
      exact bodyPost_ret (v := .tuple #[.agg #[.slice A ts.length c], .int .i64 0]) (by simp [results, Tryd.results7, go_sem, r9]) rfl ⟨A, c, ts, rfl, HP.out, HTF.out, HKF.out⟩
    · have hR : RS = ([], grCheck ps) := by rw [HRS.out, if_neg hq]
      subst hR
      have g1 : (grCheck ps != 0) = true := by rw [bne_iff_ne]; exact hq
      have HKF := Lib.hid (keep_own HK4.out (gkeep w4 w.heap.size (.slice none 0 0)) (Nat.le_refl _))
      have HXF := Lib.hid (gput HX4.out (.slice none 0 0))
      clear HRS hq HX4 HK4 HY4 HT4
      generalize grCheck ps = ck at *
      go_wp2
      have r9 := HXF.out.cell 0
      simp only [List.getElem?_toArray, List.getElem?_cons_zero] at r9
      exact bodyPost_ret (v := .tuple #[.agg #[.slice none 0 0], .int .i64 ck]) (by simp [results, Tryd.results7, go_sem, r9]) rfl (told_none (r := ([], ck)) rfl HKF.out)
end Go.Proofs.YtfijbjbfnpadmaaDoor
