/-
  graph.readTarget.
-/
import Derived.Test.YtfijbjbfnpadmaaDoorGpStr
import Derived.Test.YtfijbjbfnpadmaaDoorGpLine
import Derived.Deep.DeepCutAuto
namespace Go.Proofs.YtfijbjbfnpadmaaDoor
open Go.RowKit

/-- What is behind a call that reads a target's line. -/
def ToldLine (s : ByteArray) (w : World) (e : Ending) (w' : World) : Prop := ∃ t : Tg, e = .returned (.tuple #[.agg #[.string t.name, .string t.cmd, t.nv], .bool (lineP (bl s)).isSome]) ∧ (∃ A n c, t.nv = .slice A n c) ∧ Keep noneOf w w' ∧
      ∀ p, lineP (bl s) = some p → t.plain = ⟨mk p.1, ⟨#[]⟩, p.2.map mk⟩ ∧ heldT w.heap.size w' t
theorem told_line_none {s : ByteArray} {w w' : World} (h : lineP (bl s) = none) (k : Keep noneOf w w') : ToldLine s w (.returned (.tuple #[.agg #[.string ⟨#[]⟩, .string ⟨#[]⟩, .slice none 0 0], .bool false])) w' :=
  ⟨⟨⟨#[]⟩, ⟨#[]⟩, .slice none 0 0, []⟩, by rw [h]; rfl, ⟨_, _, _, rfl⟩, k, fun p hp => by rw [h] at hp; cases hp⟩
theorem Box.putT {w : World} {g : Nat} {t : TypeId} {a b c : Value} (h : Box w g t #[a, b, c]) (x y z : Value) : Box (((w.setCell ⟨g, 0, none⟩ x).setCell ⟨g, 1, none⟩ y).setCell ⟨g, 2, none⟩ z) g t #[x, y, z] := by simpa using ((h.put 0 x).put 1 y).put 2 z

theorem split_small (c : UInt8) : ∀ (l : List UInt8) (x : List UInt8), x ∈ splitB c l → x.length ≤ l.length
  | [], x, hx => by
    rw [show splitB c [] = [[]] from rfl, List.mem_singleton] at hx
    rw [hx]
    exact Nat.le_refl _
  | b :: l, x, hx => by
    have ih := split_small c l
    unfold splitB at hx
    split at hx
    · rcases List.mem_cons.1 hx with rfl | hx
      · exact Nat.zero_le _
      · exact Nat.le_trans (ih x hx) (by simp)
    · obtain ⟨h, t, e⟩ := splitB_ne c l
      rw [e] at hx ih
      simp only [List.mem_cons] at hx
      rcases hx with rfl | hx
      · have := ih h List.mem_cons_self
        simp only [List.length_cons]
        omega
      · have := ih x (List.mem_cons_of_mem _ hx)
        simp only [List.length_cons]
        omega
/-- The pieces that a split lays. -/
theorem pieces {w : World} {t : TypeId} (ps : List (List UInt8)) {k : Nat} {x : List UInt8} (h : ps[k]? = some x) :
    (w.alloc (.cells (ps.map (fun x => Value.string (mk x))).toArray t)).cell? ⟨w.heap.size, k, none⟩ = some (.string (mk x)) := by
  rw [(Box.new w t _).cell, List.getElem?_toArray, List.getElem?_map, h]
  rfl

set_option maxRecDepth 100000 in
set_option maxHeartbeats 2000000 in
theorem readTarget_any (w : World) (s : ByteArray) (hm : MaxCell w) (hs : s.size ≤ 2097152) : Calls Tryd.prog 44 #[.string s] w (ToldLine s w) := by
  have CU := cut_any (w.alloc (.cells #[.string ⟨#[]⟩, .string ⟨#[]⟩, .slice none 0 0] 40)) s 58 (hm.keep ((Keep.refl noneOf w).alloc _) id) hs
  have HX1 := Lib.hid (Box.new w 40 #[.string ⟨#[]⟩, .string ⟨#[]⟩, .slice none 0 0])
  have HK1 := Lib.hid ((Keep.refl noneOf w).alloc (.cells #[.string ⟨#[]⟩, .string ⟨#[]⟩, .slice none 0 0] 40))
  have HM := Lib.hid hm
  have hwlt : w.heap.size < (w.alloc (.cells #[.string ⟨#[]⟩, .string ⟨#[]⟩, .slice none 0 0] 40)).heap.size := by simp
  have HWLT := Lib.hid hwlt
  clear hwlt hm
  rcases byte_cases 58 (bl s) with h | ⟨a, r, h, ha⟩
  · have hno := line_none h
    rw [cut_out h] at CU
    have HCU := Lib.hid CU
    have HNO := Lib.hid hno
    clear CU h hno
    simp only [mk_bl] at HCU
    go_enter Tryd.func44, Tryd.ntmps44
    go_wp2_with fail
    refine HCU.out.mono ?_
    rintro e w2 ⟨rfl, k2⟩
    have HX2 := Lib.hid (HX1.out.keep k2 id)
    have HK2 := Lib.hid (HK1.out.trans k2 (fun _ _ h => h))
    have HSP := Lib.hid (split_any w2 (mk []) 32 (HM.out.keep HK2.out id) (by decide))
    clear HCU k2 HX1 HK1 HWLT
    go_wp2_with fail
    refine HSP.out.mono ?_
    rintro e w3 ⟨rfl, rfl⟩
    have e1 : bl (mk []) = [] := rfl
    rw [e1]
    have e2 : splitB 32 ([] : List UInt8) = [[]] := rfl
    rw [e2]
    have K3 := (Keep.refl noneOf w2).alloc (.cells (([[]] : List (List UInt8)).map (fun x => Value.string (mk x))).toArray 9)
    have HX3 := Lib.hid (HX2.out.keep K3 id)
    have HK3 := Lib.hid (HK2.out.trans K3 (fun _ _ h => h))
    clear HSP K3 HX2 HK2 e1 e2
    generalize w2.alloc (.cells (([[]] : List (List UInt8)).map (fun x => Value.string (mk x))).toArray 9) = w3 at *
    have d0 := HX3.out.cell 0
    have d1 := HX3.out.cell 1
    have d2 := HX3.out.cell 2
    have f0 := HX3.out.free 0
    have f1 := HX3.out.free 1
    have f2 := HX3.out.free 2
    simp only [List.getElem?_toArray, List.getElem?_cons_zero, List.getElem?_cons_succ] at d0 d1 d2
    have HXF := Lib.hid (HX3.out.putT (.string ⟨#[]⟩) (.string ⟨#[]⟩) (.slice none 0 0))
    have HKF := Lib.hid (keep_own HK3.out (tcells_keep w3 w.heap.size (.string ⟨#[]⟩) (.string ⟨#[]⟩) (.slice none 0 0)) (Nat.le_refl _))
    go_wp2
    have r0 := HXF.out.cell 0
    have r1 := HXF.out.cell 1
    have r2 := HXF.out.cell 2
    simp only [List.getElem?_toArray, List.getElem?_cons_zero, List.getElem?_cons_succ] at r0 r1 r2
    exact bodyPost_ret (v := .tuple #[.agg #[.string ⟨#[]⟩, .string ⟨#[]⟩, .slice none 0 0], .bool false]) (by simp [results, Tryd.results44, go_sem, r0, r1, r2]) rfl (told_line_none HNO.out HKF.out)
  · have hl := line_some r ha
    rw [← h] at hl
    have hrs : (mk r).size ≤ 2097152 := by
      rw [mk_size]
      have e1 := congrArg List.length h
      rw [List.length_append, List.length_cons, bl_length] at e1
      omega
    have hrs2 : r.length < 4611686018427387904 := by rw [← mk_size]; omega
    rw [h, cut_in r ha] at CU
    have HCU := Lib.hid CU
    have HL := Lib.hid hl
    have HRS := Lib.hid hrs
    have has : a.length ≤ 2097152 := by
      have e1 := congrArg List.length h
      rw [List.length_append, List.length_cons, bl_length] at e1
      omega
    have HAS := Lib.hid has
    have HRL := Lib.hid hrs2
    clear CU h ha hl hrs has hrs2
    simp only at HCU
    go_enter Tryd.func44, Tryd.ntmps44
    go_wp2_with fail
    refine HCU.out.mono ?_
    rintro e w2 ⟨rfl, k2⟩
    have HX2 := Lib.hid (HX1.out.keep k2 id)
    have HK2 := Lib.hid (HK1.out.trans k2 (fun _ _ h => h))
    have HSP := Lib.hid (split_any w2 (mk r) 32 (HM.out.keep HK2.out id) HRS.out)
    have hw2 : w.heap.size < w2.heap.size := Nat.lt_of_lt_of_le HWLT.out k2.size
    have HW2 := Lib.hid hw2
    clear HCU k2 HX1 HK1 HWLT hw2
    go_wp2_with fail
    refine HSP.out.mono ?_
    rintro e w3 ⟨rfl, rfl⟩
    rw [bl_mk]
    have K3 := (Keep.refl noneOf w2).alloc (.cells ((splitB 32 r).map (fun x => Value.string (mk x))).toArray 9)
    have HX3 := Lib.hid (HX2.out.keep K3 id)
    have HK3 := Lib.hid (HK2.out.trans K3 (fun _ _ h => h))
    have HPC : Hid (∀ (k : Nat) (x : List UInt8), (splitB 32 r)[k]? = some x → (w2.alloc (.cells ((splitB 32 r).map (fun x => Value.string (mk x))).toArray 9)).cell? ⟨w2.heap.size, k, none⟩ = some (.string (mk x))) := Lib.hid fun k x hx => pieces (splitB 32 r) hx
    have HP3 : Hid (w2.heap.size < (w2.alloc (.cells ((splitB 32 r).map (fun x => Value.string (mk x))).toArray 9)).heap.size) := Lib.hid (by simp)
    have IW : Hid (∀ w' x, Calls Tryd.prog 49 #[.string (mk x)] w' fun e w'' => e = .returned (.bool (goodW x)) ∧ Keep noneOf w' w'') := Lib.hid fun w' x => by rw [good_iff]; exact isWord_any w' (mk x)
    clear HSP K3 HX2 HK2
    generalize w2.alloc (.cells ((splitB 32 r).map (fun x => Value.string (mk x))).toArray 9) = w3 at *
    have HRP := Lib.hid (show restP r = (match splitB 32 r with
      | [] :: ws => if ws.all goodW = true then some ws else none
      | _ => none) from rfl)
    have hlen : (splitB 32 r).length ≤ r.length + 2 := by
      rw [show r = bl (mk r) from rfl, ← (splits (mk r) 32).1]
      have := Lib.count_le (bl (mk r)) [32]
      exact Nat.succ_le_succ this
    obtain ⟨h1, ts, hsp⟩ := splitB_ne 32 r
    have HSZ : Hid (∀ y ∈ ts, (mk y).size ≤ 2097152) := Lib.hid fun y hy => by
      have h9 := split_small 32 r y (by rw [hsp]; exact List.mem_cons_of_mem _ hy)
      have := HRS.out
      rw [mk_size] at this ⊢
      omega
    rw [hsp] at HPC HRP hlen
    rw [hsp]
    have hts : ts.length ≤ r.length + 1 := by simpa using hlen
    have htm := HRL.out
    generalize w2.heap.size = B at *
    clear hsp hlen
    generalize restP r = RP at *
    go_wp2_with fail
    refine (IW.out w3 a).mono ?_
    rintro e w4 ⟨rfl, k4⟩
    have HX4 := Lib.hid (HX3.out.keep k4 id)
    have HK4 := Lib.hid (HK3.out.trans k4 (fun _ _ h => h))
    have HP4 : Hid (∀ (k : Nat) (x : List UInt8), (h1 :: ts)[k]? = some x → w4.cell? ⟨B, k, none⟩ = some (.string (mk x))) := Lib.hid fun k x hx => (k4.cell (p := ⟨B, k, none⟩) HP3.out id).trans (HPC.out k x hx)
    have HB4 : Hid (B < w4.heap.size) := Lib.hid (Nat.lt_of_lt_of_le HP3.out k4.size)
    clear HX3 HK3 HPC HP3 k4
    cases hg : goodW a with
    | false =>
      have hno : lineP (bl s) = none := by rw [HL.out, hg]; rfl
      have HNO := Lib.hid hno
      clear hno
      have d0 := HX4.out.cell 0
      have d1 := HX4.out.cell 1
      have d2 := HX4.out.cell 2
      have f0 := HX4.out.free 0
      have f1 := HX4.out.free 1
      have f2 := HX4.out.free 2
      simp only [List.getElem?_toArray, List.getElem?_cons_zero, List.getElem?_cons_succ] at d0 d1 d2
      have HXF := Lib.hid (HX4.out.putT (.string ⟨#[]⟩) (.string ⟨#[]⟩) (.slice none 0 0))
      have HKF := Lib.hid (keep_own HK4.out (tcells_keep w4 w.heap.size (.string ⟨#[]⟩) (.string ⟨#[]⟩) (.slice none 0 0)) (Nat.le_refl _))
      go_wp2
      have r0 := HXF.out.cell 0
      have r1 := HXF.out.cell 1
      have r2 := HXF.out.cell 2
      simp only [List.getElem?_toArray, List.getElem?_cons_zero, List.getElem?_cons_succ] at r0 r1 r2
      exact bodyPost_ret (v := .tuple #[.agg #[.string ⟨#[]⟩, .string ⟨#[]⟩, .slice none 0 0], .bool false]) (by simp [results, Tryd.results44, go_sem, r0, r1, r2]) rfl (told_line_none HNO.out HKF.out)
    | true =>
      have hyes : lineP (bl s) = RP.map (fun ws => (a, ws)) := by rw [HL.out, hg]; rfl
      have HY := Lib.hid hyes
      have q0 := HP4.out 0 h1 rfl
      have n0 : (0 : Int) < ((ts.length + 1 : Nat) : Int) := by omega
      clear hyes hg
      by_cases hh : h1 = []
      · subst hh
        have g1 : (mk []).toList.isEmpty = true := by rw [ByteArray.toList_eq]; rfl
        have RPL := Lib.hid (show RP = if ts.all goodW = true then some ts else none from HRP.out)
        by_cases htn : ts = []
        · subst htn
          have HJX := Lib.hid (Box.new w4 40 #[.string (mk a), .string ⟨#[]⟩, .slice none 0 0])
          have HJK := Lib.hid ((Keep.refl noneOf w4).alloc (.cells #[.string (mk a), .string ⟨#[]⟩, .slice none 0 0] 40))
          have hyes : lineP (bl s) = some (a, []) := by
            rw [HY.out, RPL.out]
            rfl
          have HYES := Lib.hid hyes
          clear hyes
          go_wp2
          clear q0 n0
          generalize w4.alloc (.cells #[.string (mk a), .string ⟨#[]⟩, .slice none 0 0] 40) = w5 at *
          go_loopw [38] (fun i wr => i = .int .i64 0 ∧ wr = w5) (fun _ _ => 0)
          case atStart => exact ⟨rfl, rfl⟩
          case round =>
            obtain ⟨rfl, rfl⟩ := hrel
            have HX6 := Lib.hid (HX4.out.keep HJK.out id)
            have HK6 := Lib.hid (HK4.out.trans HJK.out (fun _ _ h => h))
            have j0 := HJX.out.cell 0
            have j1 := HJX.out.cell 1
            have j2 := HJX.out.cell 2
            simp only [List.getElem?_toArray, List.getElem?_cons_zero, List.getElem?_cons_succ] at j0 j1 j2
            have d0 := HX6.out.cell 0
            have d1 := HX6.out.cell 1
            have d2 := HX6.out.cell 2
            have f0 := HX6.out.free 0
            have f1 := HX6.out.free 1
            have f2 := HX6.out.free 2
            simp only [List.getElem?_toArray, List.getElem?_cons_zero, List.getElem?_cons_succ] at d0 d1 d2
            have HXF := Lib.hid (HX6.out.putT (.string (mk a)) (.string ⟨#[]⟩) (.slice none 0 0))
            have ks := tcells_keep wr w.heap.size (.string (mk a)) (.string ⟨#[]⟩) (.slice none 0 0)
            have HKF := Lib.hid (keep_own HK6.out ks (Nat.le_refl _))
            clear ks
            go_wp2
            have r0 := HXF.out.cell 0
            have r1 := HXF.out.cell 1
            have r2 := HXF.out.cell 2
            simp only [List.getElem?_toArray, List.getElem?_cons_zero, List.getElem?_cons_succ] at r0 r1 r2
            refine bodyPost_ret (v := .tuple #[.agg #[.string (mk a), .string ⟨#[]⟩, .slice none 0 0], .bool true]) (by simp [results, Tryd.results44, go_sem, r0, r1, r2]) rfl ?_
            exact ⟨⟨mk a, ⟨#[]⟩, .slice none 0 0, []⟩, by rw [HYES.out]; rfl, ⟨_, _, _, rfl⟩, HKF.out, fun p hp => by
              rw [HYES.out] at hp
              injection hp with hp
              subst hp
              exact ⟨rfl, by show (mk a).size ≤ maxLen; rw [mk_size]; unfold maxLen; have := HAS.out; omega, Nat.zero_le _, World.ownsRow_nil _ _ _ _, fun x hx => by cases hx⟩⟩
        have htl : 0 < ts.length := by
          cases ts with
          | nil => exact absurd rfl htn
          | cons x l => simp
        obtain ⟨i9, hi9, hz9, hs9, hb9⟩ := info_parts strinfo
        have HJX := Lib.hid (Box.new w4 40 #[.string (mk a), .string ⟨#[]⟩, .slice none 0 0])
        have HJK := Lib.hid ((Keep.refl noneOf w4).alloc (.cells #[.string (mk a), .string ⟨#[]⟩, .slice none 0 0] 40))
        go_wp2
        clear q0 n0
        generalize w4.alloc (.cells #[.string (mk a), .string ⟨#[]⟩, .slice none 0 0] 40) = w5 at *
        go_loopw [38] (fun i wr => ∃ (k : Nat) (A : Option Addr) (c : Nat), k ≤ ts.length ∧ i = .int .i64 k ∧ (ts.take k).all goodW = true ∧ Keep noneOf w4 wr ∧ Box wr w4.heap.size 40 #[.string (mk a), .string ⟨#[]⟩, .slice A k c] ∧ wr.ownsRow (w4.heap.size + 1) 9 1 (.slice A k c) k ((ts.take k).map (fun x => Value.string (mk x)))) (fun i _ => ts.length - (intOf i).toNat)
        case atStart => exact ⟨0, none, 0, Nat.zero_le _, rfl, rfl, HJK.out, HJX.out, World.ownsRow_nil _ _ _ _⟩
        case round =>
          obtain ⟨k, A, c, hk, rfl, hall, hkeep, hJ, hown⟩ := hrel
          have HALL := Lib.hid hall
          have HKP := Lib.hid hkeep
          have HJ := Lib.hid hJ
          have HO := Lib.hid hown
          have HX6 := Lib.hid (HX4.out.keep hkeep id)
          have HK6 := Lib.hid (HK4.out.trans hkeep (fun _ _ h => h))
          by_cases hlt : k < ts.length
          · have hx := List.getElem?_eq_getElem hlt
            generalize ts[k] = x at *
            have HXX := Lib.hid hx
            have c0 : wr.cell? ⟨B, 1 + k, none⟩ = some (.string (mk x)) := (hkeep.cell (p := ⟨B, 1 + k, none⟩) HB4.out id).trans (HP4.out (1 + k) x (by rw [Nat.add_comm]; exact hx))
            have p0 : (0 : Int) ≤ (k : Int) := by omega
            have p1 : (k : Int) < (ts.length : Int) := by omega
            clear hx hall hkeep hJ hown HJX HJK
            go_wp2_with fail
            refine (IW.out wr x).mono ?_
            rintro e w7 ⟨rfl, k7⟩
            have HX7 := Lib.hid (HX6.out.keep k7 id)
            have HK7 := Lib.hid (HK6.out.trans k7 (fun _ _ h => h))
            have HKP7 := Lib.hid (HKP.out.trans k7 (fun _ _ h => h))
            have HJ7 := Lib.hid (HJ.out.keep k7 id)
            have HO7 := Lib.hid (own_keep HO.out k7 (fun _ _ h => h))
            clear k7 c0 HX6 HK6 HKP HJ HO
            cases hg : goodW x with
            | false =>
              have hno : lineP (bl s) = none := by
                rw [HY.out, RPL.out]
                have hnot : ts.all goodW = false := by
                  rw [List.all_eq_false]
                  exact ⟨x, List.mem_of_getElem? HXX.out, by rw [hg]; decide⟩
                rw [hnot]
                rfl
              have HNO := Lib.hid hno
              clear hno hg
              have d0 := HX7.out.cell 0
              have d1 := HX7.out.cell 1
              have d2 := HX7.out.cell 2
              have f0 := HX7.out.free 0
              have f1 := HX7.out.free 1
              have f2 := HX7.out.free 2
              simp only [List.getElem?_toArray, List.getElem?_cons_zero, List.getElem?_cons_succ] at d0 d1 d2
              have HXF := Lib.hid (HX7.out.putT (.string ⟨#[]⟩) (.string ⟨#[]⟩) (.slice none 0 0))
              have HKF := Lib.hid (keep_own HK7.out (tcells_keep w7 w.heap.size (.string ⟨#[]⟩) (.string ⟨#[]⟩) (.slice none 0 0)) (Nat.le_refl _))
              go_wp2
              have r0 := HXF.out.cell 0
              have r1 := HXF.out.cell 1
              have r2 := HXF.out.cell 2
              simp only [List.getElem?_toArray, List.getElem?_cons_zero, List.getElem?_cons_succ] at r0 r1 r2
              exact bodyPost_ret (v := .tuple #[.agg #[.string ⟨#[]⟩, .string ⟨#[]⟩, .slice none 0 0], .bool false]) (by simp [results, Tryd.results44, go_sem, r0, r1, r2]) rfl (told_line_none HNO.out HKF.out)
            | true =>
              have hall2 : (ts.take (k + 1)).all goodW = true := by
                rw [List.take_add_one, HXX.out, List.all_append, HALL.out]
                simp [hg]
              have HAL2 := Lib.hid hall2
              have HT2 := Lib.hid (show (ts.take (k + 1)).map (fun x => Value.string (mk x)) = (ts.take k).map (fun x => Value.string (mk x)) ++ [.string (mk x)] by rw [List.take_add_one, HXX.out, List.map_append]; rfl)
              have j2 := HJ7.out.cell 2
              have fj := HJ7.out.free 2
              simp only [List.getElem?_toArray, List.getElem?_cons_zero, List.getElem?_cons_succ] at j2
              have HJA := Lib.hid (HJ7.out.alloc (.cells #[.string (mk x)] 9))
              have HOA := Lib.hid (HO7.out.alloc (.cells #[.string (mk x)] 9))
              have HKA := Lib.hid (HKP7.out.alloc (.cells #[.string (mk x)] 9))
              have hjl := HJ7.out.lt
              have HCN : Hid (∀ j u, [Value.string (mk x)][j]? = some u → (w7.alloc (.cells #[.string (mk x)] 9)).cell? ((⟨w7.heap.size, 0, none⟩ : Addr).add j) = some u) := Lib.hid (World.news_of_block (Box.new w7 9 #[.string (mk x)]))
              have hls := HRL.out
              clear hall2 hg
              go_wp2_with (at_builtin; refine wpList_append_own _ rfl _ _ 38 rfl (w4.heap.size + 1) 9 i9 _ 1 16 Tryd.underlying38 hi9 hz9 hs9 hb9 rfl (by decide) _ _ _ rfl HOA.out ⟨w7.heap.size, 0, none⟩ 1 1 [.string (mk x)] rfl rfl HCN.out (by simp [Value.oneCell']) (by unfold maxLen; omega) (by have h1 := HRS.out; rw [mk_size] at h1; omega) (by simp; omega) ?_; intro v' w8 hown' hgrow _; have hJ8 := HJA.out.keep (Keep.of_grown hgrow) (fun e => by have := (own_row HOA.out (show some w4.heap.size = (Value.slice A k c).ownBlock from e)).1; omega); obtain ⟨A8, c8, hv8⟩ := own_shape hown'; subst hv8; have j2' : w8.cell? ⟨w4.heap.size, 2, none⟩ = some (.slice A k c) := hJ8.cell 2; have fj' := hJ8.free 2)
              have kg : Keep (fun i => some i = (Value.slice A k c).ownBlock) (w7.alloc (.cells #[.string (mk x)] 9)) w8 := Keep.of_grown hgrow
              have k8 : Keep noneOf w4 w8 := HKA.out.trans kg (fun i hi e => by have := (own_row HOA.out e).1; omega)
              have ks : Keep (fun i => i = w4.heap.size) w8 (w8.setCell ⟨w4.heap.size, 2, none⟩ (.slice A8 (k + 1) c8)) := (Keep.refl (fun i => i = w4.heap.size) w8).setCell (fun _ => rfl) _
              have HKF := Lib.hid (keep_own k8 ks (Nat.le_refl _))
              have hJF := hJ8.put 2 (.slice A8 (k + 1) c8)
              have HJF : Hid (Box (w8.setCell ⟨w4.heap.size, 2, none⟩ (.slice A8 (k + 1) c8)) w4.heap.size 40 #[.string (mk a), .string ⟨#[]⟩, .slice A8 (k + 1) c8]) := Lib.hid (by simpa using hJF)
              have HOF := Lib.hid (own_keep hown' ks (fun j hj e => by have := (hown'.lt j hj).1; omega))
              rw [← HT2.out] at HOF
              clear hgrow hown' kg k8 ks hJF hJ8 j2' fj' j2 fj HCN HOA HJA HKA HX7 HK7 HKP7 HJ7 HO7
              go_roundw
              case rel => exact ⟨k + 1, A8, c8, by omega, by go_num, HAL2.out, HKF.out, HJF.out, HOF.out⟩
              case measure => simp [intOf]; omega
          · have hkn : k = ts.length := by omega
            subst hkn
            rw [List.take_length] at HALL HO
            have hyes : lineP (bl s) = some (a, ts) := by
              rw [HY.out, RPL.out, if_pos HALL.out]
              rfl
            have HYES := Lib.hid hyes
            have hn : ¬ ((ts.length : Int) < (ts.length : Int)) := by omega
            have j0 := HJ.out.cell 0
            have j1 := HJ.out.cell 1
            have j2 := HJ.out.cell 2
            simp only [List.getElem?_toArray, List.getElem?_cons_zero, List.getElem?_cons_succ] at j0 j1 j2
            have HX7 := HX6
            clear hyes hall hkeep hJ hown HX6 HY RPL HRP hlt
            have d0 := HX7.out.cell 0
            have d1 := HX7.out.cell 1
            have d2 := HX7.out.cell 2
            have f0 := HX7.out.free 0
            have f1 := HX7.out.free 1
            have f2 := HX7.out.free 2
            simp only [List.getElem?_toArray, List.getElem?_cons_zero, List.getElem?_cons_succ] at d0 d1 d2
            have HXF := Lib.hid (HX7.out.putT (.string (mk a)) (.string ⟨#[]⟩) (.slice A ts.length c))
            have ks := tcells_keep wr w.heap.size (.string (mk a)) (.string ⟨#[]⟩) (.slice A ts.length c)
            have HKF := Lib.hid (keep_own HK6.out ks (Nat.le_refl _))
            have hwj : w.heap.size < w4.heap.size := Nat.lt_of_lt_of_le HW2.out (Nat.le_of_lt HB4.out)
            have HOF := Lib.hid (own_base (own_keep HO.out ks (fun j hj e => by have := (HO.out.lt j hj).1; omega)) (show w.heap.size ≤ w4.heap.size + 1 by omega))
            clear ks hwj
            go_wp2
            have r0 := HXF.out.cell 0
            have r1 := HXF.out.cell 1
            have r2 := HXF.out.cell 2
            simp only [List.getElem?_toArray, List.getElem?_cons_zero, List.getElem?_cons_succ] at r0 r1 r2
            refine bodyPost_ret (v := .tuple #[.agg #[.string (mk a), .string ⟨#[]⟩, .slice A ts.length c], .bool true]) (by simp [results, Tryd.results44, go_sem, r0, r1, r2]) rfl ?_
            exact ⟨⟨mk a, ⟨#[]⟩, .slice A ts.length c, ts.map mk⟩, by rw [HYES.out]; rfl, ⟨_, _, _, rfl⟩, HKF.out, fun p hp => by
              rw [HYES.out] at hp
              injection hp with hp
              subst hp
              refine ⟨rfl, ?_, Nat.zero_le _, ?_, ?_⟩
              · show (mk a).size ≤ maxLen
                rw [mk_size]
                unfold maxLen
                have := HAS.out
                omega
              · have h9 := HOF.out
                rw [show (ts.map mk).length = ts.length by rw [List.length_map], show (ts.map mk).map Value.string = ts.map (fun x => Value.string (mk x)) by rw [List.map_map]; rfl]
                exact h9
              · intro x hx
                obtain ⟨y, hy, rfl⟩ := List.mem_map.1 hx
                have := HSZ.out y hy
                unfold maxLen
                omega⟩
      · have g1 : (mk h1).toList.isEmpty = false := by
          rw [ByteArray.toList_eq]
          cases h1 with
          | nil => exact absurd rfl hh
          | cons x l => rfl
        have hno : lineP (bl s) = none := by
          rw [HY.out, HRP.out]
          cases h1 with
          | nil => exact absurd rfl hh
          | cons x l => rfl
        have HNO := Lib.hid hno
        clear hno hh
        have d0 := HX4.out.cell 0
        have d1 := HX4.out.cell 1
        have d2 := HX4.out.cell 2
        have f0 := HX4.out.free 0
        have f1 := HX4.out.free 1
        have f2 := HX4.out.free 2
        simp only [List.getElem?_toArray, List.getElem?_cons_zero, List.getElem?_cons_succ] at d0 d1 d2
        have HXF := Lib.hid (HX4.out.putT (.string ⟨#[]⟩) (.string ⟨#[]⟩) (.slice none 0 0))
        have HKF := Lib.hid (keep_own HK4.out (tcells_keep w4 w.heap.size (.string ⟨#[]⟩) (.string ⟨#[]⟩) (.slice none 0 0)) (Nat.le_refl _))
        go_wp2
        have r0 := HXF.out.cell 0
        have r1 := HXF.out.cell 1
        have r2 := HXF.out.cell 2
        simp only [List.getElem?_toArray, List.getElem?_cons_zero, List.getElem?_cons_succ] at r0 r1 r2
        exact bodyPost_ret (v := .tuple #[.agg #[.string ⟨#[]⟩, .string ⟨#[]⟩, .slice none 0 0], .bool false]) (by simp [results, Tryd.results44, go_sem, r0, r1, r2]) rfl (told_line_none HNO.out HKF.out)
end Go.Proofs.YtfijbjbfnpadmaaDoor
