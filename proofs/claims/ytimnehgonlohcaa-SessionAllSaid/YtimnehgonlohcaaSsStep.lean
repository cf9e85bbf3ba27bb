/-
  dockyardlaw11.step: one call on a table, and on the document's.
-/
import Derived.Test.YtimnehgonlohcaaSsRKeep
namespace Go.Proofs.Ytimnehgonlohcaa
open Go.Shelf Go.RowKit Go.Maps

/-- The table and the document's rows. -/
structure Both (w : World) (p m : Nat) (v : Value) (l : List Ro) : Prop where
  tab : TabAt w p m l
  row : Many Ro.cells 8 w (fun i => i ≠ m) v l
  few : l.length ≤ 16
theorem Both.stay {w w' : World} {p m : Nat} {v : Value} {l : List Ro} (h : Both w p m v l) (k : Keep noneOf w w') : Both w' p m v l := ⟨h.tab.stay k, h.row.keep k (fun _ _ _ => id), h.few⟩
/-- What a call leaves. -/
def Stepped (w : World) (m : Nat) (e : Ending) (w' : World) : Prop := ∃ p' m' v' l', e = .returned (.tuple #[.pointer (some ⟨p', 0, none⟩), v', .bool true]) ∧ Both w' p' m' v' l' ∧ Keep (fun i => i = m) w w' ∧ (m' = m ∨ w.heap.size ≤ m')
theorem box_nine {w : World} {g : Nat} {t : TypeId} {x0 x1 x2 x3 x4 x5 x6 x7 x8 : Value} (h : Box w g t #[x0, x1, x2, x3, x4, x5, x6, x7, x8]) :
    w.cell? ⟨g, 0, none⟩ = some x0 ∧ w.cell? ⟨g, 1, none⟩ = some x1 ∧ w.cell? ⟨g, 2, none⟩ = some x2 ∧ w.cell? ⟨g, 3, none⟩ = some x3 ∧ w.cell? ⟨g, 4, none⟩ = some x4 ∧ w.cell? ⟨g, 5, none⟩ = some x5 ∧ w.cell? ⟨g, 6, none⟩ = some x6 ∧ w.cell? ⟨g, 7, none⟩ = some x7 ∧ w.cell? ⟨g, 8, none⟩ = some x8 :=
  ⟨h.cell 0, h.cell 1, h.cell 2, h.cell 3, h.cell 4, h.cell 5, h.cell 6, h.cell 7, h.cell 8⟩
theorem box_sixe {w : World} {g : Nat} {t : TypeId} {x0 x1 x2 x3 x4 x5 : Value} (h : Box w g t #[x0, x1, x2, x3, x4, x5]) :
    w.cell? ⟨g, 0, none⟩ = some x0 ∧ w.cell? ⟨g, 1, none⟩ = some x1 ∧ w.cell? ⟨g, 2, none⟩ = some x2 ∧ w.cell? ⟨g, 3, none⟩ = some x3 ∧ w.cell? ⟨g, 4, none⟩ = some x4 ∧ w.cell? ⟨g, 5, none⟩ = some x5 :=
  ⟨h.cell 0, h.cell 1, h.cell 2, h.cell 3, h.cell 4, h.cell 5⟩

set_option maxRecDepth 100000 in
set_option maxHeartbeats 4000000 in
theorem step_any (w : World) (p m : Nat) (v : Value) (l : List Ro) (cl : Cl) (h : Both w p m v l) (hin : (0 ≤ cl.id ∧ cl.id ≤ top) ∧ 0 ≤ cl.seq ∧ cl.seq ≤ top) :
    Calls Try.prog 9 #[.pointer (some ⟨p, 0, none⟩), v, .agg cl.cells.toArray] w (Stepped w m) := by
  obtain ⟨A, c, rfl⟩ := h.row.shape
  obtain ⟨ck, ci, cq, ⟨ac, ai, at_, au, ag, am⟩⟩ := cl
  unfold Cl.cells
  dsimp only at hin ⊢
  have ka := (Keep.refl noneOf w).alloc (.cells #[.int .i64 ck, .int .u64 ci, .int .u64 cq, .int .i64 ac, .int .u64 ai, .int .u64 at_, .int .u64 au, .string ag, .string am] 34)
  have HB := Lib.hid (Box.new w 34 #[.int .i64 ck, .int .u64 ci, .int .u64 cq, .int .i64 ac, .int .u64 ai, .int .u64 at_, .int .u64 au, .string ag, .string am])
  have HT := Lib.hid (h.stay ka)
  have HK : Hid (Keep (fun i => i = m) w (w.alloc (.cells #[.int .i64 ck, .int .u64 ci, .int .u64 cq, .int .i64 ac, .int .u64 ai, .int .u64 at_, .int .u64 au, .string ag, .string am] 34))) := Lib.hid (ka.mono (fun _ _ h => h.elim))
  have HQ : Hid (¬ w.heap.size = m) := Lib.hid (by have := h.tab.lt.2; omega)
  have HW : Hid (w.heap.size ≤ (w.alloc (.cells #[.int .i64 ck, .int .u64 ci, .int .u64 cq, .int .i64 ac, .int .u64 ai, .int .u64 at_, .int .u64 au, .string ag, .string am] 34)).heap.size) := Lib.hid ka.size
  have HO := Lib.hid (fun w' (T : TabAt w' p m l) => open_any w' p m l ci T hin.1.1 hin.1.2)
  have HL := Lib.hid (fun w' (T : TabAt w' p m l) => look_any w' p m l ci cq T hin.1.1 hin.1.2)
  have HE := Lib.hid (fun w' (l' : List Ro) (T : TabAt w' p m l') (hf : l'.length ≤ 16) => keep_any w' p m l' ci cq ⟨ac, ai, at_, au, ag, am⟩ T hin.1.1 hin.1.2 hf)
  unfold An.agg at HE
  dsimp only at HE
  clear ka h hin
  go_enter Try.func9, Try.ntmps9
  go_upto_region 1 with fail
  generalize (w.alloc (.cells #[.int .i64 ck, .int .u64 ci, .int .u64 cq, .int .i64 ac, .int .u64 ai, .int .u64 at_, .int .u64 au, .string ag, .string am] 34)) = w0 at *
  generalize hqq : w.heap.size = q at *
  have HQE := Lib.hid hqq
  clear hqq
  obtain ⟨c0, c1, c2, c3, c4, c5, c6, c7, c8⟩ := box_nine HB.out
  by_cases e0 : ck = 0
  · subst e0
    clear HL HE
    go_wp2_with fail
    refine (HO.out _ HT.out.tab).mono ?_
    rintro e w1 ⟨rfl, T1, k1⟩
    have HT1 := Lib.hid T1
    have HK1 := Lib.hid (HK.out.trans k1 (fun _ _ h => h))
    have HB1 := Lib.hid (HB.out.keep k1 HQ.out)
    have HM1 := Lib.hid (HT.out.row.keep k1 (fun i _ hi e => hi e))
    have HF1 := Lib.hid HT.out.few
    clear HO T1 k1 HK HB HT c0 c1 c2 c3 c4 c5 c6 c7 c8
    obtain ⟨c0, c1, c2, c3, c4, c5, c6, c7, c8⟩ := box_nine HB1.out
    generalize hE : openE l ci = E at *
    have HRO := Lib.hid (refOpen_any w1 _ _ l ci HM1.out HF1.out)
    rw [hE] at HRO
    clear hE
    go_wp2_with fail
    refine HRO.out.mono ?_
    rintro e w2 ⟨v2, rfl, hm2, k2⟩
    have HT2 := Lib.hid (HT1.out.stay k2)
    have HK2 := Lib.hid (HK1.out.andNone k2)
    have HM2 := Lib.hid (hm2.mono (D' := fun i => i ≠ m) (fun i _ h => by rcases h with h | h; exact h; have := HT1.out.lt.2; omega))
    have HF2 := Lib.hid (open_few (x := ci) HF1.out)
    have gE : (E == E) = true := beq_self_eq_true E
    clear HRO hm2 k2 HT1 HK1 HB1 HM1 HF1 c0 c1 c2 c3 c4 c5 c6 c7 c8
    go_wp2
    exact bodyPost_ret (v := .tuple #[.pointer (some ⟨p, 0, none⟩), v2, .bool true]) (by simp [results, Try.results9, go_sem]) rfl ⟨_, _, _, _, rfl, ⟨HT2.out, HM2.out, HF2.out⟩, HK2.out, .inl rfl⟩
  · have g0 : (ck == 0) = false := beq_eq_false_iff_ne.2 e0
    by_cases e1 : ck = 1
    · subst e1
      clear HO HE
      go_wp2_with fail
      refine (HL.out _ HT.out.tab).mono ?_
      rintro e w1 ⟨rfl, k1⟩
      generalize hA : lookA l ci cq = B at *
      generalize hB : lookB l ci cq = bb at *
      generalize hE : lookE l ci cq = E at *
      obtain ⟨bc, bi, bt, bu, bg, bm⟩ := B
      have ka := k1.alloc (.cells #[.int .i64 bc, .int .u64 bi, .int .u64 bt, .int .u64 bu, .string bg, .string bm] 32)
      have HX := Lib.hid (Box.new w1 32 #[.int .i64 bc, .int .u64 bi, .int .u64 bt, .int .u64 bu, .string bg, .string bm])
      have HT1 := Lib.hid (HT.out.stay ka)
      have HK1 := Lib.hid (HK.out.andNone ka)
      have HB1 := Lib.hid (HB.out.keep ka id)
      unfold An.agg
      dsimp only
      clear HL k1 HK HB HT c0 c1 c2 c3 c4 c5 c6 c7 c8 ka
      go_upto_region 8 with fail
      generalize (w1.alloc (.cells #[.int .i64 bc, .int .u64 bi, .int .u64 bt, .int .u64 bu, .string bg, .string bm] 32)) = w2 at *
      generalize w1.heap.size = q1 at *
      obtain ⟨c0, c1, c2, c3, c4, c5, c6, c7, c8⟩ := box_nine HB1.out
      have HRO := Lib.hid (refLook_any w2 _ _ l ci cq HT1.out.row)
      rw [hA, hB, hE] at HRO
      unfold An.agg at HRO
      dsimp only at HRO
      clear hA hB hE
      go_wp2_with fail
      refine HRO.out.mono ?_
      rintro e w3 ⟨rfl, k3⟩
      have ka := k3.alloc (.cells #[.int .i64 bc, .int .u64 bi, .int .u64 bt, .int .u64 bu, .string bg, .string bm] 32)
      have HY := Lib.hid (Box.new w3 32 #[.int .i64 bc, .int .u64 bi, .int .u64 bt, .int .u64 bu, .string bg, .string bm])
      have HT3 := Lib.hid (HT1.out.stay ka)
      have HK3 := Lib.hid (HK1.out.andNone ka)
      have HX3 := Lib.hid (HX.out.keep ka id)
      clear HRO k3 HK1 HB1 HT1 HX c0 c1 c2 c3 c4 c5 c6 c7 c8 ka
      go_upto_region 9 with fail
      generalize (w3.alloc (.cells #[.int .i64 bc, .int .u64 bi, .int .u64 bt, .int .u64 bu, .string bg, .string bm] 32)) = w4 at *
      generalize w3.heap.size = q3 at *
      obtain ⟨c0, c1, c2, c3, c4, c5⟩ := box_sixe HX3.out
      obtain ⟨d0, d1, d2, d3, d4, d5⟩ := box_sixe HY.out
      have heq : ∀ w', (binOp .eql 32 (.agg #[.int .i64 bc, .int .u64 bi, .int .u64 bt, .int .u64 bu, .string bg, .string bm]) (.agg #[.int .i64 bc, .int .u64 bi, .int .u64 bt, .int .u64 bu, .string bg, .string bm])).run Try.prog w' = .ok (.bool true) w' := fun w' => by
        have := run_eqlA w' ⟨bc, bi, bt, bu, bg, bm⟩ ⟨bc, bi, bt, bu, bg, bm⟩
        rw [decide_eq_true rfl] at this
        exact this
      have gE : (E == E) = true := beq_self_eq_true E
      have gb : (bb == bb) = true := beq_self_eq_true bb
      go_wp2
      exact bodyPost_ret (v := .tuple #[.pointer (some ⟨p, 0, none⟩), .slice A l.length c, .bool true]) (by simp [results, Try.results9, go_sem]) rfl ⟨_, _, _, _, rfl, HT3.out, HK3.out, .inl rfl⟩
    · have g1 : (ck == 1) = false := beq_eq_false_iff_ne.2 e1
      by_cases e2 : ck = 2
      · subst e2
        clear HO HL
        go_wp2_with fail
        refine (HE.out _ _ HT.out.tab HT.out.few).mono ?_
        rintro e w1 ⟨rfl, T1, k1⟩
        have HT1 := Lib.hid T1
        have HK1 := Lib.hid (HK.out.trans k1 (fun _ _ h => h))
        have HB1 := Lib.hid (HB.out.keep k1 HQ.out)
        have HM1 := Lib.hid (HT.out.row.keep k1 (fun i _ hi e => hi e))
        have HF1 := Lib.hid HT.out.few
        have HRO := Lib.hid (refKeep_any w1 _ _ l ci cq ⟨ac, ai, at_, au, ag, am⟩ HM1.out HT.out.tab.rising HF1.out)
        clear HE T1 k1 HK HB HT c0 c1 c2 c3 c4 c5 c6 c7 c8
        obtain ⟨c0, c1, c2, c3, c4, c5, c6, c7, c8⟩ := box_nine HB1.out
        unfold An.agg at HRO
        dsimp only at HRO
        generalize hE : keepE l ci cq = E at *
        clear hE
        go_wp2_with fail
        refine HRO.out.mono ?_
        rintro e w2 ⟨v2, rfl, hm2, k2⟩
        have HT2 := Lib.hid (HT1.out.stay k2)
        have HK2 := Lib.hid (HK1.out.andNone k2)
        have HM2 := Lib.hid (hm2.mono (D' := fun i => i ≠ m) (fun i _ h => by rcases h with h | h; exact h; have := HT1.out.lt.2; omega))
        have HF2 := Lib.hid (keep_few (x := ci) (s := cq) (a := ⟨ac, ai, at_, au, ag, am⟩) HF1.out)
        have gE : (E == E) = true := beq_self_eq_true E
        clear HRO hm2 k2 HT1 HK1 HB1 HM1 HF1 c0 c1 c2 c3 c4 c5 c6 c7 c8
        go_wp2
        exact bodyPost_ret (v := .tuple #[.pointer (some ⟨p, 0, none⟩), v2, .bool true]) (by simp [results, Try.results9, go_sem]) rfl ⟨_, _, _, _, rfl, ⟨HT2.out, HM2.out, HF2.out⟩, HK2.out, .inl rfl⟩
      · have g2 : (ck == 2) = false := beq_eq_false_iff_ne.2 e2
        by_cases e4 : ck = 4
        · subst e4
          clear HL
          go_wp2_with fail
          refine (clone_any _ p m l HT.out.tab).mono ?_
          rintro e w1 ⟨p', m', rfl, hp', hm', T1, k1⟩
          have HC1 := Lib.hid T1
          have HT1 := Lib.hid (HT.out.tab.stay k1)
          have HF := Lib.hid HT.out.few
          have HM1 := Lib.hid ((HT.out.row.mono (D' := fun i => i ≠ m ∧ i ≠ m') (fun i hi h => ⟨h, by omega⟩)).keep k1 (fun _ _ _ => id))
          have HK1 := Lib.hid (HK.out.andNone k1)
          have HB1 := Lib.hid (HB.out.keep k1 id)
          have HN : Hid (p' ≠ m ∧ m' ≠ m ∧ q ≤ m') := Lib.hid (by have := HT.out.tab.lt; have := HW.out; omega)
          clear T1 k1 HK HB HT c0 c1 c2 c3 c4 c5 c6 c7 c8 hp' hm'
          obtain ⟨c0, c1, c2, c3, c4, c5, c6, c7, c8⟩ := box_nine HB1.out
          go_wp2_with fail
          refine (HO.out _ HT1.out).mono ?_
          rintro e w2 ⟨rfl, T2, k2⟩
          have HT2 := Lib.hid T2
          have HC2 := Lib.hid (HC1.out.keep k2 HN.out.1 HN.out.2.1)
          have HM2 := Lib.hid (HM1.out.keep k2 (fun i _ h e => h.1 e))
          have HK2 := Lib.hid (HK1.out.trans k2 (fun _ _ h => h))
          have HB2 := Lib.hid (HB1.out.keep k2 HQ.out)
          clear HO T2 k2 HT1 HC1 HM1 HK1 HB1 c0 c1 c2 c3 c4 c5 c6 c7 c8
          obtain ⟨c0, c1, c2, c3, c4, c5, c6, c7, c8⟩ := box_nine HB2.out
          generalize openE l ci = E1
          go_wp2_with fail
          refine (HE.out _ _ HT2.out (open_few HF.out)).mono ?_
          rintro e w3 ⟨rfl, _, k3⟩
          have HC3 := Lib.hid (HC2.out.keep k3 HN.out.1 HN.out.2.1)
          have HM3 := Lib.hid ((HM2.out.keep k3 (fun i _ h e => h.1 e)).mono (D' := fun i => i ≠ m') (fun i _ h => h.2))
          have HK3 := Lib.hid (HK2.out.trans k3 (fun _ _ h => h))
          clear HE k3 HT2 HC2 HM2 HK2 HB2 c0 c1 c2 c3 c4 c5 c6 c7 c8
          generalize keepE (openL l ci) ci cq = E2
          go_wp2
          exact bodyPost_ret (v := .tuple #[.pointer (some ⟨p', 0, none⟩), .slice A l.length c, .bool true]) (by simp [results, Try.results9, go_sem]) rfl ⟨_, _, _, _, rfl, ⟨HC3.out, HM3.out, HF.out⟩, HK3.out, .inr (by rw [HQE.out]; exact HN.out.2.2)⟩
        · have g4 : (ck == 4) = false := beq_eq_false_iff_ne.2 e4
          clear HO HL HE
          have HRW := Lib.hid (fun w' (T : Both w' p m (.slice A l.length c) l) => rows_any w' p m l T.tab T.few)
          have hfew := HT.out.row.few
          unfold maxLen at hfew
          go_wp2_with fail
          refine (len_any _ p m l HT.out.tab).mono ?_
          rintro e w1 ⟨rfl, rfl⟩
          have gl : ((l.length : Int) == (l.length : Int)) = true := beq_self_eq_true _
          go_wp2_with fail
          refine (HRW.out _ HT.out).mono ?_
          rintro e w2 ⟨v2, rfl, hm2, k2⟩
          have HT2 := Lib.hid (HT.out.stay k2)
          have HK2 := Lib.hid (HK.out.andNone k2)
          have HSM := Lib.hid (same_any w2 _ _ v2 _ l l hm2 HT2.out.row)
          rw [decide_eq_true rfl] at HSM
          clear HRW hm2 k2 HT HK HB c0 c1 c2 c3 c4 c5 c6 c7 c8
          go_wp2_with fail
          refine HSM.out.mono ?_
          rintro e w3 ⟨rfl, k3⟩
          have HT3 := Lib.hid (HT2.out.stay k3)
          have HK3 := Lib.hid (HK2.out.andNone k3)
          clear HSM k3 HT2 HK2
          go_wp2
          exact bodyPost_ret (v := .tuple #[.pointer (some ⟨p, 0, none⟩), .slice A l.length c, .bool true]) (by simp [results, Try.results9, go_sem]) rfl ⟨_, _, _, _, rfl, HT3.out, HK3.out, .inl rfl⟩
end Go.Proofs.Ytimnehgonlohcaa
