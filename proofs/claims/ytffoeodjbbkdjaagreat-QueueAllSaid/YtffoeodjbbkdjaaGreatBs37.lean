import Derived.Test.YtffoeodjbbkdjaaGreatBs01
import Derived.Test.YtffoeodjbbkdjaaGreatBs17
import Derived.Test.YtffoeodjbbkdjaaGreatBs22
import Derived.Test.YtffoeodjbbkdjaaGreatBs36
namespace Go.Proofs.YtffoeodjbbkdjaaGreat
open Go.RowKit
noncomputable def onceP (q : Qp) (c : Cq) : Qp × An :=
 if lookE q.ses c.ses c.seq ≠ 0 then (q, .err (lookE q.ses c.ses c.seq))
 else if lookB q.ses c.ses c.seq = true then (q, lookA q.ses c.ses c.seq)
 else ({ (doneP q c).1 with ses := keepL q.ses c.ses c.seq (doneP q c).2 }, (doneP q c).2)
set_option maxRecDepth 100000 in
set_option maxHeartbeats 8000000 in
set_option linter.unusedSimpArgs false in
theorem qonce_any (w : World) (D : Nat → Prop) (q : Qm) (h : QAt w D q) (hi : Inv q.plain) (c : Cm) (hc : CqOk c.plain) (g : Nat) (eg : CanCall g) (ef : ∀ W, Keep noneOf w W → Calls Tryz.prog g #[.pointer (some ⟨q.p, 0, none⟩), c.agg] W (Does q D (doneP q.plain c.plain) W)) :
  Calls Tryz.prog 25 #[.pointer (some ⟨q.p, 0, none⟩), c.agg, .func (.func g) #[] #[]] w (Does q D (onceP q.plain c.plain) w) := by
 have HB := Lib.hid (busy_begin h c)
 have HI := Lib.hid hi
 have HC := Lib.hid hc
 have HEF := Lib.hid ef
 have HEG := Lib.hid eg
 have hkb : Keep noneOf w ((w.alloc (.cells #[.int .i64 c.kind, .int .u64 c.ses, .int .u64 c.seq, c.gv, .int .u64 c.id, .int .u64 c.tok, .bool c.good, .int .u64 c.time] 37)).alloc (.cells #[.int .i64 0, .int .u64 0, .int .u64 0, .int .u64 0, .string ⟨#[]⟩, .string ⟨#[]⟩] 40)) := ((Keep.refl noneOf w).alloc _).alloc _
 have HKB := Lib.hid hkb
 generalize hR : onceP q.plain c.plain = R
 have HR := Lib.hid hR
 unfold Cm.agg at HEF ⊢
 clear h hi hc ef eg hkb hR
 go_enter Tryz.func25, Tryz.ntmps25
 go_upto_region 1 with fail
 generalize (w.alloc (.cells #[.int .i64 c.kind, .int .u64 c.ses, .int .u64 c.seq, c.gv, .int .u64 c.id, .int .u64 c.tok, .bool c.good, .int .u64 c.time] 37)).alloc (.cells #[.int .i64 0, .int .u64 0, .int .u64 0, .int .u64 0, .string ⟨#[]⟩, .string ⟨#[]⟩] 40) = w1 at *
 generalize w.heap.size + 1 = a at *
 generalize hcb : w.heap.size = cb at *
 have HCB := Lib.hid hcb
 clear hcb
 have MC : Hid (∀ w', Keep noneOf w1 w' → w'.cell? ⟨q.p, 3, none⟩ = some (.pointer (some ⟨q.tp, 0, none⟩)) ∧ w'.cell? ⟨cb, 1, none⟩ = some (.int .u64 c.ses) ∧ w'.cell? ⟨cb, 2, none⟩ = some (.int .u64 c.seq)) := Lib.hid fun w' k' =>
  ⟨(HB.out.1.stay k').at_.box.cell 3, (HB.out.2.stay k').cm.cell 1, (HB.out.2.stay k').cm.cell 2⟩
 obtain ⟨⟨y0, y1, y2, y3, y4, y5⟩, hLA⟩ : ∃ x, lookA q.ses c.ses c.seq = x := ⟨_, rfl⟩
 obtain ⟨LB, hLB⟩ : ∃ x, lookB q.ses c.ses c.seq = x := ⟨_, rfl⟩
 obtain ⟨LE, hLE⟩ : ∃ x, lookE q.ses c.ses c.seq = x := ⟨_, rfl⟩
 have HLK : Hid (∀ w', Keep noneOf w1 w' → Calls Tryz.prog 64 #[.pointer (some ⟨q.tp, 0, none⟩), .int .u64 c.ses, .int .u64 c.seq] w' fun e w'' => e = .returned (.tuple #[.agg #[.int .i64 y0, .int .u64 y1, .int .u64 y2, .int .u64 y3, .string y4, .string y5], .bool LB, .int .i64 LE]) ∧ Keep noneOf w' w'') := Lib.hid fun w' k' => by
  have := look_any w' q.tp q.m q.ses c.ses c.seq (HB.out.1.stay k').at_.tab HC.out.ses.1 HC.out.ses.2
  rw [hLA, hLB, hLE] at this
  exact this
 have HONE : Hid (R = if LE ≠ 0 then (q.plain, .err LE) else if LB = true then (q.plain, ⟨y0, y1, y2, y3, y4, y5⟩) else ({ (doneP q.plain c.plain).1 with ses := keepL q.ses c.ses c.seq (doneP q.plain c.plain).2 }, (doneP q.plain c.plain).2)) := Lib.hid (by
  rw [← HR.out, ← hLA, ← hLB, ← hLE]
  rfl)
 clear HR hLA hLB hLE
 go_cut [7, 8, 9] (fun p b e wx => ∃ ab, p = .pointer (some ⟨ab, 0, none⟩) ∧ b = .bool LB ∧ e = .int .i64 LE ∧ Keep noneOf w1 wx ∧ w1.heap.size ≤ ab ∧ Box wx ab 40 #[.int .i64 y0, .int .u64 y1, .int .u64 y2, .int .u64 y3, .string y4, .string y5])
 case first =>
  have KZ := (Keep.refl noneOf w1).drew
  refine wp_region_held_drew (S := fun w' => Keep noneOf w1 w') (by kernel_rfl) (KZ) (fun hHeld => ?_)
  refine' ztk 0 _ rfl (.inl ⟨by kernel_rfl, ?hy0⟩) ?_
  case hy0 => intro w' hSw; obtain ⟨_, _, _⟩ := MC.out w' hSw; go_simp; try with_reducible rfl
  simp only [Act.put, zga, zgb, zgc, zgd, zge, zgf]
  refine' ztk 1 _ rfl (.inl ⟨by kernel_rfl, ?hy1⟩) ?_
  case hy1 => intro w' hSw; obtain ⟨_, _, _⟩ := MC.out w' hSw; go_simp; try with_reducible rfl
  simp only [Act.put, zga, zgb, zgc, zgd, zge, zgf]
  refine' ztk 2 _ rfl (.inl ⟨by kernel_rfl, ?hy2⟩) ?_
  case hy2 => intro w' hSw; obtain ⟨_, _, _⟩ := MC.out w' hSw; go_simp; try with_reducible rfl
  simp only [Act.put, zga, zgb, zgc, zgd, zge, zgf]
  refine' ztk 3 _ rfl (.inl ⟨by kernel_rfl, ?hy3⟩) ?_
  case hy3 => intro w' hSw; obtain ⟨_, _, _⟩ := MC.out w' hSw; go_simp; try with_reducible rfl
  simp only [Act.put, zga, zgb, zgc, zgd, zge, zgf]
  refine' ztk 4 _ rfl (.inl ⟨by kernel_rfl, ?hy4⟩) ?_
  case hy4 => intro w' hSw; obtain ⟨_, _, _⟩ := MC.out w' hSw; go_simp; try with_reducible rfl
  simp only [Act.put, zga, zgb, zgc, zgd, zge, zgf]
  refine' ztk 5 _ rfl (.inl ⟨by kernel_rfl, ?hy5⟩) ?_
  case hy5 => intro w' hSw; obtain ⟨_, _, _⟩ := MC.out w' hSw; go_simp; try with_reducible rfl
  simp only [Act.put, zga, zgb, zgc, zgd, zge, zgf]
  refine' ztk 6 _ rfl (.inl ⟨by kernel_rfl, ?hy6⟩) ?_
  case hy6 => intro w' hSw; obtain ⟨_, _, _⟩ := MC.out w' hSw; go_simp; try with_reducible rfl
  simp only [Act.put, zga, zgb, zgc, zgd, zge, zgf]
  refine' ztk 7 _ rfl (.inl ⟨by kernel_rfl, ?hy7⟩) ?_
  case hy7 => intro w' hSw; obtain ⟨_, _, _⟩ := MC.out w' hSw; go_simp; try with_reducible rfl
  simp only [Act.put, zga, zgb, zgc, zgd, zge, zgf]
  generalize w1.drew = wz at *
  refine wpAnyH_ready (rs := [8, 13]) (by kernel_rfl) (by simp) (AllReadyH.cons rfl (fun K hK => ?_) (AllReadyH.cons rfl (fun K hK => ?_) AllReadyH.nil))
  ·
   skip
   go_simp
   go_at_call 64
   refine (HLK.out _ KZ).mono ?_
   rintro e wc1 ⟨rfl, k1⟩
   go_wp2_with fail
   have kk1 : Keep noneOf w1 wc1 := KZ.trans k1 (fun _ _ h => h)
   have hs1 := k1.size
   clear k1
   refine hK.out _ _ (kk1) (fun hHeld => ?_)
   clear hK K
   try simp only [Act.put, zga, zgb, zgc, zgd, zge, zgf]
   refine' ztk 9 _ rfl (.inl ⟨by kernel_rfl, ?hy9⟩) ?_
   case hy9 => intro w' hSw; obtain ⟨_, _, _⟩ := MC.out w' hSw; go_simp; try with_reducible rfl
   simp only [Act.put, zga, zgb, zgc, zgd, zge, zgf]
   refine' ztk 10 _ rfl (.inl ⟨by kernel_rfl, ?hy10⟩) ?_
   case hy10 => intro w' hSw; obtain ⟨_, _, _⟩ := MC.out w' hSw; go_simp; try with_reducible rfl
   simp only [Act.put, zga, zgb, zgc, zgd, zge, zgf]
   refine' ztk 11 _ rfl (.inl ⟨by kernel_rfl, ?hy11⟩) ?_
   case hy11 => intro w' hSw; obtain ⟨_, _, _⟩ := MC.out w' hSw; go_simp; try with_reducible rfl
   simp only [Act.put, zga, zgb, zgc, zgd, zge, zgf]
   refine' ztk 12 _ rfl (.inl ⟨by kernel_rfl, ?hy12⟩) ?_
   case hy12 => intro w' hSw; obtain ⟨_, _, _⟩ := MC.out w' hSw; go_simp; try with_reducible rfl
   simp only [Act.put, zga, zgb, zgc, zgd, zge, zgf]
   refine wpAnyH_ready (rs := [13]) (by kernel_rfl) (by simp) (AllReadyH.cons rfl (fun K hK => ?_) AllReadyH.nil)
   go_simp
   have kk2 : Keep noneOf w1 (wc1.alloc (.cells #[.int .i64 0, .int .u64 0, .int .u64 0, .int .u64 0, .string ⟨#[]⟩, .string ⟨#[]⟩] 40)) := kk1.alloc _
   have n0 : w1.heap.size ≤ wc1.heap.size := kk1.size
   have bb2_0 := Box.new wc1 40 #[.int .i64 0, .int .u64 0, .int .u64 0, .int .u64 0, .string ⟨#[]⟩, .string ⟨#[]⟩]
   refine hK.out _ _ (kk2) (fun hHeld => ?_)
   clear hK K
   try simp only [Act.put, zga, zgb, zgc, zgd, zge, zgf]
   generalize hq2 : wc1.heap.size = q2 at *
   generalize wc1.alloc (.cells #[.int .i64 0, .int .u64 0, .int .u64 0, .int .u64 0, .string ⟨#[]⟩, .string ⟨#[]⟩] 40) = wa2 at *
   have y3_0 := bb2_0.cell 0
   have z3_0 := bb2_0.free 0
   have y3_1 := bb2_0.cell 1
   have z3_1 := bb2_0.free 1
   have y3_2 := bb2_0.cell 2
   have z3_2 := bb2_0.free 2
   have y3_3 := bb2_0.cell 3
   have z3_3 := bb2_0.free 3
   have y3_4 := bb2_0.cell 4
   have z3_4 := bb2_0.free 4
   have y3_5 := bb2_0.cell 5
   have z3_5 := bb2_0.free 5
   refine wpAnyH_ready (rs := [14]) (by kernel_rfl) (by simp) (AllReadyH.cons rfl (fun K hK => ?_) AllReadyH.nil)
   go_simp
   have nn3 := n0
   have kk3 : Keep noneOf w1 ((((((wa2.setCell ⟨q2, 0, none⟩ (.int .i64 y0)).setCell ⟨q2, 1, none⟩ (.int .u64 y1)).setCell ⟨q2, 2, none⟩ (.int .u64 y2)).setCell ⟨q2, 3, none⟩ (.int .u64 y3)).setCell ⟨q2, 4, none⟩ (.string y4)).setCell ⟨q2, 5, none⟩ (.string y5)) := ((((((kk2.setCell (p := ⟨q2, 0, none⟩) (fun hh => absurd hh (by show ¬ q2 < w1.heap.size; omega)) (.int .i64 y0)).setCell (p := ⟨q2, 1, none⟩) (fun hh => absurd hh (by show ¬ q2 < w1.heap.size; omega)) (.int .u64 y1)).setCell (p := ⟨q2, 2, none⟩) (fun hh => absurd hh (by show ¬ q2 < w1.heap.size; omega)) (.int .u64 y2)).setCell (p := ⟨q2, 3, none⟩) (fun hh => absurd hh (by show ¬ q2 < w1.heap.size; omega)) (.int .u64 y3)).setCell (p := ⟨q2, 4, none⟩) (fun hh => absurd hh (by show ¬ q2 < w1.heap.size; omega)) (.string y4)).setCell (p := ⟨q2, 5, none⟩) (fun hh => absurd hh (by show ¬ q2 < w1.heap.size; omega)) (.string y5))
   have bb3_0 : Box ((((((wa2.setCell ⟨q2, 0, none⟩ (.int .i64 y0)).setCell ⟨q2, 1, none⟩ (.int .u64 y1)).setCell ⟨q2, 2, none⟩ (.int .u64 y2)).setCell ⟨q2, 3, none⟩ (.int .u64 y3)).setCell ⟨q2, 4, none⟩ (.string y4)).setCell ⟨q2, 5, none⟩ (.string y5)) q2 40 #[.int .i64 y0, .int .u64 y1, .int .u64 y2, .int .u64 y3, .string y4, .string y5] := ((((((bb2_0.put 0 (.int .i64 y0)).put 1 (.int .u64 y1)).put 2 (.int .u64 y2)).put 3 (.int .u64 y3)).put 4 (.string y4)).put 5 (.string y5))
   refine hK.out _ _ (kk3) (fun hHeld => ?_)
   clear hK K
   try simp only [Act.put, zga, zgb, zgc, zgd, zge, zgf]
   generalize ((((((wa2.setCell ⟨q2, 0, none⟩ (.int .i64 y0)).setCell ⟨q2, 1, none⟩ (.int .u64 y1)).setCell ⟨q2, 2, none⟩ (.int .u64 y2)).setCell ⟨q2, 3, none⟩ (.int .u64 y3)).setCell ⟨q2, 4, none⟩ (.string y4)).setCell ⟨q2, 5, none⟩ (.string y5)) = ws3 at *
   refine' ztk 15 _ rfl (.inl ⟨by kernel_rfl, ?hy15⟩) ?_
   case hy15 => intro w' hSw; obtain ⟨_, _, _⟩ := MC.out w' hSw; go_simp; try with_reducible rfl
   simp only [Act.put, zga, zgb, zgc, zgd, zge, zgf]
   refine' ztk 16 _ rfl (.inl ⟨by kernel_rfl, ?hy16⟩) ?_
   case hy16 => intro w' hSw; obtain ⟨_, _, _⟩ := MC.out w' hSw; go_simp; try with_reducible rfl
   simp only [Act.put, zga, zgb, zgc, zgd, zge, zgf]
   refine wpAnyH_done (by kernel_rfl) ?_ _
   have b0 := bb3_0
   have KF := kk3
   go_wp2_with fail
   go_meet
   exact ⟨_, rfl, rfl, rfl, KF, n0, b0⟩
  ·
   skip
   go_simp
   have kk4 : Keep noneOf w1 (wz.alloc (.cells #[.int .i64 0, .int .u64 0, .int .u64 0, .int .u64 0, .string ⟨#[]⟩, .string ⟨#[]⟩] 40)) := KZ.alloc _
   have n0 : w1.heap.size ≤ wz.heap.size := KZ.size
   have bb4_0 := Box.new wz 40 #[.int .i64 0, .int .u64 0, .int .u64 0, .int .u64 0, .string ⟨#[]⟩, .string ⟨#[]⟩]
   refine hK.out _ _ (kk4) (fun hHeld => ?_)
   clear hK K
   try simp only [Act.put, zga, zgb, zgc, zgd, zge, zgf]
   generalize hq4 : wz.heap.size = q4 at *
   generalize wz.alloc (.cells #[.int .i64 0, .int .u64 0, .int .u64 0, .int .u64 0, .string ⟨#[]⟩, .string ⟨#[]⟩] 40) = wa4 at *
   refine wpAnyH_ready (rs := [8]) (by kernel_rfl) (by simp) (AllReadyH.cons rfl (fun K hK => ?_) AllReadyH.nil)
   have lb5_0 := bb4_0.lt
   go_simp
   go_at_call 64
   refine (HLK.out _ kk4).mono ?_
   rintro e wc5 ⟨rfl, k5⟩
   go_wp2_with fail
   have kk5 : Keep noneOf w1 wc5 := kk4.trans k5 (fun _ _ h => h)
   have bb5_0 := bb4_0.keep k5 id
   have hs5 := k5.size
   clear k5
   refine hK.out _ _ (kk5) (fun hHeld => ?_)
   clear hK K
   try simp only [Act.put, zga, zgb, zgc, zgd, zge, zgf]
   refine' ztk 9 _ rfl (.inl ⟨by kernel_rfl, ?hy9⟩) ?_
   case hy9 => intro w' hSw; obtain ⟨_, _, _⟩ := MC.out w' hSw; go_simp; try with_reducible rfl
   simp only [Act.put, zga, zgb, zgc, zgd, zge, zgf]
   refine' ztk 10 _ rfl (.inl ⟨by kernel_rfl, ?hy10⟩) ?_
   case hy10 => intro w' hSw; obtain ⟨_, _, _⟩ := MC.out w' hSw; go_simp; try with_reducible rfl
   simp only [Act.put, zga, zgb, zgc, zgd, zge, zgf]
   refine' ztk 11 _ rfl (.inl ⟨by kernel_rfl, ?hy11⟩) ?_
   case hy11 => intro w' hSw; obtain ⟨_, _, _⟩ := MC.out w' hSw; go_simp; try with_reducible rfl
   simp only [Act.put, zga, zgb, zgc, zgd, zge, zgf]
   refine' ztk 12 _ rfl (.inl ⟨by kernel_rfl, ?hy12⟩) ?_
   case hy12 => intro w' hSw; obtain ⟨_, _, _⟩ := MC.out w' hSw; go_simp; try with_reducible rfl
   simp only [Act.put, zga, zgb, zgc, zgd, zge, zgf]
   have y6_0 := bb5_0.cell 0
   have z6_0 := bb5_0.free 0
   have y6_1 := bb5_0.cell 1
   have z6_1 := bb5_0.free 1
   have y6_2 := bb5_0.cell 2
   have z6_2 := bb5_0.free 2
   have y6_3 := bb5_0.cell 3
   have z6_3 := bb5_0.free 3
   have y6_4 := bb5_0.cell 4
   have z6_4 := bb5_0.free 4
   have y6_5 := bb5_0.cell 5
   have z6_5 := bb5_0.free 5
   refine wpAnyH_ready (rs := [14]) (by kernel_rfl) (by simp) (AllReadyH.cons rfl (fun K hK => ?_) AllReadyH.nil)
   go_simp
   have nn6 := n0
   have kk6 : Keep noneOf w1 ((((((wc5.setCell ⟨q4, 0, none⟩ (.int .i64 y0)).setCell ⟨q4, 1, none⟩ (.int .u64 y1)).setCell ⟨q4, 2, none⟩ (.int .u64 y2)).setCell ⟨q4, 3, none⟩ (.int .u64 y3)).setCell ⟨q4, 4, none⟩ (.string y4)).setCell ⟨q4, 5, none⟩ (.string y5)) := ((((((kk5.setCell (p := ⟨q4, 0, none⟩) (fun hh => absurd hh (by show ¬ q4 < w1.heap.size; omega)) (.int .i64 y0)).setCell (p := ⟨q4, 1, none⟩) (fun hh => absurd hh (by show ¬ q4 < w1.heap.size; omega)) (.int .u64 y1)).setCell (p := ⟨q4, 2, none⟩) (fun hh => absurd hh (by show ¬ q4 < w1.heap.size; omega)) (.int .u64 y2)).setCell (p := ⟨q4, 3, none⟩) (fun hh => absurd hh (by show ¬ q4 < w1.heap.size; omega)) (.int .u64 y3)).setCell (p := ⟨q4, 4, none⟩) (fun hh => absurd hh (by show ¬ q4 < w1.heap.size; omega)) (.string y4)).setCell (p := ⟨q4, 5, none⟩) (fun hh => absurd hh (by show ¬ q4 < w1.heap.size; omega)) (.string y5))
   have bb6_0 : Box ((((((wc5.setCell ⟨q4, 0, none⟩ (.int .i64 y0)).setCell ⟨q4, 1, none⟩ (.int .u64 y1)).setCell ⟨q4, 2, none⟩ (.int .u64 y2)).setCell ⟨q4, 3, none⟩ (.int .u64 y3)).setCell ⟨q4, 4, none⟩ (.string y4)).setCell ⟨q4, 5, none⟩ (.string y5)) q4 40 #[.int .i64 y0, .int .u64 y1, .int .u64 y2, .int .u64 y3, .string y4, .string y5] := ((((((bb5_0.put 0 (.int .i64 y0)).put 1 (.int .u64 y1)).put 2 (.int .u64 y2)).put 3 (.int .u64 y3)).put 4 (.string y4)).put 5 (.string y5))
   refine hK.out _ _ (kk6) (fun hHeld => ?_)
   clear hK K
   try simp only [Act.put, zga, zgb, zgc, zgd, zge, zgf]
   generalize ((((((wc5.setCell ⟨q4, 0, none⟩ (.int .i64 y0)).setCell ⟨q4, 1, none⟩ (.int .u64 y1)).setCell ⟨q4, 2, none⟩ (.int .u64 y2)).setCell ⟨q4, 3, none⟩ (.int .u64 y3)).setCell ⟨q4, 4, none⟩ (.string y4)).setCell ⟨q4, 5, none⟩ (.string y5)) = ws6 at *
   refine' ztk 15 _ rfl (.inl ⟨by kernel_rfl, ?hy15⟩) ?_
   case hy15 => intro w' hSw; obtain ⟨_, _, _⟩ := MC.out w' hSw; go_simp; try with_reducible rfl
   simp only [Act.put, zga, zgb, zgc, zgd, zge, zgf]
   refine' ztk 16 _ rfl (.inl ⟨by kernel_rfl, ?hy16⟩) ?_
   case hy16 => intro w' hSw; obtain ⟨_, _, _⟩ := MC.out w' hSw; go_simp; try with_reducible rfl
   simp only [Act.put, zga, zgb, zgc, zgd, zge, zgf]
   refine wpAnyH_done (by kernel_rfl) ?_ _
   have b0 := bb6_0
   have KF := kk6
   go_wp2_with fail
   go_meet
   exact ⟨_, rfl, rfl, rfl, KF, n0, b0⟩
 case rest =>
  obtain ⟨ab, rfl, rfl, rfl, kc, hab, hbx⟩ := hcut
  have HBC := Lib.hid (HB.out.1.stay kc)
  have HMC := Lib.hid (HB.out.2.stay kc)
  have HAB := Lib.hid hbx
  have HKC := Lib.hid (HKB.out.trans kc (fun _ _ h => h))
  have HNB : Hid (ab ≠ a ∧ ab ≠ cb ∧ ¬ D ab ∧ w.heap.size ≤ ab) := Lib.hid (by
   have h1 := HB.out.1.an.lt
   have h2 := HB.out.2.cm.lt
   have h3 := HCB.out
   exact ⟨by omega, by omega, fun e => by have := HB.out.1.at_.lt _ e; omega, by omega⟩)
  clear kc hab hbx MC HLK HB HKB
  by_cases hE : LE = 0
  ·
   subst hE
   cases LB with
   | true =>
    have hr : R = (q.plain, ⟨y0, y1, y2, y3, y4, y5⟩) := by
     rw [HONE.out, if_neg (by decide), if_pos rfl]
    subst hr
    obtain ⟨l0, l1, l2, l3, l4, l5⟩ := HAB.out.six
    obtain ⟨c0, c1, c2, c3, c4, c5⟩ := HBC.out.an.six
    obtain ⟨f0, f1, f2, f3, f4, f5⟩ := HBC.out.an.free6
    clear HONE
    go_wp2
    have hbx := (HBC.out.box ⟨y0, y1, y2, y3, y4, y5⟩)
    have hd := (HBC.out.does ⟨y0, y1, y2, y3, y4, y5⟩)
    dsimp only [sixPut] at hbx hd
    generalize ((((((wc.setCell ⟨a, 0, none⟩ (.int .i64 (y0))).setCell ⟨a, 1, none⟩ (.int .u64 (y1))).setCell ⟨a, 2, none⟩ (.int .u64 (y2))).setCell ⟨a, 3, none⟩ (.int .u64 (y3))).setCell ⟨a, 4, none⟩ (.string y4)).setCell ⟨a, 5, none⟩ (.string y5)) = wf at hbx hd ⊢
    obtain ⟨r0, r1, r2, r3, r4, r5⟩ := hbx.six
    exact bodyPost_ret (v := An.agg ⟨y0, y1, y2, y3, y4, y5⟩) (by simp [results, Tryz.results25, go_sem, An.agg, r0, r1, r2, r3, r4, r5]) rfl hd
   | false =>
    have HRQ : Hid (R = ({ (doneP q.plain c.plain).1 with ses := keepL q.ses c.ses c.seq (doneP q.plain c.plain).2 }, (doneP q.plain c.plain).2)) := Lib.hid (by
     rw [HONE.out, if_neg (by decide), if_neg (by decide)])
    have HEFC := Lib.hid (HEF.out wc HKC.out)
    have hds := (done_same q.plain c.plain).2.1
    have hdq : ∀ x, (doneP q.plain c.plain) = x → x.1.ses = q.ses := fun x hx => by rw [← hx]; exact hds
    generalize hdn : doneP q.plain c.plain = dn at *
    have hses : dn.1.ses = q.ses := hdq dn rfl
    have HSES := Lib.hid hses
    obtain ⟨dq, ⟨x0, x1, x2, x3, x4, x5⟩⟩ := dn
    have eg := HEG.out
    unfold CanCall at eg
    have M0 := HMC.out.cm
    have m0 := M0.cell 0
    have m1 := M0.cell 1
    have m2 := M0.cell 2
    have m3 := M0.cell 3
    have m4 := M0.cell 4
    have m5 := M0.cell 5
    have m6 := M0.cell 6
    have m7 := M0.cell 7
    obtain ⟨l0, l1, l2, l3, l4, l5⟩ := HAB.out.six
    clear HONE hds hdq hdn hses M0
    go_wp2_with fail
    refine HEFC.out.mono ?_
    rintro e w5 ⟨s, rfl, hqs, hp, hpl, hk⟩
    have HB5 := Lib.hid (HBC.out.turn hk (fun _ h => h) hqs hp (fun _ h => .inl h) (fun _ h => h.imp_right (fun e => e.1)))
    have HM5 : Hid (CmAt w w5 (grown wc w5 D) a cb c) := Lib.hid (HMC.out.turn hk (fun _ h => h) (fun _ h => h.imp_right (fun e => e.1)))
    have HA5 := Lib.hid (HAB.out.keep hk HNB.out.2.2.1)
    have hne : ¬ grown wc w5 D ab := fun e => e.elim HNB.out.2.2.1 (fun e => by have := HAB.out.lt; omega)
    have HNE := Lib.hid hne
    have hss : s.ses = q.ses := by
     have h1 : s.plain.ses = s.ses := rfl
     rw [← h1, hpl]
     exact HSES.out
    have HSS := Lib.hid hss
    have HPL := Lib.hid hpl
    have HPP := Lib.hid hp
    obtain ⟨l0, l1, l2, l3, l4, l5⟩ := HA5.out.six
    obtain ⟨z0, z1, z2, z3, z4, z5⟩ := HA5.out.free6
    have HA6 := Lib.hid (HA5.out.put6 (.int .i64 x0) (.int .u64 x1) (.int .u64 x2) (.int .u64 x3) (.string x4) (.string x5))
    have k6 := (Keep.refl (fun b => b = ab) w5).put6 (b := ab) (fun _ => rfl) (.int .i64 x0) (.int .u64 x1) (.int .u64 x2) (.int .u64 x3) (.string x4) (.string x5)
    have HB6 := Lib.hid (HB5.out.keepNew k6 (fun j e => by subst e; exact ⟨HNB.out.2.2.2, HNE.out, HNB.out.1⟩))
    have HM6 := Lib.hid (HM5.out.keepNew k6 (fun j e => by subst e; exact HNB.out.2.1))
    clear hqs hp hpl hk hne hss k6 HB5 HM5 HA5 HBC HMC HAB HEFC m0 m1 m2 m3 m4 m5 m6 m7 eg
    unfold An.agg
    dsimp only
    go_upto_region 7 with fail
    unfold sixPut at HA6 HB6 HM6
    generalize (((((w5.setCell ⟨ab, 0, none⟩ (.int .i64 x0)).setCell ⟨ab, 1, none⟩ (.int .u64 x1)).setCell ⟨ab, 2, none⟩ (.int .u64 x2)).setCell ⟨ab, 3, none⟩ (.int .u64 x3)).setCell ⟨ab, 4, none⟩ (.string x4)).setCell ⟨ab, 5, none⟩ (.string x5) = w6 at *
    clear l0 l1 l2 l3 l4 l5 z0 z1 z2 z3 z4 z5
    have hmE : grown wc w5 D s.m := HB6.out.at_.inD _ (.inr (.inr (.inl rfl)))
    have hpm := HB6.out.at_.p_ne_m
    have hcbm : cb ≠ s.m := fun e => HM6.out.nb.2.1 (e ▸ hmE)
    have habm : ab ≠ s.m := fun e => HNE.out (e ▸ hmE)
    have MC : Hid (∀ w', Keep (fun b => b = s.m) w6 w' → w'.cell? ⟨q.p, 3, none⟩ = some (.pointer (some ⟨s.tp, 0, none⟩)) ∧ w'.cell? ⟨cb, 1, none⟩ = some (.int .u64 c.ses) ∧ w'.cell? ⟨cb, 2, none⟩ = some (.int .u64 c.seq) ∧ w'.cell? ⟨ab, 0, none⟩ = some (.int .i64 x0) ∧ w'.cell? ⟨ab, 1, none⟩ = some (.int .u64 x1) ∧ w'.cell? ⟨ab, 2, none⟩ = some (.int .u64 x2) ∧ w'.cell? ⟨ab, 3, none⟩ = some (.int .u64 x3) ∧ w'.cell? ⟨ab, 4, none⟩ = some (.string x4) ∧ w'.cell? ⟨ab, 5, none⟩ = some (.string x5)) := Lib.hid fun w' k' =>
     ⟨by rw [← HPP.out]; exact (HB6.out.at_.box.keep k' hpm).cell 3, (HM6.out.cm.keep k' hcbm).cell 1, (HM6.out.cm.keep k' hcbm).cell 2, (HA6.out.keep k' habm).six⟩
    have KP : Hid (∀ w', Keep noneOf w6 w' → Calls Tryz.prog 65 #[.pointer (some ⟨s.tp, 0, none⟩), .int .u64 c.ses, .int .u64 c.seq, .agg #[.int .i64 x0, .int .u64 x1, .int .u64 x2, .int .u64 x3, .string x4, .string x5]] w' fun e w'' => e = .returned (.int .i64 (keepE q.ses c.ses c.seq)) ∧ TabAt w'' s.tp s.m (keepL q.ses c.ses c.seq ⟨x0, x1, x2, x3, x4, x5⟩) ∧ Keep (fun i => i = s.m) w' w'') := Lib.hid fun w' k' => by
     have ht := (HB6.out.stay k').at_.tab
     rw [HSS.out] at ht
     exact keep_any w' s.tp s.m q.ses c.ses c.seq ⟨x0, x1, x2, x3, x4, x5⟩ ht HC.out.ses.1 HC.out.ses.2 HI.out.sesFew
    have K0 := Keep.refl noneOf w6
    have KS := (Keep.refl (fun b => b = s.m) w6).drew
    generalize keepE q.ses c.ses c.seq = KE at *
    clear hmE hpm hcbm habm
    refine wp_region_held_drew (S := fun w' => Keep (fun b => b = s.m) w6 w') (by kernel_rfl) (KS) (fun hHeld => ?_)
    refine' ztk 0 _ rfl (.inl ⟨by kernel_rfl, ?hy0⟩) ?_
    case hy0 => intro w' hSw; obtain ⟨_, _, _, _, _, _, _, _, _⟩ := MC.out w' hSw; go_simp; try with_reducible rfl
    simp only [Act.put, zga, zgb, zgc, zgd, zge, zgf]
    refine' ztk 1 _ rfl (.inl ⟨by kernel_rfl, ?hy1⟩) ?_
    case hy1 => intro w' hSw; obtain ⟨_, _, _, _, _, _, _, _, _⟩ := MC.out w' hSw; go_simp; try with_reducible rfl
    simp only [Act.put, zga, zgb, zgc, zgd, zge, zgf]
    refine' ztk 2 _ rfl (.inl ⟨by kernel_rfl, ?hy2⟩) ?_
    case hy2 => intro w' hSw; obtain ⟨_, _, _, _, _, _, _, _, _⟩ := MC.out w' hSw; go_simp; try with_reducible rfl
    simp only [Act.put, zga, zgb, zgc, zgd, zge, zgf]
    refine' ztk 3 _ rfl (.inl ⟨by kernel_rfl, ?hy3⟩) ?_
    case hy3 => intro w' hSw; obtain ⟨_, _, _, _, _, _, _, _, _⟩ := MC.out w' hSw; go_simp; try with_reducible rfl
    simp only [Act.put, zga, zgb, zgc, zgd, zge, zgf]
    refine' ztk 4 _ rfl (.inl ⟨by kernel_rfl, ?hy4⟩) ?_
    case hy4 => intro w' hSw; obtain ⟨_, _, _, _, _, _, _, _, _⟩ := MC.out w' hSw; go_simp; try with_reducible rfl
    simp only [Act.put, zga, zgb, zgc, zgd, zge, zgf]
    refine' ztk 5 _ rfl (.inl ⟨by kernel_rfl, ?hy5⟩) ?_
    case hy5 => intro w' hSw; obtain ⟨_, _, _, _, _, _, _, _, _⟩ := MC.out w' hSw; go_simp; try with_reducible rfl
    simp only [Act.put, zga, zgb, zgc, zgd, zge, zgf]
    refine' ztk 6 _ rfl (.inl ⟨by kernel_rfl, ?hy6⟩) ?_
    case hy6 => intro w' hSw; obtain ⟨_, _, _, _, _, _, _, _, _⟩ := MC.out w' hSw; go_simp; try with_reducible rfl
    simp only [Act.put, zga, zgb, zgc, zgd, zge, zgf]
    refine' ztk 7 _ rfl (.inl ⟨by kernel_rfl, ?hy7⟩) ?_
    case hy7 => intro w' hSw; obtain ⟨_, _, _, _, _, _, _, _, _⟩ := MC.out w' hSw; go_simp; try with_reducible rfl
    simp only [Act.put, zga, zgb, zgc, zgd, zge, zgf]
    refine' ztk 8 _ rfl (.inl ⟨by kernel_rfl, ?hy8⟩) ?_
    case hy8 => intro w' hSw; obtain ⟨_, _, _, _, _, _, _, _, _⟩ := MC.out w' hSw; go_simp; try with_reducible rfl
    simp only [Act.put, zga, zgb, zgc, zgd, zge, zgf]
    refine wpAnyH_ready (rs := [9]) (by kernel_rfl) (by simp) (AllReadyH.cons rfl (fun K hK => ?_) AllReadyH.nil)
    go_simp
    go_at_call 65
    refine (KP.out _ K0.drew).mono ?_
    rintro e w7 ⟨rfl, ht7, k7⟩
    have k67 : Keep (fun b => b = s.m) w6 w7 := (Keep.wide K0.drew).trans k7 (fun _ _ e => e)
    have HB7 : Hid (Busy w w7 D (grown wc w5 D) q { s with ses := keepL q.ses c.ses c.seq ⟨x0, x1, x2, x3, x4, x5⟩ } a) := Lib.hid (by
     exact HB6.out.turn k67 (fun j e => e ▸ HB6.out.at_.inD _ (.inr (.inr (.inl rfl)))) (HB6.out.at_.sessions ht7 k67) rfl (fun _ h => h) (fun _ h => .inl h))
    obtain ⟨_, _, _, l0, l1, l2, l3, l4, l5⟩ := MC.out w7 k67
    go_wp2_with fail
    refine hK.out _ _ (k67) (fun hHeld => ?_)
    clear hK K
    try simp only [Act.put, zga, zgb, zgc, zgd, zge, zgf]
    refine wpAnyH_done (by kernel_rfl) ?_ _
    clear KP K0 KS MC ht7 k7 k67 HB6 HM6 HA6
    obtain ⟨c0, c1, c2, c3, c4, c5⟩ := HB7.out.an.six
    obtain ⟨f0, f1, f2, f3, f4, f5⟩ := HB7.out.an.free6
    go_wp2
    have hbx := (HB7.out.box ⟨x0, x1, x2, x3, x4, x5⟩)
    have hd := (HB7.out.does ⟨x0, x1, x2, x3, x4, x5⟩)
    dsimp only [sixPut] at hbx hd
    generalize ((((((w7.setCell ⟨a, 0, none⟩ (.int .i64 (x0))).setCell ⟨a, 1, none⟩ (.int .u64 (x1))).setCell ⟨a, 2, none⟩ (.int .u64 (x2))).setCell ⟨a, 3, none⟩ (.int .u64 (x3))).setCell ⟨a, 4, none⟩ (.string x4)).setCell ⟨a, 5, none⟩ (.string x5)) = wf at hbx hd ⊢
    obtain ⟨r0, r1, r2, r3, r4, r5⟩ := hbx.six
    have hpl : ({ s with ses := keepL q.ses c.ses c.seq ⟨x0, x1, x2, x3, x4, x5⟩ } : Qm).plain = { dq with ses := keepL q.ses c.ses c.seq ⟨x0, x1, x2, x3, x4, x5⟩ } := by
     rw [← HPL.out]
     rfl
    rw [hpl] at hd
    rw [HRQ.out]
    exact bodyPost_ret (v := An.agg ⟨x0, x1, x2, x3, x4, x5⟩) (by simp [results, Tryz.results25, go_sem, An.agg, r0, r1, r2, r3, r4, r5]) rfl hd
  ·
   have hEn : (LE == 0) = false := beq_eq_false_iff_ne.2 hE
   have hr : R = (q.plain, An.err LE) := by rw [HONE.out, if_pos hE]
   subst hr
   clear HONE hE
   have RF := Lib.hid (refusal_lit wc LE)
   go_wp2_with fail
   refine RF.out.mono ?_
   rintro e w8 ⟨rfl, k8⟩
   have HB8 := Lib.hid (HBC.out.stay k8)
   obtain ⟨c0, c1, c2, c3, c4, c5⟩ := HB8.out.an.six
   obtain ⟨f0, f1, f2, f3, f4, f5⟩ := HB8.out.an.free6
   clear RF k8
   go_wp2
   have hbx := (HB8.out.box ⟨LE, 0, 0, 0, ⟨#[]⟩, ⟨#[]⟩⟩)
   have hd := (HB8.out.does ⟨LE, 0, 0, 0, ⟨#[]⟩, ⟨#[]⟩⟩)
   dsimp only [sixPut] at hbx hd
   generalize ((((((w8.setCell ⟨a, 0, none⟩ (.int .i64 (LE))).setCell ⟨a, 1, none⟩ (.int .u64 (0))).setCell ⟨a, 2, none⟩ (.int .u64 (0))).setCell ⟨a, 3, none⟩ (.int .u64 (0))).setCell ⟨a, 4, none⟩ (.string ⟨#[]⟩)).setCell ⟨a, 5, none⟩ (.string ⟨#[]⟩)) = wf at hbx hd ⊢
   obtain ⟨r0, r1, r2, r3, r4, r5⟩ := hbx.six
   exact bodyPost_ret (v := An.agg ⟨LE, 0, 0, 0, ⟨#[]⟩, ⟨#[]⟩⟩) (by simp [results, Tryz.results25, go_sem, An.agg, r0, r1, r2, r3, r4, r5]) rfl hd
end Go.Proofs.YtffoeodjbbkdjaaGreat
