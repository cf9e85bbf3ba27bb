import Derived.Test.YtffoeodjbbkdjaaGreatBs01
import Derived.Test.YtffoeodjbbkdjaaGreatBs30
import Derived.Test.YtffoeodjbbkdjaaGreatBs34
import Derived.Test.YtffoeodjbbkdjaaGreatBs35
namespace Go.Proofs.YtffoeodjbbkdjaaGreat
open Go.RowKit
theorem can_call_built : CanCall 101 := enters_of Tryz.func101 (by kernel_rfl) rfl
theorem tells_built {w : World} {D : Nat → Prop} {q : Qm} (h : QAt w D q) : TellsR 101 (.pointer (some ⟨q.p, 0, none⟩)) (fun k => q.built.contains k) w := fun W x k _ => isBuilt_any W D q (h.stay k) x
section
variable {α : Type} {ec : α → List Value} {t e : TypeId} {z : Value} {k B : Nat}
theorem step_append_many (E : Elems t e z k B) (hk : ∀ x, (ec x).length = k) (hone : ∀ x, ∀ u ∈ ec x, u.oneCell' = true) (hk0 : 0 < k) {ops : Array Oper} {o : Oper} {a : Act} {w : World} {K : Act → World → Prop} {Q : Exit → Act → World → Prop} {E0 : Prop} (hg : o.guard = none) (s x : Operand)
  (ho : o.op = Op.call { callee := Callee.builtin Builtin.append, args := #[s, x], argTypes := #[t, t] }) (base : Nat) (v u : Value) (l m : List α) (D : Nat → Prop) (hv : a.eval s = v) (hu : a.eval x = u) (hown : w.ownsRow base e k v l.length (l.flatMap ec)) (hs : Many ec k w D u m) (h63 : l.length + m.length ≤ maxLen) (hl : (l.length + m.length) * B ≤ 140737488355328) (hbase : base ≤ w.heap.size)
  (h : ∀ v' w', w'.ownsRow base e k v' (l ++ m).length ((l ++ m).flatMap ec) → w.grownBy w' v.ownBlock → (v'.ownBlock = v.ownBlock ∨ v'.ownBlock = some w.heap.size) → K (a.put o.dst v') w') : if Region.wanted o (yielded ops a.tmps) = true then Oper.wp Tryz.prog o a w K Q else E0 := by
 have hw : Region.wanted o (yielded ops a.tmps) = true := by simp [Region.wanted, hg]
 rw [if_pos hw]
 obtain ⟨v', w', hr, h3, h4, h5⟩ := E.append hk hone hk0 w base o.type v u l m D hown hs h63 hl hbase
 unfold Oper.wp
 simp [execOp, ho, resolve, invoke, builtin, hv, hu, hr, Result.andThen]
 exact h _ _ h3 h4 h5
end
set_option maxRecDepth 100000 in
set_option maxHeartbeats 8000000 in
set_option linter.unusedSimpArgs false in
theorem qsubmit_any (w : World) (D C : Nat → Prop) (q : Qm) (h : QAt w D q) (hi : Inv q.plain) (c : Cm) (hc : c.lies w C) :
  Calls Tryz.prog 58 #[.pointer (some ⟨q.p, 0, none⟩), c.agg] w (Does q D (submitP q.plain c.plain) w) := by
 have HB := Lib.hid (busy_begin h c)
 have HI := Lib.hid hi
 have HCL := Lib.hid hc
 obtain ⟨A, cv, hgv, _⟩ := hc.tgs.1
 unfold Cm.agg
 generalize hR : submitP q.plain c.plain = R
 have HR := Lib.hid hR
 have HGVC := Lib.hid hgv
 have hkb : Keep noneOf w ((w.alloc (.cells #[.int .i64 c.kind, .int .u64 c.ses, .int .u64 c.seq, c.gv, .int .u64 c.id, .int .u64 c.tok, .bool c.good, .int .u64 c.time] 37)).alloc (.cells #[.int .i64 0, .int .u64 0, .int .u64 0, .int .u64 0, .string ⟨#[]⟩, .string ⟨#[]⟩] 40)) := ((Keep.refl noneOf w).alloc _).alloc _
 have HTG := Lib.hid (hc.tgs.keep hkb (fun _ _ _ => id))
 clear h hi hR hc hkb
 rw [hgv]
 rw [hgv] at HB HTG
 clear hgv
 go_enter Tryz.func58, Tryz.ntmps58
 go_upto_region 1 with fail
 generalize (w.alloc (.cells #[.int .i64 c.kind, .int .u64 c.ses, .int .u64 c.seq, .slice A c.ts.length cv, .int .u64 c.id, .int .u64 c.tok, .bool c.good, .int .u64 c.time] 37)).alloc (.cells #[.int .i64 0, .int .u64 0, .int .u64 0, .int .u64 0, .string ⟨#[]⟩, .string ⟨#[]⟩] 40) = w1 at *
 generalize w.heap.size + 1 = a at *
 generalize hcb : w.heap.size = cb at *
 have HCB := Lib.hid hcb
 clear hcb
 have m3 : w1.cell? ⟨cb, 3, none⟩ = some (.slice A c.ts.length cv) := by
  have := HB.out.2.cm.cell 3
  rw [← HGVC.out]
  exact this
 have CK := Lib.hid (check_any w1 _ _ c.ts HTG.out)
 go_wp2_with fail
 refine CK.out.mono ?_
 rintro e w2 ⟨rfl, k2⟩
 have HB2 := Lib.hid (HB.out.1.stay k2)
 have HM2 := Lib.hid (HB.out.2.stay k2)
 have HTG2 := Lib.hid (HTG.out.keep k2 (fun _ _ _ => id))
 clear CK k2 m3 HB HTG
 by_cases hE : grCheck (c.ts.map Tg.plain) = 0
 ·
  have HCK := Lib.hid hE
  rw [hE]
  have hg16n := HB2.out.at_.few
  unfold maxLen at hg16n
  obtain ⟨A0, cap, hgv⟩ := HB2.out.at_.shape
  have HGV := Lib.hid hgv
  have p4 : w2.cell? ⟨q.p, 4, none⟩ = some (.slice A0 q.gs.length cap) := by rw [← hgv]; exact HB2.out.at_.box.cell 4
  have p1 : w2.cell? ⟨q.p, 1, none⟩ = some (.int .u64 q.ng) := HB2.out.at_.box.cell 1
  have hsubm : Hid (submitP q.plain c.plain = if 16 ≤ q.gs.length ∨ q.ng = top then (q.plain, .err 120) else ({ q.plain with gs := q.plain.gs ++ [⟨q.ng, c.ts.map Tg.plain, grStart (c.ts.map Tg.plain) (grFresh (c.ts.map Tg.plain) (fun k => q.built.contains k))⟩], ng := q.ng + 1 }, ⟨0, q.ng, 0, 0, ⟨#[]⟩, ⟨#[]⟩⟩)) := Lib.hid (by
   unfold submitP
   rw [if_neg (by show ¬ grCheck (c.ts.map Tg.plain) ≠ 0; rw [hE]; decide)]
   have : q.plain.gs.length = q.gs.length := by show (q.gs.map Gm.plain).length = _; rw [List.length_map]
   rw [this]
   rfl)
  clear hgv hE
  by_cases h16 : 16 ≤ q.gs.length
  ·
   have g16 : (16 : Int) ≤ (q.gs.length : Int) := by omega
   have hr : R = (q.plain, An.err 120) := by rw [← HR.out, hsubm.out, if_pos (.inl h16)]
   subst hr
   clear HR h16 hsubm
   have RF := Lib.hid (refusal_lit w2 120)
   go_wp2_with fail
   refine RF.out.mono ?_
   rintro e w8 ⟨rfl, k8⟩
   have HB8 := Lib.hid (HB2.out.stay k8)
   obtain ⟨c0, c1, c2, c3, c4, c5⟩ := HB8.out.an.six
   obtain ⟨f0, f1, f2, f3, f4, f5⟩ := HB8.out.an.free6
   clear RF k8
   go_wp2
   have hbx := (HB8.out.box ⟨120, 0, 0, 0, ⟨#[]⟩, ⟨#[]⟩⟩)
   have hd := (HB8.out.does ⟨120, 0, 0, 0, ⟨#[]⟩, ⟨#[]⟩⟩)
   dsimp only [sixPut] at hbx hd
   generalize ((((((w8.setCell ⟨a, 0, none⟩ (.int .i64 (120))).setCell ⟨a, 1, none⟩ (.int .u64 (0))).setCell ⟨a, 2, none⟩ (.int .u64 (0))).setCell ⟨a, 3, none⟩ (.int .u64 (0))).setCell ⟨a, 4, none⟩ (.string ⟨#[]⟩)).setCell ⟨a, 5, none⟩ (.string ⟨#[]⟩)) = wf at hbx hd ⊢
   obtain ⟨r0, r1, r2, r3, r4, r5⟩ := hbx.six
   exact bodyPost_ret (v := An.agg ⟨120, 0, 0, 0, ⟨#[]⟩, ⟨#[]⟩⟩) (by simp [results, Tryz.results58, go_sem, An.agg, r0, r1, r2, r3, r4, r5]) rfl hd
  ·
   have g16 : ¬ (16 : Int) ≤ (q.gs.length : Int) := by omega
   by_cases htop : q.ng = top
   ·
    have gt : (q.ng == 18446744073709551615) = true := by rw [htop]; rfl
    have hr : R = (q.plain, An.err 120) := by rw [← HR.out, hsubm.out, if_pos (.inr htop)]
    subst hr
    clear HR h16 hsubm htop
    have RF := Lib.hid (refusal_lit w2 120)
    go_wp2_with fail
    refine RF.out.mono ?_
    rintro e w8 ⟨rfl, k8⟩
    have HB8 := Lib.hid (HB2.out.stay k8)
    obtain ⟨c0, c1, c2, c3, c4, c5⟩ := HB8.out.an.six
    obtain ⟨f0, f1, f2, f3, f4, f5⟩ := HB8.out.an.free6
    clear RF k8
    go_wp2
    have hbx := (HB8.out.box ⟨120, 0, 0, 0, ⟨#[]⟩, ⟨#[]⟩⟩)
    have hd := (HB8.out.does ⟨120, 0, 0, 0, ⟨#[]⟩, ⟨#[]⟩⟩)
    dsimp only [sixPut] at hbx hd
    generalize ((((((w8.setCell ⟨a, 0, none⟩ (.int .i64 (120))).setCell ⟨a, 1, none⟩ (.int .u64 (0))).setCell ⟨a, 2, none⟩ (.int .u64 (0))).setCell ⟨a, 3, none⟩ (.int .u64 (0))).setCell ⟨a, 4, none⟩ (.string ⟨#[]⟩)).setCell ⟨a, 5, none⟩ (.string ⟨#[]⟩)) = wf at hbx hd ⊢
    obtain ⟨r0, r1, r2, r3, r4, r5⟩ := hbx.six
    exact bodyPost_ret (v := An.agg ⟨120, 0, 0, 0, ⟨#[]⟩, ⟨#[]⟩⟩) (by simp [results, Tryz.results58, go_sem, An.agg, r0, r1, r2, r3, r4, r5]) rfl hd
   ·
    have gt : (q.ng == 18446744073709551615) = false := beq_eq_false_iff_ne.2 htop
    have HRQ := Lib.hid (HR.out.symm.trans (hsubm.out.trans (if_neg (fun h => h.elim h16 htop))))
    have H16 := Lib.hid h16
    have HTOP := Lib.hid htop
    have HCG : Hid (∀ w', Keep noneOf w2 w' → Calls Tryz.prog 85 #[.agg #[.slice A c.ts.length cv]] w' (CopiesG c.ts w')) := Lib.hid fun w' k' => copiedGraph_any w' _ _ c.ts (HTG2.out.keep k' (fun _ _ _ => id)) HCL.out.few HCL.out.needs
    have MC : Hid (∀ w', Keep noneOf w2 w' → w'.cell? ⟨q.p, 1, none⟩ = some (.int .u64 q.ng) ∧ w'.cell? ⟨cb, 3, none⟩ = some (.slice A c.ts.length cv)) := Lib.hid fun w' k' =>
     ⟨(HB2.out.stay k').at_.box.cell 1, by rw [← HGVC.out]; exact (HM2.out.stay k').cm.cell 3⟩
    clear h16 htop HR hsubm
    go_upto_region 6 with fail
    clear p1 p4 g16 gt
    go_cut [6] (fun p wx => ∃ rb Au cu us, p = .pointer (some ⟨rb, 0, none⟩) ∧ us.map Tg.plain = c.ts.map Tg.plain ∧ Keep noneOf w2 wx ∧ w2.heap.size ≤ rb ∧ Box wx rb 59 #[.int .u64 q.ng, .slice Au us.length cu, .slice none 0 0] ∧ Tgs wx (fun i => w2.heap.size ≤ i ∧ i ≠ rb) (.slice Au us.length cu) us)
    case first =>
     have KZ := (Keep.refl noneOf w2).drew
     replace HCG : Hid (∀ w', Keep noneOf w2 w' → Calls Tryz.prog 85 #[.agg #[.slice A c.ts.length cv]] w' (CopiesG c.ts w')) := HCG
     refine wp_region_held_drew (S := fun w' => Keep noneOf w2 w') (by kernel_rfl) (KZ) (fun hHeld => ?_)
     refine' ztk 0 _ rfl (.inl ⟨by kernel_rfl, ?hy0⟩) ?_
     case hy0 => intro w' hSw; obtain ⟨_, _⟩ := MC.out w' hSw; go_simp; try with_reducible rfl
     simp only [Act.put, zga, zgb, zgc, zgd, zge, zgf]
     refine' ztk 1 _ rfl (.inl ⟨by kernel_rfl, ?hy1⟩) ?_
     case hy1 => intro w' hSw; obtain ⟨_, _⟩ := MC.out w' hSw; go_simp; try with_reducible rfl
     simp only [Act.put, zga, zgb, zgc, zgd, zge, zgf]
     refine' ztk 2 _ rfl (.inl ⟨by kernel_rfl, ?hy2⟩) ?_
     case hy2 => intro w' hSw; obtain ⟨_, _⟩ := MC.out w' hSw; go_simp; try with_reducible rfl
     simp only [Act.put, zga, zgb, zgc, zgd, zge, zgf]
     refine' ztk 3 _ rfl (.inl ⟨by kernel_rfl, ?hy3⟩) ?_
     case hy3 => intro w' hSw; obtain ⟨_, _⟩ := MC.out w' hSw; go_simp; try with_reducible rfl
     simp only [Act.put, zga, zgb, zgc, zgd, zge, zgf]
     refine' ztk 4 _ rfl (.inl ⟨by kernel_rfl, ?hy4⟩) ?_
     case hy4 => intro w' hSw; obtain ⟨_, _⟩ := MC.out w' hSw; go_simp; try with_reducible rfl
     simp only [Act.put, zga, zgb, zgc, zgd, zge, zgf]
     refine' ztk 5 _ rfl (.inl ⟨by kernel_rfl, ?hy5⟩) ?_
     case hy5 => intro w' hSw; obtain ⟨_, _⟩ := MC.out w' hSw; go_simp; try with_reducible rfl
     simp only [Act.put, zga, zgb, zgc, zgd, zge, zgf]
     generalize w2.drew = wz at *
     refine wpAnyH_ready (rs := [6, 8]) (by kernel_rfl) (by simp) (AllReadyH.cons rfl (fun K hK => ?_) (AllReadyH.cons rfl (fun K hK => ?_) AllReadyH.nil))
     ·
      skip
      go_simp
      go_at_call 85
      refine (HCG.out _ KZ).mono ?_
      rintro e wc1 ⟨gv1, us, rfl, hup, htg, k1⟩
      obtain ⟨Au, cu, hgv1, _⟩ := htg.1
      subst hgv1
      go_wp2_with fail
      have kk1 : Keep noneOf w2 wc1 := KZ.trans k1 (fun _ _ h => h)
      have hs1 := k1.size
      clear k1
      refine hK.out _ _ (kk1) (fun hHeld => ?_)
      clear hK K
      try simp only [Act.put, zga, zgb, zgc, zgd, zge, zgf]
      refine' ztk 7 _ rfl (.inl ⟨by kernel_rfl, ?hy7⟩) ?_
      case hy7 => intro w' hSw; obtain ⟨_, _⟩ := MC.out w' hSw; go_simp; try with_reducible rfl
      simp only [Act.put, zga, zgb, zgc, zgd, zge, zgf]
      refine wpAnyH_ready (rs := [8]) (by kernel_rfl) (by simp) (AllReadyH.cons rfl (fun K hK => ?_) AllReadyH.nil)
      go_simp
      have kk2 : Keep noneOf w2 (wc1.alloc (.cells #[.int .u64 0, .slice none 0 0, .slice none 0 0] 59)) := kk1.alloc _
      have n0 : w2.heap.size ≤ wc1.heap.size := kk1.size
      have bb2_0 := Box.new wc1 59 #[.int .u64 0, .slice none 0 0, .slice none 0 0]
      have kx2 := (Keep.refl (fun i => i = wc1.heap.size) wc1).alloc (.cells #[.int .u64 0, .slice none 0 0, .slice none 0 0] 59)
      have lq2 : wc1.heap.size ≤ wc1.heap.size := Nat.le_refl _
      refine hK.out _ _ (kk2) (fun hHeld => ?_)
      clear hK K
      try simp only [Act.put, zga, zgb, zgc, zgd, zge, zgf]
      generalize hq2 : wc1.heap.size = q2 at *
      generalize wc1.alloc (.cells #[.int .u64 0, .slice none 0 0, .slice none 0 0] 59) = wa2 at *
      have y3_0 := bb2_0.cell 0
      have z3_0 := bb2_0.free 0
      have y3_1 := bb2_0.cell 1
      have z3_1 := bb2_0.free 1
      have y3_2 := bb2_0.cell 2
      have z3_2 := bb2_0.free 2
      refine wpAnyH_ready (rs := [9]) (by kernel_rfl) (by simp) (AllReadyH.cons rfl (fun K hK => ?_) AllReadyH.nil)
      go_simp
      have nn3 := n0
      have kk3 : Keep noneOf w2 (((wa2.setCell ⟨q2, 0, none⟩ (.int .u64 q.ng)).setCell ⟨q2, 1, none⟩ (.slice Au us.length cu)).setCell ⟨q2, 2, none⟩ (.slice none 0 0)) := (((kk2.setCell (p := ⟨q2, 0, none⟩) (fun hh => absurd hh (by show ¬ q2 < w2.heap.size; omega)) (.int .u64 q.ng)).setCell (p := ⟨q2, 1, none⟩) (fun hh => absurd hh (by show ¬ q2 < w2.heap.size; omega)) (.slice Au us.length cu)).setCell (p := ⟨q2, 2, none⟩) (fun hh => absurd hh (by show ¬ q2 < w2.heap.size; omega)) (.slice none 0 0))
      have bb3_0 : Box (((wa2.setCell ⟨q2, 0, none⟩ (.int .u64 q.ng)).setCell ⟨q2, 1, none⟩ (.slice Au us.length cu)).setCell ⟨q2, 2, none⟩ (.slice none 0 0)) q2 59 #[.int .u64 q.ng, .slice Au us.length cu, .slice none 0 0] := (((bb2_0.put 0 (.int .u64 q.ng)).put 1 (.slice Au us.length cu)).put 2 (.slice none 0 0))
      have kx3 := (((kx2.setCell (p := ⟨q2, 0, none⟩) (fun _ => rfl) (.int .u64 q.ng)).setCell (p := ⟨q2, 1, none⟩) (fun _ => rfl) (.slice Au us.length cu)).setCell (p := ⟨q2, 2, none⟩) (fun _ => rfl) (.slice none 0 0))
      refine hK.out _ _ (kk3) (fun hHeld => ?_)
      clear hK K
      try simp only [Act.put, zga, zgb, zgc, zgd, zge, zgf]
      generalize (((wa2.setCell ⟨q2, 0, none⟩ (.int .u64 q.ng)).setCell ⟨q2, 1, none⟩ (.slice Au us.length cu)).setCell ⟨q2, 2, none⟩ (.slice none 0 0)) = ws3 at *
      refine wpAnyH_done (by kernel_rfl) ?_ _
      have b0 := bb3_0
      have KF := kk3
      have KX := kx3
      have hz := KZ.size
      have hTM := Tgs.monoQ (D' := fun i => w2.heap.size ≤ i ∧ i ≠ q2) htg (fun i hlt hi => ⟨by omega, fun e => by omega⟩)
      have hTF := hTM.keep KX (fun i _ hi e => hi.2 e)
      go_wp2_with fail
      go_meet
      exact ⟨_, Au, cu, us, rfl, hup, KF, n0, b0, hTF⟩
     ·
      skip
      go_simp
      have kk4 : Keep noneOf w2 (wz.alloc (.cells #[.int .u64 0, .slice none 0 0, .slice none 0 0] 59)) := KZ.alloc _
      have n0 : w2.heap.size ≤ wz.heap.size := KZ.size
      have bb4_0 := Box.new wz 59 #[.int .u64 0, .slice none 0 0, .slice none 0 0]
      refine hK.out _ _ (kk4) (fun hHeld => ?_)
      clear hK K
      try simp only [Act.put, zga, zgb, zgc, zgd, zge, zgf]
      generalize hq4 : wz.heap.size = q4 at *
      generalize wz.alloc (.cells #[.int .u64 0, .slice none 0 0, .slice none 0 0] 59) = wa4 at *
      refine wpAnyH_ready (rs := [6]) (by kernel_rfl) (by simp) (AllReadyH.cons rfl (fun K hK => ?_) AllReadyH.nil)
      have lb5_0 := bb4_0.lt
      go_simp
      go_at_call 85
      refine (HCG.out _ kk4).mono ?_
      rintro e wc5 ⟨gv1, us, rfl, hup, htg, k5⟩
      obtain ⟨Au, cu, hgv1, _⟩ := htg.1
      subst hgv1
      go_wp2_with fail
      have kk5 : Keep noneOf w2 wc5 := kk4.trans k5 (fun _ _ h => h)
      have bb5_0 := bb4_0.keep k5 id
      have hs5 := k5.size
      clear k5
      refine hK.out _ _ (kk5) (fun hHeld => ?_)
      clear hK K
      try simp only [Act.put, zga, zgb, zgc, zgd, zge, zgf]
      refine' ztk 7 _ rfl (.inl ⟨by kernel_rfl, ?hy7⟩) ?_
      case hy7 => intro w' hSw; obtain ⟨_, _⟩ := MC.out w' hSw; go_simp; try with_reducible rfl
      simp only [Act.put, zga, zgb, zgc, zgd, zge, zgf]
      have kx5 := Keep.refl (fun i => i = q4) wc5
      have y6_0 := bb5_0.cell 0
      have z6_0 := bb5_0.free 0
      have y6_1 := bb5_0.cell 1
      have z6_1 := bb5_0.free 1
      have y6_2 := bb5_0.cell 2
      have z6_2 := bb5_0.free 2
      refine wpAnyH_ready (rs := [9]) (by kernel_rfl) (by simp) (AllReadyH.cons rfl (fun K hK => ?_) AllReadyH.nil)
      go_simp
      have nn6 := n0
      have kk6 : Keep noneOf w2 (((wc5.setCell ⟨q4, 0, none⟩ (.int .u64 q.ng)).setCell ⟨q4, 1, none⟩ (.slice Au us.length cu)).setCell ⟨q4, 2, none⟩ (.slice none 0 0)) := (((kk5.setCell (p := ⟨q4, 0, none⟩) (fun hh => absurd hh (by show ¬ q4 < w2.heap.size; omega)) (.int .u64 q.ng)).setCell (p := ⟨q4, 1, none⟩) (fun hh => absurd hh (by show ¬ q4 < w2.heap.size; omega)) (.slice Au us.length cu)).setCell (p := ⟨q4, 2, none⟩) (fun hh => absurd hh (by show ¬ q4 < w2.heap.size; omega)) (.slice none 0 0))
      have bb6_0 : Box (((wc5.setCell ⟨q4, 0, none⟩ (.int .u64 q.ng)).setCell ⟨q4, 1, none⟩ (.slice Au us.length cu)).setCell ⟨q4, 2, none⟩ (.slice none 0 0)) q4 59 #[.int .u64 q.ng, .slice Au us.length cu, .slice none 0 0] := (((bb5_0.put 0 (.int .u64 q.ng)).put 1 (.slice Au us.length cu)).put 2 (.slice none 0 0))
      have kx6 := (((kx5.setCell (p := ⟨q4, 0, none⟩) (fun _ => rfl) (.int .u64 q.ng)).setCell (p := ⟨q4, 1, none⟩) (fun _ => rfl) (.slice Au us.length cu)).setCell (p := ⟨q4, 2, none⟩) (fun _ => rfl) (.slice none 0 0))
      refine hK.out _ _ (kk6) (fun hHeld => ?_)
      clear hK K
      try simp only [Act.put, zga, zgb, zgc, zgd, zge, zgf]
      generalize (((wc5.setCell ⟨q4, 0, none⟩ (.int .u64 q.ng)).setCell ⟨q4, 1, none⟩ (.slice Au us.length cu)).setCell ⟨q4, 2, none⟩ (.slice none 0 0)) = ws6 at *
      refine wpAnyH_done (by kernel_rfl) ?_ _
      have b0 := bb6_0
      have KF := kk6
      have KX := kx6
      have hz := KZ.size
      have hTM := Tgs.monoQ (D' := fun i => w2.heap.size ≤ i ∧ i ≠ q4) htg (fun i hlt hi => ⟨by omega, fun e => by omega⟩)
      have hTF := hTM.keep KX (fun i _ hi e => hi.2 e)
      go_wp2_with fail
      go_meet
      exact ⟨_, Au, cu, us, rfl, hup, KF, n0, b0, hTF⟩
    case rest =>
     obtain ⟨rb, Au, cu, us, rfl, hup, kc, hrb, hbr, htg⟩ := hcut
     have HBC := Lib.hid (HB2.out.stay kc)
     have HBR := Lib.hid hbr
     have HTG3 := Lib.hid htg
     have HKC := Lib.hid kc
     have HUP := Lib.hid hup
     have hul : us.length = c.ts.length := by have := congrArg List.length hup; simpa using this
     have hu32 : us.length ≤ 32 := by rw [hul]; have := (fits_few (ts := c.ts) (check_fits HCK.out).1).1; exact this
     have HU32 := Lib.hid hu32
     have HNB : Hid (rb ≠ a ∧ rb ≠ cb ∧ ¬ D rb ∧ cb ≤ rb ∧ w2.heap.size ≤ rb) := Lib.hid (by
      have h1 := HB2.out.an.lt
      have h2 := HM2.out.cm.lt
      exact ⟨by omega, by omega, fun e => by have := HB2.out.at_.lt _ e; omega, by omega, hrb⟩)
     have hpD : D q.p := HB2.out.at_.inD _ (.inl rfl)
     have HPD := Lib.hid hpD
     have HFR : Hid (∀ w', Keep noneOf wc w' → Calls Tryz.prog 100 #[.agg #[.slice Au us.length cu], .func (.func 101) #[.pointer (some ⟨q.p, 0, none⟩)] #[]] w' (ToldBools (grFresh (us.map Tg.plain) (fun k => q.built.contains k)) w')) := Lib.hid fun w' k' =>
      freshR_any w' _ _ us (HTG3.out.keep k' (fun _ _ _ => id)) _ _ can_call_built _ (tells_built (HBC.out.stay k').at_)
     have HSTA : Hid (∀ w' fs A1 c1, Keep noneOf wc w' → Bls w' (fun _ => True) (.slice A1 fs.length c1) fs → Calls Tryz.prog 99 #[.agg #[.slice Au us.length cu], .slice A1 fs.length c1] w' (ToldSts (grStart (us.map Tg.plain) fs) w')) := Lib.hid fun w' fs A1 c1 k' hbl =>
      start_any w' _ _ _ _ us fs (HTG3.out.keep k' (fun _ _ _ => id)) hbl (by rw [reach_is]; have := HU32.out; omega)
     rw [hup] at HFR HSTA
     generalize hfs : grFresh (c.ts.map Tg.plain) (fun k => q.built.contains k) = fs at *
     generalize hSL : grStart (c.ts.map Tg.plain) fs = SL at *
     replace HSTA : Hid (∀ w' A1 c1, Keep noneOf wc w' → Bls w' (fun _ => True) (.slice A1 fs.length c1) fs → Calls Tryz.prog 99 #[.agg #[.slice Au us.length cu], .slice A1 fs.length c1] w' (ToldSts SL w')) := Lib.hid fun w' A1 c1 k' hbl => by
      have := HSTA.out w' fs A1 c1 k' hbl
      rw [hSL] at this
      exact this
     have HSLE := Lib.hid hSL
     have r1 := hbr.cell 1
     have KS : Keep (fun b => b = rb) wc wc.drew ∧ wc.drew.cell? ⟨rb, 1, none⟩ = some (.slice Au us.length cu) := ⟨(Keep.refl _ wc).drew, r1⟩
     have K0 := Keep.refl noneOf wc
     have MC : Hid (∀ w', (Keep (fun b => b = rb) wc w' ∧ w'.cell? ⟨rb, 1, none⟩ = some (.slice Au us.length cu)) → w'.cell? ⟨rb, 1, none⟩ = some (.slice Au us.length cu) ∧ True) := Lib.hid fun _ h => ⟨h.2, trivial⟩
     have hrlt := hbr.lt
     clear kc hbr htg hup hul hu32 hrb hpD hfs hSL
     go_upto_region 7 with fail
     refine wp_region_held_drew (S := fun w' => Keep (fun b => b = rb) wc w' ∧ w'.cell? ⟨rb, 1, none⟩ = some (.slice Au us.length cu)) (by kernel_rfl) (KS) (fun hHeld => ?_)
     refine' ztk 0 _ rfl (.inl ⟨by kernel_rfl, ?hy0⟩) ?_
     case hy0 => intro w' hSw; obtain ⟨_, _⟩ := MC.out w' hSw; go_simp; try with_reducible rfl
     simp only [Act.put, zga, zgb, zgc, zgd, zge, zgf]
     refine' ztk 1 _ rfl (.inl ⟨by kernel_rfl, ?hy1⟩) ?_
     case hy1 => intro w' hSw; obtain ⟨_, _⟩ := MC.out w' hSw; go_simp; try with_reducible rfl
     simp only [Act.put, zga, zgb, zgc, zgd, zge, zgf]
     refine' ztk 2 _ rfl (.inl ⟨by kernel_rfl, ?hy2⟩) ?_
     case hy2 => intro w' hSw; obtain ⟨_, _⟩ := MC.out w' hSw; go_simp; try with_reducible rfl
     simp only [Act.put, zga, zgb, zgc, zgd, zge, zgf]
     refine' ztk 3 _ rfl (.inl ⟨by kernel_rfl, ?hy3⟩) ?_
     case hy3 => intro w' hSw; obtain ⟨_, _⟩ := MC.out w' hSw; go_simp; try with_reducible rfl
     simp only [Act.put, zga, zgb, zgc, zgd, zge, zgf]
     refine' ztk 4 _ rfl (.inl ⟨by kernel_rfl, ?hy4⟩) ?_
     case hy4 => intro w' hSw; obtain ⟨_, _⟩ := MC.out w' hSw; go_simp; try with_reducible rfl
     simp only [Act.put, zga, zgb, zgc, zgd, zge, zgf]
     refine' ztk 5 _ rfl (.inl ⟨by kernel_rfl, ?hy5⟩) ?_
     case hy5 => intro w' hSw; obtain ⟨_, _⟩ := MC.out w' hSw; go_simp; try with_reducible rfl
     simp only [Act.put, zga, zgb, zgc, zgd, zge, zgf]
     refine wpAnyH_ready (rs := [6]) (by kernel_rfl) (by simp) (AllReadyH.cons rfl (fun K hK => ?_) AllReadyH.nil)
     go_simp
     go_at_call 100
     refine (HFR.out _ K0.drew).mono ?_
     rintro e w5 ⟨A1, c1, rfl, hbl, k5⟩
     have k5' : Keep noneOf wc w5 := K0.drew.trans k5 (fun _ _ h => h)
     have hc5 : w5.cell? ⟨rb, 1, none⟩ = some (.slice Au us.length cu) := (k5'.cell (p := ⟨rb, 1, none⟩) hrlt id).trans r1
     go_wp2_with fail
     refine hK.out _ _ (⟨Keep.wide k5', hc5⟩) (fun hHeld => ?_)
     clear hK K
     try simp only [Act.put, zga, zgb, zgc, zgd, zge, zgf]
     refine wpAnyH_ready (rs := [7]) (by kernel_rfl) (by simp) (AllReadyH.cons rfl (fun K hK => ?_) AllReadyH.nil)
     go_simp
     go_at_call 99
     refine (HSTA.out _ _ _ k5' (hbl.mono (fun _ _ _ => trivial))).mono ?_
     rintro e w6 ⟨v6, rfl, k6, htold⟩
     obtain ⟨A3, c3, rfl⟩ := (told_sts htold).shape
     have k6' : Keep noneOf wc w6 := k5'.trans k6 (fun _ _ h => h)
     have hc6 : w6.cell? ⟨rb, 1, none⟩ = some (.slice Au us.length cu) := (k6'.cell (p := ⟨rb, 1, none⟩) hrlt id).trans r1
     have hb6 := HBR.out.keep k6' id
     have r2 := hb6.cell 2
     have rz2 := hb6.free 2
     obtain ⟨hown6, hblk6⟩ := told_own htold
     have HB7 := Lib.hid (hb6.put 2 (.slice A3 SL.length c3))
     have kp7 := (Keep.refl (fun b => b = rb) w6).setCell (p := ⟨rb, 2, none⟩) (fun _ => rfl) (.slice A3 SL.length c3)
     have HO7 := Lib.hid (own_keep hown6 kp7 (fun j hj e => own_ne hb6 hown6 (by decide) (e ▸ hj)))
     have HK7 := Lib.hid ((Keep.wide k6').trans kp7 (fun _ _ e => e))
     have HBK7 : Hid (∀ b, (Value.slice A3 SL.length c3).ownBlock = some b → wc.heap.size ≤ b ∧ b ≠ rb) := Lib.hid fun b hb => ⟨by have := hblk6 b hb; have := k5'.size; omega, fun e => own_ne hb6 hown6 (by decide) (e ▸ hb)⟩
     have hc7 : (w6.setCell ⟨rb, 2, none⟩ (.slice A3 SL.length c3)).cell? ⟨rb, 1, none⟩ = some (.slice Au us.length cu) := (hb6.put 2 (.slice A3 SL.length c3)).cell 1
     go_wp2_with fail
     refine hK.out _ _ (⟨Keep.wide k6', hc6⟩) (fun hHeld => ?_)
     clear hK K
     try simp only [Act.put, zga, zgb, zgc, zgd, zge, zgf]
     refine' ztk 8 _ rfl (.inl ⟨by kernel_rfl, ?hy8⟩) ?_
     case hy8 => intro w' hSw; obtain ⟨_, _⟩ := MC.out w' hSw; go_simp; try with_reducible rfl
     simp only [Act.put, zga, zgb, zgc, zgd, zge, zgf]
     refine wpAnyH_ready (rs := [9]) (by kernel_rfl) (by simp) (AllReadyH.cons rfl (fun K hK => ?_) AllReadyH.nil)
     go_simp
     refine hK.out _ _ (⟨HK7.out, hc7⟩) (fun hHeld => ?_)
     clear hK K
     try simp only [Act.put, zga, zgb, zgc, zgd, zge, zgf]
     refine wpAnyH_done (by kernel_rfl) ?_ _
     clear KS K0 MC HFR HSTA k5 k5' hc5 k6 k6' hc6 hc7 hb6 r1 r2 rz2 hown6 hblk6 kp7 htold hbl hrlt
     generalize w6.setCell ⟨rb, 2, none⟩ (.slice A3 SL.length c3) = wd at *
     have HBD : Hid (Busy w wd D D q q a) := Lib.hid (HBC.out.keepNew HK7.out (fun j e => by subst e; have h1 := HNB.out; have h2 := HCB.out; exact ⟨by omega, h1.2.2.1, h1.1⟩))
     have HTGD := Lib.hid ((Tgs.monoQ (D' := fun i => (w2.heap.size ≤ i ∧ i < wc.heap.size) ∧ i ≠ rb) HTG3.out (fun i hlt hi => ⟨⟨hi.1, hlt⟩, hi.2⟩)).keep HK7.out (fun i _ hi e => hi.2 e))
     obtain ⟨g', hg'⟩ : ∃ g' : Gm, g' = ⟨q.ng, .slice Au us.length cu, .slice A3 SL.length c3, us, SL⟩ := ⟨_, rfl⟩
     have HGG := Lib.hid hg'
     have hone : ∀ g ∈ q.gs ++ [g'], ∀ u ∈ g.cells, u.oneCell' = true := fun g hg u hu => by
      rcases List.mem_append.1 hg with h1 | h1
      ·
       obtain ⟨v1, v2⟩ := HBD.out.at_.oneG g h1
       simp [Gm.cells] at hu
       rcases hu with rfl | rfl | rfl
       ·
        rfl
       ·
        exact v1
       ·
        exact v2
      ·
       rw [List.mem_singleton] at h1
       subst h1
       rw [hg'] at hu
       simp [Gm.cells] at hu
       rcases hu with rfl | rfl | rfl <;> rfl
     have HOne := Lib.hid hone
     have KW := ((Keep.refl noneOf wd).alloc (.cells #[.int .u64 q.ng, .slice Au us.length cu, .slice A3 SL.length c3] 59)).drew
     have HAP : Hid ((wd.alloc (.cells #[.int .u64 q.ng, .slice Au us.length cu, .slice A3 SL.length c3] 59)).drew.ownsRow 0 59 3 (.slice A0 q.gs.length cap) q.gs.length (q.gs.flatMap (fx Gm.cells)) ∧ Many (fx Gm.cells) 3 (wd.alloc (.cells #[.int .u64 q.ng, .slice Au us.length cu, .slice A3 SL.length c3] 59)).drew (fun i => wd.heap.size ≤ i) (.slice (some ⟨wd.heap.size, 0, none⟩) 1 1) [g']) := Lib.hid (by
      constructor
      ·
       rw [fx_eq (fun x hx => HOne.out x (List.mem_append_left _ hx))]
       have := own_keep HBD.out.at_.gr KW (fun _ _ => id)
       rw [HGV.out] at this
       exact this
      ·
       have h1 := Many.one (ec := fx Gm.cells) (k := 3) (fun x => by unfold fx; rw [List.length_map]; rfl) wd g' 59
       have h2 : fx Gm.cells g' = [.int .u64 q.ng, .slice Au us.length cu, .slice A3 SL.length c3] := by rw [HGG.out]; rfl
       rw [h2] at h1
       exact h1.keep ((Keep.refl noneOf _).drew) (fun _ _ _ => id))
     have FIN8 : Hid (∀ v8 w8, w8.ownsRow 0 59 3 v8 (q.gs ++ [g']).length ((q.gs ++ [g']).flatMap (fx Gm.cells)) → (wd.alloc (.cells #[.int .u64 q.ng, .slice Au us.length cu, .slice A3 SL.length c3] 59)).drew.grownBy w8 (Value.slice A0 q.gs.length cap).ownBlock → (v8.ownBlock = (Value.slice A0 q.gs.length cap).ownBlock ∨ v8.ownBlock = some (wd.alloc (.cells #[.int .u64 q.ng, .slice Au us.length cu, .slice A3 SL.length c3] 59)).drew.heap.size) →
       ∃ b0 cap8, v8 = .slice (some ⟨b0, 0, none⟩) (q.gs ++ [g']).length cap8 ∧ w8.cell? ⟨q.p, 4, none⟩ = some (.slice A0 q.gs.length cap) ∧ w8.frozen? ⟨q.p, 4, none⟩ = false ∧
       ∃ v E, Busy w (w8.setCell ⟨q.p, 4, none⟩ (.slice (some ⟨b0, 0, none⟩) (q.gs ++ [g']).length cap8)) D E q { q with gv := v, gs := q.gs ++ [g'] } a ∧ Box (w8.setCell ⟨q.p, 4, none⟩ (.slice (some ⟨b0, 0, none⟩) (q.gs ++ [g']).length cap8)) rb 59 #[.int .u64 q.ng, .slice Au us.length cu, .slice A3 SL.length c3]) := Lib.hid fun v8 w8 hown hg hat => by
      rw [fx_eq HOne.out] at hown
      obtain ⟨b0, cap8, tl, rfl, _, hb0, _, _⟩ := own_mt (ec := Gm.cells) hown (by simp)
      have qw := HBD.out.at_.stay KW
      have kz : Keep (fun i => q.gv.ownBlock = some i) (wd.alloc (.cells #[.int .u64 q.ng, .slice Au us.length cu, .slice A3 SL.length c3] 59)).drew w8 := (Keep.of_grown hg).mono (fun i _ e => by rw [HGV.out]; exact e.symm)
      have hgp : q.gv.ownBlock ≠ some q.p := qw.g_ne_p
      have b8 := qw.box.keep kz hgp
      have kp := (Keep.refl (fun i => i = q.p) w8).setCell (p := ⟨q.p, 4, none⟩) (fun _ => rfl) (.slice (some ⟨b0, 0, none⟩) (q.gs ++ [g']).length cap8)
      have kk : Keep (fun i => i = q.p ∨ q.gv.ownBlock = some i) (wd.alloc (.cells #[.int .u64 q.ng, .slice Au us.length cu, .slice A3 SL.length c3] 59)).drew (w8.setCell ⟨q.p, 4, none⟩ (.slice (some ⟨b0, 0, none⟩) (q.gs ++ [g']).length cap8)) := (kz.mono (fun _ _ e => Or.inr e)).trans kp (fun _ _ e => Or.inl e)
      have hb0p : b0 ≠ q.p := fun e => (hb0.ne b8 (by decide)) e
      have hwd2 : w2.heap.size ≤ wd.heap.size := Nat.le_trans HKC.out.size HK7.out.size
      have hwcd : wc.heap.size ≤ wd.heap.size := HK7.out.size
      have hW : (wd.alloc (.cells #[.int .u64 q.ng, .slice Au us.length cu, .slice A3 SL.length c3] 59)).drew.heap.size = wd.heap.size + 1 := by show (wd.alloc _).heap.size = _; simp
      have hat' : q.gv.ownBlock = some b0 ∨ b0 = wd.heap.size + 1 := by
       rw [HGV.out]
       rcases hat with e | e
       ·
        left; exact e.symm
       ·
        right; rw [hW] at e; simpa [Value.ownBlock] using e
      have hDlt : ∀ i, D i → i < w2.heap.size := HB2.out.at_.lt
      have hkw : Keep (fun i => i = q.p ∨ q.gv.ownBlock = some i) wd (w8.setCell ⟨q.p, 4, none⟩ (.slice (some ⟨b0, 0, none⟩) (q.gs ++ [g']).length cap8)) := (Keep.wide KW).trans kk (fun _ _ e => e)
      have hno : ∀ i, w2.heap.size ≤ i → i < wd.heap.size → ¬ (i = q.p ∨ q.gv.ownBlock = some i) := fun i h1 h2 e => by
       have hqD : D i := e.elim (fun e => e ▸ HPD.out) (fun e => HBD.out.at_.inD _ (.inr (.inr (.inr (.inl e)))))
       have := hDlt i hqD
       omega
      have hs := HBD.out.at_
      have hsv' : g'.sv = .slice A3 SL.length c3 := by rw [HGG.out]
      have hst' : g'.st = SL := by rw [HGG.out]
      have hgv' : g'.gv = .slice Au us.length cu := by rw [HGG.out]
      have hts' : g'.ts = us := by rw [HGG.out]
      have hnewg : g' ∉ q.gs := fun hm => by
       have h1 := hs.tg g' hm
       have h2 := HBK7.out
       have h3 : ∀ b, g'.sv.ownBlock = some b → D b := fun b hb => hs.inD _ (O_of hm hb)
       have h4 := (hs.st g' hm)
       rw [HGG.out] at h3
       have h5 := HO7.out
       rcases h5.2 with ⟨e, e0⟩ | ⟨gg, cc, cur, e, _⟩
       ·
        have hid := (HI.out.gsIn g'.plain (List.mem_map.2 ⟨g', hm, rfl⟩)).2.1
        rw [HGG.out] at hid
        exact absurd hid (Int.lt_irrefl _)
       ·
        have h6 := h3 gg (by show (Value.slice A3 SL.length c3).ownBlock = _; rw [e]; rfl)
        have h7 := h2 gg (by rw [e]; rfl)
        have := hDlt _ h6
        have := HKC.out.size
        omega
      have hq9 := qw.slices kk (fun j hj => hj.elim (fun e => .inl e) (fun e => .inr (.inl e))) (ng := q.ng) (gv := .slice (some ⟨b0, 0, none⟩) (q.gs ++ [g']).length cap8) (bv := q.bv) (gs := q.gs ++ [g']) (ks := q.built) (D' := fun i => D i ∨ (w2.heap.size ≤ i ∧ i < (w8.setCell ⟨q.p, 4, none⟩ (.slice (some ⟨b0, 0, none⟩) (q.gs ++ [g']).length cap8)).heap.size)) (b8.put 4 _)
       (own_keep hown kp (fun j hj e => hb0p (by have : b0 = j := by simpa [Value.ownBlock] using hj
                                                 rw [this]; exact e)))
       (own_keep qw.bl kk (fun j hj e => e.elim (fun e => qw.b_ne_p (e ▸ hj)) (fun e => qw.g_ne_b j e hj)))
       (fun x hx => by
        rcases List.mem_append.1 hx with h1 | h1
        ·
         exact .inl h1
        ·
         rw [List.mem_singleton] at h1
         rw [h1]
         refine .inr ⟨hnewg, ?_, ?_, ?_⟩
         ·
          rw [hsv', hst']
          refine own_keep HO7.out hkw (fun j hj e => ?_)
          have h2 := HBK7.out j hj
          have h3 := own_lt HO7.out hj
          have := HKC.out.size
          exact hno j (by omega) h3 e
         ·
          intro b hb
          rw [hsv'] at hb
          have h2 := HBK7.out b hb
          have h3 := own_lt HO7.out hb
          have := HKC.out.size
          have h5 := hkw.size
          exact ⟨fun hd => by have := hDlt b hd; omega, .inr ⟨by omega, by omega⟩⟩
         ·
          rw [hsv', hgv', hts']
          have h3 := HTGD.out.keep hkw (fun i hlt hi e => hno i hi.1.1 hlt e)
          refine h3.monoQ (fun i hlt hi => ⟨.inr ⟨hi.1.1, hlt⟩, fun hd => by have := hDlt i hd; omega, fun e => by have := HBK7.out i e; omega, fun e => ?_⟩)
          have e2 : b0 = i := by simpa [Value.ownBlock] using e
          subst e2
          rcases hat' with e | e
          ·
           exact hno _ hi.1.1 (by omega) (.inr e)
          ·
           omega)
       (fun x hx y hy h1 h2 => by
        rcases List.mem_append.1 hx with h3 | h3
        ·
         exact absurd h3 h1
        ·
         rcases List.mem_append.1 hy with h4 | h4
         ·
          exact absurd h4 h2
         ·
          rw [List.mem_singleton] at h3 h4
          rw [h3, h4])
       (by
        unfold Apart
        rw [List.pairwise_append]
        refine ⟨qw.apart, List.pairwise_singleton _ _, fun x hx y hy j h1 h2 => ?_⟩
        rw [List.mem_singleton] at hy
        rw [hy, hsv'] at h2
        have h3 := HBK7.out j h2
        have h4 := hDlt j (qw.inD _ (O_of hx h1))
        have := HKC.out.size
        omega)
       (fun b hb => by
        have e2 : b0 = b := by simpa [Value.ownBlock] using hb
        subst e2
        rcases hat' with e | e
        ·
         exact .inl e
        ·
         exact .inr ⟨fun hd => by have := hDlt _ hd; omega, .inr ⟨by omega, Nat.lt_of_lt_of_le hb0.lt kp.size⟩⟩)
       (fun b hb => .inl hb) (fun _ h => .inl h) (fun j hj => hj.elim (fun hd => by have := hDlt j hd; have := hkw.size; omega) (fun e => e.2))
      have hk2 : Keep (fun i => i = q.p ∨ q.gv.ownBlock = some i) w2 (w8.setCell ⟨q.p, 4, none⟩ (.slice (some ⟨b0, 0, none⟩) (q.gs ++ [g']).length cap8)) := (((Keep.wide HKC.out).trans (HK7.out) (fun i hi e => absurd e (by have := HNB.out.2.2.2.2; omega)))).trans hkw (fun _ _ e => e)
      refine ⟨b0, cap8, rfl, by rw [← HGV.out]; exact b8.cell 4, b8.free 4, _, _, HB2.out.turn hk2 (fun j e => e.elim (fun e => e ▸ HPD.out) (fun e => HB2.out.at_.inD _ (.inr (.inr (.inr (.inl e)))))) hq9 rfl (fun _ h => .inl h) (fun _ h => h.imp_right (fun e => e.1)), ?_⟩
      exact HB7.out.keep hkw (hno rb HNB.out.2.2.2.2 HB7.out.lt)
     have r0 := HB7.out.cell 0
     have r1 := HB7.out.cell 1
     have r2 := HB7.out.cell 2
     have p4 : wd.cell? ⟨q.p, 4, none⟩ = some (.slice A0 q.gs.length cap) := by rw [← HGV.out]; exact HBD.out.at_.box.cell 4
     have hrgv : ¬ (rb = q.p ∨ q.gv.ownBlock = some rb) := fun e => HNB.out.2.2.1 (e.elim (fun e => e ▸ HPD.out) (fun e => HBD.out.at_.inD _ (.inr (.inr (.inr (.inl e))))))
     have MC : Hid (∀ w', Keep (fun i => i = q.p ∨ q.gv.ownBlock = some i) wd w' → w'.cell? ⟨rb, 0, none⟩ = some (.int .u64 q.ng) ∧ w'.cell? ⟨rb, 1, none⟩ = some (.slice Au us.length cu) ∧ w'.cell? ⟨rb, 2, none⟩ = some (.slice A3 SL.length c3)) := Lib.hid fun w' k' => (HB7.out.keep k' hrgv).three
     clear hg' hone r0 r1 r2 hrgv
     go_upto_region 8 with fail
     go_cut [6] (fun p wx => p = .pointer (some ⟨rb, 0, none⟩) ∧ ∃ v E, Busy w wx D E q { q with gv := v, gs := q.gs ++ [g'] } a ∧ Box wx rb 59 #[.int .u64 q.ng, .slice Au us.length cu, .slice A3 SL.length c3])
     case first =>
      have KS8 := (Keep.refl (fun i => i = q.p ∨ q.gv.ownBlock = some i) wd).drew
      refine wp_region_held_drew (S := fun w' => Keep (fun i => i = q.p ∨ q.gv.ownBlock = some i) wd w') (by kernel_rfl) (KS8) (fun hHeld => ?_)
      refine' ztk 0 _ rfl (.inl ⟨by kernel_rfl, ?hy0⟩) ?_
      case hy0 => intro w' hSw; obtain ⟨_, _, _⟩ := MC.out w' hSw; go_simp; try with_reducible rfl
      simp only [Act.put, zga, zgb, zgc, zgd, zge, zgf]
      refine' ztk 1 _ rfl (.inl ⟨by kernel_rfl, ?hy1⟩) ?_
      case hy1 => intro w' hSw; obtain ⟨_, _, _⟩ := MC.out w' hSw; go_simp; try with_reducible rfl
      simp only [Act.put, zga, zgb, zgc, zgd, zge, zgf]
      refine' ztk 2 _ rfl (.inl ⟨by kernel_rfl, ?hy2⟩) ?_
      case hy2 => intro w' hSw; obtain ⟨_, _, _⟩ := MC.out w' hSw; go_simp; try with_reducible rfl
      simp only [Act.put, zga, zgb, zgc, zgd, zge, zgf]
      refine' ztk 3 _ rfl (.inl ⟨by kernel_rfl, ?hy3⟩) ?_
      case hy3 => intro w' hSw; obtain ⟨_, _, _⟩ := MC.out w' hSw; go_simp; try with_reducible rfl
      simp only [Act.put, zga, zgb, zgc, zgd, zge, zgf]
      refine' ztk 5 _ rfl (.inl ⟨by kernel_rfl, ?hy5⟩) ?_
      case hy5 => intro w' hSw; obtain ⟨_, _, _⟩ := MC.out w' hSw; go_simp; try with_reducible rfl
      simp only [Act.put, zga, zgb, zgc, zgd, zge, zgf]
      refine wpAnyH_ready (rs := [4, 6]) (by kernel_rfl) (by simp) (AllReadyH.cons rfl (fun K hK => ?_) (AllReadyH.cons rfl (fun K hK => ?_) AllReadyH.nil))
      ·
       go_simp
       refine hK.out _ _ (KS8) (fun hHeld => ?_)
       clear hK K
       try simp only [Act.put, zga, zgb, zgc, zgd, zge, zgf]
       refine wpAnyH_ready (rs := [6]) (by kernel_rfl) (by simp) (AllReadyH.cons rfl (fun K hK => ?_) AllReadyH.nil)
       go_simp
       refine hK.out _ _ (((Keep.refl (fun i => i = q.p ∨ q.gv.ownBlock = some i) wd).alloc _).drew) (fun hHeld => ?_)
       clear hK K
       try simp only [Act.put, zga, zgb, zgc, zgd, zge, zgf]
       refine wpAnyH_ready (rs := [7]) (by kernel_rfl) (by simp) (AllReadyH.cons rfl (fun K hK => ?_) AllReadyH.nil)
       refine step_append_many elems_gr (ec := fx Gm.cells) (fun x => by unfold fx; rw [List.length_map]; rfl) (fx_one Gm.cells) (by decide) rfl (.tmp 49) (.tmp 51) rfl 0 _ _ q.gs [g'] (fun i => wd.heap.size ≤ i) (by simp [Act.eval, Act.put]) (by simp [Act.eval, Act.put]) HAP.out.1 HAP.out.2 (by have := H16.out; unfold maxLen; simp; omega) (by have := H16.out; simp; omega) (Nat.zero_le _) ?_
       intro v8 w8 hown hg hat
       obtain ⟨b0, cap8, rfl, y4, z4, hfin⟩ := FIN8.out v8 w8 hown hg hat
       have hk8 : Keep (fun i => i = q.p ∨ q.gv.ownBlock = some i) wd w8 := ((Keep.refl _ wd).alloc _).drew.trans ((Keep.of_grown hg).mono (fun i _ e => Or.inr (by rw [HGV.out]; exact e.symm))) (fun _ _ e => e)
       have hl9 : (q.gs ++ [g']).length = q.gs.length + 1 := by simp
       rw [hl9] at hfin ⊢
       have HFI := Lib.hid hfin
       clear hown hg hat hfin hl9
       refine hK.out _ _ (hk8) (fun hHeld => ?_)
       clear hK K
       try simp only [Act.put, zga, zgb, zgc, zgd, zge, zgf]
       refine' ztk 8 _ rfl (.inl ⟨by kernel_rfl, ?hy8⟩) ?_
       case hy8 => intro w' hSw; obtain ⟨_, _, _⟩ := MC.out w' hSw; go_simp; try with_reducible rfl
       simp only [Act.put, zga, zgb, zgc, zgd, zge, zgf]
       refine' ztk 9 _ rfl (.inl ⟨by kernel_rfl, ?hy9⟩) ?_
       case hy9 => intro w' hSw; obtain ⟨_, _, _⟩ := MC.out w' hSw; go_simp; try with_reducible rfl
       simp only [Act.put, zga, zgb, zgc, zgd, zge, zgf]
       refine wpAnyH_ready (rs := [10]) (by kernel_rfl) (by simp) (AllReadyH.cons rfl (fun K hK => ?_) AllReadyH.nil)
       go_simp
       refine hK.out _ _ (hk8.setCell (p := ⟨q.p, 4, none⟩) (fun _ => Or.inl rfl) _) (fun hHeld => ?_)
       clear hK K
       try simp only [Act.put, zga, zgb, zgc, zgd, zge, zgf]
       refine wpAnyH_done (by kernel_rfl) ?_ _
       go_wp2_with fail
       go_meet
       exact ⟨rfl, HFI.out⟩
      ·
       go_simp
       have p4a : (wd.alloc (.cells #[.int .u64 q.ng, .slice Au us.length cu, .slice A3 SL.length c3] 59)).cell? ⟨q.p, 4, none⟩ = some (.slice A0 q.gs.length cap) := ((Keep.refl noneOf wd).alloc _ |>.cell (p := ⟨q.p, 4, none⟩) (block_of_cell p4) id).trans p4
       refine hK.out _ _ (((Keep.refl (fun i => i = q.p ∨ q.gv.ownBlock = some i) wd).alloc _).drew) (fun hHeld => ?_)
       clear hK K
       try simp only [Act.put, zga, zgb, zgc, zgd, zge, zgf]
       refine wpAnyH_ready (rs := [4]) (by kernel_rfl) (by simp) (AllReadyH.cons rfl (fun K hK => ?_) AllReadyH.nil)
       go_simp
       refine hK.out _ _ hHeld (fun hHeld => ?_)
       clear hK K
       try simp only [Act.put, zga, zgb, zgc, zgd, zge, zgf]
       refine wpAnyH_ready (rs := [7]) (by kernel_rfl) (by simp) (AllReadyH.cons rfl (fun K hK => ?_) AllReadyH.nil)
       refine step_append_many elems_gr (ec := fx Gm.cells) (fun x => by unfold fx; rw [List.length_map]; rfl) (fx_one Gm.cells) (by decide) rfl (.tmp 49) (.tmp 51) rfl 0 _ _ q.gs [g'] (fun i => wd.heap.size ≤ i) (by simp [Act.eval, Act.put]) (by simp [Act.eval, Act.put]) HAP.out.1 HAP.out.2 (by have := H16.out; unfold maxLen; simp; omega) (by have := H16.out; simp; omega) (Nat.zero_le _) ?_
       intro v8 w8 hown hg hat
       obtain ⟨b0, cap8, rfl, y4, z4, hfin⟩ := FIN8.out v8 w8 hown hg hat
       have hk8 : Keep (fun i => i = q.p ∨ q.gv.ownBlock = some i) wd w8 := ((Keep.refl _ wd).alloc _).drew.trans ((Keep.of_grown hg).mono (fun i _ e => Or.inr (by rw [HGV.out]; exact e.symm))) (fun _ _ e => e)
       have hl9 : (q.gs ++ [g']).length = q.gs.length + 1 := by simp
       rw [hl9] at hfin ⊢
       have HFI := Lib.hid hfin
       clear hown hg hat hfin hl9
       refine hK.out _ _ (hk8) (fun hHeld => ?_)
       clear hK K
       try simp only [Act.put, zga, zgb, zgc, zgd, zge, zgf]
       refine' ztk 8 _ rfl (.inl ⟨by kernel_rfl, ?hy8⟩) ?_
       case hy8 => intro w' hSw; obtain ⟨_, _, _⟩ := MC.out w' hSw; go_simp; try with_reducible rfl
       simp only [Act.put, zga, zgb, zgc, zgd, zge, zgf]
       refine' ztk 9 _ rfl (.inl ⟨by kernel_rfl, ?hy9⟩) ?_
       case hy9 => intro w' hSw; obtain ⟨_, _, _⟩ := MC.out w' hSw; go_simp; try with_reducible rfl
       simp only [Act.put, zga, zgb, zgc, zgd, zge, zgf]
       refine wpAnyH_ready (rs := [10]) (by kernel_rfl) (by simp) (AllReadyH.cons rfl (fun K hK => ?_) AllReadyH.nil)
       go_simp
       refine hK.out _ _ (hk8.setCell (p := ⟨q.p, 4, none⟩) (fun _ => Or.inl rfl) _) (fun hHeld => ?_)
       clear hK K
       try simp only [Act.put, zga, zgb, zgc, zgd, zge, zgf]
       refine wpAnyH_done (by kernel_rfl) ?_ _
       go_wp2_with fail
       go_meet
       exact ⟨rfl, HFI.out⟩
     case rest =>
      obtain ⟨rfl, v9, E9, hB9, hX9⟩ := hcut
      have HB9 := Lib.hid hB9
      have HX9 := Lib.hid hX9
      have hng : (1 : Int) ≤ q.ng ∧ q.ng < top := by
       have h1 := HI.out.ng
       have h2 : q.ng ≠ top := HTOP.out
       have h3 : q.plain.ng = q.ng := rfl
       rw [h3] at h1
       exact ⟨h1.1, by omega⟩
      have hwrap := wrap1 hng.1 hng.2
      have p1 : wc.cell? ⟨q.p, 1, none⟩ = some (.int .u64 q.ng) := by
       have := hB9.at_.box.cell 1
       exact this
      have pf1 : wc.frozen? ⟨q.p, 1, none⟩ = false := hB9.at_.box.free 1
      have hpE : E9 q.p := hB9.at_.inD _ (.inl rfl)
      have K10 := (Keep.refl (fun b => b = q.p) wc).setCell (p := ⟨q.p, 1, none⟩) (fun _ => rfl) (.int .u64 (q.ng + 1))
      have HB10 : Hid (Busy w (wc.setCell ⟨q.p, 1, none⟩ (.int .u64 (q.ng + 1))) D E9 q { q with gv := v9, gs := q.gs ++ [g'], ng := q.ng + 1 } a) := Lib.hid (hB9.turn K10 (fun j e => e ▸ hpE) (hB9.at_.head (hB9.at_.box.put 1 _) K10) rfl (fun _ h => h) (fun _ h => .inl h))
      have hrp : rb ≠ q.p := fun e => HNB.out.2.2.1 (e ▸ HPD.out)
      have r0 := (hX9.keep K10 hrp).cell 0
      obtain ⟨c0, c1, c2, c3', c4, c5⟩ := HB10.out.an.six
      obtain ⟨f0, f1, f2, f3, f4, f5⟩ := HB10.out.an.free6
      have hpl : ({ q with gv := v9, gs := q.gs ++ [g'], ng := q.ng + 1 } : Qm).plain = { q.plain with gs := q.plain.gs ++ [⟨q.ng, c.ts.map Tg.plain, SL⟩], ng := q.ng + 1 } := by
       show Qp.mk q.now (q.ng + 1) q.nt q.ses ((q.gs ++ [g']).map Gm.plain) q.built = _
       rw [List.map_append, HGG.out]
       show Qp.mk q.now (q.ng + 1) q.nt q.ses (q.gs.map Gm.plain ++ [⟨q.ng, us.map Tg.plain, SL⟩]) q.built = _
       rw [HUP.out]
       rfl
      have HPL := Lib.hid hpl
      clear hB9 hX9 K10 hpE hng hpl hrp
      go_upto_region 10 with fail
      generalize wc.setCell ⟨q.p, 1, none⟩ (.int .u64 (q.ng + 1)) = wy at *
      go_wp2
      have hbx := (HB10.out.box ⟨0, q.ng, 0, 0, ⟨#[]⟩, ⟨#[]⟩⟩)
      have hd := (HB10.out.does ⟨0, q.ng, 0, 0, ⟨#[]⟩, ⟨#[]⟩⟩)
      dsimp only [sixPut] at hbx hd
      generalize ((((((wy.setCell ⟨a, 0, none⟩ (.int .i64 (0))).setCell ⟨a, 1, none⟩ (.int .u64 (q.ng))).setCell ⟨a, 2, none⟩ (.int .u64 (0))).setCell ⟨a, 3, none⟩ (.int .u64 (0))).setCell ⟨a, 4, none⟩ (.string ⟨#[]⟩)).setCell ⟨a, 5, none⟩ (.string ⟨#[]⟩)) = wf at hbx hd ⊢
      obtain ⟨r0, r1, r2, r3, r4, r5⟩ := hbx.six
      rw [HPL.out] at hd
      rw [HRQ.out]
      exact bodyPost_ret (v := An.agg ⟨0, q.ng, 0, 0, ⟨#[]⟩, ⟨#[]⟩⟩) (by simp [results, Tryz.results58, go_sem, An.agg, r0, r1, r2, r3, r4, r5]) rfl hd
 ·
  have hEn : (grCheck (c.ts.map Tg.plain) == 0) = false := beq_eq_false_iff_ne.2 hE
  have hr : R = (q.plain, An.err (grCheck (c.ts.map Tg.plain))) := by
   rw [← HR.out]
   unfold submitP
   rw [if_pos (by exact hE)]
   rfl
  subst hr
  generalize grCheck (c.ts.map Tg.plain) = EE at *
  clear HR hE
  have RF := Lib.hid (refusal_lit w2 EE)
  go_wp2_with fail
  refine RF.out.mono ?_
  rintro e w8 ⟨rfl, k8⟩
  have HB8 := Lib.hid (HB2.out.stay k8)
  obtain ⟨c0, c1, c2, c3, c4, c5⟩ := HB8.out.an.six
  obtain ⟨f0, f1, f2, f3, f4, f5⟩ := HB8.out.an.free6
  clear RF k8
  go_wp2
  have hbx := (HB8.out.box ⟨EE, 0, 0, 0, ⟨#[]⟩, ⟨#[]⟩⟩)
  have hd := (HB8.out.does ⟨EE, 0, 0, 0, ⟨#[]⟩, ⟨#[]⟩⟩)
  dsimp only [sixPut] at hbx hd
  generalize ((((((w8.setCell ⟨a, 0, none⟩ (.int .i64 (EE))).setCell ⟨a, 1, none⟩ (.int .u64 (0))).setCell ⟨a, 2, none⟩ (.int .u64 (0))).setCell ⟨a, 3, none⟩ (.int .u64 (0))).setCell ⟨a, 4, none⟩ (.string ⟨#[]⟩)).setCell ⟨a, 5, none⟩ (.string ⟨#[]⟩)) = wf at hbx hd ⊢
  obtain ⟨r0, r1, r2, r3, r4, r5⟩ := hbx.six
  exact bodyPost_ret (v := An.agg ⟨EE, 0, 0, 0, ⟨#[]⟩, ⟨#[]⟩⟩) (by simp [results, Tryz.results58, go_sem, An.agg, r0, r1, r2, r3, r4, r5]) rfl hd
end Go.Proofs.YtffoeodjbbkdjaaGreat
