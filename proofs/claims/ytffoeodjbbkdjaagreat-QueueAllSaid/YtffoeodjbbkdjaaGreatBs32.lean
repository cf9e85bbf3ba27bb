import Derived.Deep.DeepCutAuto
import Derived.Test.YtffoeodjbbkdjaaGreatBs01
import Derived.Test.YtffoeodjbbkdjaaGreatBs31
namespace Go.Proofs.YtffoeodjbbkdjaaGreat
open Go.RowKit
theorem Does.drew {q : Qm} {D : Nat → Prop} {r : Qp × An} {w w' : World} {e : Ending} (h : Does q D r w e w') : Does q D r w e w'.drew := by
 obtain ⟨q', he, ha, hp, hr, hk⟩ := h
 exact ⟨q', he, ha.stay ((Keep.refl noneOf w').drew), hp, hr, hk.drew⟩
theorem QAt.state {w : World} {D : Nat → Prop} {q : Qm} (h : QAt w D q) {g : Gm} (hg : g ∈ q.gs) {n : Nat} {x : Pst} (hx : g.st[n]? = some x) : ∃ sx cs, g.sv = .slice (some ⟨sx, 0, none⟩) g.st.length cs ∧ D sx ∧
  (w.cell? ⟨sx, n * 3, none⟩ = some (.int .i64 x.s) ∧ w.cell? ⟨sx, n * 3 + 1, none⟩ = some (.int .u64 x.t) ∧ w.cell? ⟨sx, n * 3 + 2, none⟩ = some (.int .u64 x.u)) ∧ w.frozen? ⟨sx, n * 3, none⟩ = false ∧ w.frozen? ⟨sx, n * 3 + 1, none⟩ = false ∧ w.frozen? ⟨sx, n * 3 + 2, none⟩ = false := by
 have hs := h.st g hg
 have h0 : g.st ≠ [] := by rintro e; rw [e] at hx; cases hx
 obtain ⟨sx, cs, tl, hv, _, _, _⟩ := own_mt (ec := Pst.cells) hs h0
 have hO := O_of (q := q) hg (show g.sv.ownBlock = some sx from by rw [hv]; rfl)
 rw [hv] at hs
 exact ⟨sx, cs, hv, h.inD _ hO, OwnS.at_ hs hx⟩
theorem QAt.target {w : World} {D : Nat → Prop} {q : Qm} (h : QAt w D q) {g : Gm} (hg : g ∈ q.gs) {n : Nat} (hn : n < g.ts.length) : ∃ t tb o tc, g.ts[n]? = some t ∧ g.gv = .slice (some ⟨tb, o, none⟩) g.ts.length tc ∧ D tb ∧ ¬ q.O tb ∧
  w.cell? ⟨tb, o + n * 3, none⟩ = some (.string t.name) ∧ w.cell? ⟨tb, o + n * 3 + 1, none⟩ = some (.string t.cmd) ∧ w.cell? ⟨tb, o + n * 3 + 2, none⟩ = some t.nv := by
 obtain ⟨A, c, hv, _, _, _, _, hc⟩ := (h.tg g hg).1
 obtain ⟨⟨tb, o, sp⟩, rfl, hsp, hlt, hD, hcell⟩ := hc (by omega)
 dsimp only at hsp hlt hD hcell
 subst hsp
 have hx : g.ts[n]? = some g.ts[n] := List.getElem?_eq_getElem hn
 obtain ⟨c0, c1, c2⟩ := tgs_at (Keep.refl noneOf w) hlt hcell hx
 exact ⟨_, tb, o, c, hx, hv, hD.1, hD.2, c0, c1, c2⟩
theorem name_at {g : Gm} {n : Nat} {t : Tg} (h : g.ts[n]? = some t) : g.plain.name n = t.name := by
 unfold Gq.name
 rw [show g.plain.ps[n]? = some t.plain from by show (g.ts.map Tg.plain)[n]? = _; rw [List.getElem?_map, h]; rfl]
 rfl
theorem cmd_at {g : Gm} {n : Nat} {t : Tg} (h : g.ts[n]? = some t) : g.plain.cmd n = t.cmd := by
 unfold Gq.cmd
 rw [show g.plain.ps[n]? = some t.plain from by show (g.ts.map Tg.plain)[n]? = _; rw [List.getElem?_map, h]; rfl]
 rfl
set_option maxRecDepth 100000 in
set_option maxHeartbeats 4000000 in
set_option linter.unusedSimpArgs false in
theorem qrenew_any (w : World) (D : Nat → Prop) (q : Qm) (h : QAt w D q) (hi : Inv q.plain) (c : Cm) (ht : 0 ≤ c.tok) :
  Calls Tryz.prog 60 #[.pointer (some ⟨q.p, 0, none⟩), c.agg] w (Does q D (renewP q.plain c.plain) w) := by
 have HB := Lib.hid (busy_begin h c)
 have HI := Lib.hid hi
 have HT := Lib.hid ht
 unfold Cm.agg
 generalize hR : renewP q.plain c.plain = R
 have HR := Lib.hid hR
 clear h hi hR ht
 go_enter Tryz.func60, Tryz.ntmps60
 go_upto_region 1 with fail
 generalize (w.alloc (.cells #[.int .i64 c.kind, .int .u64 c.ses, .int .u64 c.seq, c.gv, .int .u64 c.id, .int .u64 c.tok, .bool c.good, .int .u64 c.time] 37)).alloc (.cells #[.int .i64 0, .int .u64 0, .int .u64 0, .int .u64 0, .string ⟨#[]⟩, .string ⟨#[]⟩] 40) = w1 at *
 generalize w.heap.size + 1 = a at *
 generalize hcb : w.heap.size = cb at *
 have HCB := Lib.hid hcb
 clear hcb
 obtain ⟨B, M⟩ := HB.out
 have m5 : w1.cell? ⟨cb, 5, none⟩ = some (.int .u64 c.tok) := M.cm.cell 5
 have HD := Lib.hid (qheld_any w1 D q B.at_ c.tok HT.out)
 clear B M
 go_wp2_with fail
 refine HD.out.mono ?_
 rintro e w2 ⟨k2, hd⟩
 have HB2 := Lib.hid (HB.out.1.stay k2)
 have HM2 := Lib.hid (HB.out.2.stay k2)
 clear HD HB k2 m5
 rcases hd with ⟨hh, rfl⟩ | ⟨i, n, g0, cap, hh, hgv, rfl⟩
 ·
  have hr : R = (q.plain, An.err 100) := by
   rw [← HR.out]
   unfold renewP
   rw [show c.plain.tok = c.tok from rfl, hh]
  subst hr
  clear HR hh
  have RF := Lib.hid (refusal_lit w2 100)
  go_wp2_with fail
  refine RF.out.mono ?_
  rintro e w8 ⟨rfl, k8⟩
  have HB8 := Lib.hid (HB2.out.stay k8)
  obtain ⟨c0, c1, c2, c3, c4, c5⟩ := HB8.out.an.six
  obtain ⟨f0, f1, f2, f3, f4, f5⟩ := HB8.out.an.free6
  clear RF k8
  go_wp2
  have hbx := (HB8.out.box ⟨100, 0, 0, 0, ⟨#[]⟩, ⟨#[]⟩⟩)
  have hd := (HB8.out.does ⟨100, 0, 0, 0, ⟨#[]⟩, ⟨#[]⟩⟩)
  dsimp only [sixPut] at hbx hd
  generalize ((((((w8.setCell ⟨a, 0, none⟩ (.int .i64 (100))).setCell ⟨a, 1, none⟩ (.int .u64 (0))).setCell ⟨a, 2, none⟩ (.int .u64 (0))).setCell ⟨a, 3, none⟩ (.int .u64 (0))).setCell ⟨a, 4, none⟩ (.string ⟨#[]⟩)).setCell ⟨a, 5, none⟩ (.string ⟨#[]⟩)) = wf at hbx hd ⊢
  obtain ⟨r0, r1, r2, r3, r4, r5⟩ := hbx.six
  exact bodyPost_ret (v := An.agg ⟨100, 0, 0, 0, ⟨#[]⟩, ⟨#[]⟩⟩) (by simp [results, Tryz.results60, go_sem, An.agg, r0, r1, r2, r3, r4, r5]) rfl hd
 ·
  obtain ⟨gq, x, hgq, hx, hb⟩ := held_some hh
  obtain ⟨g, hg, rfl⟩ := gm_of hgq
  have hx' : g.st[n]? = some x := hx
  have HG := Lib.hid hg
  have HX := Lib.hid hx'
  have HHB := Lib.hid hb
  have HGV := Lib.hid hgv
  have HRR : Hid (R = if (renewed x c.tok q.now).2 ≠ 0 then (q.plain, An.err (renewed x c.tok q.now).2) else (withG q.plain i (g.st.set n (renewed x c.tok q.now).1), ⟨0, g.id, (renewed x c.tok q.now).1.t, (renewed x c.tok q.now).1.u, g.plain.name n, ⟨#[]⟩⟩)) := Lib.hid (by
   rw [← HR.out]
   unfold renewP
   rw [show c.plain.tok = c.tok from rfl, hh]
   dsimp only
   rw [getD_some hgq, getS_some hx]
   rfl)
  clear HR hh hgq hx hb
  have HRN := Lib.hid (fun w' => renew_any w' x c.tok q.now HT.out HI.out.now0.1)
  generalize hrn : renewed x c.tok q.now = rn at *
  have HRNE := Lib.hid hrn
  clear hrn
  obtain ⟨⟨ys, yt, yu⟩, E⟩ := rn
  dsimp only at HRR HRN
  unfold Pst.agg at HRN
  dsimp only at HRN
  obtain ⟨sx, cs, hsv, _, _⟩ := HB2.out.at_.state (List.mem_of_getElem? hg) hx'
  have HSV := Lib.hid hsv
  have hn3 := (List.getElem?_eq_some_iff.1 hx').1
  have q0 : (0 : Int) ≤ (n : Int) := by omega
  have q1 : (n : Int) < (g.st.length : Int) := by omega
  have MC : Hid (∀ w', Keep noneOf w2 w' → w'.cell? ⟨q.p, 0, none⟩ = some (.int .u64 q.now) ∧ w'.cell? ⟨cb, 5, none⟩ = some (.int .u64 c.tok) ∧ w'.cell? ⟨g0, i * 3 + 2, none⟩ = some (.slice (some ⟨sx, 0, none⟩) g.st.length cs) ∧ w'.cell? ⟨sx, n * 3, none⟩ = some (.int .i64 x.s) ∧ w'.cell? ⟨sx, n * 3 + 1, none⟩ = some (.int .u64 x.t) ∧ w'.cell? ⟨sx, n * 3 + 2, none⟩ = some (.int .u64 x.u)) := Lib.hid fun w' k' => by
   have B := HB2.out.stay k'
   have M := HM2.out.stay k'
   obtain ⟨g9, cap9, e9, _, _, _, _, _, y2, _⟩ := B.at_.rows HG.out
   rw [HGV.out] at e9
   obtain ⟨rfl, rfl⟩ : g0 = g9 ∧ cap = cap9 := by simpa using e9
   obtain ⟨sx2, cs2, hsv2, _, hc, _⟩ := B.at_.state (List.mem_of_getElem? HG.out) HX.out
   rw [HSV.out] at hsv2 y2
   obtain ⟨rfl, rfl⟩ : sx = sx2 ∧ cs = cs2 := by simpa using hsv2
   exact ⟨B.at_.box.cell 0, M.cm.cell 5, y2, hc⟩
  have K2 := Keep.refl noneOf w2
  clear hg hx' hsv hgv hn3
  go_upto_region 4 with fail
  go_cut [8, 9] (fun s e wx => ∃ sb, s = .pointer (some ⟨sb, 0, none⟩) ∧ e = .int .i64 E ∧ Keep noneOf w2 wx ∧ w2.heap.size ≤ sb ∧ Box wx sb 61 #[.int .i64 ys, .int .u64 yt, .int .u64 yu])
  case first =>
   refine wp_region_held_drew (S := fun w' => Keep noneOf w2 w') (by kernel_rfl) (K2.drew) (fun hHeld => ?_)
   refine' ztk 0 _ rfl (.inl ⟨by kernel_rfl, ?hy0⟩) ?_
   case hy0 => intro w' hSw; obtain ⟨_, _, _, _, _, _⟩ := MC.out w' hSw; go_simp; try with_reducible rfl
   simp only [Act.put, zga, zgb, zgc, zgd, zge, zgf]
   refine' ztk 1 _ rfl (.inl ⟨by kernel_rfl, ?hy1⟩) ?_
   case hy1 => intro w' hSw; obtain ⟨_, _, _, _, _, _⟩ := MC.out w' hSw; go_simp; try with_reducible rfl
   simp only [Act.put, zga, zgb, zgc, zgd, zge, zgf]
   refine' ztk 2 _ rfl (.inl ⟨by kernel_rfl, ?hy2⟩) ?_
   case hy2 => intro w' hSw; obtain ⟨_, _, _, _, _, _⟩ := MC.out w' hSw; go_simp; try with_reducible rfl
   simp only [Act.put, zga, zgb, zgc, zgd, zge, zgf]
   refine' ztk 3 _ rfl (.inl ⟨by kernel_rfl, ?hy3⟩) ?_
   case hy3 => intro w' hSw; obtain ⟨_, _, _, _, _, _⟩ := MC.out w' hSw; go_simp; try with_reducible rfl
   simp only [Act.put, zga, zgb, zgc, zgd, zge, zgf]
   refine' ztk 4 _ rfl (.inl ⟨by kernel_rfl, ?hy4⟩) ?_
   case hy4 => intro w' hSw; obtain ⟨_, _, _, _, _, _⟩ := MC.out w' hSw; go_simp; try with_reducible rfl
   simp only [Act.put, zga, zgb, zgc, zgd, zge, zgf]
   refine' ztk 5 _ rfl (.inl ⟨by kernel_rfl, ?hy5⟩) ?_
   case hy5 => intro w' hSw; obtain ⟨_, _, _, _, _, _⟩ := MC.out w' hSw; go_simp; try with_reducible rfl
   simp only [Act.put, zga, zgb, zgc, zgd, zge, zgf]
   refine' ztk 6 _ rfl (.inl ⟨by kernel_rfl, ?hy6⟩) ?_
   case hy6 => intro w' hSw; obtain ⟨_, _, _, _, _, _⟩ := MC.out w' hSw; go_simp; try with_reducible rfl
   simp only [Act.put, zga, zgb, zgc, zgd, zge, zgf]
   refine' ztk 7 _ rfl (.inl ⟨by kernel_rfl, ?hy7⟩) ?_
   case hy7 => intro w' hSw; obtain ⟨_, _, _, _, _, _⟩ := MC.out w' hSw; go_simp; try with_reducible rfl
   simp only [Act.put, zga, zgb, zgc, zgd, zge, zgf]
   refine' ztk 8 _ rfl (.inl ⟨by kernel_rfl, ?hy8⟩) ?_
   case hy8 => intro w' hSw; obtain ⟨_, _, _, _, _, _⟩ := MC.out w' hSw; go_simp; try with_reducible rfl
   simp only [Act.put, zga, zgb, zgc, zgd, zge, zgf]
   refine' ztk 9 _ rfl (.inl ⟨by kernel_rfl, ?hy9⟩) ?_
   case hy9 => intro w' hSw; obtain ⟨_, _, _, _, _, _⟩ := MC.out w' hSw; go_simp; try with_reducible rfl
   simp only [Act.put, zga, zgb, zgc, zgd, zge, zgf]
   refine' ztk 10 _ rfl (.inl ⟨by kernel_rfl, ?hy10⟩) ?_
   case hy10 => intro w' hSw; obtain ⟨_, _, _, _, _, _⟩ := MC.out w' hSw; go_simp; try with_reducible rfl
   simp only [Act.put, zga, zgb, zgc, zgd, zge, zgf]
   refine' ztk 11 _ rfl (.inl ⟨by kernel_rfl, ?hy11⟩) ?_
   case hy11 => intro w' hSw; obtain ⟨_, _, _, _, _, _⟩ := MC.out w' hSw; go_simp; try with_reducible rfl
   simp only [Act.put, zga, zgb, zgc, zgd, zge, zgf]
   refine' ztk 12 _ rfl (.inl ⟨by kernel_rfl, ?hy12⟩) ?_
   case hy12 => intro w' hSw; obtain ⟨_, _, _, _, _, _⟩ := MC.out w' hSw; go_simp; try with_reducible rfl
   simp only [Act.put, zga, zgb, zgc, zgd, zge, zgf]
   refine wpAnyH_ready (rs := [13, 17]) (by kernel_rfl) (by simp) (AllReadyH.cons rfl (fun K hK => ?_) (AllReadyH.cons rfl (fun K hK => ?_) AllReadyH.nil))
   ·
    go_simp
    go_at_call 105
    refine (HRN.out _).mono ?_
    rintro e w5 ⟨rfl, k5⟩
    go_wp2_with fail
    have K5 : Keep noneOf w2 w5 := K2.drew.trans k5 (fun _ _ h => h)
    refine hK.out _ _ (K5) (fun hHeld => ?_)
    clear hK K
    try simp only [Act.put, zga, zgb, zgc, zgd, zge, zgf]
    refine' ztk 14 _ rfl (.inl ⟨by kernel_rfl, ?hy14⟩) ?_
    case hy14 => intro w' hSw; obtain ⟨_, _, _, _, _, _⟩ := MC.out w' hSw; go_simp; try with_reducible rfl
    simp only [Act.put, zga, zgb, zgc, zgd, zge, zgf]
    refine' ztk 15 _ rfl (.inl ⟨by kernel_rfl, ?hy15⟩) ?_
    case hy15 => intro w' hSw; obtain ⟨_, _, _, _, _, _⟩ := MC.out w' hSw; go_simp; try with_reducible rfl
    simp only [Act.put, zga, zgb, zgc, zgd, zge, zgf]
    refine' ztk 16 _ rfl (.inl ⟨by kernel_rfl, ?hy16⟩) ?_
    case hy16 => intro w' hSw; obtain ⟨_, _, _, _, _, _⟩ := MC.out w' hSw; go_simp; try with_reducible rfl
    simp only [Act.put, zga, zgb, zgc, zgd, zge, zgf]
    refine wpAnyH_ready (rs := [17]) (by kernel_rfl) (by simp) (AllReadyH.cons rfl (fun K hK => ?_) AllReadyH.nil)
    go_simp
    refine hK.out _ _ (K5.alloc _) (fun hHeld => ?_)
    clear hK K
    try simp only [Act.put, zga, zgb, zgc, zgd, zge, zgf]
    have hb0 := Box.new w5 61 #[.int .i64 0, .int .u64 0, .int .u64 0]
    refine wpAnyH_ready (rs := [18]) (by kernel_rfl) (by simp) (AllReadyH.cons rfl (fun K hK => ?_) AllReadyH.nil)
    go_simp
    have hk6 : Keep noneOf w2 (w5.alloc (.cells #[.int .i64 ys, .int .u64 yt, .int .u64 yu] 61)) := K5.alloc _
    have hb6 := Box.new w5 61 #[.int .i64 ys, .int .u64 yt, .int .u64 yu]
    have hs6 := K5.size
    refine hK.out _ _ (hk6) (fun hHeld => ?_)
    clear hK K
    try simp only [Act.put, zga, zgb, zgc, zgd, zge, zgf]
    refine' ztk 19 _ rfl (.inl ⟨by kernel_rfl, ?hy19⟩) ?_
    case hy19 => intro w' hSw; obtain ⟨_, _, _, _, _, _⟩ := MC.out w' hSw; go_simp; try with_reducible rfl
    simp only [Act.put, zga, zgb, zgc, zgd, zge, zgf]
    refine wpAnyH_done (by kernel_rfl) ?_ _
    go_wp2_with fail
    go_meet
    exact ⟨_, rfl, rfl, hk6, hs6, hb6⟩
   ·
    go_simp
    refine hK.out _ _ (K2.drew.alloc _) (fun hHeld => ?_)
    clear hK K
    try simp only [Act.put, zga, zgb, zgc, zgd, zge, zgf]
    have hb0 := Box.new w2 61 #[.int .i64 0, .int .u64 0, .int .u64 0]
    refine wpAnyH_ready (rs := [13]) (by kernel_rfl) (by simp) (AllReadyH.cons rfl (fun K hK => ?_) AllReadyH.nil)
    go_simp
    go_at_call 105
    refine (HRN.out _).mono ?_
    rintro e w5 ⟨rfl, k5⟩
    go_wp2_with fail
    have K5 : Keep noneOf w2 w5 := (K2.alloc _).drew.trans k5 (fun _ _ h => h)
    have hb5 : Box w5 w2.heap.size 61 #[.int .i64 0, .int .u64 0, .int .u64 0] := hb0.drew.keep k5 id
    obtain ⟨y0, y1, y2⟩ := hb5.three
    have z0 := hb5.free 0
    have z1 := hb5.free 1
    have z2 := hb5.free 2
    refine hK.out _ _ (K5) (fun hHeld => ?_)
    clear hK K
    try simp only [Act.put, zga, zgb, zgc, zgd, zge, zgf]
    refine' ztk 14 _ rfl (.inl ⟨by kernel_rfl, ?hy14⟩) ?_
    case hy14 => intro w' hSw; obtain ⟨_, _, _, _, _, _⟩ := MC.out w' hSw; go_simp; try with_reducible rfl
    simp only [Act.put, zga, zgb, zgc, zgd, zge, zgf]
    refine' ztk 15 _ rfl (.inl ⟨by kernel_rfl, ?hy15⟩) ?_
    case hy15 => intro w' hSw; obtain ⟨_, _, _, _, _, _⟩ := MC.out w' hSw; go_simp; try with_reducible rfl
    simp only [Act.put, zga, zgb, zgc, zgd, zge, zgf]
    refine' ztk 16 _ rfl (.inl ⟨by kernel_rfl, ?hy16⟩) ?_
    case hy16 => intro w' hSw; obtain ⟨_, _, _, _, _, _⟩ := MC.out w' hSw; go_simp; try with_reducible rfl
    simp only [Act.put, zga, zgb, zgc, zgd, zge, zgf]
    refine wpAnyH_ready (rs := [18]) (by kernel_rfl) (by simp) (AllReadyH.cons rfl (fun K hK => ?_) AllReadyH.nil)
    go_simp
    have hk6 := K5.put3 (g := w2.heap.size) (Nat.le_refl _) (.int .i64 ys) (.int .u64 yt) (.int .u64 yu)
    have hb6 := hb5.put3 (.int .i64 ys) (.int .u64 yt) (.int .u64 yu)
    refine hK.out _ _ (hk6) (fun hHeld => ?_)
    clear hK K
    try simp only [Act.put, zga, zgb, zgc, zgd, zge, zgf]
    refine' ztk 19 _ rfl (.inl ⟨by kernel_rfl, ?hy19⟩) ?_
    case hy19 => intro w' hSw; obtain ⟨_, _, _, _, _, _⟩ := MC.out w' hSw; go_simp; try with_reducible rfl
    simp only [Act.put, zga, zgb, zgc, zgd, zge, zgf]
    refine wpAnyH_done (by kernel_rfl) ?_ _
    go_wp2_with fail
    go_meet
    exact ⟨_, rfl, rfl, hk6, Nat.le_refl _, hb6⟩
  case rest =>
   obtain ⟨sb, rfl, rfl, kc, hsb, hbx⟩ := hcut
   have HBC := Lib.hid (HB2.out.stay kc)
   have HMC := Lib.hid (HM2.out.stay kc)
   have HBX := Lib.hid hbx
   have hsbn : sb ≠ a ∧ sb ≠ cb ∧ ¬ D sb ∧ w.heap.size ≤ sb := by
    have h1 := HB2.out.an.lt
    have h2 := HM2.out.cm.lt
    have h3 := HB2.out.keep.size
    exact ⟨by omega, by omega, fun e => by have := HB2.out.at_.lt _ e; omega, by omega⟩
   have HNB := Lib.hid hsbn
   clear kc hsb hbx hsbn MC K2 HRN HB2 HM2
   by_cases hE : E = 0
   ·
    subst hE
    have HRQ : Hid (R = (withG q.plain i (g.st.set n ⟨ys, yt, yu⟩), ⟨0, g.id, yt, yu, g.plain.name n, ⟨#[]⟩⟩)) := Lib.hid (by
     have := HRR.out
     rw [if_neg (by decide)] at this
     exact this)
    have hB := HBC.out
    have hM := HMC.out
    obtain ⟨sx2, cs2, hsv2, hsxD, ⟨y0, y1, y2⟩, z0, z1, z2⟩ := hB.at_.state (List.mem_of_getElem? HG.out) HX.out
    rw [HSV.out] at hsv2
    obtain ⟨rfl, rfl⟩ : sx = sx2 ∧ cs = cs2 := by simpa using hsv2
    have hsxg : sx ≠ g0 := fun e => hB.at_.s_ne_g (List.mem_of_getElem? HG.out) sx (by rw [HSV.out]; rfl) (by rw [HGV.out, e]; rfl)
    have MC : Hid (∀ w', Keep (fun b => b = sx) wc w' → w'.cell? ⟨g0, i * 3 + 2, none⟩ = some (.slice (some ⟨sx, 0, none⟩) g.st.length cs) ∧ w'.cell? ⟨sb, 0, none⟩ = some (.int .i64 ys) ∧ w'.cell? ⟨sb, 1, none⟩ = some (.int .u64 yt) ∧ w'.cell? ⟨sb, 2, none⟩ = some (.int .u64 yu)) := Lib.hid fun w' k' => by
     obtain ⟨g9, cap9, e9, _, hlt, _, _, _, x2, _⟩ := hB.at_.rows HG.out
     rw [HGV.out] at e9
     obtain ⟨rfl, rfl⟩ : g0 = g9 ∧ cap = cap9 := by simpa using e9
     rw [HSV.out] at x2
     exact ⟨(k'.cell (p := ⟨g0, i * 3 + 2, none⟩) hlt (fun e => hsxg e.symm)).trans x2, (HBX.out.keep k' (fun e => HNB.out.2.2.1 (e ▸ hsxD))).three⟩
    have hn3 := (List.getElem?_eq_some_iff.1 HX.out).1
    have KP := keep_three wc sx (n * 3) (.int .i64 ys) (.int .u64 yt) (.int .u64 yu)
    have FIN : Hid (Busy w (threePut wc sx (n * 3) (.int .i64 ys) (.int .u64 yt) (.int .u64 yu)).drew D D q { q with gs := q.gs.set i { g with st := g.st.set n ⟨ys, yt, yu⟩ } } a ∧ CmAt w (threePut wc sx (n * 3) (.int .i64 ys) (.int .u64 yt) (.int .u64 yu)).drew D a cb c ∧ Box (threePut wc sx (n * 3) (.int .i64 ys) (.int .u64 yt) (.int .u64 yu)).drew sb 61 #[.int .i64 ys, .int .u64 yt, .int .u64 yu]) := Lib.hid (by
     have hs : ∀ j, j = sx → D j := fun j e => e ▸ hsxD
     exact ⟨hB.turn KP.drew hs ((hB.at_.putState HG.out HSV.out hn3 ⟨ys, yt, yu⟩).stay ((Keep.refl noneOf _).drew)) rfl (fun _ h => h) (fun _ h => .inl h), hM.turn KP.drew hs (fun _ h => .inl h), HBX.out.keep KP.drew (fun e => HNB.out.2.2.1 (e ▸ hsxD))⟩)
    have KR := (Keep.refl (fun b => b = sx) wc).drew
    have q2 : (n : Int) < (g.st.length : Int) := by omega
    clear hB hM hsv2
    go_upto_region 7 with fail
    refine wp_region_held_drew (S := fun w' => Keep (fun b => b = sx) wc w') (by kernel_rfl) (KR) (fun hHeld => ?_)
    refine' ztk 0 _ rfl (.inl ⟨by kernel_rfl, ?hy0⟩) ?_
    case hy0 => intro w' hSw; obtain ⟨_, _, _, _⟩ := MC.out w' hSw; go_simp; try with_reducible rfl
    simp only [Act.put, zga, zgb, zgc, zgd, zge, zgf]
    refine' ztk 1 _ rfl (.inl ⟨by kernel_rfl, ?hy1⟩) ?_
    case hy1 => intro w' hSw; obtain ⟨_, _, _, _⟩ := MC.out w' hSw; go_simp; try with_reducible rfl
    simp only [Act.put, zga, zgb, zgc, zgd, zge, zgf]
    refine' ztk 2 _ rfl (.inl ⟨by kernel_rfl, ?hy2⟩) ?_
    case hy2 => intro w' hSw; obtain ⟨_, _, _, _⟩ := MC.out w' hSw; go_simp; try with_reducible rfl
    simp only [Act.put, zga, zgb, zgc, zgd, zge, zgf]
    refine' ztk 3 _ rfl (.inl ⟨by kernel_rfl, ?hy3⟩) ?_
    case hy3 => intro w' hSw; obtain ⟨_, _, _, _⟩ := MC.out w' hSw; go_simp; try with_reducible rfl
    simp only [Act.put, zga, zgb, zgc, zgd, zge, zgf]
    refine' ztk 4 _ rfl (.inl ⟨by kernel_rfl, ?hy4⟩) ?_
    case hy4 => intro w' hSw; obtain ⟨_, _, _, _⟩ := MC.out w' hSw; go_simp; try with_reducible rfl
    simp only [Act.put, zga, zgb, zgc, zgd, zge, zgf]
    refine' ztk 5 _ rfl (.inl ⟨by kernel_rfl, ?hy5⟩) ?_
    case hy5 => intro w' hSw; obtain ⟨_, _, _, _⟩ := MC.out w' hSw; go_simp; try with_reducible rfl
    simp only [Act.put, zga, zgb, zgc, zgd, zge, zgf]
    refine' ztk 6 _ rfl (.inl ⟨by kernel_rfl, ?hy6⟩) ?_
    case hy6 => intro w' hSw; obtain ⟨_, _, _, _⟩ := MC.out w' hSw; go_simp; try with_reducible rfl
    simp only [Act.put, zga, zgb, zgc, zgd, zge, zgf]
    refine wpAnyH_ready (rs := [7]) (by kernel_rfl) (by simp) (AllReadyH.cons rfl (fun K hK => ?_) AllReadyH.nil)
    go_simp
    refine hK.out _ _ (KP.drew) (fun hHeld => ?_)
    clear hK K
    try simp only [Act.put, zga, zgb, zgc, zgd, zge, zgf]
    refine wpAnyH_done (by kernel_rfl) ?_ _
    have FO := FIN.out
    unfold threePut at FO
    generalize (((wc.setCell ⟨sx, n * 3, none⟩ (.int .i64 ys)).setCell ⟨sx, n * 3 + 1, none⟩ (.int .u64 yt)).setCell ⟨sx, n * 3 + 2, none⟩ (.int .u64 yu)).drew = wd at *
    obtain ⟨hBd, hMd, hXd⟩ := FO
    have HBD := Lib.hid hBd
    have HXD := Lib.hid hXd
    have hg' : ({ q with gs := q.gs.set i { g with st := g.st.set n ⟨ys, yt, yu⟩ } } : Qm).gs[i]? = some { g with st := g.st.set n ⟨ys, yt, yu⟩ } := by
     show (q.gs.set i _)[i]? = _
     rw [List.getElem?_set_self (List.getElem?_eq_some_iff.1 HG.out).1]
    have htn : n < g.ts.length := by have := (inv_few HI.out (List.mem_of_getElem? HG.out)).2.2.2; omega
    obtain ⟨g9, cap9, e9, hgD, hglt, _, x0, x1, _, _⟩ := hBd.at_.rows hg'
    have e10 : q.gv = .slice (some ⟨g9, 0, none⟩) (q.gs.set i { g with st := g.st.set n ⟨ys, yt, yu⟩ }).length cap9 := e9
    rw [HGV.out, List.length_set] at e10
    obtain ⟨rfl, rfl⟩ : g0 = g9 ∧ cap = cap9 := by simpa using e10
    obtain ⟨t, tb, o, tc, ht, htv, htD, _, t0, _, _⟩ := hBd.at_.target (List.mem_of_getElem? hg') (n := n) htn
    have htv' : g.gv = .slice (some ⟨tb, o, none⟩) g.ts.length tc := htv
    have x1' : wd.cell? ⟨g0, i * 3 + 1, none⟩ = some g.gv := x1
    rw [htv'] at x1'
    have x0' : wd.cell? ⟨g0, i * 3, none⟩ = some (.int .u64 g.id) := x0
    have hna := hBd.na.2
    have htb := block_of_cell t0
    have HNM := Lib.hid (name_at (show g.ts[n]? = some t from ht))
    have MC : Hid (∀ w', Keep (fun b => b = a) wd w' → w'.cell? ⟨g0, i * 3, none⟩ = some (.int .u64 g.id) ∧ w'.cell? ⟨sb, 1, none⟩ = some (.int .u64 yt) ∧ w'.cell? ⟨sb, 2, none⟩ = some (.int .u64 yu) ∧ w'.cell? ⟨g0, i * 3 + 1, none⟩ = some (.slice (some ⟨tb, o, none⟩) g.ts.length tc) ∧ w'.cell? ⟨tb, o + n * 3, none⟩ = some (.string t.name)) := Lib.hid fun w' k' =>
     ⟨(k'.cell (p := ⟨g0, i * 3, none⟩) hglt (fun e => hna (e ▸ hgD))).trans x0', ((HXD.out.keep k' HNB.out.1).three).2.1, ((HXD.out.keep k' HNB.out.1).three).2.2, (k'.cell (p := ⟨g0, i * 3 + 1, none⟩) hglt (fun e => hna (e ▸ hgD))).trans x1', (k'.cell (p := ⟨tb, o + n * 3, none⟩) htb (fun e => hna (e ▸ htD))).trans t0⟩
    have KR2 := (Keep.refl (fun b => b = a) wd).drew
    obtain ⟨c0, c1, c2, c3, c4, c5⟩ := hBd.an.six
    obtain ⟨f0, f1, f2, f3, f4, f5⟩ := hBd.an.free6
    have q3 : (n : Int) < (g.ts.length : Int) := by omega
    have KF := ((Keep.refl (fun b => b = a) wd).put6 (b := a) (fun _ => rfl) (.int .i64 0) (.int .u64 g.id) (.int .u64 yt) (.int .u64 yu) (.string t.name) (.string ⟨#[]⟩)).drew
    clear hBd hMd hXd e9 e10 ht htv htv' x1 x0 x1' x0' t0 hna htb hglt hgD htD htn KP KR FIN
    go_upto_region 8 with fail
    refine wp_region_held_drew (S := fun w' => Keep (fun b => b = a) wd w') (by kernel_rfl) (KR2) (fun hHeld => ?_)
    refine' ztk 0 _ rfl (.inl ⟨by kernel_rfl, ?hy0⟩) ?_
    case hy0 => intro w' hSw; obtain ⟨_, _, _, _, _⟩ := MC.out w' hSw; go_simp; try with_reducible rfl
    simp only [Act.put, zga, zgb, zgc, zgd, zge, zgf]
    refine' ztk 1 _ rfl (.inl ⟨by kernel_rfl, ?hy1⟩) ?_
    case hy1 => intro w' hSw; obtain ⟨_, _, _, _, _⟩ := MC.out w' hSw; go_simp; try with_reducible rfl
    simp only [Act.put, zga, zgb, zgc, zgd, zge, zgf]
    refine' ztk 2 _ rfl (.inl ⟨by kernel_rfl, ?hy2⟩) ?_
    case hy2 => intro w' hSw; obtain ⟨_, _, _, _, _⟩ := MC.out w' hSw; go_simp; try with_reducible rfl
    simp only [Act.put, zga, zgb, zgc, zgd, zge, zgf]
    refine' ztk 3 _ rfl (.inl ⟨by kernel_rfl, ?hy3⟩) ?_
    case hy3 => intro w' hSw; obtain ⟨_, _, _, _, _⟩ := MC.out w' hSw; go_simp; try with_reducible rfl
    simp only [Act.put, zga, zgb, zgc, zgd, zge, zgf]
    refine' ztk 4 _ rfl (.inl ⟨by kernel_rfl, ?hy4⟩) ?_
    case hy4 => intro w' hSw; obtain ⟨_, _, _, _, _⟩ := MC.out w' hSw; go_simp; try with_reducible rfl
    simp only [Act.put, zga, zgb, zgc, zgd, zge, zgf]
    refine' ztk 5 _ rfl (.inl ⟨by kernel_rfl, ?hy5⟩) ?_
    case hy5 => intro w' hSw; obtain ⟨_, _, _, _, _⟩ := MC.out w' hSw; go_simp; try with_reducible rfl
    simp only [Act.put, zga, zgb, zgc, zgd, zge, zgf]
    refine' ztk 6 _ rfl (.inl ⟨by kernel_rfl, ?hy6⟩) ?_
    case hy6 => intro w' hSw; obtain ⟨_, _, _, _, _⟩ := MC.out w' hSw; go_simp; try with_reducible rfl
    simp only [Act.put, zga, zgb, zgc, zgd, zge, zgf]
    refine' ztk 7 _ rfl (.inl ⟨by kernel_rfl, ?hy7⟩) ?_
    case hy7 => intro w' hSw; obtain ⟨_, _, _, _, _⟩ := MC.out w' hSw; go_simp; try with_reducible rfl
    simp only [Act.put, zga, zgb, zgc, zgd, zge, zgf]
    refine' ztk 8 _ rfl (.inl ⟨by kernel_rfl, ?hy8⟩) ?_
    case hy8 => intro w' hSw; obtain ⟨_, _, _, _, _⟩ := MC.out w' hSw; go_simp; try with_reducible rfl
    simp only [Act.put, zga, zgb, zgc, zgd, zge, zgf]
    refine' ztk 9 _ rfl (.inl ⟨by kernel_rfl, ?hy9⟩) ?_
    case hy9 => intro w' hSw; obtain ⟨_, _, _, _, _⟩ := MC.out w' hSw; go_simp; try with_reducible rfl
    simp only [Act.put, zga, zgb, zgc, zgd, zge, zgf]
    refine' ztk 10 _ rfl (.inl ⟨by kernel_rfl, ?hy10⟩) ?_
    case hy10 => intro w' hSw; obtain ⟨_, _, _, _, _⟩ := MC.out w' hSw; go_simp; try with_reducible rfl
    simp only [Act.put, zga, zgb, zgc, zgd, zge, zgf]
    refine' ztk 11 _ rfl (.inl ⟨by kernel_rfl, ?hy11⟩) ?_
    case hy11 => intro w' hSw; obtain ⟨_, _, _, _, _⟩ := MC.out w' hSw; go_simp; try with_reducible rfl
    simp only [Act.put, zga, zgb, zgc, zgd, zge, zgf]
    refine' ztk 12 _ rfl (.inl ⟨by kernel_rfl, ?hy12⟩) ?_
    case hy12 => intro w' hSw; obtain ⟨_, _, _, _, _⟩ := MC.out w' hSw; go_simp; try with_reducible rfl
    simp only [Act.put, zga, zgb, zgc, zgd, zge, zgf]
    refine' ztk 13 _ rfl (.inl ⟨by kernel_rfl, ?hy13⟩) ?_
    case hy13 => intro w' hSw; obtain ⟨_, _, _, _, _⟩ := MC.out w' hSw; go_simp; try with_reducible rfl
    simp only [Act.put, zga, zgb, zgc, zgd, zge, zgf]
    refine' ztk 14 _ rfl (.inl ⟨by kernel_rfl, ?hy14⟩) ?_
    case hy14 => intro w' hSw; obtain ⟨_, _, _, _, _⟩ := MC.out w' hSw; go_simp; try with_reducible rfl
    simp only [Act.put, zga, zgb, zgc, zgd, zge, zgf]
    refine' ztk 15 _ rfl (.inl ⟨by kernel_rfl, ?hy15⟩) ?_
    case hy15 => intro w' hSw; obtain ⟨_, _, _, _, _⟩ := MC.out w' hSw; go_simp; try with_reducible rfl
    simp only [Act.put, zga, zgb, zgc, zgd, zge, zgf]
    refine' ztk 16 _ rfl (.inl ⟨by kernel_rfl, ?hy16⟩) ?_
    case hy16 => intro w' hSw; obtain ⟨_, _, _, _, _⟩ := MC.out w' hSw; go_simp; try with_reducible rfl
    simp only [Act.put, zga, zgb, zgc, zgd, zge, zgf]
    refine' ztk 17 _ rfl (.inl ⟨by kernel_rfl, ?hy17⟩) ?_
    case hy17 => intro w' hSw; obtain ⟨_, _, _, _, _⟩ := MC.out w' hSw; go_simp; try with_reducible rfl
    simp only [Act.put, zga, zgb, zgc, zgd, zge, zgf]
    refine wpAnyH_ready (rs := [18]) (by kernel_rfl) (by simp) (AllReadyH.cons rfl (fun K hK => ?_) AllReadyH.nil)
    go_simp
    refine hK.out _ _ (KF) (fun hHeld => ?_)
    clear hK K
    try simp only [Act.put, zga, zgb, zgc, zgd, zge, zgf]
    refine wpAnyH_done (by kernel_rfl) ?_ _
    clear KF KR2 MC c0 c1 c2 c3 c4 c5 f0 f1 f2 f3 f4 f5
    have hbx := (HBD.out.box ⟨0, g.id, yt, yu, t.name, ⟨#[]⟩⟩).drew
    have hd := (HBD.out.does ⟨0, g.id, yt, yu, t.name, ⟨#[]⟩⟩).drew
    dsimp only [sixPut] at hbx hd
    generalize ((((((wd.setCell ⟨a, 0, none⟩ (.int .i64 (0))).setCell ⟨a, 1, none⟩ (.int .u64 (g.id))).setCell ⟨a, 2, none⟩ (.int .u64 (yt))).setCell ⟨a, 3, none⟩ (.int .u64 (yu))).setCell ⟨a, 4, none⟩ (.string t.name)).setCell ⟨a, 5, none⟩ (.string ⟨#[]⟩)).drew = wf at hbx hd ⊢
    obtain ⟨r0, r1, r2, r3, r4, r5⟩ := hbx.six
    have hpl : ({ q with gs := q.gs.set i { g with st := g.st.set n ⟨ys, yt, yu⟩ } } : Qm).plain = withG q.plain i (g.st.set n ⟨ys, yt, yu⟩) := by
     show Qp.mk q.now q.ng q.nt q.ses ((q.gs.set i _).map Gm.plain) q.built = _
     rw [show ({ g with st := g.st.set n ⟨ys, yt, yu⟩ } : Gm) = { g with sv := g.sv, st := g.st.set n ⟨ys, yt, yu⟩ } from rfl, gm_set HG.out]
     rfl
    rw [hpl] at hd
    go_wp2
    rw [HRQ.out, HNM.out]
    exact bodyPost_ret (v := An.agg ⟨0, g.id, yt, yu, t.name, ⟨#[]⟩⟩) (by simp [results, Tryz.results60, go_sem, An.agg, r0, r1, r2, r3, r4, r5]) rfl hd
   ·
    have hEn : (E == 0) = false := beq_eq_false_iff_ne.2 hE
    have HRQ : R = (q.plain, An.err E) := by
     have := HRR.out
     rw [if_pos hE] at this
     exact this
    subst HRQ
    clear HRR hE HRNE
    have RF := Lib.hid (refusal_lit wc E)
    go_wp2_with fail
    refine RF.out.mono ?_
    rintro e w8 ⟨rfl, k8⟩
    have HB8 := Lib.hid (HBC.out.stay k8)
    obtain ⟨c0, c1, c2, c3, c4, c5⟩ := HB8.out.an.six
    obtain ⟨f0, f1, f2, f3, f4, f5⟩ := HB8.out.an.free6
    clear RF k8
    go_wp2
    have hbx := (HB8.out.box ⟨E, 0, 0, 0, ⟨#[]⟩, ⟨#[]⟩⟩)
    have hd := (HB8.out.does ⟨E, 0, 0, 0, ⟨#[]⟩, ⟨#[]⟩⟩)
    dsimp only [sixPut] at hbx hd
    generalize ((((((w8.setCell ⟨a, 0, none⟩ (.int .i64 (E))).setCell ⟨a, 1, none⟩ (.int .u64 (0))).setCell ⟨a, 2, none⟩ (.int .u64 (0))).setCell ⟨a, 3, none⟩ (.int .u64 (0))).setCell ⟨a, 4, none⟩ (.string ⟨#[]⟩)).setCell ⟨a, 5, none⟩ (.string ⟨#[]⟩)) = wf at hbx hd ⊢
    obtain ⟨r0, r1, r2, r3, r4, r5⟩ := hbx.six
    exact bodyPost_ret (v := An.agg ⟨E, 0, 0, 0, ⟨#[]⟩, ⟨#[]⟩⟩) (by simp [results, Tryz.results60, go_sem, An.agg, r0, r1, r2, r3, r4, r5]) rfl hd
end Go.Proofs.YtffoeodjbbkdjaaGreat
