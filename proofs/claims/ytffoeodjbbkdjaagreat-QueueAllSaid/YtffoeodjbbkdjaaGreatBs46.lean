import Derived.Test.YtffoeodjbbkdjaaGreatBs01
import Derived.Test.YtffoeodjbbkdjaaGreatBs11
import Derived.Test.YtffoeodjbbkdjaaGreatBs45
namespace Go.Proofs.YtffoeodjbbkdjaaGreat
open Go.RowKit
def RefView (M : Nat → Prop) (r : Int × Int × List Pst) (w : World) (e : Ending) (w' : World) : Prop := ∃ A c, e = .returned (.agg #[.int .i64 r.1, .int .u64 r.2.1, .slice A r.2.2.length c]) ∧ Sts w' M (.slice A r.2.2.length c) r.2.2 ∧ Keep noneOf w w'
theorem two_new (w : World) (x y : Array Value) (t u : TypeId) : Keep noneOf w ((w.alloc (.cells x t)).alloc (.cells y u)) ∧ Box ((w.alloc (.cells x t)).alloc (.cells y u)) w.heap.size t x ∧ Box ((w.alloc (.cells x t)).alloc (.cells y u)) (w.heap.size + 1) u y := by
 refine ⟨((Keep.refl noneOf w).alloc _).alloc _, (Box.new w t x).alloc _, ?_⟩
 have := Box.new (w.alloc (.cells x t)) u y
 rw [World.size_alloc] at this
 exact this
set_option maxRecDepth 100000 in
set_option maxHeartbeats 8000000 in
set_option linter.unusedSimpArgs false in
theorem rview_any (w : World) (M : Nat → Prop) (im : Im) (h : im.lies w M) (id : Int) :
  Calls Tryz.prog 13 #[im.agg, .int .u64 id] w (RefView M (viewP im.plain id) w) := by
 obtain ⟨A1, a1, A2, a2, A3, a3, e1, e2, e3⟩ := h.shapes
 have hfew := h.gs.1.few
 unfold maxLen at hfew
 obtain ⟨KA, HX0, HV0⟩ := two_new w #[.int .u64 im.now, .int .u64 im.ng, .int .u64 im.nt, .slice A1 im.ses.length a1, .slice A2 im.gs.length a2, .slice A3 im.built.length a3] #[.int .i64 0, .int .u64 0, .slice none 0 0] 30 47
 have hg := (h.mono (D' := fun i => i < w.heap.size ∧ M i) (fun i hi hm => ⟨hi, hm⟩)).gs
 rw [e2] at hg
 have HG := Lib.hid (hg.keep KA (fun _ _ _ h => h))
 have HX := Lib.hid HX0
 have HV := Lib.hid HV0
 have HKA := Lib.hid KA
 have HAGG : Hid (im.agg = .agg #[.int .u64 im.now, .int .u64 im.ng, .int .u64 im.nt, .slice A1 im.ses.length a1, .slice A2 im.gs.length a2, .slice A3 im.built.length a3]) := Lib.hid (by unfold Im.agg; rw [e1, e2, e3])
 have HD0 := rfind_any ((w.alloc (.cells #[.int .u64 im.now, .int .u64 im.ng, .int .u64 im.nt, .slice A1 im.ses.length a1, .slice A2 im.gs.length a2, .slice A3 im.built.length a3] 30)).alloc (.cells #[.int .i64 0, .int .u64 0, .slice none 0 0] 47)) M im (h.keep KA (fun _ _ _ h => h)) id
 rw [HAGG.out] at HD0
 have HD := Lib.hid HD0
 unfold Im.agg
 rw [e1, e2, e3]
 clear h KA hg e1 e2 e3 HX0 HV0 HD0
 go_enter Tryz.func13, Tryz.ntmps13
 go_upto_region 1 with fail
 generalize (w.alloc (.cells #[.int .u64 im.now, .int .u64 im.ng, .int .u64 im.nt, .slice A1 im.ses.length a1, .slice A2 im.gs.length a2, .slice A3 im.built.length a3] 30)).alloc (.cells #[.int .i64 0, .int .u64 0, .slice none 0 0] 47) = w1 at *
 generalize hp : w.heap.size = p at *
 have HPS := Lib.hid hp
 clear hp
 obtain ⟨x0, x1, x2, x3, x4, x5⟩ := HX.out.six
 go_wp2_with fail
 refine HD.out.mono ?_
 obtain ⟨nn, hnn⟩ : ∃ nn, foundI (findG im.plain id) = nn := ⟨_, rfl⟩
 rw [hnn]
 rintro e w2 ⟨rfl, k2⟩
 have HK2 := Lib.hid k2
 have HX2 := Lib.hid (HX.out.keep k2 (fun h => h))
 have HV2 := Lib.hid (HV.out.keep k2 (fun h => h))
 have HKW := Lib.hid (HKA.out.trans k2 (fun _ _ h => h))
 clear HD k2 x0 x1 x2 x3 x4 x5
 cases hf : findG im.plain id with
 | none =>
  rw [hf] at hnn
  unfold foundI at hnn
  dsimp only at hnn
  subst hnn
  have HRD : Hid (viewP im.plain id = (121, im.plain.now, [])) := Lib.hid (by
   unfold viewP
   rw [hf])
  clear hf
  have x0 := HX2.out.cell 0
  obtain ⟨y0, y1, y2⟩ := HV2.out.three
  have z0 := HV2.out.free 0
  have z1 := HV2.out.free 1
  have z2 := HV2.out.free 2
  have hk := HKW.out.put3 (g := p + 1) (by have := HPS.out; omega) (.int .i64 121) (.int .u64 im.now) (.slice none 0 0)
  have hb := HV2.out.put3 (.int .i64 121) (.int .u64 im.now) (.slice none 0 0)
  go_wp2
  obtain ⟨r0, r1, r2⟩ := hb.three
  exact bodyPost_ret (v := .agg #[.int .i64 121, .int .u64 im.now, .slice none 0 0]) (by simp [results, Tryz.results13, go_sem, r0, r1, r2]) rfl (by
   rw [HRD.out]
   exact ⟨none, 0, rfl, Many.nil _ _ _ _, hk⟩)
 | some i =>
  rw [hf] at hnn
  unfold foundI at hnn
  dsimp only at hnn
  subst hnn
  have hil : i < im.gs.length := by have := findG_at2 hf; simpa [Im.plain] using this
  obtain ⟨g, hg⟩ : ∃ g, im.gs[i]? = some g := ⟨_, List.getElem?_eq_getElem hil⟩
  have HRD : Hid (viewP im.plain id = (0, im.now, g.st)) := Lib.hid (by
   unfold viewP
   rw [hf]
   dsimp only
   rw [getD_some (show im.plain.gs[i]? = some g.plain from gm_at hg)]
   rfl)
  have q0 : (0 : Int) ≤ (i : Int) := by omega
  have q1 : (i : Int) < (im.gs.length : Int) := by omega
  have q5 : ¬ ((i : Int) < 0) := by omega
  have hG := HG.out.keep HK2.out (fun _ _ _ h => h)
  obtain ⟨tb, o, eA, hblk, hbD, hcell⟩ := hG.1.cell (fun _ => rfl) hg
  have d2 : w2.cell? ⟨tb, o + i * 3 + 2, none⟩ = some g.sv := hcell 2 (by decide)
  have hgl := hG.2 g (List.mem_of_getElem? hg)
  obtain ⟨B2, b2, f2⟩ := Sts.shape hgl.2
  rw [f2] at d2
  have hst := hgl.2
  rw [f2] at hst
  have HST := Lib.hid hst
  subst eA
  have hbp : tb < p := by have := hbD.1; have := HPS.out; omega
  have MC : Hid (∀ w', Keep (fun b => b = p + 1) w2 w' → w'.cell? ⟨p, 0, none⟩ = some (.int .u64 im.now) ∧ w'.cell? ⟨p, 4, none⟩ = some (.slice (some ⟨tb, o, none⟩) im.gs.length a2) ∧ w'.cell? ⟨tb, o + i * 3 + 2, none⟩ = some (.slice B2 g.st.length b2)) := Lib.hid fun w' k' => by
   have h1 := HX2.out.keep k' (by omega)
   exact ⟨h1.cell 0, h1.cell 4, (k'.cell (p := ⟨tb, o + i * 3 + 2, none⟩) hblk (by show ¬ (tb = p + 1); omega)).trans d2⟩
  have KZ := (Keep.refl (fun b => b = p + 1) w2).drew
  have KN := (Keep.refl noneOf w2).drew
  clear hf hG hcell hbD hgl f2 hst hg hil hblk d2
  go_upto_region 4 with fail
  refine wp_region_held_drew (S := fun w' => Keep (fun b => b = p + 1) w2 w') (by kernel_rfl) (KZ) (fun hHeld => ?_)
  refine' ztk 0 _ rfl (.inl ⟨by kernel_rfl, ?hy0⟩) ?_
  case hy0 => intro w' hSw; obtain ⟨_, _, _⟩ := MC.out w' hSw; go_simp; try with_reducible rfl
  simp only [Act.put, zga, zgb, zgc, zgd, zge, zgf]
  refine' ztk 1 _ rfl (.inl ⟨by kernel_rfl, ?hy1⟩) ?_
  case hy1 => intro w' hSw; obtain ⟨_, _, _⟩ := MC.out w' hSw; go_simp; try with_reducible rfl
  simp only [Act.put, zga, zgb, zgc, zgd, zge, zgf]
  refine' ztk 2 _ rfl (.inl ⟨by kernel_rfl, ?hy2⟩) ?_
  case hy2 => intro w' hSw; obtain ⟨_, _, _⟩ := MC.out w' hSw; go_simp; try with_reducible rfl
  simp only [Act.put, zga, zgb, zgc, zgd, zge, zgf]
  refine' ztk 3 _ rfl (.inl ⟨by kernel_rfl, ?hy3⟩) ?_
  case hy3 => intro w' hSw; obtain ⟨_, _, _⟩ := MC.out w' hSw; go_simp; try with_reducible rfl
  simp only [Act.put, zga, zgb, zgc, zgd, zge, zgf]
  refine' ztk 4 _ rfl (.inl ⟨by kernel_rfl, ?hy4⟩) ?_
  case hy4 => intro w' hSw; obtain ⟨_, _, _⟩ := MC.out w' hSw; go_simp; try with_reducible rfl
  simp only [Act.put, zga, zgb, zgc, zgd, zge, zgf]
  refine' ztk 5 _ rfl (.inl ⟨by kernel_rfl, ?hy5⟩) ?_
  case hy5 => intro w' hSw; obtain ⟨_, _, _⟩ := MC.out w' hSw; go_simp; try with_reducible rfl
  simp only [Act.put, zga, zgb, zgc, zgd, zge, zgf]
  refine' ztk 6 _ rfl (.inl ⟨by kernel_rfl, ?hy6⟩) ?_
  case hy6 => intro w' hSw; obtain ⟨_, _, _⟩ := MC.out w' hSw; go_simp; try with_reducible rfl
  simp only [Act.put, zga, zgb, zgc, zgd, zge, zgf]
  refine' ztk 7 _ rfl (.inl ⟨by kernel_rfl, ?hy7⟩) ?_
  case hy7 => intro w' hSw; obtain ⟨_, _, _⟩ := MC.out w' hSw; go_simp; try with_reducible rfl
  simp only [Act.put, zga, zgb, zgc, zgd, zge, zgf]
  refine' ztk 8 _ rfl (.inl ⟨by kernel_rfl, ?hy8⟩) ?_
  case hy8 => intro w' hSw; obtain ⟨_, _, _⟩ := MC.out w' hSw; go_simp; try with_reducible rfl
  simp only [Act.put, zga, zgb, zgc, zgd, zge, zgf]
  generalize w2.drew = wz at *
  have HV3 := Lib.hid (HV2.out.keep KN (fun h => h))
  obtain ⟨y0, y1, y2⟩ := HV3.out.three
  have z0 := HV3.out.free 0
  have z1 := HV3.out.free 1
  have z2 := HV3.out.free 2
  have hk0 := (Keep.refl (fun b => b = p + 1) wz).setCell (p := ⟨p + 1, 0, none⟩) (fun _ => rfl) (.int .i64 0)
  have hk1 := hk0.setCell (p := ⟨p + 1, 1, none⟩) (fun _ => rfl) (.int .u64 im.now)
  have hk2 := hk1.setCell (p := ⟨p + 1, 2, none⟩) (fun _ => rfl) (.slice B2 g.st.length b2)
  have hk := (HKW.out.trans KN (fun _ _ h => h)).put3 (g := p + 1) (by have := HPS.out; omega) (.int .i64 0) (.int .u64 im.now) (.slice B2 g.st.length b2)
  have hb := HV3.out.put3 (.int .i64 0) (.int .u64 im.now) (.slice B2 g.st.length b2)
  have HS3 := Lib.hid (Sts.keep (Sts.keep HST.out KN (fun _ _ _ h => h)) hk2 (fun j _ hd e => by have := hd.1; have := HPS.out; omega))
  refine wpAnyH_ready (rs := [9]) (by kernel_rfl) (by simp) (AllReadyH.cons rfl (fun K hK => ?_) AllReadyH.nil)
  go_simp
  refine hK.out _ _ (KZ.trans hk2 (fun _ _ h => h)) (fun hHeld => ?_)
  clear hK K
  try simp only [Act.put, zga, zgb, zgc, zgd, zge, zgf]
  refine wpAnyH_done (by kernel_rfl) ?_ _
  go_wp2
  obtain ⟨r0, r1, r2⟩ := hb.three
  exact bodyPost_ret (v := .agg #[.int .i64 0, .int .u64 im.now, .slice B2 g.st.length b2]) (by simp [results, Tryz.results13, go_sem, r0, r1, r2]) rfl (by
   rw [HRD.out]
   exact ⟨B2, b2, rfl, Sts.mono HS3.out (fun _ _ h => h.2), hk⟩)
end Go.Proofs.YtffoeodjbbkdjaaGreat
namespace Go.Proofs.YtffoeodjbbkdjaaGreat
open Go.RowKit
set_option maxRecDepth 100000 in
set_option maxHeartbeats 8000000 in
set_option linter.unusedSimpArgs false in
theorem rsameView_any (w : World) (M N : Nat → Prop) (r u : Int × Int × List Pst) (A B : Option Addr) (a b : Nat) (h : Sts w M (.slice A r.2.2.length a) r.2.2) (h' : Sts w N (.slice B u.2.2.length b) u.2.2) :
  Calls Tryz.prog 11 #[.agg #[.int .i64 r.1, .int .u64 r.2.1, .slice A r.2.2.length a], .agg #[.int .i64 u.1, .int .u64 u.2.1, .slice B u.2.2.length b]] w (TellsB (decide (r = u)) w) := by
 obtain ⟨r1, r2, l⟩ := r
 obtain ⟨u1, u2, m⟩ := u
 dsimp only at h h' ⊢
 obtain ⟨KA, HX0, HV0⟩ := two_new w #[.int .i64 r1, .int .u64 r2, .slice A l.length a] #[.int .i64 u1, .int .u64 u2, .slice B m.length b] 47 47
 have SM0 := same_any _ _ _ _ _ l m (h.keep KA (fun _ _ _ h => h)) (h'.keep KA (fun _ _ _ h => h))
 obtain ⟨R, hR⟩ : ∃ R, decide (l = m) = R := ⟨_, rfl⟩
 rw [hR] at SM0
 have HR := Lib.hid hR
 have SM := Lib.hid SM0
 have HX := Lib.hid HX0
 have HV := Lib.hid HV0
 have HKA := Lib.hid KA
 clear h h' KA HX0 HV0 SM0 hR
 go_enter Tryz.func11, Tryz.ntmps11
 go_upto_region 1 with fail
 generalize (w.alloc (.cells #[.int .i64 r1, .int .u64 r2, .slice A l.length a] 47)).alloc (.cells #[.int .i64 u1, .int .u64 u2, .slice B m.length b] 47) = w1 at *
 generalize hp : w.heap.size = p at *
 clear hp
 obtain ⟨x0, x1, x2⟩ := HX.out.three
 obtain ⟨y0, y1, y2⟩ := HV.out.three
 go_wp2_with fail
 refine SM.out.mono ?_
 rintro e w2 ⟨rfl, k2⟩
 have HKW := Lib.hid (HKA.out.trans k2 (fun _ _ h => h))
 have HX2 := Lib.hid (HX.out.keep k2 (fun h => h))
 have HV2 := Lib.hid (HV.out.keep k2 (fun h => h))
 clear k2 x0 x1 x2 y0 y1 y2 SM
 obtain ⟨x0, x1, x2⟩ := HX2.out.three
 obtain ⟨y0, y1, y2⟩ := HV2.out.three
 have FIN : Hid (∀ q, q = decide ((r1, r2, l) = (u1, u2, m)) → TellsB (decide ((r1, r2, l) = (u1, u2, m))) w (.returned (.bool q)) w2) := Lib.hid (fun q e => by rw [e]; exact ⟨rfl, HKW.out⟩)
 cases R with
 | false =>
  have hlm : ¬ l = m := of_decide_eq_false HR.out
  have HQ := Lib.hid (FIN.out false (by symm; rw [decide_eq_false_iff_not]; rintro e; injection e with _ e; injection e with _ e; exact hlm e))
  clear hlm
  go_wp2
  exact bodyPost_ret (v := .bool false) (by simp [results, Tryz.results11, go_sem]) rfl HQ.out
 | true =>
  have hlm : l = m := of_decide_eq_true HR.out
  by_cases h1 : r1 = u1
  ·
   subst h1
   by_cases h2 : r2 = u2
   ·
    subst h2
    have HQ := Lib.hid (FIN.out true (by symm; rw [decide_eq_true_eq, hlm]))
    clear hlm
    go_wp2
    exact bodyPost_ret (v := .bool true) (by simp [results, Tryz.results11, go_sem]) rfl HQ.out
   ·
    have HQ := Lib.hid (FIN.out false (by symm; rw [decide_eq_false_iff_not]; rintro e; injection e with _ e; injection e with e _; exact h2 e))
    have hb : (r2 == u2) = false := beq_eq_false_iff_ne.2 h2
    clear hlm
    go_wp2
    exact bodyPost_ret (v := .bool false) (by simp [results, Tryz.results11, go_sem]) rfl HQ.out
  ·
   have HQ := Lib.hid (FIN.out false (by symm; rw [decide_eq_false_iff_not]; rintro e; injection e with e _; exact h1 e))
   have hb : (r1 == u1) = false := beq_eq_false_iff_ne.2 h1
   clear hlm
   go_wp2
   exact bodyPost_ret (v := .bool false) (by simp [results, Tryz.results11, go_sem]) rfl HQ.out
end Go.Proofs.YtffoeodjbbkdjaaGreat
