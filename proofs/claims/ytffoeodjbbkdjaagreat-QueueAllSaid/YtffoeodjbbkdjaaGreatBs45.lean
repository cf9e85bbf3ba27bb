import Derived.Test.YtffoeodjbbkdjaaGreatBs01
import Derived.Test.YtffoeodjbbkdjaaGreatBs40
import Derived.Test.YtffoeodjbbkdjaaGreatBs44
namespace Go.Proofs.YtffoeodjbbkdjaaGreat
open Go.RowKit
theorem erase_map (l : List Gm) (i : Nat) : (l.take i ++ l.drop (i + 1)).map Gm.plain = (l.map Gm.plain).eraseIdx i := by
 rw [List.eraseIdx_eq_take_drop_succ, List.map_append, List.map_take, List.map_drop]
theorem findG_at2 {q : Qp} {id : Int} {i : Nat} (h : findG q id = some i) : i < q.gs.length := (List.findIdx?_eq_some_iff_findIdx_eq.1 h).1
set_option maxRecDepth 100000 in
set_option maxHeartbeats 8000000 in
set_option linter.unusedSimpArgs false in
theorem rcancel_any (w : World) (M : Nat → Prop) (hM : ∀ i, w.heap.size ≤ i → M i) (im : Im) (h : im.lies w M) (hi : Inv im.plain) (c : Cm) (Ag : Option Addr) (cg : Nat) (eg : c.gv = .slice Ag c.ts.length cg) :
  Calls Tryz.prog 34 #[im.agg, c.agg] w (RefIm2 M (cancelP im.plain c.plain) w) := by
 obtain ⟨A1, a1, A2, a2, A3, a3, e1, e2, e3⟩ := h.shapes
 have hfew := h.gs.1.few
 unfold maxLen at hfew
 obtain ⟨KA, HX0, HC0, HY0, HZ0⟩ := four_new w #[.int .u64 im.now, .int .u64 im.ng, .int .u64 im.nt, .slice A1 im.ses.length a1, .slice A2 im.gs.length a2, .slice A3 im.built.length a3] #[.int .i64 c.kind, .int .u64 c.ses, .int .u64 c.seq, .slice Ag c.ts.length cg, .int .u64 c.id, .int .u64 c.tok, .bool c.good, .int .u64 c.time] #[.int .u64 0, .int .u64 0, .int .u64 0, .slice none 0 0, .slice none 0 0, .slice none 0 0] #[.int .i64 0, .int .u64 0, .int .u64 0, .int .u64 0, .string ⟨#[]⟩, .string ⟨#[]⟩] 30 37 30 40
 have hg := (h.mono (D' := fun i => i < w.heap.size ∧ M i) (fun i hi hm => ⟨hi, hm⟩)).gs
 rw [e2] at hg
 have HG := Lib.hid (hg.keep KA (fun _ _ _ h => h))
 have HL := Lib.hid h
 have HMN := Lib.hid hM
 have HX := Lib.hid HX0
 have HC := Lib.hid HC0
 have HY := Lib.hid HY0
 have HZ := Lib.hid HZ0
 have HKA := Lib.hid KA
 have HI := Lib.hid hi
 have HEE := Lib.hid (And.intro e1 e3)
 have HAGG : Hid (im.agg = .agg #[.int .u64 im.now, .int .u64 im.ng, .int .u64 im.nt, .slice A1 im.ses.length a1, .slice A2 im.gs.length a2, .slice A3 im.built.length a3]) := Lib.hid (by unfold Im.agg; rw [e1, e2, e3])
 have HD0 := rfind_any ((((w.alloc (.cells #[.int .u64 im.now, .int .u64 im.ng, .int .u64 im.nt, .slice A1 im.ses.length a1, .slice A2 im.gs.length a2, .slice A3 im.built.length a3] 30)).alloc (.cells #[.int .i64 c.kind, .int .u64 c.ses, .int .u64 c.seq, .slice Ag c.ts.length cg, .int .u64 c.id, .int .u64 c.tok, .bool c.good, .int .u64 c.time] 37)).alloc (.cells #[.int .u64 0, .int .u64 0, .int .u64 0, .slice none 0 0, .slice none 0 0, .slice none 0 0] 30)).alloc (.cells #[.int .i64 0, .int .u64 0, .int .u64 0, .int .u64 0, .string ⟨#[]⟩, .string ⟨#[]⟩] 40)) M im (h.keep KA (fun _ _ _ h => h)) c.id
 rw [HAGG.out] at HD0
 have HD := Lib.hid HD0
 unfold Im.agg Cm.agg
 rw [e1, e2, e3, eg]
 clear h KA hg e1 e2 e3 hi HX0 HY0 HZ0 HC0 eg HD0
 go_enter Tryz.func34, Tryz.ntmps34
 go_upto_region 1 with fail
 generalize (((w.alloc (.cells #[.int .u64 im.now, .int .u64 im.ng, .int .u64 im.nt, .slice A1 im.ses.length a1, .slice A2 im.gs.length a2, .slice A3 im.built.length a3] 30)).alloc (.cells #[.int .i64 c.kind, .int .u64 c.ses, .int .u64 c.seq, .slice Ag c.ts.length cg, .int .u64 c.id, .int .u64 c.tok, .bool c.good, .int .u64 c.time] 37)).alloc (.cells #[.int .u64 0, .int .u64 0, .int .u64 0, .slice none 0 0, .slice none 0 0, .slice none 0 0] 30)).alloc (.cells #[.int .i64 0, .int .u64 0, .int .u64 0, .int .u64 0, .string ⟨#[]⟩, .string ⟨#[]⟩] 40) = w1 at *
 generalize hp : w.heap.size = p at *
 have HPS := Lib.hid hp
 clear hp
 obtain ⟨x0, x1, x2, x3, x4, x5⟩ := HX.out.six
 have m4 := HC.out.cell 4
 go_wp2_with fail
 refine HD.out.mono ?_
 obtain ⟨nn, hnn⟩ : ∃ nn, foundI (findG im.plain c.id) = nn := ⟨_, rfl⟩
 rw [hnn]
 rintro e w2 ⟨rfl, k2⟩
 have HK2 := Lib.hid k2
 clear HD k2 x0 x1 x2 x3 x4 x5 m4
 cases hf : findG im.plain c.id with
 | none =>
  rw [hf] at hnn
  unfold foundI at hnn
  dsimp only at hnn
  subst hnn
  have HRD : Hid (cancelP im.plain c.plain = (im.plain, .err 121)) := Lib.hid (by
   unfold cancelP
   rw [show c.plain.id = c.id from rfl, hf])
  obtain ⟨x0, x1, x2, x3, x4, x5⟩ := (HX.out.keep HK2.out (fun h => h)).six
  clear hf
  have HKW := Lib.hid (HKA.out.trans HK2.out (fun _ _ h => h))
  have HPB : Hid (w.heap.size ≤ p + 1) := Lib.hid (by have := HPS.out; omega)
  have HYW := Lib.hid (HY.out.keep HK2.out (fun h => h))
  have HZW := Lib.hid (HZ.out.keep HK2.out (fun h => h))
  obtain ⟨y0, y1, y2, y3, y4, y5⟩ := HYW.out.six
  obtain ⟨fy0, fy1, fy2, fy3, fy4, fy5⟩ := HYW.out.free6
  obtain ⟨z0, z1, z2, z3, z4, z5⟩ := HZW.out.six
  obtain ⟨fz0, fz1, fz2, fz3, fz4, fz5⟩ := HZW.out.free6
  go_wp2
  have HY6 := HYW.out.put6 (.int .u64 im.now) (.int .u64 im.ng) (.int .u64 im.nt) (.slice A1 im.ses.length a1) (.slice A2 im.gs.length a2) (.slice A3 im.built.length a3)
  have HZ5 := HZW.out.far6 (b := (p + 1 + 1)) (by omega) (.int .u64 im.now) (.int .u64 im.ng) (.int .u64 im.nt) (.slice A1 im.ses.length a1) (.slice A2 im.gs.length a2) (.slice A3 im.built.length a3)
  have HZ6 := HZ5.put6 (.int .i64 121) (.int .u64 0) (.int .u64 0) (.int .u64 0) (.string ⟨#[]⟩) (.string ⟨#[]⟩)
  have HY7 := HY6.far6 (b := (p + 1 + 1 + 1)) (by omega) (.int .i64 121) (.int .u64 0) (.int .u64 0) (.int .u64 0) (.string ⟨#[]⟩) (.string ⟨#[]⟩)
  have KK : Keep noneOf w (sixPut (sixPut w2 (p + 1 + 1) (.int .u64 im.now) (.int .u64 im.ng) (.int .u64 im.nt) (.slice A1 im.ses.length a1) (.slice A2 im.gs.length a2) (.slice A3 im.built.length a3)) (p + 1 + 1 + 1) (.int .i64 121) (.int .u64 0) (.int .u64 0) (.int .u64 0) (.string ⟨#[]⟩) (.string ⟨#[]⟩)) := by
   have KW := HKW.out
   have hb := HPB.out
   exact (KW.put6 (b := (p + 1 + 1)) (fun h => absurd h (by omega)) (.int .u64 im.now) (.int .u64 im.ng) (.int .u64 im.nt) (.slice A1 im.ses.length a1) (.slice A2 im.gs.length a2) (.slice A3 im.built.length a3)).put6 (b := (p + 1 + 1 + 1)) (fun h => absurd h (by omega)) (.int .i64 121) (.int .u64 0) (.int .u64 0) (.int .u64 0) (.string ⟨#[]⟩) (.string ⟨#[]⟩)
  have HFIN : RefIm2 M (cancelP im.plain c.plain) w (.returned (.tuple #[.agg #[.int .u64 im.now, .int .u64 im.ng, .int .u64 im.nt, .slice A1 im.ses.length a1, .slice A2 im.gs.length a2, .slice A3 im.built.length a3], .agg #[.int .i64 121, .int .u64 0, .int .u64 0, .int .u64 0, .string ⟨#[]⟩, .string ⟨#[]⟩]])) (sixPut (sixPut w2 (p + 1 + 1) (.int .u64 im.now) (.int .u64 im.ng) (.int .u64 im.nt) (.slice A1 im.ses.length a1) (.slice A2 im.gs.length a2) (.slice A3 im.built.length a3)) (p + 1 + 1 + 1) (.int .i64 121) (.int .u64 0) (.int .u64 0) (.int .u64 0) (.string ⟨#[]⟩) (.string ⟨#[]⟩)) := by rw [HRD.out, ← HAGG.out]; exact refim2_ret rfl (HL.out.keep KK (fun _ _ _ h => h)) KK
  dsimp only [sixPut] at HZ6 HY7 HFIN
  obtain ⟨r0, r1, r2, r3, r4, r5⟩ := HY7.six
  obtain ⟨s0, s1, s2, s3, s4, s5⟩ := HZ6.six
  exact bodyPost_ret (v := .tuple #[.agg #[.int .u64 im.now, .int .u64 im.ng, .int .u64 im.nt, .slice A1 im.ses.length a1, .slice A2 im.gs.length a2, .slice A3 im.built.length a3], .agg #[.int .i64 121, .int .u64 0, .int .u64 0, .int .u64 0, .string ⟨#[]⟩, .string ⟨#[]⟩]]) (by simp [results, Tryz.results34, go_sem, r0, r1, r2, r3, r4, r5, s0, s1, s2, s3, s4, s5]) rfl HFIN
 | some i =>
  rw [hf] at hnn
  unfold foundI at hnn
  dsimp only at hnn
  subst hnn
  have hil : i < im.gs.length := by have := findG_at2 hf; simpa [Im.plain] using this
  obtain ⟨g, hg⟩ : ∃ g, im.gs[i]? = some g := ⟨_, List.getElem?_eq_getElem hil⟩
  have HX1 := Lib.hid hg
  have HRR : Hid (cancelP im.plain c.plain = (if overB g.st = true then { im.plain with gs := im.plain.gs.eraseIdx i } else withG im.plain i (repl 6 (fun x => !finB x.s) g.st), ⟨0, c.id, 0, 0, ⟨#[]⟩, ⟨#[]⟩⟩)) := Lib.hid (by
   unfold cancelP
   rw [show c.plain.id = c.id from rfl, hf]
   dsimp only
   rw [getD_some (show im.plain.gs[i]? = some g.plain from gm_at hg)]
   rfl)
  have q0 : (0 : Int) ≤ (i : Int) := by omega
  have q1 : (i : Int) < (im.gs.length : Int) := by omega
  have q5 : ¬ ((i : Int) < 0) := by omega
  have hG := HG.out.keep HK2.out (fun _ _ _ h => h)
  obtain ⟨tb, o, eA, hblk, hbD, hcell⟩ := hG.1.cell (fun _ => rfl) hg
  have d2 : w2.cell? ⟨tb, o + i * 3 + 2, none⟩ = some g.sv := hcell 2 (by decide)
  have hgl := hG.2 g (List.mem_of_getElem? hg)
  obtain ⟨B2, b2, f2⟩ := Sts.shape hgl.2
  rw [f2] at d2
  have hst := hgl.2
  rw [f2] at hst
  have HST := Lib.hid hst
  have OV := Lib.hid (refOver_any w2 _ _ _ hst)
  have x4 := (HX.out.keep HK2.out (fun h => h)).cell 4
  rw [eA] at x4
  have HEA := Lib.hid eA
  have HBK := Lib.hid (And.intro hblk hbD)
  have HD2 := Lib.hid d2
  clear hf hG hcell hblk hbD hgl f2 hst hg hil eA
  go_wp2_with fail
  refine OV.out.mono ?_
  obtain ⟨ov, hov⟩ : ∃ ov, overB g.st = ov := ⟨_, rfl⟩
  rw [hov] at HRR ⊢
  clear hov
  rintro e w3 ⟨rfl, k3⟩
  have HK3 := Lib.hid (HK2.out.trans k3 (fun _ _ h => h))
  have HST3 := Lib.hid (Sts.keep HST.out k3 (fun _ _ _ h => h))
  have HD3 : Hid (w3.cell? ⟨tb, o + i * 3 + 2, none⟩ = some (.slice B2 g.st.length b2)) := Lib.hid ((k3.cell (p := ⟨tb, o + i * 3 + 2, none⟩) HBK.out.1 (fun h => h)).trans HD2.out)
  have HB3 : Hid (tb < w3.heap.size ∧ tb < p) := Lib.hid ⟨Nat.lt_of_lt_of_le HBK.out.1 k3.size, HBK.out.2.1⟩
  clear OV k3 x4 d2 HST HK2 HBK HD2
  have HYW := Lib.hid (HY.out.keep HK3.out (fun h => h))
  have HZW := Lib.hid (HZ.out.keep HK3.out (fun h => h))
  have hfw := im_few HI.out (List.mem_of_getElem? HX1.out)
  have h16 : im.gs.length ≤ 16 := by have := HI.out.gsFew; simpa [Im.plain] using this
  have H16 := Lib.hid h16
  cases ov with
  | false =>
   rw [if_neg (by decide)] at HRR
   have HCA := Lib.hid (fun w' (k' : Keep noneOf w3 w') => refCancel_any w' _ _ g.st (Sts.keep HST3.out k' (fun _ _ _ h => h)) (by rw [reach_is]; omega))
   have hrl : (repl 6 (fun x => !finB x.s) g.st).length = g.st.length := repl_ln ..
   have HRL := Lib.hid hrl
   have HWITH : Hid (∀ w' sv, Keep noneOf w3 w' → Sts w' (fun i => (i < p ∧ M i) ∨ p + 1 + 1 + 1 < i) sv (repl 6 (fun x => !finB x.s) g.st) → Calls Tryz.prog 26 #[.agg #[.int .u64 im.now, .int .u64 im.ng, .int .u64 im.nt, .slice A1 im.ses.length a1, .slice (some ⟨tb, o, none⟩) im.gs.length a2, .slice A3 im.built.length a3], .int .i64 (i : Int), sv] w' (RefIm (fun i => (i < p ∧ M i) ∨ p + 1 + 1 + 1 < i) (withG im.plain i (repl 6 (fun x => !finB x.s) g.st)) w')) := Lib.hid fun w' sv k' hs => by
    have := rwith_any w' (fun i => (i < p ∧ M i) ∨ p + 1 + 1 + 1 < i) (fun i hi => .inr (by have h1 := HZ.out.lt; have h2 := HK3.out.size; have h3 := k'.size; omega)) im ((HL.out.mono (fun i hi hm => .inl ⟨by have := HPS.out; omega, hm⟩)).keep ((HKA.out.trans HK3.out (fun _ _ h => h)).trans k' (fun _ _ h => h)) (fun _ _ _ h => h)) i g HX1.out sv _ hs H16.out
    rw [HAGG.out, HEA.out] at this
    exact this
   have MC : Hid (∀ w', Keep (fun b => b = p + 1 + 1 ∨ b = p + 1 + 1 + 1) w3 w' → (w'.cell? ⟨p, 0, none⟩ = some (.int .u64 im.now) ∧ w'.cell? ⟨p, 1, none⟩ = some (.int .u64 im.ng) ∧ w'.cell? ⟨p, 2, none⟩ = some (.int .u64 im.nt) ∧ w'.cell? ⟨p, 3, none⟩ = some (.slice A1 im.ses.length a1) ∧ w'.cell? ⟨p, 4, none⟩ = some (.slice (some ⟨tb, o, none⟩) im.gs.length a2) ∧ w'.cell? ⟨p, 5, none⟩ = some (.slice A3 im.built.length a3)) ∧
     w'.cell? ⟨tb, o + i * 3 + 2, none⟩ = some (.slice B2 g.st.length b2) ∧ w'.cell? ⟨p + 1, 4, none⟩ = some (.int .u64 c.id)) := Lib.hid fun w' k' => by
    have h1 := ((HX.out.keep HK3.out (fun h => h)).keep k' (by omega)).six
    have h2 := ((HC.out.keep HK3.out (fun h => h)).keep k' (by omega)).cell 4
    have h3 := (k'.cell (p := ⟨tb, o + i * 3 + 2, none⟩) HB3.out.1 (by show ¬ (tb = p + 1 + 1 ∨ tb = p + 1 + 1 + 1); have := HB3.out.2; omega)).trans HD3.out
    rw [HEA.out] at h1
    exact ⟨h1, h3, h2⟩
   have KZ9 := (Keep.refl (fun b => b = p + 1 + 1 ∨ b = p + 1 + 1 + 1) w3).drew
   have KN := (Keep.refl noneOf w3).drew
   clear hfw h16 hrl
   go_upto_region 6 with fail
   refine wp_region_held_drew (S := fun w' => Keep (fun b => b = p + 1 + 1 ∨ b = p + 1 + 1 + 1) w3 w') (by kernel_rfl) (KZ9) (fun hHeld => ?_)
   refine' ztk 0 _ rfl (.inl ⟨by kernel_rfl, ?hy0⟩) ?_
   case hy0 => intro w' hSw; obtain ⟨⟨_, _, _, _, _, _⟩, _, _⟩ := MC.out w' hSw; go_simp; try with_reducible rfl
   simp only [Act.put, zga, zgb, zgc, zgd, zge, zgf]
   refine' ztk 1 _ rfl (.inl ⟨by kernel_rfl, ?hy1⟩) ?_
   case hy1 => intro w' hSw; obtain ⟨⟨_, _, _, _, _, _⟩, _, _⟩ := MC.out w' hSw; go_simp; try with_reducible rfl
   simp only [Act.put, zga, zgb, zgc, zgd, zge, zgf]
   refine' ztk 2 _ rfl (.inl ⟨by kernel_rfl, ?hy2⟩) ?_
   case hy2 => intro w' hSw; obtain ⟨⟨_, _, _, _, _, _⟩, _, _⟩ := MC.out w' hSw; go_simp; try with_reducible rfl
   simp only [Act.put, zga, zgb, zgc, zgd, zge, zgf]
   refine' ztk 3 _ rfl (.inl ⟨by kernel_rfl, ?hy3⟩) ?_
   case hy3 => intro w' hSw; obtain ⟨⟨_, _, _, _, _, _⟩, _, _⟩ := MC.out w' hSw; go_simp; try with_reducible rfl
   simp only [Act.put, zga, zgb, zgc, zgd, zge, zgf]
   refine' ztk 4 _ rfl (.inl ⟨by kernel_rfl, ?hy4⟩) ?_
   case hy4 => intro w' hSw; obtain ⟨⟨_, _, _, _, _, _⟩, _, _⟩ := MC.out w' hSw; go_simp; try with_reducible rfl
   simp only [Act.put, zga, zgb, zgc, zgd, zge, zgf]
   refine' ztk 5 _ rfl (.inl ⟨by kernel_rfl, ?hy5⟩) ?_
   case hy5 => intro w' hSw; obtain ⟨⟨_, _, _, _, _, _⟩, _, _⟩ := MC.out w' hSw; go_simp; try with_reducible rfl
   simp only [Act.put, zga, zgb, zgc, zgd, zge, zgf]
   refine' ztk 6 _ rfl (.inl ⟨by kernel_rfl, ?hy6⟩) ?_
   case hy6 => intro w' hSw; obtain ⟨⟨_, _, _, _, _, _⟩, _, _⟩ := MC.out w' hSw; go_simp; try with_reducible rfl
   simp only [Act.put, zga, zgb, zgc, zgd, zge, zgf]
   refine' ztk 7 _ rfl (.inl ⟨by kernel_rfl, ?hy7⟩) ?_
   case hy7 => intro w' hSw; obtain ⟨⟨_, _, _, _, _, _⟩, _, _⟩ := MC.out w' hSw; go_simp; try with_reducible rfl
   simp only [Act.put, zga, zgb, zgc, zgd, zge, zgf]
   refine' ztk 10 _ rfl (.inl ⟨by kernel_rfl, ?hy10⟩) ?_
   case hy10 => intro w' hSw; obtain ⟨⟨_, _, _, _, _, _⟩, _, _⟩ := MC.out w' hSw; go_simp; try with_reducible rfl
   simp only [Act.put, zga, zgb, zgc, zgd, zge, zgf]
   refine' ztk 11 _ rfl (.inl ⟨by kernel_rfl, ?hy11⟩) ?_
   case hy11 => intro w' hSw; obtain ⟨⟨_, _, _, _, _, _⟩, _, _⟩ := MC.out w' hSw; go_simp; try with_reducible rfl
   simp only [Act.put, zga, zgb, zgc, zgd, zge, zgf]
   refine' ztk 12 _ rfl (.inl ⟨by kernel_rfl, ?hy12⟩) ?_
   case hy12 => intro w' hSw; obtain ⟨⟨_, _, _, _, _, _⟩, _, _⟩ := MC.out w' hSw; go_simp; try with_reducible rfl
   simp only [Act.put, zga, zgb, zgc, zgd, zge, zgf]
   generalize w3.drew = wz at *
   refine wpAnyH_ready (rs := [8]) (by kernel_rfl) (by simp) (AllReadyH.cons rfl (fun K hK => ?_) AllReadyH.nil)
   go_simp
   go_at_call 76
   refine (HCA.out _ KN).mono ?_
   rintro e w6 ⟨A6, c6, rfl, hst6, k6⟩
   rw [HRL.out] at hst6 ⊢
   have K6 : Keep noneOf w3 w6 := KN.trans k6 (fun _ _ h => h)
   have WT := HWITH.out w6 _ K6 (hst6.mono (fun i _ h => .inr (by have h1 := HZ.out.lt; have h2 := HK3.out.size; have h3 := KN.size; omega)))
   replace WT := Lib.hid WT
   clear k6
   go_wp2_with fail
   refine hK.out _ _ (K6.wide) (fun hHeld => ?_)
   clear hK K
   try simp only [Act.put, zga, zgb, zgc, zgd, zge, zgf]
   refine wpAnyH_ready (rs := [9]) (by kernel_rfl) (by simp) (AllReadyH.cons rfl (fun K hK => ?_) AllReadyH.nil)
   go_simp
   go_at_call 26
   refine WT.out.mono ?_
   rintro e w7 ⟨im7, rfl, hp7, hl7, k7⟩
   obtain ⟨E1, c1, E2, c2, E3, c3, e1, e2, e3⟩ := hl7.shapes
   have K7 : Keep noneOf w3 w7 := K6.trans k7 (fun _ _ h => h)
   have HI7 := Lib.hid hl7
   have HP7 := Lib.hid hp7
   have HE7 := Lib.hid (And.intro e1 (And.intro e2 e3))
   unfold Im.agg
   rw [e1, e2, e3]
   clear WT k7 hp7 hl7 e1 e2 e3 HCA HWITH
   go_wp2_with fail
   refine hK.out _ _ (K7.wide) (fun hHeld => ?_)
   clear hK K
   try simp only [Act.put, zga, zgb, zgc, zgd, zge, zgf]
   have HYD := Lib.hid (HYW.out.keep K7 (fun h => h))
   have HZD := Lib.hid (HZW.out.keep K7 (fun h => h))
   obtain ⟨y0, y1, y2, y3, y4, y5⟩ := HYD.out.six
   obtain ⟨fy0, fy1, fy2, fy3, fy4, fy5⟩ := HYD.out.free6
   have HYV := Lib.hid (HYD.out.put6 (.int .u64 im7.now) (.int .u64 im7.ng) (.int .u64 im7.nt) (.slice E1 im7.ses.length c1) (.slice E2 im7.gs.length c2) (.slice E3 im7.built.length c3))
   have HZV := Lib.hid (HZD.out.far6 (b := p + 1 + 1) (by omega) (.int .u64 im7.now) (.int .u64 im7.ng) (.int .u64 im7.nt) (.slice E1 im7.ses.length c1) (.slice E2 im7.gs.length c2) (.slice E3 im7.built.length c3))
   have KY7 := (Keep.refl (fun b => b = p + 1 + 1 ∨ b = p + 1 + 1 + 1) w7).put6 (b := p + 1 + 1) (fun _ => .inl rfl) (.int .u64 im7.now) (.int .u64 im7.ng) (.int .u64 im7.nt) (.slice E1 im7.ses.length c1) (.slice E2 im7.gs.length c2) (.slice E3 im7.built.length c3)
   have KY := (K7.wide (S := fun b => b = p + 1 + 1 ∨ b = p + 1 + 1 + 1)).trans KY7 (fun _ _ h => h)
   dsimp only [sixPut] at HYV HZV KY KY7
   refine wpAnyH_ready (rs := [13]) (by kernel_rfl) (by simp) (AllReadyH.cons rfl (fun K hK => ?_) AllReadyH.nil)
   go_simp
   refine hK.out _ _ (KY) (fun hHeld => ?_)
   clear hK K
   try simp only [Act.put, zga, zgb, zgc, zgd, zge, zgf]
   generalize ((((((w7.setCell ⟨p + 1 + 1, 0, none⟩ (.int .u64 im7.now)).setCell ⟨p + 1 + 1, 1, none⟩ (.int .u64 im7.ng)).setCell ⟨p + 1 + 1, 2, none⟩ (.int .u64 im7.nt)).setCell ⟨p + 1 + 1, 3, none⟩ (.slice E1 im7.ses.length c1)).setCell ⟨p + 1 + 1, 4, none⟩ (.slice E2 im7.gs.length c2)).setCell ⟨p + 1 + 1, 5, none⟩ (.slice E3 im7.built.length c3)) = wy at *
   clear y0 y1 y2 y3 y4 y5 fy0 fy1 fy2 fy3 fy4 fy5 HYD HZD
   obtain ⟨z0, z1, z2, z3, z4, z5⟩ := HZV.out.six
   obtain ⟨fz0, fz1, fz2, fz3, fz4, fz5⟩ := HZV.out.free6
   have HZA := Lib.hid (HZV.out.put6 (.int .i64 0) (.int .u64 c.id) (.int .u64 0) (.int .u64 0) (.string ⟨#[]⟩) (.string ⟨#[]⟩))
   have HYA := Lib.hid (HYV.out.far6 (b := p + 1 + 1 + 1) (by omega) (.int .i64 0) (.int .u64 c.id) (.int .u64 0) (.int .u64 0) (.string ⟨#[]⟩) (.string ⟨#[]⟩))
   have KA7 := KY7.put6 (b := p + 1 + 1 + 1) (fun _ => .inr rfl) (.int .i64 0) (.int .u64 c.id) (.int .u64 0) (.int .u64 0) (.string ⟨#[]⟩) (.string ⟨#[]⟩)
   have KA := KY.put6 (b := p + 1 + 1 + 1) (fun _ => .inr rfl) (.int .i64 0) (.int .u64 c.id) (.int .u64 0) (.int .u64 0) (.string ⟨#[]⟩) (.string ⟨#[]⟩)
   dsimp only [sixPut] at HZA HYA KA KA7
   refine wpAnyH_ready (rs := [14]) (by kernel_rfl) (by simp) (AllReadyH.cons rfl (fun K hK => ?_) AllReadyH.nil)
   go_simp
   refine hK.out _ _ (KA) (fun hHeld => ?_)
   clear hK K
   try simp only [Act.put, zga, zgb, zgc, zgd, zge, zgf]
   refine wpAnyH_done (by kernel_rfl) ?_ _
   generalize ((((((wy.setCell ⟨p + 1 + 1 + 1, 0, none⟩ (.int .i64 0)).setCell ⟨p + 1 + 1 + 1, 1, none⟩ (.int .u64 c.id)).setCell ⟨p + 1 + 1 + 1, 2, none⟩ (.int .u64 0)).setCell ⟨p + 1 + 1 + 1, 3, none⟩ (.int .u64 0)).setCell ⟨p + 1 + 1 + 1, 4, none⟩ (.string ⟨#[]⟩)).setCell ⟨p + 1 + 1 + 1, 5, none⟩ (.string ⟨#[]⟩)) = wf at *
   clear z0 z1 z2 z3 z4 z5 fz0 fz1 fz2 fz3 fz4 fz5 HYV HZV KY KY7 MC HYW HZW
   have HFIN : Hid (RefIm2 M (cancelP im.plain c.plain) w (.returned (.tuple #[.agg #[.int .u64 im7.now, .int .u64 im7.ng, .int .u64 im7.nt, .slice E1 im7.ses.length c1, .slice E2 im7.gs.length c2, .slice E3 im7.built.length c3], .agg #[.int .i64 0, .int .u64 c.id, .int .u64 0, .int .u64 0, .string ⟨#[]⟩, .string ⟨#[]⟩]])) wf) := Lib.hid (by
    have kk : Keep noneOf w wf := (HKA.out.trans HK3.out (fun _ _ h => h)).trans KA (fun i hi e => by have := HPS.out; omega)
    rw [HRR.out]
    refine ⟨im7, ?_, HP7.out, ?_, kk⟩
    ·
     unfold Im.agg An.agg
     dsimp only
     rw [HE7.out.1, HE7.out.2.1, HE7.out.2.2]
    ·
     exact (HI7.out.keep KA7 (fun i _ hd e => by omega)).mono (fun i _ hd => hd.elim (fun h => h.2) (fun h => HMN.out i (by have := HPS.out; omega))))
   clear KA KA7
   go_wp2
   obtain ⟨r0, r1, r2, r3, r4, r5⟩ := HYA.out.six
   obtain ⟨s0, s1, s2, s3, s4, s5⟩ := HZA.out.six
   exact bodyPost_ret (v := .tuple #[.agg #[.int .u64 im7.now, .int .u64 im7.ng, .int .u64 im7.nt, .slice E1 im7.ses.length c1, .slice E2 im7.gs.length c2, .slice E3 im7.built.length c3], .agg #[.int .i64 0, .int .u64 c.id, .int .u64 0, .int .u64 0, .string ⟨#[]⟩, .string ⟨#[]⟩]]) (by simp [results, Tryz.results34, go_sem, r0, r1, r2, r3, r4, r5, s0, s1, s2, s3, s4, s5]) rfl HFIN.out
  | true =>
   rw [if_pos rfl] at HRR
   have hil : i < im.gs.length := (List.getElem?_eq_some_iff.1 HX1.out).1
   have hG := (HG.out.keep HK3.out (fun _ _ _ h => h)).1
   rw [HEA.out] at hG
   have HFX := Lib.hid (fx_eq (gm_one HL.out.gs.2))
   have HFX2 : Hid ((im.gs.take i ++ im.gs.drop (i + 1)).flatMap (fx Gm.cells) = (im.gs.take i ++ im.gs.drop (i + 1)).flatMap Gm.cells) := Lib.hid (fx_eq (fun x hx => gm_one HL.out.gs.2 x (by
    rcases List.mem_append.1 hx with h | h
    ·
     exact List.mem_of_mem_take h
    ·
     exact List.mem_of_mem_drop h)))
   have hsrc : Many (fx Gm.cells) 3 w3 (fun i => i < w.heap.size ∧ M i) (.slice (some ⟨tb, o, none⟩) im.gs.length a2) im.gs := by
    unfold Many
    rw [HFX.out]
    rw [HPS.out]
    exact hG
   have hcap : im.gs.length ≤ a2 := by
    obtain ⟨A', c', hv, hlc, _⟩ := hsrc
    injection hv with _ _ e
    rw [e]
    exact hlc
   have hh := Many.headK (ec := fx Gm.cells) (k := 3) (fun x => by unfold fx; rw [List.length_map]; rfl) hsrc (n := i) (by omega)
   have ht := Many.tailK (ec := fx Gm.cells) (k := 3) (fun x => by unfold fx; rw [List.length_map]; rfl) hsrc (n := i + 1) (by omega)
   have HS1 : Hid (∀ w', (Instr.sliceAt 27 (.slice (some ⟨tb, o, none⟩) im.gs.length a2) none (some (.int .i64 (i : Int))) none).run Tryz.prog w' = .ok (sliced (some ⟨tb, o, none⟩) 0 i a2 3) w') := Lib.hid fun w' => elems_gr.head w' _ _ _ _ (by omega)
   have HS2 : Hid (∀ w', (Instr.sliceAt 27 (.slice (some ⟨tb, o, none⟩) im.gs.length a2) (some (.int .i64 ((i : Int) + 1))) none none).run Tryz.prog w' = .ok (sliced (some ⟨tb, o, none⟩) (i + 1) im.gs.length a2 3) w') := Lib.hid fun w' => by
    have := elems_gr.tail w' (some ⟨tb, o, none⟩) im.gs.length a2 (i + 1) (by omega)
    rw [show (((i + 1 : Nat)) : Int) = (i : Int) + 1 from by omega] at this
    exact this
   generalize sliced (some ⟨tb, o, none⟩) 0 i a2 3 = vh at *
   generalize sliced (some ⟨tb, o, none⟩) (i + 1) im.gs.length a2 3 = vt at *
   have htl : (im.gs.take i).length = i := by rw [List.length_take]; omega
   have hdl : (im.gs.drop (i + 1)).length = im.gs.length - (i + 1) := List.length_drop
   obtain ⟨N, hN⟩ : ∃ N, (im.gs.take i ++ im.gs.drop (i + 1)).length = N := ⟨_, rfl⟩
   have HN := Lib.hid hN
   have HTL := Lib.hid htl
   have HDL := Lib.hid hdl
   have HH := Lib.hid hh
   have HT := Lib.hid ht
   have HIL := Lib.hid hil
   have HXB := Lib.hid (HX.out.keep HK3.out (fun h => h))
   have x4 := HXB.out.cell 4
   rw [HEA.out] at x4
   have HZL : Hid (p + 1 + 1 + 1 < w3.heap.size) := Lib.hid (by have h1 := HZ.out.lt; have h2 := HK3.out.size; omega)
   clear hG hsrc hcap hh ht htl hdl hil hfw h16 hN
   go_upto_region 9 with (first
    | (refine wpList_slice_eq _ rfl _ _ _ _ _ rfl vh (HS1.out _) ?_)
    | (at_builtin; refine wpList_append_many elems_gr (ec := fx Gm.cells) (fun x => by unfold fx; rw [List.length_map]; rfl) (fx_one Gm.cells) (by decide) _ rfl _ _ rfl w3.heap.size _ _ ([] : List Gm) (im.gs.take i) (fun i => i < w.heap.size ∧ M i) rfl rfl (World.ownsRow_nil _ _ _ _) HH.out (by have := HTL.out; have := HIL.out; have := H16.out; unfold maxLen; rw [List.length_nil]; omega) (by have := HTL.out; have := HIL.out; have := H16.out; rw [List.length_nil]; omega) (Nat.le_refl _) ?_; intro v1 w4 hown1 hg1 _; have HK4 := Lib.hid ((Keep.of_grown hg1).mono (T := noneOf) (fun _ _ h => by cases h)); have HO1 : Hid (w4.ownsRow w3.heap.size 59 3 v1 (im.gs.take i).length ((im.gs.take i).flatMap (fx Gm.cells))) := Lib.hid hown1; clear hown1 hg1)
    | fail)
   have x4 := (HXB.out.keep HK4.out (fun h => h)).cell 4
   rw [HEA.out] at x4
   have HXC := Lib.hid (HXB.out.keep HK4.out (fun h => h))
   have HA2 : Hid (∀ (v2 : Value) (w5 : World), w4.grownBy w5 v1.ownBlock → Keep noneOf w3 w5 ∧ Box w5 p 30 #[.int .u64 im.now, .int .u64 im.ng, .int .u64 im.nt, .slice A1 im.ses.length a1, .slice A2 im.gs.length a2, .slice A3 im.built.length a3]) := Lib.hid fun v2 w5 hg => by
    have kk := HK4.out.trans (Keep.of_grown hg) (fun j hj e => by have := (HO1.out.lt j e.symm).1; omega)
    exact ⟨kk, HXB.out.keep kk (fun h => h)⟩
   go_wp2_with (first
    | (refine wpList_slice_eq _ rfl _ _ _ _ _ rfl vt (HS2.out _) ?_)
    | (at_builtin; refine wpList_append_many elems_gr (ec := fx Gm.cells) (fun x => by unfold fx; rw [List.length_map]; rfl) (fx_one Gm.cells) (by decide) _ rfl _ _ rfl w3.heap.size _ _ (im.gs.take i) (im.gs.drop (i + 1)) (fun i => i < w.heap.size ∧ M i) rfl rfl HO1.out (HT.out.keep HK4.out (fun _ _ _ h => h)) (by have := HTL.out; have := HDL.out; have := HIL.out; have := H16.out; unfold maxLen; omega) (by have := HTL.out; have := HDL.out; have := HIL.out; have := H16.out; omega) HK4.out.size ?_; intro v2 w5 hown2 hg2 _; have HA := HA2.out v2 w5 hg2; have HK5 := Lib.hid HA.1; have HX5 := Lib.hid HA.2; have hown2 : w5.ownsRow w3.heap.size 59 3 v2 (im.gs.take i ++ im.gs.drop (i + 1)).length ((im.gs.take i ++ im.gs.drop (i + 1)).flatMap (fx Gm.cells)) := hown2; rw [HN.out] at hown2; have HO2 := Lib.hid hown2; obtain ⟨E2, c2, rfl⟩ := own_shape hown2; have x45 := HX5.out.cell 4; have f45 := HX5.out.free 4; clear hown2 hg2 HA)
    | fail)
   have HX9 := Lib.hid (HX5.out.put 4 (.slice E2 N c2))
   have K59 := (Keep.refl (fun b => b = p) w5).setCell (p := ⟨p, 4, none⟩) (fun _ => rfl) (.slice E2 N c2)
   have HK39 := Lib.hid (HK5.out.wide.trans K59 (fun _ _ h => h))
   have HO9 := Lib.hid (own_keep HO2.out K59 (fun j hj e => by have := (HO2.out.lt j hj).1; have := HZL.out; omega))
   clear K59 x45 f45 HX5 HO2
   generalize w5.setCell ⟨p, 4, none⟩ (.slice E2 N c2) = w9 at *
   have HYD9 := Lib.hid (HYW.out.keep HK39.out (by omega))
   have HZD9 := Lib.hid (HZW.out.keep HK39.out (by omega))
   have MC : Hid (∀ w', Keep (fun b => b = p + 1 + 1 ∨ b = p + 1 + 1 + 1) w9 w' → (w'.cell? ⟨p, 0, none⟩ = some (.int .u64 im.now) ∧ w'.cell? ⟨p, 1, none⟩ = some (.int .u64 im.ng) ∧ w'.cell? ⟨p, 2, none⟩ = some (.int .u64 im.nt) ∧ w'.cell? ⟨p, 3, none⟩ = some (.slice A1 im.ses.length a1) ∧ w'.cell? ⟨p, 4, none⟩ = some (.slice E2 N c2) ∧ w'.cell? ⟨p, 5, none⟩ = some (.slice A3 im.built.length a3)) ∧ w'.cell? ⟨p + 1, 4, none⟩ = some (.int .u64 c.id)) := Lib.hid fun w' k' =>
    ⟨(HX9.out.keep k' (by omega)).six, (((HC.out.keep HK3.out (fun h => h)).keep HK39.out (by omega)).keep k' (by omega)).cell 4⟩
   have KZ9 := (Keep.refl (fun b => b = p + 1 + 1 ∨ b = p + 1 + 1 + 1) w9).drew
   have KN := (Keep.refl noneOf w9).drew
   go_upto_region 10 with fail
   refine wp_region_held_drew (S := fun w' => Keep (fun b => b = p + 1 + 1 ∨ b = p + 1 + 1 + 1) w9 w') (by kernel_rfl) (KZ9) (fun hHeld => ?_)
   refine' ztk 0 _ rfl (.inl ⟨by kernel_rfl, ?hy0⟩) ?_
   case hy0 => intro w' hSw; obtain ⟨⟨_, _, _, _, _, _⟩, _⟩ := MC.out w' hSw; go_simp; try with_reducible rfl
   simp only [Act.put, zga, zgb, zgc, zgd, zge, zgf]
   refine' ztk 1 _ rfl (.inl ⟨by kernel_rfl, ?hy1⟩) ?_
   case hy1 => intro w' hSw; obtain ⟨⟨_, _, _, _, _, _⟩, _⟩ := MC.out w' hSw; go_simp; try with_reducible rfl
   simp only [Act.put, zga, zgb, zgc, zgd, zge, zgf]
   refine' ztk 2 _ rfl (.inl ⟨by kernel_rfl, ?hy2⟩) ?_
   case hy2 => intro w' hSw; obtain ⟨⟨_, _, _, _, _, _⟩, _⟩ := MC.out w' hSw; go_simp; try with_reducible rfl
   simp only [Act.put, zga, zgb, zgc, zgd, zge, zgf]
   refine' ztk 3 _ rfl (.inl ⟨by kernel_rfl, ?hy3⟩) ?_
   case hy3 => intro w' hSw; obtain ⟨⟨_, _, _, _, _, _⟩, _⟩ := MC.out w' hSw; go_simp; try with_reducible rfl
   simp only [Act.put, zga, zgb, zgc, zgd, zge, zgf]
   generalize w9.drew = wz at *
   have HYD := Lib.hid (HYD9.out.keep KN (fun h => h))
   have HZD := Lib.hid (HZD9.out.keep KN (fun h => h))
   obtain ⟨y0, y1, y2, y3, y4, y5⟩ := HYD.out.six
   obtain ⟨fy0, fy1, fy2, fy3, fy4, fy5⟩ := HYD.out.free6
   have HYV := Lib.hid (HYD.out.put6 (.int .u64 im.now) (.int .u64 im.ng) (.int .u64 im.nt) (.slice A1 im.ses.length a1) (.slice E2 N c2) (.slice A3 im.built.length a3))
   have HZV := Lib.hid (HZD.out.far6 (b := p + 1 + 1) (by omega) (.int .u64 im.now) (.int .u64 im.ng) (.int .u64 im.nt) (.slice A1 im.ses.length a1) (.slice E2 N c2) (.slice A3 im.built.length a3))
   have KY7 := (Keep.refl (fun b => b = p + 1 + 1 ∨ b = p + 1 + 1 + 1) wz).put6 (b := p + 1 + 1) (fun _ => .inl rfl) (.int .u64 im.now) (.int .u64 im.ng) (.int .u64 im.nt) (.slice A1 im.ses.length a1) (.slice E2 N c2) (.slice A3 im.built.length a3)
   have KY := (KZ9).trans KY7 (fun _ _ h => h)
   dsimp only [sixPut] at HYV HZV KY KY7
   refine wpAnyH_ready (rs := [4]) (by kernel_rfl) (by simp) (AllReadyH.cons rfl (fun K hK => ?_) AllReadyH.nil)
   go_simp
   refine hK.out _ _ (KY) (fun hHeld => ?_)
   clear hK K
   try simp only [Act.put, zga, zgb, zgc, zgd, zge, zgf]
   generalize ((((((wz.setCell ⟨p + 1 + 1, 0, none⟩ (.int .u64 im.now)).setCell ⟨p + 1 + 1, 1, none⟩ (.int .u64 im.ng)).setCell ⟨p + 1 + 1, 2, none⟩ (.int .u64 im.nt)).setCell ⟨p + 1 + 1, 3, none⟩ (.slice A1 im.ses.length a1)).setCell ⟨p + 1 + 1, 4, none⟩ (.slice E2 N c2)).setCell ⟨p + 1 + 1, 5, none⟩ (.slice A3 im.built.length a3)) = wy at *
   clear y0 y1 y2 y3 y4 y5 fy0 fy1 fy2 fy3 fy4 fy5 HYD HZD
   obtain ⟨z0, z1, z2, z3, z4, z5⟩ := HZV.out.six
   obtain ⟨fz0, fz1, fz2, fz3, fz4, fz5⟩ := HZV.out.free6
   have HZA := Lib.hid (HZV.out.put6 (.int .i64 0) (.int .u64 c.id) (.int .u64 0) (.int .u64 0) (.string ⟨#[]⟩) (.string ⟨#[]⟩))
   have HYA := Lib.hid (HYV.out.far6 (b := p + 1 + 1 + 1) (by omega) (.int .i64 0) (.int .u64 c.id) (.int .u64 0) (.int .u64 0) (.string ⟨#[]⟩) (.string ⟨#[]⟩))
   have KA7 := KY7.put6 (b := p + 1 + 1 + 1) (fun _ => .inr rfl) (.int .i64 0) (.int .u64 c.id) (.int .u64 0) (.int .u64 0) (.string ⟨#[]⟩) (.string ⟨#[]⟩)
   have KA := KY.put6 (b := p + 1 + 1 + 1) (fun _ => .inr rfl) (.int .i64 0) (.int .u64 c.id) (.int .u64 0) (.int .u64 0) (.string ⟨#[]⟩) (.string ⟨#[]⟩)
   dsimp only [sixPut] at HZA HYA KA KA7
   refine wpAnyH_ready (rs := [5]) (by kernel_rfl) (by simp) (AllReadyH.cons rfl (fun K hK => ?_) AllReadyH.nil)
   go_simp
   refine hK.out _ _ (KA) (fun hHeld => ?_)
   clear hK K
   try simp only [Act.put, zga, zgb, zgc, zgd, zge, zgf]
   refine wpAnyH_done (by kernel_rfl) ?_ _
   generalize ((((((wy.setCell ⟨p + 1 + 1 + 1, 0, none⟩ (.int .i64 0)).setCell ⟨p + 1 + 1 + 1, 1, none⟩ (.int .u64 c.id)).setCell ⟨p + 1 + 1 + 1, 2, none⟩ (.int .u64 0)).setCell ⟨p + 1 + 1 + 1, 3, none⟩ (.int .u64 0)).setCell ⟨p + 1 + 1 + 1, 4, none⟩ (.string ⟨#[]⟩)).setCell ⟨p + 1 + 1 + 1, 5, none⟩ (.string ⟨#[]⟩)) = wf at *
   clear z0 z1 z2 z3 z4 z5 fz0 fz1 fz2 fz3 fz4 fz5 HYV HZV KY KY7 MC HYW HZW
   have HFIN : Hid (RefIm2 M (cancelP im.plain c.plain) w (.returned (.tuple #[.agg #[.int .u64 im.now, .int .u64 im.ng, .int .u64 im.nt, .slice A1 im.ses.length a1, .slice E2 N c2, .slice A3 im.built.length a3], .agg #[.int .i64 0, .int .u64 c.id, .int .u64 0, .int .u64 0, .string ⟨#[]⟩, .string ⟨#[]⟩]])) wf) := Lib.hid (by
    have kk : Keep noneOf w wf := ((HKA.out.trans HK3.out (fun _ _ h => h)).trans HK39.out (fun i hi e => by have := HPS.out; omega)).trans KA (fun i hi e => by have := HPS.out; omega)
    have hl := HL.out.keep kk (fun _ _ _ h => h)
    have ho := own_keep HO9.out KA (fun j hj e => by have := (HO9.out.lt j hj).1; have := HZL.out; omega)
    rw [← HN.out, HFX2.out] at ho
    rw [HRR.out]
    refine ⟨{ im with gv := .slice E2 N c2, gs := im.gs.take i ++ im.gs.drop (i + 1) }, ?_, ?_, ⟨hl.ses, ⟨?_, fun a ha => hl.gs.2 a ?_⟩, hl.built⟩, kk⟩
    ·
     unfold Im.agg An.agg
     dsimp only
     rw [HEE.out.1, HEE.out.2]
    ·
     show Qp.mk im.now im.ng im.nt im.ses ((im.gs.take i ++ im.gs.drop (i + 1)).map Gm.plain) im.built = _
     rw [erase_map]
     rfl
    ·
     have := (Row.of_own ho).mono (D' := M) (fun j _ hj => HMN.out j (by have := HZL.out; have := HPS.out; omega))
     have e : Many Gm.cells 3 wf M (.slice E2 (im.gs.take i ++ im.gs.drop (i + 1)).length c2) (im.gs.take i ++ im.gs.drop (i + 1)) := this
     rw [HN.out] at e
     exact e
    ·
     rcases List.mem_append.1 ha with h | h
     ·
      exact List.mem_of_mem_take h
     ·
      exact List.mem_of_mem_drop h)
   clear KA KA7
   go_wp2
   obtain ⟨r0, r1, r2, r3, r4, r5⟩ := HYA.out.six
   obtain ⟨s0, s1, s2, s3, s4, s5⟩ := HZA.out.six
   exact bodyPost_ret (v := .tuple #[.agg #[.int .u64 im.now, .int .u64 im.ng, .int .u64 im.nt, .slice A1 im.ses.length a1, .slice E2 N c2, .slice A3 im.built.length a3], .agg #[.int .i64 0, .int .u64 c.id, .int .u64 0, .int .u64 0, .string ⟨#[]⟩, .string ⟨#[]⟩]]) (by simp [results, Tryz.results34, go_sem, r0, r1, r2, r3, r4, r5, s0, s1, s2, s3, s4, s5]) rfl HFIN.out
end Go.Proofs.YtffoeodjbbkdjaaGreat
