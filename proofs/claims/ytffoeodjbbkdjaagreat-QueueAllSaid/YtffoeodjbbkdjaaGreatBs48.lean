import Derived.Test.YtffoeodjbbkdjaaGreatBs01
import Derived.Test.YtffoeodjbbkdjaaGreatBs42
import Derived.Test.YtffoeodjbbkdjaaGreatBs47
namespace Go.Proofs.YtffoeodjbbkdjaaGreat
open Go.RowKit
set_option maxRecDepth 100000 in
set_option maxHeartbeats 8000000 in
set_option linter.unusedSimpArgs false in
theorem rreport_any (w : World) (M : Nat → Prop) (hM : ∀ i, w.heap.size ≤ i → M i) (im : Im) (h : im.lies w M) (hi : Inv im.plain) (c : Cm) (Ag : Option Addr) (cg : Nat) (eg : c.gv = .slice Ag c.ts.length cg) (htk : 0 ≤ c.tok) :
  Calls Tryz.prog 33 #[im.agg, c.agg] w (RefIm2 M (reportP im.plain c.plain) w) := by
 obtain ⟨A1, a1, A2, a2, A3, a3, e1, e2, e3⟩ := h.shapes
 have hfew := h.gs.1.few
 unfold maxLen at hfew
 obtain ⟨KA, HX0, HC0, HY0, HZ0⟩ := four_new w #[.int .u64 im.now, .int .u64 im.ng, .int .u64 im.nt, .slice A1 im.ses.length a1, .slice A2 im.gs.length a2, .slice A3 im.built.length a3] #[.int .i64 c.kind, .int .u64 c.ses, .int .u64 c.seq, .slice Ag c.ts.length cg, .int .u64 c.id, .int .u64 c.tok, .bool c.good, .int .u64 c.time] #[.int .u64 0, .int .u64 0, .int .u64 0, .slice none 0 0, .slice none 0 0, .slice none 0 0] #[.int .i64 0, .int .u64 0, .int .u64 0, .int .u64 0, .string ⟨#[]⟩, .string ⟨#[]⟩] 30 37 30 40
 have hg := (h.mono (D' := fun i => i < w.heap.size) (fun i hi _ => hi)).gs
 rw [e2] at hg
 have HG := Lib.hid (hg.keep KA (fun _ _ _ h => h))
 have HL := Lib.hid h
 have HMN := Lib.hid hM
 have HX := Lib.hid HX0
 have HC := Lib.hid HC0
 have HY := Lib.hid HY0
 have HZ := Lib.hid HZ0
 have HKA := Lib.hid KA
 have HI := Lib.hid hi
 have HTK := Lib.hid htk
 have HAGG : Hid (im.agg = .agg #[.int .u64 im.now, .int .u64 im.ng, .int .u64 im.nt, .slice A1 im.ses.length a1, .slice A2 im.gs.length a2, .slice A3 im.built.length a3]) := Lib.hid (by unfold Im.agg; rw [e1, e2, e3])
 have HD0 := rheld_any ((((w.alloc (.cells #[.int .u64 im.now, .int .u64 im.ng, .int .u64 im.nt, .slice A1 im.ses.length a1, .slice A2 im.gs.length a2, .slice A3 im.built.length a3] 30)).alloc (.cells #[.int .i64 c.kind, .int .u64 c.ses, .int .u64 c.seq, .slice Ag c.ts.length cg, .int .u64 c.id, .int .u64 c.tok, .bool c.good, .int .u64 c.time] 37)).alloc (.cells #[.int .u64 0, .int .u64 0, .int .u64 0, .slice none 0 0, .slice none 0 0, .slice none 0 0] 30)).alloc (.cells #[.int .i64 0, .int .u64 0, .int .u64 0, .int .u64 0, .string ⟨#[]⟩, .string ⟨#[]⟩] 40)) M im (h.keep KA (fun _ _ _ h => h)) c.tok htk
 rw [HAGG.out] at HD0
 have HD := Lib.hid HD0
 unfold Im.agg Cm.agg
 rw [e1, e2, e3, eg]
 clear h KA hg e1 e2 e3 hi HX0 HY0 HZ0 HC0 eg htk HD0
 go_enter Tryz.func33, Tryz.ntmps33
 go_upto_region 1 with fail
 generalize (((w.alloc (.cells #[.int .u64 im.now, .int .u64 im.ng, .int .u64 im.nt, .slice A1 im.ses.length a1, .slice A2 im.gs.length a2, .slice A3 im.built.length a3] 30)).alloc (.cells #[.int .i64 c.kind, .int .u64 c.ses, .int .u64 c.seq, .slice Ag c.ts.length cg, .int .u64 c.id, .int .u64 c.tok, .bool c.good, .int .u64 c.time] 37)).alloc (.cells #[.int .u64 0, .int .u64 0, .int .u64 0, .slice none 0 0, .slice none 0 0, .slice none 0 0] 30)).alloc (.cells #[.int .i64 0, .int .u64 0, .int .u64 0, .int .u64 0, .string ⟨#[]⟩, .string ⟨#[]⟩] 40) = w1 at *
 generalize hp : w.heap.size = p at *
 have HPS := Lib.hid hp
 clear hp
 obtain ⟨x0, x1, x2, x3, x4, x5⟩ := HX.out.six
 have m5 := HC.out.cell 5
 go_wp2_with fail
 refine HD.out.mono ?_
 rintro e w2 ⟨k2, hd⟩
 have HK2 := Lib.hid k2
 clear HD k2 x0 x1 x2 x3 x4 x5 m5
 rcases hd with ⟨hh, rfl⟩ | ⟨i, n, hh, rfl⟩
 ·
  have HRD : Hid (reportP im.plain c.plain = (im.plain, .err 100)) := Lib.hid (by
   unfold reportP
   rw [show c.plain.tok = c.tok from rfl, hh])
  obtain ⟨x0, x1, x2, x3, x4, x5⟩ := (HX.out.keep HK2.out (fun h => h)).six
  clear hh
  have HKW := Lib.hid (HKA.out.trans HK2.out (fun _ _ h => h))
  have HPB : Hid (w.heap.size ≤ p + 1) := Lib.hid (by have := HPS.out; omega)
  have HYW := Lib.hid (HY.out.keep HK2.out (fun h => h))
  have HZW := Lib.hid (HZ.out.keep HK2.out (fun h => h))
  obtain ⟨y0, y1, y2, y3, y4, y5⟩ := HYW.out.six
  obtain ⟨fy0, fy1, fy2, fy3, fy4, fy5⟩ := HYW.out.free6
  obtain ⟨z0, z1, z2, z3, z4, z5⟩ := HZW.out.six
  obtain ⟨fz0, fz1, fz2, fz3, fz4, fz5⟩ := HZW.out.free6
  go_wp2
  have HY6 := HYW.out.put6 (.int .u64 im.now) (.int .u64 im.ng) (.int .u64 im.nt) (.slice A1 im.ses.length a1) (.slice A2 im.gs.length a2) (.slice A3 im.built.length a3)
  have HZ5 := HZW.out.far6 (b := (p + 1 + 1)) (by omega) (.int .u64 im.now) (.int .u64 im.ng) (.int .u64 im.nt) (.slice A1 im.ses.length a1) (.slice A2 im.gs.length a2) (.slice A3 im.built.length a3)
  have HZ6 := HZ5.put6 (.int .i64 100) (.int .u64 0) (.int .u64 0) (.int .u64 0) (.string ⟨#[]⟩) (.string ⟨#[]⟩)
  have HY7 := HY6.far6 (b := (p + 1 + 1 + 1)) (by omega) (.int .i64 100) (.int .u64 0) (.int .u64 0) (.int .u64 0) (.string ⟨#[]⟩) (.string ⟨#[]⟩)
  have KK : Keep noneOf w (sixPut (sixPut w2 (p + 1 + 1) (.int .u64 im.now) (.int .u64 im.ng) (.int .u64 im.nt) (.slice A1 im.ses.length a1) (.slice A2 im.gs.length a2) (.slice A3 im.built.length a3)) (p + 1 + 1 + 1) (.int .i64 100) (.int .u64 0) (.int .u64 0) (.int .u64 0) (.string ⟨#[]⟩) (.string ⟨#[]⟩)) := by
   have KW := HKW.out
   have hb := HPB.out
   exact (KW.put6 (b := (p + 1 + 1)) (fun h => absurd h (by omega)) (.int .u64 im.now) (.int .u64 im.ng) (.int .u64 im.nt) (.slice A1 im.ses.length a1) (.slice A2 im.gs.length a2) (.slice A3 im.built.length a3)).put6 (b := (p + 1 + 1 + 1)) (fun h => absurd h (by omega)) (.int .i64 100) (.int .u64 0) (.int .u64 0) (.int .u64 0) (.string ⟨#[]⟩) (.string ⟨#[]⟩)
  have HFIN : RefIm2 M (reportP im.plain c.plain) w (.returned (.tuple #[.agg #[.int .u64 im.now, .int .u64 im.ng, .int .u64 im.nt, .slice A1 im.ses.length a1, .slice A2 im.gs.length a2, .slice A3 im.built.length a3], .agg #[.int .i64 100, .int .u64 0, .int .u64 0, .int .u64 0, .string ⟨#[]⟩, .string ⟨#[]⟩]])) (sixPut (sixPut w2 (p + 1 + 1) (.int .u64 im.now) (.int .u64 im.ng) (.int .u64 im.nt) (.slice A1 im.ses.length a1) (.slice A2 im.gs.length a2) (.slice A3 im.built.length a3)) (p + 1 + 1 + 1) (.int .i64 100) (.int .u64 0) (.int .u64 0) (.int .u64 0) (.string ⟨#[]⟩) (.string ⟨#[]⟩)) := by rw [HRD.out, ← HAGG.out]; exact refim2_ret rfl (HL.out.keep KK (fun _ _ _ h => h)) KK
  dsimp only [sixPut] at HZ6 HY7 HFIN
  obtain ⟨r0, r1, r2, r3, r4, r5⟩ := HY7.six
  obtain ⟨s0, s1, s2, s3, s4, s5⟩ := HZ6.six
  exact bodyPost_ret (v := .tuple #[.agg #[.int .u64 im.now, .int .u64 im.ng, .int .u64 im.nt, .slice A1 im.ses.length a1, .slice A2 im.gs.length a2, .slice A3 im.built.length a3], .agg #[.int .i64 100, .int .u64 0, .int .u64 0, .int .u64 0, .string ⟨#[]⟩, .string ⟨#[]⟩]]) (by simp [results, Tryz.results33, go_sem, r0, r1, r2, r3, r4, r5, s0, s1, s2, s3, s4, s5]) rfl HFIN
 ·
  obtain ⟨gq, x, hgq, hx, hb⟩ := held_some hh
  obtain ⟨g, hg, rfl⟩ := gm_of hgq
  have hx' : g.st[n]? = some x := hx
  have HX1 := Lib.hid hg
  have HXS := Lib.hid hx'
  have HRR : Hid (reportP im.plain c.plain = (if c.good = true then { withG im.plain i (grSettle (g.ts.map Tg.plain) (g.st.set n ⟨if c.good = true then 3 else 4, 0, 0⟩)) with built := builtP im.built ((grKeys (g.ts.map Tg.plain)).getD n 0) } else withG im.plain i (grSettle (g.ts.map Tg.plain) (g.st.set n ⟨if c.good = true then 3 else 4, 0, 0⟩)), ⟨0, g.id, 0, 0, g.plain.name n, ⟨#[]⟩⟩)) := Lib.hid (by
   unfold reportP
   rw [show c.plain.tok = c.tok from rfl, hh]
   dsimp only
   rw [getD_some hgq]
   rfl)
  clear hh hgq hx hb
  have hil := (List.getElem?_eq_some_iff.1 hg).1
  have hnl := (List.getElem?_eq_some_iff.1 hx').1
  have q0 : (0 : Int) ≤ (i : Int) := by omega
  have q1 : (i : Int) < (im.gs.length : Int) := by omega
  have q2 : (0 : Int) ≤ (n : Int) := by omega
  have hG := HG.out.keep HK2.out (fun _ _ _ h => h)
  obtain ⟨tb, o, rfl, hblk, _, hcell⟩ := hG.1.cell (fun _ => rfl) hg
  have d0 : w2.cell? ⟨tb, o + i * 3, none⟩ = some (.int .u64 g.id) := hcell 0 (by decide)
  have d1 : w2.cell? ⟨tb, o + i * 3 + 1, none⟩ = some g.gv := hcell 1 (by decide)
  have d2 : w2.cell? ⟨tb, o + i * 3 + 2, none⟩ = some g.sv := hcell 2 (by decide)
  have hgl := hG.2 g (List.mem_of_getElem? hg)
  obtain ⟨B1, b1, f1, _⟩ := hgl.1.1
  obtain ⟨B2, b2, f2⟩ := Sts.shape hgl.2
  rw [f1] at d1
  rw [f2] at d2
  have hst := hgl.2
  rw [f2] at hst
  have hgt := hgl.1
  rw [f1] at hgt
  have hfw := im_few HI.out (List.mem_of_getElem? hg)
  have hnt : n < g.ts.length := by omega
  obtain ⟨t, ht⟩ : ∃ t, g.ts[n]? = some t := ⟨_, List.getElem?_eq_getElem hnt⟩
  have HTT := Lib.hid ht
  have HNM := Lib.hid (name_at ht)
  have q4 : (n : Int) < (g.ts.length : Int) := by omega
  have KG := (Keep.refl noneOf w2).alloc (.cells #[.int .u64 g.id, .slice B1 g.ts.length b1, .slice B2 g.st.length b2] 59)
  have HBG := Lib.hid (Box.new w2 59 #[.int .u64 g.id, .slice B1 g.ts.length b1, .slice B2 g.st.length b2])
  have HK3 := Lib.hid (HK2.out.trans KG (fun _ _ h => h))
  have HST := Lib.hid (Sts.keep hst KG (fun _ _ _ h => h))
  have HGT := Lib.hid (Tgs.keep hgt KG (fun _ _ _ h => h))
  have HNX1 := Lib.hid (show p + 1 + 1 + 1 < w2.heap.size from by have h1 := HZ.out.lt; have h2 := HK2.out.size; omega)
  have HFW := Lib.hid hfw
  have HNL := Lib.hid hnl
  have x4 := (HX.out.keep HK2.out (fun h => h)).cell 4
  clear hG hcell hblk hgl f1 f2 hst hgt KG hg hx' hil hnl hfw hnt ht
  go_upto_region 5 with fail
  generalize hw : w2.alloc (.cells #[.int .u64 g.id, .slice B1 g.ts.length b1, .slice B2 g.st.length b2] 59) = w3 at *
  generalize hz : w2.heap.size = px at *
  clear hw hz d0 d1 d2 x4
  obtain ⟨tb2, o3, eT, htblk, _, htcell⟩ := (show Many Tg.cells 3 w3 _ (.slice B1 g.ts.length b1) g.ts from HGT.out.1).cell (fun _ => rfl) HTT.out
  have MC : Hid (∀ w', Keep noneOf w3 w' → w'.cell? ⟨px, 0, none⟩ = some (.int .u64 g.id) ∧ w'.cell? ⟨px, 1, none⟩ = some (.slice (some ⟨tb2, o3, none⟩) g.ts.length b1) ∧ w'.cell? ⟨tb2, o3 + n * 3, none⟩ = some (.string t.name)) := Lib.hid fun w' k' => by
   have h3 := HBG.out.keep k' (fun h => h)
   have ks := (k'.cell (p := ⟨tb2, o3 + (n * 3 + 0), none⟩) htblk (fun h => h)).trans (htcell 0 (by decide))
   rw [eT] at h3
   exact ⟨h3.cell 0, h3.cell 1, ks⟩
  have K3 := Keep.refl noneOf w3
  clear htcell htblk eT
  refine wp_region_held_drew (S := fun w' => Keep noneOf w3 w') (by kernel_rfl) (K3.drew) (fun hHeld => ?_)
  refine' ztk 0 _ rfl (.inl ⟨by kernel_rfl, ?hy0⟩) ?_
  case hy0 => intro w' hSw; obtain ⟨_, _, _⟩ := MC.out w' hSw; go_simp; try with_reducible rfl
  simp only [Act.put, zga, zgb, zgc, zgd, zge, zgf]
  refine' ztk 1 _ rfl (.inl ⟨by kernel_rfl, ?hy1⟩) ?_
  case hy1 => intro w' hSw; obtain ⟨_, _, _⟩ := MC.out w' hSw; go_simp; try with_reducible rfl
  simp only [Act.put, zga, zgb, zgc, zgd, zge, zgf]
  refine' ztk 2 _ rfl (.inl ⟨by kernel_rfl, ?hy2⟩) ?_
  case hy2 => intro w' hSw; obtain ⟨_, _, _⟩ := MC.out w' hSw; go_simp; try with_reducible rfl
  simp only [Act.put, zga, zgb, zgc, zgd, zge, zgf]
  refine' ztk 3 _ rfl (.inl ⟨by kernel_rfl, ?hy3⟩) ?_
  case hy3 => intro w' hSw; obtain ⟨_, _, _⟩ := MC.out w' hSw; go_simp; try with_reducible rfl
  simp only [Act.put, zga, zgb, zgc, zgd, zge, zgf]
  refine' ztk 4 _ rfl (.inl ⟨by kernel_rfl, ?hy4⟩) ?_
  case hy4 => intro w' hSw; obtain ⟨_, _, _⟩ := MC.out w' hSw; go_simp; try with_reducible rfl
  simp only [Act.put, zga, zgb, zgc, zgd, zge, zgf]
  refine' ztk 5 _ rfl (.inl ⟨by kernel_rfl, ?hy5⟩) ?_
  case hy5 => intro w' hSw; obtain ⟨_, _, _⟩ := MC.out w' hSw; go_simp; try with_reducible rfl
  simp only [Act.put, zga, zgb, zgc, zgd, zge, zgf]
  refine' ztk 6 _ rfl (.inl ⟨by kernel_rfl, ?hy6⟩) ?_
  case hy6 => intro w' hSw; obtain ⟨_, _, _⟩ := MC.out w' hSw; go_simp; try with_reducible rfl
  simp only [Act.put, zga, zgb, zgc, zgd, zge, zgf]
  refine' ztk 7 _ rfl (.inl ⟨by kernel_rfl, ?hy7⟩) ?_
  case hy7 => intro w' hSw; obtain ⟨_, _, _⟩ := MC.out w' hSw; go_simp; try with_reducible rfl
  simp only [Act.put, zga, zgb, zgc, zgd, zge, zgf]
  refine' ztk 8 _ rfl (.inl ⟨by kernel_rfl, ?hy8⟩) ?_
  case hy8 => intro w' hSw; obtain ⟨_, _, _⟩ := MC.out w' hSw; go_simp; try with_reducible rfl
  simp only [Act.put, zga, zgb, zgc, zgd, zge, zgf]
  refine' ztk 9 _ rfl (.inl ⟨by kernel_rfl, ?hy9⟩) ?_
  case hy9 => intro w' hSw; obtain ⟨_, _, _⟩ := MC.out w' hSw; go_simp; try with_reducible rfl
  simp only [Act.put, zga, zgb, zgc, zgd, zge, zgf]
  generalize hwd : w3.drew = wd at *
  have KD : Keep noneOf w3 wd := by rw [← hwd]; exact K3.drew
  clear hwd
  refine wpAnyH_ready (rs := [10]) (by kernel_rfl) (by simp) (AllReadyH.cons rfl (fun K hK => ?_) AllReadyH.nil)
  go_simp
  refine hK.out _ _ (KD.alloc _) (fun hHeld => ?_)
  clear hK K
  try simp only [Act.put, zga, zgb, zgc, zgd, zge, zgf]
  have hb0 := Box.new wd 40 #[.int .i64 0, .int .u64 0, .int .u64 0, .int .u64 0, .string ⟨#[]⟩, .string ⟨#[]⟩]
  refine wpAnyH_ready (rs := [11]) (by kernel_rfl) (by simp) (AllReadyH.cons rfl (fun K hK => ?_) AllReadyH.nil)
  go_simp
  have hk6 : Keep noneOf w3 (wd.alloc (.cells #[.int .i64 0, .int .u64 g.id, .int .u64 0, .int .u64 0, .string t.name, .string ⟨#[]⟩] 40)) := KD.alloc _
  have hb6 := Lib.hid (Box.new wd 40 #[.int .i64 0, .int .u64 g.id, .int .u64 0, .int .u64 0, .string t.name, .string ⟨#[]⟩])
  refine hK.out _ _ (hk6) (fun hHeld => ?_)
  clear hK K
  try simp only [Act.put, zga, zgb, zgc, zgd, zge, zgf]
  refine wpAnyH_done (by kernel_rfl) ?_ _
  have HK4 := Lib.hid (HK3.out.trans hk6 (fun _ _ h => h))
  have HBA := hb6
  have HBG4 := Lib.hid (HBG.out.keep hk6 (fun h => h))
  have HST4 := Lib.hid (Sts.keep HST.out hk6 (fun _ _ _ h => h))
  have HGT4 := Lib.hid (Tgs.keep HGT.out hk6 (fun _ _ _ h => h))
  have HNS1 := Lib.hid (show p + 1 + 1 + 1 < wd.heap.size from by have h1 := HZ.out.lt; have h2 := HK3.out.size; have h3 := KD.size; omega)
  clear MC K3 KD hb0 hk6 hb6 hHeld HBG HST HGT HK3
  generalize hw : wd.alloc (.cells #[.int .i64 0, .int .u64 g.id, .int .u64 0, .int .u64 0, .string t.name, .string ⟨#[]⟩] 40) = w4 at *
  generalize hz : wd.heap.size = pa at *
  clear hw hz
  have HCG := Lib.hid (HC.out.keep HK4.out (fun h => h))
  have HXW := Lib.hid (HX.out.keep HK4.out (fun h => h))
  have HYW := Lib.hid (HY.out.keep HK4.out (fun h => h))
  have HZW := Lib.hid (HZ.out.keep HK4.out (fun h => h))
  have HLN : Hid (∀ y, (grSettle (g.ts.map Tg.plain) (g.st.set n y)).length = g.st.length) := Lib.hid fun y => by
   have h1 := HFW.out
   rw [grSettle_length (by rw [order_len h1.2.2.1, List.length_set, List.length_map]; omega), List.length_set]
  have HSET : Hid (∀ w' y, Keep noneOf w4 w' → Calls Tryz.prog 71 #[.slice B2 g.st.length b2, .int .i64 (n : Int), .agg #[.int .i64 y, .int .u64 0, .int .u64 0]] w' (TellsSts (g.st.set n ⟨y, 0, 0⟩) w')) := Lib.hid fun w' y k' => rset_any w' _ _ g.st n ⟨y, 0, 0⟩ (Sts.keep HST4.out k' (fun _ _ _ h => h)) HNL.out (by rw [reach_is]; have := HFW.out.1; omega)
  have HSTL : Hid (∀ w' vl Dl l, Keep noneOf w4 w' → Sts w' Dl vl l → Calls Tryz.prog 54 #[.agg #[.slice B1 g.ts.length b1], vl] w' (TellsSts (grSettle (g.ts.map Tg.plain) l) w')) := Lib.hid fun w' vl Dl l k' hs => refSettle_any w' _ Dl _ vl g.ts l (Tgs.keep HGT4.out k' (fun _ _ _ h => h)) hs
  have HWITH : Hid (∀ w' sv st', Keep noneOf w4 w' → Sts w' (fun i => (i < p ∧ M i) ∨ p + 1 + 1 + 1 < i) sv st' → Calls Tryz.prog 26 #[.agg #[.int .u64 im.now, .int .u64 im.ng, .int .u64 im.nt, .slice A1 im.ses.length a1, .slice (some ⟨tb, o, none⟩) im.gs.length a2, .slice A3 im.built.length a3], .int .i64 (i : Int), sv] w' (RefIm (fun i => (i < p ∧ M i) ∨ p + 1 + 1 + 1 < i) (withG im.plain i st') w')) := Lib.hid fun w' sv st' k' hs => by
   have := rwith_any w' (fun i => (i < p ∧ M i) ∨ p + 1 + 1 + 1 < i) (fun i hi => .inr (by have h1 := HZ.out.lt; have h2 := HK4.out.size; have h3 := k'.size; omega)) im ((HL.out.mono (fun i hi hm => .inl ⟨by have := HPS.out; omega, hm⟩)).keep ((HKA.out.trans HK4.out (fun _ _ h => h)).trans k' (fun _ _ h => h)) (fun _ _ _ h => h)) i g HX1.out sv st' hs (by have := HI.out.gsFew; simpa [Im.plain] using this)
   rw [HAGG.out] at this
   exact this
  have m6 := HCG.out.cell 6
  cases hgd : c.good with
  | false =>
   rw [hgd] at HRR m6
   rw [if_neg (by decide)] at HRR
   rw [if_neg (by decide)] at HRR
   obtain ⟨S4, hS4⟩ : ∃ S4, grSettle (g.ts.map Tg.plain) (g.st.set n ⟨4, 0, 0⟩) = S4 := ⟨_, rfl⟩
   have hl4 := HLN.out ⟨4, 0, 0⟩
   rw [hS4] at HRR hl4
   have HL4 := Lib.hid hl4
   have HS4 := Lib.hid hS4
   clear hl4 hS4
   have MC : Hid (∀ w', Keep (fun b => b = p + 1 + 1 ∨ b = p + 1 + 1 + 1) w4 w' → (w'.cell? ⟨p, 0, none⟩ = some (.int .u64 im.now) ∧ w'.cell? ⟨p, 1, none⟩ = some (.int .u64 im.ng) ∧ w'.cell? ⟨p, 2, none⟩ = some (.int .u64 im.nt) ∧ w'.cell? ⟨p, 3, none⟩ = some (.slice A1 im.ses.length a1) ∧ w'.cell? ⟨p, 4, none⟩ = some (.slice (some ⟨tb, o, none⟩) im.gs.length a2) ∧ w'.cell? ⟨p, 5, none⟩ = some (.slice A3 im.built.length a3)) ∧
     (w'.cell? ⟨px, 1, none⟩ = some (.slice B1 g.ts.length b1) ∧ w'.cell? ⟨px, 2, none⟩ = some (.slice B2 g.st.length b2)) ∧
     (w'.cell? ⟨pa, 0, none⟩ = some (.int .i64 0) ∧ w'.cell? ⟨pa, 1, none⟩ = some (.int .u64 g.id) ∧ w'.cell? ⟨pa, 2, none⟩ = some (.int .u64 0) ∧ w'.cell? ⟨pa, 3, none⟩ = some (.int .u64 0) ∧ w'.cell? ⟨pa, 4, none⟩ = some (.string t.name) ∧ w'.cell? ⟨pa, 5, none⟩ = some (.string ⟨#[]⟩))) := Lib.hid fun w' k' => by
    have h1 := (HXW.out.keep k' (by omega)).six
    have h2 := HBG4.out.keep k' (by have := HNX1.out; omega)
    have h3 := (HBA.out.keep k' (by have := HNS1.out; omega)).six
    exact ⟨h1, ⟨h2.cell 1, h2.cell 2⟩, h3⟩
   have KZ9 := (Keep.refl (fun b => b = p + 1 + 1 ∨ b = p + 1 + 1 + 1) w4).drew
   have KN := (Keep.refl noneOf w4).drew
   go_upto_region 7 with fail
   clear m6
   refine wp_region_held_drew (S := fun w' => Keep (fun b => b = p + 1 + 1 ∨ b = p + 1 + 1 + 1) w4 w') (by kernel_rfl) (KZ9) (fun hHeld => ?_)
   refine' ztk 0 _ rfl (.inl ⟨by kernel_rfl, ?hy0⟩) ?_
   case hy0 => intro w' hSw; obtain ⟨⟨_, _, _, _, _, _⟩, ⟨_, _⟩, ⟨_, _, _, _, _, _⟩⟩ := MC.out w' hSw; go_simp; try with_reducible rfl
   simp only [Act.put, zga, zgb, zgc, zgd, zge, zgf]
   refine' ztk 1 _ rfl (.inl ⟨by kernel_rfl, ?hy1⟩) ?_
   case hy1 => intro w' hSw; obtain ⟨⟨_, _, _, _, _, _⟩, ⟨_, _⟩, ⟨_, _, _, _, _, _⟩⟩ := MC.out w' hSw; go_simp; try with_reducible rfl
   simp only [Act.put, zga, zgb, zgc, zgd, zge, zgf]
   refine' ztk 2 _ rfl (.inl ⟨by kernel_rfl, ?hy2⟩) ?_
   case hy2 => intro w' hSw; obtain ⟨⟨_, _, _, _, _, _⟩, ⟨_, _⟩, ⟨_, _, _, _, _, _⟩⟩ := MC.out w' hSw; go_simp; try with_reducible rfl
   simp only [Act.put, zga, zgb, zgc, zgd, zge, zgf]
   refine' ztk 3 _ rfl (.inl ⟨by kernel_rfl, ?hy3⟩) ?_
   case hy3 => intro w' hSw; obtain ⟨⟨_, _, _, _, _, _⟩, ⟨_, _⟩, ⟨_, _, _, _, _, _⟩⟩ := MC.out w' hSw; go_simp; try with_reducible rfl
   simp only [Act.put, zga, zgb, zgc, zgd, zge, zgf]
   refine' ztk 4 _ rfl (.inl ⟨by kernel_rfl, ?hy4⟩) ?_
   case hy4 => intro w' hSw; obtain ⟨⟨_, _, _, _, _, _⟩, ⟨_, _⟩, ⟨_, _, _, _, _, _⟩⟩ := MC.out w' hSw; go_simp; try with_reducible rfl
   simp only [Act.put, zga, zgb, zgc, zgd, zge, zgf]
   refine' ztk 5 _ rfl (.inl ⟨by kernel_rfl, ?hy5⟩) ?_
   case hy5 => intro w' hSw; obtain ⟨⟨_, _, _, _, _, _⟩, ⟨_, _⟩, ⟨_, _, _, _, _, _⟩⟩ := MC.out w' hSw; go_simp; try with_reducible rfl
   simp only [Act.put, zga, zgb, zgc, zgd, zge, zgf]
   refine' ztk 6 _ rfl (.inl ⟨by kernel_rfl, ?hy6⟩) ?_
   case hy6 => intro w' hSw; obtain ⟨⟨_, _, _, _, _, _⟩, ⟨_, _⟩, ⟨_, _, _, _, _, _⟩⟩ := MC.out w' hSw; go_simp; try with_reducible rfl
   simp only [Act.put, zga, zgb, zgc, zgd, zge, zgf]
   refine' ztk 7 _ rfl (.inl ⟨by kernel_rfl, ?hy7⟩) ?_
   case hy7 => intro w' hSw; obtain ⟨⟨_, _, _, _, _, _⟩, ⟨_, _⟩, ⟨_, _, _, _, _, _⟩⟩ := MC.out w' hSw; go_simp; try with_reducible rfl
   simp only [Act.put, zga, zgb, zgc, zgd, zge, zgf]
   refine' ztk 11 _ rfl (.inl ⟨by kernel_rfl, ?hy11⟩) ?_
   case hy11 => intro w' hSw; obtain ⟨⟨_, _, _, _, _, _⟩, ⟨_, _⟩, ⟨_, _, _, _, _, _⟩⟩ := MC.out w' hSw; go_simp; try with_reducible rfl
   simp only [Act.put, zga, zgb, zgc, zgd, zge, zgf]
   generalize w4.drew = wz at *
   refine wpAnyH_ready (rs := [8]) (by kernel_rfl) (by simp) (AllReadyH.cons rfl (fun K hK => ?_) AllReadyH.nil)
   go_simp
   go_at_call 71
   refine (HSET.out _ 4 KN).mono ?_
   rintro e w5 ⟨A5, c5, rfl, hst5, k5⟩
   rw [List.length_set] at hst5 ⊢
   have K5 : Keep noneOf w4 w5 := KN.trans k5 (fun _ _ h => h)
   have STT := Lib.hid (HSTL.out w5 _ _ _ K5 hst5)
   rw [HS4.out] at STT
   clear k5 hst5
   go_wp2_with fail
   refine hK.out _ _ (K5.wide) (fun hHeld => ?_)
   clear hK K
   try simp only [Act.put, zga, zgb, zgc, zgd, zge, zgf]
   refine wpAnyH_ready (rs := [9]) (by kernel_rfl) (by simp) (AllReadyH.cons rfl (fun K hK => ?_) AllReadyH.nil)
   go_simp
   go_at_call 54
   refine STT.out.mono ?_
   rintro e w6 ⟨A6, c6, rfl, hst6, k6⟩
   rw [HL4.out] at hst6 ⊢
   have K6 : Keep noneOf w4 w6 := K5.trans k6 (fun _ _ h => h)
   have WT := HWITH.out w6 _ _ K6 (hst6.mono (fun i _ h => .inr (by have h1 := HZ.out.lt; have h2 := HK4.out.size; have h3 := K5.size; omega)))
   replace WT := Lib.hid WT
   clear k6 STT
   go_wp2_with fail
   refine hK.out _ _ (K6.wide) (fun hHeld => ?_)
   clear hK K
   try simp only [Act.put, zga, zgb, zgc, zgd, zge, zgf]
   refine wpAnyH_ready (rs := [10]) (by kernel_rfl) (by simp) (AllReadyH.cons rfl (fun K hK => ?_) AllReadyH.nil)
   go_simp
   go_at_call 26
   refine WT.out.mono ?_
   rintro e w7 ⟨im7, rfl, hp7, hl7, k7⟩
   obtain ⟨E1, c1, E2, c2, E3, c3, e1, e2, e3⟩ := hl7.shapes
   have K7 : Keep noneOf w4 w7 := K6.trans k7 (fun _ _ h => h)
   have HI7 := Lib.hid hl7
   have HP7 := Lib.hid hp7
   have HE7 := Lib.hid (And.intro e1 (And.intro e2 e3))
   unfold Im.agg
   rw [e1, e2, e3]
   clear WT k7 hp7 hl7 e1 e2 e3
   go_wp2_with fail
   refine hK.out _ _ (K7.wide) (fun hHeld => ?_)
   clear hK K
   try simp only [Act.put, zga, zgb, zgc, zgd, zge, zgf]
   have HYD := Lib.hid (HYW.out.keep K7 (fun h => h))
   have HZD := Lib.hid (HZW.out.keep K7 (fun h => h))
   obtain ⟨y0, y1, y2, y3, y4, y5⟩ := HYD.out.six
   obtain ⟨fy0, fy1, fy2, fy3, fy4, fy5⟩ := HYD.out.free6
   have HYV := Lib.hid (HYD.out.put6 (.int .u64 im7.now) (.int .u64 im7.ng) (.int .u64 im7.nt) (.slice E1 im7.ses.length c1) (.slice E2 im7.gs.length c2) (.slice E3 im7.built.length c3))
   have HZV := Lib.hid (HZD.out.far6 (b := p + 1 + 1) (by omega) (.int .u64 im7.now) (.int .u64 im7.ng) (.int .u64 im7.nt) (.slice E1 im7.ses.length c1) (.slice E2 im7.gs.length c2) (.slice E3 im7.built.length c3))
   have KY7 := (Keep.refl (fun b => b = p + 1 + 1 ∨ b = p + 1 + 1 + 1) w7).put6 (b := p + 1 + 1) (fun _ => .inl rfl) (.int .u64 im7.now) (.int .u64 im7.ng) (.int .u64 im7.nt) (.slice E1 im7.ses.length c1) (.slice E2 im7.gs.length c2) (.slice E3 im7.built.length c3)
   have KY := (K7.wide (S := fun b => b = p + 1 + 1 ∨ b = p + 1 + 1 + 1)).trans KY7 (fun _ _ h => h)
   dsimp only [sixPut] at HYV HZV KY KY7
   refine wpAnyH_ready (rs := [12]) (by kernel_rfl) (by simp) (AllReadyH.cons rfl (fun K hK => ?_) AllReadyH.nil)
   go_simp
   refine hK.out _ _ (KY) (fun hHeld => ?_)
   clear hK K
   try simp only [Act.put, zga, zgb, zgc, zgd, zge, zgf]
   generalize ((((((w7.setCell ⟨p + 1 + 1, 0, none⟩ (.int .u64 im7.now)).setCell ⟨p + 1 + 1, 1, none⟩ (.int .u64 im7.ng)).setCell ⟨p + 1 + 1, 2, none⟩ (.int .u64 im7.nt)).setCell ⟨p + 1 + 1, 3, none⟩ (.slice E1 im7.ses.length c1)).setCell ⟨p + 1 + 1, 4, none⟩ (.slice E2 im7.gs.length c2)).setCell ⟨p + 1 + 1, 5, none⟩ (.slice E3 im7.built.length c3)) = wy at *
   clear y0 y1 y2 y3 y4 y5 fy0 fy1 fy2 fy3 fy4 fy5 HYD HZD
   obtain ⟨z0, z1, z2, z3, z4, z5⟩ := HZV.out.six
   obtain ⟨fz0, fz1, fz2, fz3, fz4, fz5⟩ := HZV.out.free6
   have HZA := Lib.hid (HZV.out.put6 (.int .i64 0) (.int .u64 g.id) (.int .u64 0) (.int .u64 0) (.string t.name) (.string ⟨#[]⟩))
   have HYA := Lib.hid (HYV.out.far6 (b := p + 1 + 1 + 1) (by omega) (.int .i64 0) (.int .u64 g.id) (.int .u64 0) (.int .u64 0) (.string t.name) (.string ⟨#[]⟩))
   have KA7 := KY7.put6 (b := p + 1 + 1 + 1) (fun _ => .inr rfl) (.int .i64 0) (.int .u64 g.id) (.int .u64 0) (.int .u64 0) (.string t.name) (.string ⟨#[]⟩)
   have KA := KY.put6 (b := p + 1 + 1 + 1) (fun _ => .inr rfl) (.int .i64 0) (.int .u64 g.id) (.int .u64 0) (.int .u64 0) (.string t.name) (.string ⟨#[]⟩)
   dsimp only [sixPut] at HZA HYA KA KA7
   refine wpAnyH_ready (rs := [13]) (by kernel_rfl) (by simp) (AllReadyH.cons rfl (fun K hK => ?_) AllReadyH.nil)
   go_simp
   refine hK.out _ _ (KA) (fun hHeld => ?_)
   clear hK K
   try simp only [Act.put, zga, zgb, zgc, zgd, zge, zgf]
   refine wpAnyH_done (by kernel_rfl) ?_ _
   generalize ((((((wy.setCell ⟨p + 1 + 1 + 1, 0, none⟩ (.int .i64 0)).setCell ⟨p + 1 + 1 + 1, 1, none⟩ (.int .u64 g.id)).setCell ⟨p + 1 + 1 + 1, 2, none⟩ (.int .u64 0)).setCell ⟨p + 1 + 1 + 1, 3, none⟩ (.int .u64 0)).setCell ⟨p + 1 + 1 + 1, 4, none⟩ (.string t.name)).setCell ⟨p + 1 + 1 + 1, 5, none⟩ (.string ⟨#[]⟩)) = wf at *
   clear z0 z1 z2 z3 z4 z5 fz0 fz1 fz2 fz3 fz4 fz5 HYV HZV KY KY7 MC HYW HZW
   have HFIN : Hid (RefIm2 M (reportP im.plain c.plain) w (.returned (.tuple #[.agg #[.int .u64 im7.now, .int .u64 im7.ng, .int .u64 im7.nt, .slice E1 im7.ses.length c1, .slice E2 im7.gs.length c2, .slice E3 im7.built.length c3], .agg #[.int .i64 0, .int .u64 g.id, .int .u64 0, .int .u64 0, .string t.name, .string ⟨#[]⟩]])) wf) := Lib.hid (by
    have kk : Keep noneOf w wf := (HKA.out.trans HK4.out (fun _ _ h => h)).trans KA (fun i hi e => by have := HPS.out; omega)
    rw [HRR.out, HNM.out]
    refine ⟨im7, ?_, HP7.out, ?_, kk⟩
    ·
     unfold Im.agg An.agg
     dsimp only
     rw [HE7.out.1, HE7.out.2.1, HE7.out.2.2]
    ·
     exact (HI7.out.keep KA7 (fun i _ hd e => by omega)).mono (fun i _ hd => hd.elim (fun h => h.2) (fun h => HMN.out i (by have := HPS.out; omega))))
   clear KA KA7
   go_wp2
   obtain ⟨r0, r1, r2, r3, r4, r5⟩ := HYA.out.six
   obtain ⟨s0, s1, s2, s3, s4, s5⟩ := HZA.out.six
   exact bodyPost_ret (v := .tuple #[.agg #[.int .u64 im7.now, .int .u64 im7.ng, .int .u64 im7.nt, .slice E1 im7.ses.length c1, .slice E2 im7.gs.length c2, .slice E3 im7.built.length c3], .agg #[.int .i64 0, .int .u64 g.id, .int .u64 0, .int .u64 0, .string t.name, .string ⟨#[]⟩]]) (by simp [results, Tryz.results33, go_sem, r0, r1, r2, r3, r4, r5, s0, s1, s2, s3, s4, s5]) rfl HFIN.out
  | true =>
   rw [hgd] at HRR m6
   rw [if_pos rfl] at HRR
   rw [if_pos rfl] at HRR
   obtain ⟨S4, hS4⟩ : ∃ S4, grSettle (g.ts.map Tg.plain) (g.st.set n ⟨3, 0, 0⟩) = S4 := ⟨_, rfl⟩
   have hl4 := HLN.out ⟨3, 0, 0⟩
   rw [hS4] at HRR hl4
   have HL4 := Lib.hid hl4
   have HS4 := Lib.hid hS4
   clear hl4 hS4
   have MC : Hid (∀ w', Keep (fun b => b = p) w4 w' → w'.cell? ⟨px, 1, none⟩ = some (.slice B1 g.ts.length b1) ∧ w'.cell? ⟨px, 2, none⟩ = some (.slice B2 g.st.length b2)) := Lib.hid fun w' k' => by
    have h2 := HBG4.out.keep k' (by have := HNX1.out; omega)
    exact ⟨h2.cell 1, h2.cell 2⟩
   have KZ := (Keep.refl (fun b => b = p) w4).drew
   have KN := (Keep.refl noneOf w4).drew
   go_upto_region 8 with fail
   clear m6
   go_cut [7] (fun sn wx => sn = .int .i64 (n : Int) ∧ ∃ (im7 : Im) (E1 : Option Addr) (c1 : Nat) (E2 : Option Addr) (c2 : Nat) (E3 : Option Addr) (c3 : Nat), Keep (fun b => b = p) w4 wx ∧ Box wx p 30 #[.int .u64 im7.now, .int .u64 im7.ng, .int .u64 im7.nt, .slice E1 im7.ses.length c1, .slice E2 im7.gs.length c2, .slice E3 im7.built.length c3] ∧ im7.plain = withG im.plain i S4 ∧ im7.lies wx (fun i => (i < p ∧ M i) ∨ p + 1 + 1 + 1 < i) ∧ im7.sv = .slice E1 im7.ses.length c1 ∧ im7.gv = .slice E2 im7.gs.length c2 ∧ im7.bv = .slice E3 im7.built.length c3)
   case first =>
    refine wp_region_held_drew (S := fun w' => Keep (fun b => b = p) w4 w') (by kernel_rfl) (KZ) (fun hHeld => ?_)
    refine' ztk 1 _ rfl (.inl ⟨by kernel_rfl, ?hy1⟩) ?_
    case hy1 => intro w' hSw; obtain ⟨_, _⟩ := MC.out w' hSw; go_simp; try with_reducible rfl
    simp only [Act.put, zga, zgb, zgc, zgd, zge, zgf]
    refine' ztk 2 _ rfl (.inl ⟨by kernel_rfl, ?hy2⟩) ?_
    case hy2 => intro w' hSw; obtain ⟨_, _⟩ := MC.out w' hSw; go_simp; try with_reducible rfl
    simp only [Act.put, zga, zgb, zgc, zgd, zge, zgf]
    refine' ztk 3 _ rfl (.inl ⟨by kernel_rfl, ?hy3⟩) ?_
    case hy3 => intro w' hSw; obtain ⟨_, _⟩ := MC.out w' hSw; go_simp; try with_reducible rfl
    simp only [Act.put, zga, zgb, zgc, zgd, zge, zgf]
    refine' ztk 4 _ rfl (.inl ⟨by kernel_rfl, ?hy4⟩) ?_
    case hy4 => intro w' hSw; obtain ⟨_, _⟩ := MC.out w' hSw; go_simp; try with_reducible rfl
    simp only [Act.put, zga, zgb, zgc, zgd, zge, zgf]
    refine' ztk 5 _ rfl (.inl ⟨by kernel_rfl, ?hy5⟩) ?_
    case hy5 => intro w' hSw; obtain ⟨_, _⟩ := MC.out w' hSw; go_simp; try with_reducible rfl
    simp only [Act.put, zga, zgb, zgc, zgd, zge, zgf]
    refine' ztk 6 _ rfl (.inl ⟨by kernel_rfl, ?hy6⟩) ?_
    case hy6 => intro w' hSw; obtain ⟨_, _⟩ := MC.out w' hSw; go_simp; try with_reducible rfl
    simp only [Act.put, zga, zgb, zgc, zgd, zge, zgf]
    refine' ztk 7 _ rfl (.inl ⟨by kernel_rfl, ?hy7⟩) ?_
    case hy7 => intro w' hSw; obtain ⟨_, _⟩ := MC.out w' hSw; go_simp; try with_reducible rfl
    simp only [Act.put, zga, zgb, zgc, zgd, zge, zgf]
    generalize w4.drew = wz at *
    refine wpAnyH_ready (rs := [0, 8]) (by kernel_rfl) (by simp) (AllReadyH.cons rfl (fun K hK => ?_) (AllReadyH.cons rfl (fun K hK => ?_) AllReadyH.nil))
    ·
     obtain ⟨x0, x1, x2, x3, x4, x5⟩ := (HXW.out.keep KN (fun h => h)).six
     go_simp
     refine hK.out _ _ (KZ) (fun hHeld => ?_)
     clear hK K
     try simp only [Act.put, zga, zgb, zgc, zgd, zge, zgf]
     clear x0 x1 x2 x3 x4 x5
     refine wpAnyH_ready (rs := [8]) (by kernel_rfl) (by simp) (AllReadyH.cons rfl (fun K hK => ?_) AllReadyH.nil)
     go_simp
     go_at_call 71
     refine (HSET.out _ 3 KN).mono ?_
     rintro e w5 ⟨A5, c5, rfl, hst5, k5⟩
     rw [List.length_set] at hst5 ⊢
     have K5 : Keep noneOf w4 w5 := KN.trans k5 (fun _ _ h => h)
     have STT := Lib.hid (HSTL.out w5 _ _ _ K5 hst5)
     rw [HS4.out] at STT
     clear k5 hst5
     go_wp2_with fail
     refine hK.out _ _ (K5.wide) (fun hHeld => ?_)
     clear hK K
     try simp only [Act.put, zga, zgb, zgc, zgd, zge, zgf]
     refine wpAnyH_ready (rs := [9]) (by kernel_rfl) (by simp) (AllReadyH.cons rfl (fun K hK => ?_) AllReadyH.nil)
     go_simp
     go_at_call 54
     refine STT.out.mono ?_
     rintro e w6 ⟨A6, c6, rfl, hst6, k6⟩
     rw [HL4.out] at hst6 ⊢
     have K6 : Keep noneOf w4 w6 := K5.trans k6 (fun _ _ h => h)
     have WT := HWITH.out w6 _ _ K6 (hst6.mono (fun i _ h => .inr (by have h1 := HZ.out.lt; have h2 := HK4.out.size; have h3 := K5.size; omega)))
     replace WT := Lib.hid WT
     clear k6 STT
     go_wp2_with fail
     refine hK.out _ _ (K6.wide) (fun hHeld => ?_)
     clear hK K
     try simp only [Act.put, zga, zgb, zgc, zgd, zge, zgf]
     refine wpAnyH_ready (rs := [10]) (by kernel_rfl) (by simp) (AllReadyH.cons rfl (fun K hK => ?_) AllReadyH.nil)
     go_simp
     go_at_call 26
     refine WT.out.mono ?_
     rintro e w7 ⟨im7, rfl, hp7, hl7, k7⟩
     obtain ⟨E1, c1, E2, c2, E3, c3, e1, e2, e3⟩ := hl7.shapes
     have K7 : Keep noneOf w4 w7 := K6.trans k7 (fun _ _ h => h)
     have HI7 := Lib.hid hl7
     have HP7 := Lib.hid hp7
     have HE7 := Lib.hid (And.intro e1 (And.intro e2 e3))
     unfold Im.agg
     rw [e1, e2, e3]
     clear WT k7 hp7 hl7 e1 e2 e3
     go_wp2_with fail
     refine hK.out _ _ (K7.wide) (fun hHeld => ?_)
     clear hK K
     try simp only [Act.put, zga, zgb, zgc, zgd, zge, zgf]
     have HX7 := Lib.hid (HXW.out.keep K7 (fun h => h))
     obtain ⟨x0, x1, x2, x3, x4, x5⟩ := HX7.out.six
     obtain ⟨fx0, fx1, fx2, fx3, fx4, fx5⟩ := HX7.out.free6
     have HX8 := HX7.out.put6 (.int .u64 im7.now) (.int .u64 im7.ng) (.int .u64 im7.nt) (.slice E1 im7.ses.length c1) (.slice E2 im7.gs.length c2) (.slice E3 im7.built.length c3)
     have K78 := (Keep.refl (fun b => b = p) w7).put6 (b := p) (fun _ => rfl) (.int .u64 im7.now) (.int .u64 im7.ng) (.int .u64 im7.nt) (.slice E1 im7.ses.length c1) (.slice E2 im7.gs.length c2) (.slice E3 im7.built.length c3)
     have K8 := (K7.wide (S := fun b => b = p)).trans K78 (fun _ _ h => h)
     have HI8 := Lib.hid (HI7.out.keep K78 (fun i _ hd e => by omega))
     dsimp only [sixPut] at HX8 K8 HI8
     clear K78
     refine wpAnyH_ready (rs := [11]) (by kernel_rfl) (by simp) (AllReadyH.cons rfl (fun K hK => ?_) AllReadyH.nil)
     go_simp
     refine hK.out _ _ (K8) (fun hHeld => ?_)
     clear hK K
     try simp only [Act.put, zga, zgb, zgc, zgd, zge, zgf]
     refine wpAnyH_done (by kernel_rfl) ?_ _
     generalize ((((((w7.setCell ⟨p, 0, none⟩ (.int .u64 im7.now)).setCell ⟨p, 1, none⟩ (.int .u64 im7.ng)).setCell ⟨p, 2, none⟩ (.int .u64 im7.nt)).setCell ⟨p, 3, none⟩ (.slice E1 im7.ses.length c1)).setCell ⟨p, 4, none⟩ (.slice E2 im7.gs.length c2)).setCell ⟨p, 5, none⟩ (.slice E3 im7.built.length c3)) = w8 at *
     clear x0 x1 x2 x3 x4 x5 fx0 fx1 fx2 fx3 fx4 fx5
     go_wp2_with fail
     go_meet
     exact ⟨rfl, im7, E1, c1, E2, c2, E3, c3, K8, HX8, HP7.out, HI8.out, HE7.out.1, HE7.out.2.1, HE7.out.2.2⟩
    ·
     go_simp
     go_at_call 71
     refine (HSET.out _ 3 KN).mono ?_
     rintro e w5 ⟨A5, c5, rfl, hst5, k5⟩
     rw [List.length_set] at hst5 ⊢
     have K5 : Keep noneOf w4 w5 := KN.trans k5 (fun _ _ h => h)
     have STT := Lib.hid (HSTL.out w5 _ _ _ K5 hst5)
     rw [HS4.out] at STT
     clear k5 hst5
     go_wp2_with fail
     refine hK.out _ _ (K5.wide) (fun hHeld => ?_)
     clear hK K
     try simp only [Act.put, zga, zgb, zgc, zgd, zge, zgf]
     refine wpAnyH_ready (rs := [0, 9]) (by kernel_rfl) (by simp) (AllReadyH.cons rfl (fun K hK => ?_) (AllReadyH.cons rfl (fun K hK => ?_) AllReadyH.nil))
     ·
      obtain ⟨x0, x1, x2, x3, x4, x5⟩ := (HXW.out.keep K5 (fun h => h)).six
      go_simp
      refine hK.out _ _ (K5.wide) (fun hHeld => ?_)
      clear hK K
      try simp only [Act.put, zga, zgb, zgc, zgd, zge, zgf]
      clear x0 x1 x2 x3 x4 x5
      refine wpAnyH_ready (rs := [9]) (by kernel_rfl) (by simp) (AllReadyH.cons rfl (fun K hK => ?_) AllReadyH.nil)
      go_simp
      go_at_call 54
      refine STT.out.mono ?_
      rintro e w6 ⟨A6, c6, rfl, hst6, k6⟩
      rw [HL4.out] at hst6 ⊢
      have K6 : Keep noneOf w4 w6 := K5.trans k6 (fun _ _ h => h)
      have WT := HWITH.out w6 _ _ K6 (hst6.mono (fun i _ h => .inr (by have h1 := HZ.out.lt; have h2 := HK4.out.size; have h3 := K5.size; omega)))
      replace WT := Lib.hid WT
      clear k6 STT
      go_wp2_with fail
      refine hK.out _ _ (K6.wide) (fun hHeld => ?_)
      clear hK K
      try simp only [Act.put, zga, zgb, zgc, zgd, zge, zgf]
      refine wpAnyH_ready (rs := [10]) (by kernel_rfl) (by simp) (AllReadyH.cons rfl (fun K hK => ?_) AllReadyH.nil)
      go_simp
      go_at_call 26
      refine WT.out.mono ?_
      rintro e w7 ⟨im7, rfl, hp7, hl7, k7⟩
      obtain ⟨E1, c1, E2, c2, E3, c3, e1, e2, e3⟩ := hl7.shapes
      have K7 : Keep noneOf w4 w7 := K6.trans k7 (fun _ _ h => h)
      have HI7 := Lib.hid hl7
      have HP7 := Lib.hid hp7
      have HE7 := Lib.hid (And.intro e1 (And.intro e2 e3))
      unfold Im.agg
      rw [e1, e2, e3]
      clear WT k7 hp7 hl7 e1 e2 e3
      go_wp2_with fail
      refine hK.out _ _ (K7.wide) (fun hHeld => ?_)
      clear hK K
      try simp only [Act.put, zga, zgb, zgc, zgd, zge, zgf]
      have HX7 := Lib.hid (HXW.out.keep K7 (fun h => h))
      obtain ⟨x0, x1, x2, x3, x4, x5⟩ := HX7.out.six
      obtain ⟨fx0, fx1, fx2, fx3, fx4, fx5⟩ := HX7.out.free6
      have HX8 := HX7.out.put6 (.int .u64 im7.now) (.int .u64 im7.ng) (.int .u64 im7.nt) (.slice E1 im7.ses.length c1) (.slice E2 im7.gs.length c2) (.slice E3 im7.built.length c3)
      have K78 := (Keep.refl (fun b => b = p) w7).put6 (b := p) (fun _ => rfl) (.int .u64 im7.now) (.int .u64 im7.ng) (.int .u64 im7.nt) (.slice E1 im7.ses.length c1) (.slice E2 im7.gs.length c2) (.slice E3 im7.built.length c3)
      have K8 := (K7.wide (S := fun b => b = p)).trans K78 (fun _ _ h => h)
      have HI8 := Lib.hid (HI7.out.keep K78 (fun i _ hd e => by omega))
      dsimp only [sixPut] at HX8 K8 HI8
      clear K78
      refine wpAnyH_ready (rs := [11]) (by kernel_rfl) (by simp) (AllReadyH.cons rfl (fun K hK => ?_) AllReadyH.nil)
      go_simp
      refine hK.out _ _ (K8) (fun hHeld => ?_)
      clear hK K
      try simp only [Act.put, zga, zgb, zgc, zgd, zge, zgf]
      refine wpAnyH_done (by kernel_rfl) ?_ _
      generalize ((((((w7.setCell ⟨p, 0, none⟩ (.int .u64 im7.now)).setCell ⟨p, 1, none⟩ (.int .u64 im7.ng)).setCell ⟨p, 2, none⟩ (.int .u64 im7.nt)).setCell ⟨p, 3, none⟩ (.slice E1 im7.ses.length c1)).setCell ⟨p, 4, none⟩ (.slice E2 im7.gs.length c2)).setCell ⟨p, 5, none⟩ (.slice E3 im7.built.length c3)) = w8 at *
      clear x0 x1 x2 x3 x4 x5 fx0 fx1 fx2 fx3 fx4 fx5
      go_wp2_with fail
      go_meet
      exact ⟨rfl, im7, E1, c1, E2, c2, E3, c3, K8, HX8, HP7.out, HI8.out, HE7.out.1, HE7.out.2.1, HE7.out.2.2⟩
     ·
      go_simp
      go_at_call 54
      refine STT.out.mono ?_
      rintro e w6 ⟨A6, c6, rfl, hst6, k6⟩
      rw [HL4.out] at hst6 ⊢
      have K6 : Keep noneOf w4 w6 := K5.trans k6 (fun _ _ h => h)
      have WT := HWITH.out w6 _ _ K6 (hst6.mono (fun i _ h => .inr (by have h1 := HZ.out.lt; have h2 := HK4.out.size; have h3 := K5.size; omega)))
      replace WT := Lib.hid WT
      clear k6 STT
      go_wp2_with fail
      refine hK.out _ _ (K6.wide) (fun hHeld => ?_)
      clear hK K
      try simp only [Act.put, zga, zgb, zgc, zgd, zge, zgf]
      obtain ⟨x0, x1, x2, x3, x4, x5⟩ := (HXW.out.keep K6 (fun h => h)).six
      refine wpAnyH_ready (rs := [0]) (by kernel_rfl) (by simp) (AllReadyH.cons rfl (fun K hK => ?_) AllReadyH.nil)
      go_simp
      refine hK.out _ _ hHeld (fun hHeld => ?_)
      clear hK K
      try simp only [Act.put, zga, zgb, zgc, zgd, zge, zgf]
      clear x0 x1 x2 x3 x4 x5
      refine wpAnyH_ready (rs := [10]) (by kernel_rfl) (by simp) (AllReadyH.cons rfl (fun K hK => ?_) AllReadyH.nil)
      go_simp
      go_at_call 26
      refine WT.out.mono ?_
      rintro e w7 ⟨im7, rfl, hp7, hl7, k7⟩
      obtain ⟨E1, c1, E2, c2, E3, c3, e1, e2, e3⟩ := hl7.shapes
      have K7 : Keep noneOf w4 w7 := K6.trans k7 (fun _ _ h => h)
      have HI7 := Lib.hid hl7
      have HP7 := Lib.hid hp7
      have HE7 := Lib.hid (And.intro e1 (And.intro e2 e3))
      unfold Im.agg
      rw [e1, e2, e3]
      clear WT k7 hp7 hl7 e1 e2 e3
      go_wp2_with fail
      refine hK.out _ _ (K7.wide) (fun hHeld => ?_)
      clear hK K
      try simp only [Act.put, zga, zgb, zgc, zgd, zge, zgf]
      have HX7 := Lib.hid (HXW.out.keep K7 (fun h => h))
      obtain ⟨x0, x1, x2, x3, x4, x5⟩ := HX7.out.six
      obtain ⟨fx0, fx1, fx2, fx3, fx4, fx5⟩ := HX7.out.free6
      have HX8 := HX7.out.put6 (.int .u64 im7.now) (.int .u64 im7.ng) (.int .u64 im7.nt) (.slice E1 im7.ses.length c1) (.slice E2 im7.gs.length c2) (.slice E3 im7.built.length c3)
      have K78 := (Keep.refl (fun b => b = p) w7).put6 (b := p) (fun _ => rfl) (.int .u64 im7.now) (.int .u64 im7.ng) (.int .u64 im7.nt) (.slice E1 im7.ses.length c1) (.slice E2 im7.gs.length c2) (.slice E3 im7.built.length c3)
      have K8 := (K7.wide (S := fun b => b = p)).trans K78 (fun _ _ h => h)
      have HI8 := Lib.hid (HI7.out.keep K78 (fun i _ hd e => by omega))
      dsimp only [sixPut] at HX8 K8 HI8
      clear K78
      refine wpAnyH_ready (rs := [11]) (by kernel_rfl) (by simp) (AllReadyH.cons rfl (fun K hK => ?_) AllReadyH.nil)
      go_simp
      refine hK.out _ _ (K8) (fun hHeld => ?_)
      clear hK K
      try simp only [Act.put, zga, zgb, zgc, zgd, zge, zgf]
      refine wpAnyH_done (by kernel_rfl) ?_ _
      generalize ((((((w7.setCell ⟨p, 0, none⟩ (.int .u64 im7.now)).setCell ⟨p, 1, none⟩ (.int .u64 im7.ng)).setCell ⟨p, 2, none⟩ (.int .u64 im7.nt)).setCell ⟨p, 3, none⟩ (.slice E1 im7.ses.length c1)).setCell ⟨p, 4, none⟩ (.slice E2 im7.gs.length c2)).setCell ⟨p, 5, none⟩ (.slice E3 im7.built.length c3)) = w8 at *
      clear x0 x1 x2 x3 x4 x5 fx0 fx1 fx2 fx3 fx4 fx5
      go_wp2_with fail
      go_meet
      exact ⟨rfl, im7, E1, c1, E2, c2, E3, c3, K8, HX8, HP7.out, HI8.out, HE7.out.1, HE7.out.2.1, HE7.out.2.2⟩
   case rest =>
    obtain ⟨rfl, im7, E1, c1, E2, c2, E3, c3, kc', hbx, hp7, hl7, e1, e2, e3⟩ := hcut
    have hb7 : im7.built = im.built := congrArg Qp.built hp7
    rw [hb7] at hbx e3
    have HKB := Lib.hid (show Kys wc (fun i => (i < p ∧ M i) ∨ p + 1 + 1 + 1 < i) (.slice E3 im.built.length c3) im.built from by have h := hl7.built; rw [e3, hb7] at h; exact h)
    have HBF : Hid (im.built.length ≤ 256) := Lib.hid HI.out.bltFew
    have HBX := Lib.hid hbx
    have HI7 := Lib.hid hl7
    have HP7 := Lib.hid hp7
    have HE7 := Lib.hid (And.intro e1 e2)
    have HKC := Lib.hid kc'
    have HBG8 := Lib.hid (HBG4.out.keep kc' (by have := HNX1.out; omega))
    have HBA8 := Lib.hid (HBA.out.keep kc' (by have := HNS1.out; omega))
    have HGT8 := Tgs.keep HGT4.out kc' (fun i _ hd e => by omega)
    have KY := Lib.hid (refKeys_any wc _ _ g.ts HGT8)
    have hkl : n < (grKeys (g.ts.map Tg.plain)).length := by
     have h1 := HFW.out
     have h2 := HNL.out
     rw [grKeys_length, order_len h1.2.2.1, List.length_map]
     omega
    have g1 := HBG8.out.cell 1
    generalize grKeys (g.ts.map Tg.plain) = ks at *
    have q6 : (n : Int) < (ks.length : Int) := by omega
    clear kc' hbx hp7 hl7 e1 e2 e3 HGT8 hb7 HSET HSTL HWITH
    go_wp2_with fail
    refine KY.out.mono ?_
    rintro e w9 ⟨A9, c9, rfl, hks, k9⟩
    have HK9 := Lib.hid k9
    obtain ⟨A2', c2', e2', _, _, _, _, hcell⟩ := hks.1
    obtain ⟨⟨b1', o1', sp⟩, hA, hsp, _, _, hcl⟩ := hcell (by omega)
    dsimp only at hsp hcl
    subst hsp
    obtain ⟨rfl, rfl⟩ : A9 = A2' ∧ c9 = c2' := by simpa using e2'
    subst hA
    have y1 : w9.cell? ⟨b1', o1' + n, none⟩ = some (.int .u64 ((ks.getD n 0 : Nat) : Int)) := hcl n _ (by rw [List.getElem?_map, List.getElem?_eq_getElem hkl, List.getD_eq_getElem?_getD, List.getElem?_eq_getElem hkl]; rfl)
    have HKX : Hid (((ks.getD n 0 : Nat) : Int) < 18446744073709551616) := Lib.hid (hks.2 _ (by rw [List.getD_eq_getElem?_getD, List.getElem?_eq_getElem hkl]; exact List.getElem_mem hkl))
    generalize ks.getD n 0 = kx at *
    have HBX9 := Lib.hid (HBX.out.keep k9 (fun h => h))
    have m5 := HBX9.out.cell 5
    have HKB9 := Lib.hid (HKB.out.keep k9 (fun _ _ _ h => h))
    have HK49 := Lib.hid (HKC.out.trans (k9.wide (S := fun b => b = p)) (fun _ _ h => h))
    have HPW : Hid (p < w9.heap.size ∧ p + 1 + 1 + 1 < w9.heap.size) := Lib.hid (by have h1 := HNS1.out; have h2 := HBA8.out.lt; have h4 := HK9.out.size; have h3 := HBX9.out.lt; omega)
    have IN := Lib.hid (in64_any w9 _ _ im.built kx HKB9.out)
    obtain ⟨R, hR⟩ : ∃ R, im.built.contains kx = R := ⟨_, rfl⟩
    rw [hR] at IN
    have HR := Lib.hid hR
    clear hR
    clear KY k9 hks hcell hcl e2' hkl g1 HKB HBX
    go_wp2_with fail
    refine IN.out.mono ?_
    rintro e w10 ⟨rfl, hw10⟩
    obtain rfl : w9 = w10 := hw10
    clear IN y1
    obtain ⟨BL, hBL⟩ : ∃ BL, builtP im.built kx = BL := ⟨_, rfl⟩
    rw [hBL] at HRR
    have HBL := Lib.hid hBL
    clear hBL
    go_upto_if 78 with fail
    go_cut [11, 13] (fun kv _ wx => kv = .int .u64 (kx : Int) ∧ ∃ (E : Option Addr) (d : Nat), Keep (fun b => b = p) w4 wx ∧ Box wx p 30 #[.int .u64 im7.now, .int .u64 im7.ng, .int .u64 im7.nt, .slice E1 im7.ses.length c1, .slice E2 im7.gs.length c2, .slice E BL.length d] ∧ ({ im7 with bv := .slice E BL.length d, built := BL } : Im).lies wx (fun i => (i < p ∧ M i) ∨ p + 1 + 1 + 1 < i))
    case first =>
     cases R with
     | true =>
      have hc := HR.out
      have hbl : BL = im.built := by rw [← HBL.out]; unfold builtP; rw [if_pos hc]
      have FIN : Hid (∃ (E : Option Addr) (d : Nat), Keep (fun b => b = p) w4 w9 ∧ Box w9 p 30 #[.int .u64 im7.now, .int .u64 im7.ng, .int .u64 im7.nt, .slice E1 im7.ses.length c1, .slice E2 im7.gs.length c2, .slice E BL.length d] ∧ ({ im7 with bv := .slice E BL.length d, built := BL } : Im).lies w9 (fun i => (i < p ∧ M i) ∨ p + 1 + 1 + 1 < i)) := Lib.hid (by
       rw [hbl]
       have h := HI7.out.keep HK9.out (fun _ _ _ h => h)
       exact ⟨E3, c3, HK49.out, HBX9.out, h.ses, h.gs, HKB9.out⟩)
      clear hbl hc
      (try simp only [Bool.not_true, Bool.not_false])
      go_wp2_with fail
      go_meet
      exact ⟨rfl, FIN.out⟩
     | false =>
      (try simp only [Bool.not_true, Bool.not_false])
      have HNC : Hid (¬ im.built.contains kx = true) := Lib.hid (by rw [HR.out]; decide)
      have HBE : Hid (BL = (im.built ++ [kx]).drop ((im.built ++ [kx]).length - 256)) := Lib.hid (by rw [← HBL.out]; unfold builtP; rw [if_neg HNC.out])
      have HE := Lib.hid (empty_own (ec := kc) (k := 1) w9 23)
      have HSRC : Hid (Many kc 1 w9 (fun i => (i < p ∧ M i) ∨ p + 1 + 1 + 1 < i) (.slice E3 im.built.length c3) im.built) := Lib.hid (by have h := HKB9.out.1; rw [map_kc] at h; exact h)
      have hp1 := HPW.out.1
      go_upto_region 13 with (first
       | (at_builtin; refine wpList_append_many elems_u64 (fun _ => rfl) (ec := kc) (fun y u hu => by simp [kc] at hu; subst hu; rfl) (by decide) _ rfl _ _ rfl w9.heap.size _ _ ([] : List Nat) im.built (fun i => (i < p ∧ M i) ∨ p + 1 + 1 + 1 < i) rfl rfl HE.out (HSRC.out.keep ((Keep.refl noneOf w9).alloc _) (fun _ _ _ h => h)) (by have := HBF.out; unfold maxLen; rw [List.length_nil]; omega) (by have := HBF.out; rw [List.length_nil]; omega) (by simp) ?_; intro v1 w10 hown1 hg1 _; have HK10 := Lib.hid (empty_grown hg1); have HO1 : Hid (w10.ownsRow w9.heap.size 23 1 v1 im.built.length (im.built.flatMap kc)) := Lib.hid hown1; clear hown1 hg1)
       | fail)
      clear m5 hp1
      obtain ⟨N, hN⟩ : ∃ N, (im.built ++ [kx]).length = N := ⟨_, rfl⟩
      have HNN : Hid (N = im.built.length + 1) := Lib.hid (by rw [← hN]; simp)
      have HN := Lib.hid hN
      have HONE := Lib.hid (Many.one (ec := kc) (k := 1) (fun _ => rfl) w10 kx 23)
      have HO6 := Lib.hid (own_keep HO1.out ((Keep.refl noneOf w10).alloc (.cells #[.int .u64 (kx : Int)] 23)) (fun _ _ h => h))
      have HA2 : Hid (∀ (w11 : World), (w10.alloc (.cells #[.int .u64 (kx : Int)] 23)).grownBy w11 v1.ownBlock → Keep noneOf w9 w11) := Lib.hid fun w11 hg =>
       (HK10.out.alloc (.cells #[.int .u64 (kx : Int)] 23)).trans (Keep.of_grown hg) (fun j hj e => by have := (HO1.out.lt j e.symm).1; omega)
      clear hN HE HSRC
      go_upto_region 14 with (first
       | (at_builtin; refine wpList_append_many elems_u64 (fun _ => rfl) (ec := kc) (fun y u hu => by simp [kc] at hu; subst hu; rfl) (by decide) _ rfl _ _ rfl w9.heap.size _ _ im.built [kx] (fun i => w10.heap.size ≤ i) rfl rfl HO6.out HONE.out (by have := HBF.out; unfold maxLen; simp only [List.length_cons, List.length_nil]; omega) (by have := HBF.out; simp only [List.length_cons, List.length_nil]; omega) (by have := HK10.out.size; simp; omega) ?_; intro v2 w11 hown2 hg2 _; have HK11 := Lib.hid (HA2.out w11 hg2); have hown2 : w11.ownsRow w9.heap.size 23 1 v2 (im.built ++ [kx]).length ((im.built ++ [kx]).flatMap kc) := hown2; rw [HN.out] at hown2; have HO7 := Lib.hid hown2; obtain ⟨E4, c4, rfl⟩ := own_shape hown2; clear hown2 hg2)
       | fail)
      have HX11 := Lib.hid (HBX9.out.keep HK11.out (fun h => h))
      have HM : Many kc 1 w11 (fun i => w9.heap.size ≤ i) (.slice E4 N c4) (im.built ++ [kx]) := by
       have h := Row.of_own HO7.out
       unfold Many
       rw [HN.out]
       exact h
      have HF5 : Hid (∀ E5 c5, Many kc 1 w11 (fun i => w9.heap.size ≤ i) (.slice E5 BL.length c5) BL → ∃ (E : Option Addr) (d : Nat), Keep (fun b => b = p) w4 (w11.setCell ⟨p, 5, none⟩ (.slice E5 BL.length c5)) ∧ Box (w11.setCell ⟨p, 5, none⟩ (.slice E5 BL.length c5)) p 30 #[.int .u64 im7.now, .int .u64 im7.ng, .int .u64 im7.nt, .slice E1 im7.ses.length c1, .slice E2 im7.gs.length c2, .slice E BL.length d] ∧ ({ im7 with bv := .slice E BL.length d, built := BL } : Im).lies (w11.setCell ⟨p, 5, none⟩ (.slice E5 BL.length c5)) (fun i => (i < p ∧ M i) ∨ p + 1 + 1 + 1 < i)) := Lib.hid fun E5 c5 hm => by
       have k5 := (Keep.refl (fun b => b = p) w11).setCell (p := ⟨p, 5, none⟩) (fun _ => rfl) (.slice E5 BL.length c5)
       have hI := ((HI7.out.keep HK9.out (fun _ _ _ h => h)).keep HK11.out (fun _ _ _ h => h)).keep k5 (fun i _ hd e => by omega)
       refine ⟨E5, c5, (HK49.out.trans (HK11.out.wide (S := fun b => b = p)) (fun _ _ h => h)).trans k5 (fun _ _ h => h), HX11.out.put 5 _, hI.ses, hI.gs, ?_, ?_⟩
       ·
        have h := (hm.keep k5 (fun i _ hd e => by have := HPW.out; omega)).mono (D' := fun i => (i < p ∧ M i) ∨ p + 1 + 1 + 1 < i) (fun i _ hd => .inr (by have := HPW.out; omega))
        show Row _ _ _ _ 1 (BL.map kv)
        rw [map_kc]
        exact h
       ·
        intro k hk
        have hk2 : k ∈ BL := hk
        rw [HBE.out] at hk2
        have h3 := List.mem_of_mem_drop hk2
        rw [List.mem_append] at h3
        rcases h3 with h | h
        ·
         exact HKB9.out.2 k h
        ·
         rw [List.mem_singleton] at h
         rw [h]
         exact HKX.out
      by_cases hN : 256 < N
      ·
       have hdl : BL = (im.built ++ [kx]).drop 1 := by
        rw [HBE.out, HN.out]
        congr 1
        have h1 := HNN.out
        have h2 := HBF.out
        omega
       rw [← HN.out] at HM
       have hT := Many.tailK (ec := kc) (k := 1) (fun _ => rfl) HM (n := 1) (by rw [HN.out]; omega)
       rw [← hdl, HN.out] at hT
       have hT2 := hT
       obtain ⟨E5, c5, hv, _⟩ := hT2
       rw [hv] at hT
       have HS2 : Hid (∀ w', (Instr.sliceAt 28 (.slice E4 N c4) (some (.int .i64 1)) none none).run Tryz.prog w' = .ok (.slice E5 BL.length c5) w') := Lib.hid fun w' => by
        rw [← hv]
        exact elems_u64.tail w' E4 N c4 1 (by omega)
       have FIN := Lib.hid (HF5.out E5 c5 hT)
       have q7 : (256 : Int) < (N : Int) := by omega
       have x5 := HX11.out.cell 5
       have f5 := HX11.out.free 5
       clear hdl hT hv HM
       go_wp2_with (first | (refine wpList_slice_eq _ rfl _ _ _ _ _ rfl _ (HS2.out _) ?_) | fail)
       go_meet
       exact ⟨rfl, FIN.out⟩
      ·
       have hdl : BL = im.built ++ [kx] := by
        rw [HBE.out, HN.out, show N - 256 = 0 by omega, List.drop_zero]
       have hT : Many kc 1 w11 (fun i => w9.heap.size ≤ i) (.slice E4 BL.length c4) BL := by
        rw [hdl, HN.out]
        exact HM
       have hln : BL.length = N := by rw [hdl, HN.out]
       have FIN := HF5.out E4 c4 hT
       rw [hln] at FIN
       have FIN2 := Lib.hid FIN
       have q7 : ¬ (256 : Int) < (N : Int) := by omega
       have x5 := HX11.out.cell 5
       have f5 := HX11.out.free 5
       clear hdl hT hln HM FIN
       go_wp2_with fail
       go_meet
       have FIN3 := FIN2.out
       exact ⟨rfl, by rw [show BL.length = N from by rw [HBE.out, HN.out, show N - 256 = 0 by omega, List.drop_zero, HN.out]]; exact FIN3⟩
    case rest =>
     obtain ⟨rfl, E, d, hk, hbx, hl8⟩ := hcut
     have KC2 := Lib.hid hk
     have HX9 := Lib.hid hbx
     have HI9 := Lib.hid hl8
     have HYW := Lib.hid (HYW.out.keep hk (by omega))
     have HZW := Lib.hid (HZW.out.keep hk (by omega))
     have HBA9 := Lib.hid (HBA.out.keep hk (by have := HNS1.out; omega))
     have MC : Hid (∀ w', Keep (fun b => b = p + 1 + 1 ∨ b = p + 1 + 1 + 1) wc w' → (w'.cell? ⟨p, 0, none⟩ = some (.int .u64 im7.now) ∧ w'.cell? ⟨p, 1, none⟩ = some (.int .u64 im7.ng) ∧ w'.cell? ⟨p, 2, none⟩ = some (.int .u64 im7.nt) ∧ w'.cell? ⟨p, 3, none⟩ = some (.slice E1 im7.ses.length c1) ∧ w'.cell? ⟨p, 4, none⟩ = some (.slice E2 im7.gs.length c2) ∧ w'.cell? ⟨p, 5, none⟩ = some (.slice E BL.length d)) ∧
       (w'.cell? ⟨pa, 0, none⟩ = some (.int .i64 0) ∧ w'.cell? ⟨pa, 1, none⟩ = some (.int .u64 g.id) ∧ w'.cell? ⟨pa, 2, none⟩ = some (.int .u64 0) ∧ w'.cell? ⟨pa, 3, none⟩ = some (.int .u64 0) ∧ w'.cell? ⟨pa, 4, none⟩ = some (.string t.name) ∧ w'.cell? ⟨pa, 5, none⟩ = some (.string ⟨#[]⟩))) := Lib.hid fun w' k' =>
      ⟨(HX9.out.keep k' (by omega)).six, (HBA9.out.keep k' (by have := HNS1.out; omega)).six⟩
     have KZ9 := (Keep.refl (fun b => b = p + 1 + 1 ∨ b = p + 1 + 1 + 1) wc).drew
     have KN9 := (Keep.refl noneOf wc).drew
     clear hk hbx hl8 m5
     go_upto_region 17 with fail
     refine wp_region_held_drew (S := fun w' => Keep (fun b => b = p + 1 + 1 ∨ b = p + 1 + 1 + 1) wc w') (by kernel_rfl) (KZ9) (fun hHeld => ?_)
     refine' ztk 0 _ rfl (.inl ⟨by kernel_rfl, ?hy0⟩) ?_
     case hy0 => intro w' hSw; obtain ⟨⟨_, _, _, _, _, _⟩, ⟨_, _, _, _, _, _⟩⟩ := MC.out w' hSw; go_simp; try with_reducible rfl
     simp only [Act.put, zga, zgb, zgc, zgd, zge, zgf]
     refine' ztk 1 _ rfl (.inl ⟨by kernel_rfl, ?hy1⟩) ?_
     case hy1 => intro w' hSw; obtain ⟨⟨_, _, _, _, _, _⟩, ⟨_, _, _, _, _, _⟩⟩ := MC.out w' hSw; go_simp; try with_reducible rfl
     simp only [Act.put, zga, zgb, zgc, zgd, zge, zgf]
     generalize wc.drew = wz at *
     have HYD := Lib.hid (HYW.out.keep KN9 (fun h => h))
     have HZD := Lib.hid (HZW.out.keep KN9 (fun h => h))
     obtain ⟨y0, y1, y2, y3, y4, y5⟩ := HYD.out.six
     obtain ⟨fy0, fy1, fy2, fy3, fy4, fy5⟩ := HYD.out.free6
     have HYV := Lib.hid (HYD.out.put6 (.int .u64 im7.now) (.int .u64 im7.ng) (.int .u64 im7.nt) (.slice E1 im7.ses.length c1) (.slice E2 im7.gs.length c2) (.slice E BL.length d))
     have HZV := Lib.hid (HZD.out.far6 (b := p + 1 + 1) (by omega) (.int .u64 im7.now) (.int .u64 im7.ng) (.int .u64 im7.nt) (.slice E1 im7.ses.length c1) (.slice E2 im7.gs.length c2) (.slice E BL.length d))
     have KY7 := (Keep.refl (fun b => b = p + 1 + 1 ∨ b = p + 1 + 1 + 1) wz).put6 (b := p + 1 + 1) (fun _ => .inl rfl) (.int .u64 im7.now) (.int .u64 im7.ng) (.int .u64 im7.nt) (.slice E1 im7.ses.length c1) (.slice E2 im7.gs.length c2) (.slice E BL.length d)
     have KY := (KZ9).trans KY7 (fun _ _ h => h)
     dsimp only [sixPut] at HYV HZV KY KY7
     refine wpAnyH_ready (rs := [2]) (by kernel_rfl) (by simp) (AllReadyH.cons rfl (fun K hK => ?_) AllReadyH.nil)
     go_simp
     refine hK.out _ _ (KY) (fun hHeld => ?_)
     clear hK K
     try simp only [Act.put, zga, zgb, zgc, zgd, zge, zgf]
     generalize ((((((wz.setCell ⟨p + 1 + 1, 0, none⟩ (.int .u64 im7.now)).setCell ⟨p + 1 + 1, 1, none⟩ (.int .u64 im7.ng)).setCell ⟨p + 1 + 1, 2, none⟩ (.int .u64 im7.nt)).setCell ⟨p + 1 + 1, 3, none⟩ (.slice E1 im7.ses.length c1)).setCell ⟨p + 1 + 1, 4, none⟩ (.slice E2 im7.gs.length c2)).setCell ⟨p + 1 + 1, 5, none⟩ (.slice E BL.length d)) = wy at *
     clear y0 y1 y2 y3 y4 y5 fy0 fy1 fy2 fy3 fy4 fy5 HYD HZD
     obtain ⟨z0, z1, z2, z3, z4, z5⟩ := HZV.out.six
     obtain ⟨fz0, fz1, fz2, fz3, fz4, fz5⟩ := HZV.out.free6
     have HZA := Lib.hid (HZV.out.put6 (.int .i64 0) (.int .u64 g.id) (.int .u64 0) (.int .u64 0) (.string t.name) (.string ⟨#[]⟩))
     have HYA := Lib.hid (HYV.out.far6 (b := p + 1 + 1 + 1) (by omega) (.int .i64 0) (.int .u64 g.id) (.int .u64 0) (.int .u64 0) (.string t.name) (.string ⟨#[]⟩))
     have KA7 := KY7.put6 (b := p + 1 + 1 + 1) (fun _ => .inr rfl) (.int .i64 0) (.int .u64 g.id) (.int .u64 0) (.int .u64 0) (.string t.name) (.string ⟨#[]⟩)
     have KA := KY.put6 (b := p + 1 + 1 + 1) (fun _ => .inr rfl) (.int .i64 0) (.int .u64 g.id) (.int .u64 0) (.int .u64 0) (.string t.name) (.string ⟨#[]⟩)
     dsimp only [sixPut] at HZA HYA KA KA7
     refine wpAnyH_ready (rs := [3]) (by kernel_rfl) (by simp) (AllReadyH.cons rfl (fun K hK => ?_) AllReadyH.nil)
     go_simp
     refine hK.out _ _ (KA) (fun hHeld => ?_)
     clear hK K
     try simp only [Act.put, zga, zgb, zgc, zgd, zge, zgf]
     refine wpAnyH_done (by kernel_rfl) ?_ _
     generalize ((((((wy.setCell ⟨p + 1 + 1 + 1, 0, none⟩ (.int .i64 0)).setCell ⟨p + 1 + 1 + 1, 1, none⟩ (.int .u64 g.id)).setCell ⟨p + 1 + 1 + 1, 2, none⟩ (.int .u64 0)).setCell ⟨p + 1 + 1 + 1, 3, none⟩ (.int .u64 0)).setCell ⟨p + 1 + 1 + 1, 4, none⟩ (.string t.name)).setCell ⟨p + 1 + 1 + 1, 5, none⟩ (.string ⟨#[]⟩)) = wf at *
     clear z0 z1 z2 z3 z4 z5 fz0 fz1 fz2 fz3 fz4 fz5 HYV HZV KY KY7 MC HYW HZW
     have HFIN : Hid (RefIm2 M (reportP im.plain c.plain) w (.returned (.tuple #[.agg #[.int .u64 im7.now, .int .u64 im7.ng, .int .u64 im7.nt, .slice E1 im7.ses.length c1, .slice E2 im7.gs.length c2, .slice E BL.length d], .agg #[.int .i64 0, .int .u64 g.id, .int .u64 0, .int .u64 0, .string t.name, .string ⟨#[]⟩]])) wf) := Lib.hid (by
      have kk : Keep noneOf w wf := (HKA.out.trans HK4.out (fun _ _ h => h)).trans ((KC2.out.mono (T := fun b => p ≤ b) (fun i _ e => by omega)).trans (KA.mono (T := fun b => p ≤ b) (fun i _ e => by omega)) (fun _ _ h => h)) (fun i hi e => by have := HPS.out; omega)
      rw [HRR.out, HNM.out]
      refine ⟨{ im7 with bv := .slice E BL.length d, built := BL }, ?_, ?_, ?_, kk⟩
      ·
       unfold Im.agg An.agg
       dsimp only
       rw [HE7.out.1, HE7.out.2]
      ·
       show Qp.mk im7.plain.now im7.plain.ng im7.plain.nt im7.plain.ses im7.plain.gs BL = _
       rw [HP7.out]
      ·
       exact (HI9.out.keep KA (fun i _ hd e => by omega)).mono (fun i _ hd => hd.elim (fun h => h.2) (fun h => HMN.out i (by have := HPS.out; omega))))
     clear KA KA7
     go_wp2
     obtain ⟨r0, r1, r2, r3, r4, r5⟩ := HYA.out.six
     obtain ⟨s0, s1, s2, s3, s4, s5⟩ := HZA.out.six
     exact bodyPost_ret (v := .tuple #[.agg #[.int .u64 im7.now, .int .u64 im7.ng, .int .u64 im7.nt, .slice E1 im7.ses.length c1, .slice E2 im7.gs.length c2, .slice E BL.length d], .agg #[.int .i64 0, .int .u64 g.id, .int .u64 0, .int .u64 0, .string t.name, .string ⟨#[]⟩]]) (by simp [results, Tryz.results33, go_sem, r0, r1, r2, r3, r4, r5, s0, s1, s2, s3, s4, s5]) rfl HFIN.out
end Go.Proofs.YtffoeodjbbkdjaaGreat
