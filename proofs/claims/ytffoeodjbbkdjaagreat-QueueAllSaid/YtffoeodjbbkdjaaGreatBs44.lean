import Derived.Test.YtffoeodjbbkdjaaGreatBs01
import Derived.Test.YtffoeodjbbkdjaaGreatBs43
namespace Go.Proofs.YtffoeodjbbkdjaaGreat
open Go.RowKit
theorem four_new (w : World) (x v y z : Array Value) (t s u r : TypeId) : Keep noneOf w ((((w.alloc (.cells x t)).alloc (.cells v s)).alloc (.cells y u)).alloc (.cells z r)) ∧ Box ((((w.alloc (.cells x t)).alloc (.cells v s)).alloc (.cells y u)).alloc (.cells z r)) w.heap.size t x ∧ Box ((((w.alloc (.cells x t)).alloc (.cells v s)).alloc (.cells y u)).alloc (.cells z r)) (w.heap.size + 1) s v ∧ Box ((((w.alloc (.cells x t)).alloc (.cells v s)).alloc (.cells y u)).alloc (.cells z r)) (w.heap.size + 1 + 1) u y ∧ Box ((((w.alloc (.cells x t)).alloc (.cells v s)).alloc (.cells y u)).alloc (.cells z r)) (w.heap.size + 1 + 1 + 1) r z := by
 obtain ⟨k, b1, b2, b3⟩ := three_new w x v y t s u
 refine ⟨k.alloc _, b1.alloc _, b2.alloc _, b3.alloc _, ?_⟩
 have := Box.new (((w.alloc (.cells x t)).alloc (.cells v s)).alloc (.cells y u)) r z
 rw [World.size_alloc, World.size_alloc, World.size_alloc] at this
 exact this
set_option maxRecDepth 100000 in
set_option maxHeartbeats 8000000 in
set_option linter.unusedSimpArgs false in
theorem rrenew_any (w : World) (M : Nat → Prop) (hM : ∀ i, w.heap.size ≤ i → M i) (im : Im) (h : im.lies w M) (hi : Inv im.plain) (c : Cm) (Ag : Option Addr) (cg : Nat) (eg : c.gv = .slice Ag c.ts.length cg) (htk : 0 ≤ c.tok) :
  Calls Tryz.prog 32 #[im.agg, c.agg] w (RefIm2 M (renewP im.plain c.plain) w) := by
 obtain ⟨A1, a1, A2, a2, A3, a3, e1, e2, e3⟩ := h.shapes
 have hfew := h.gs.1.few
 unfold maxLen at hfew
 obtain ⟨KA, HX0, HC0, HY0, HZ0⟩ := four_new w #[.int .u64 im.now, .int .u64 im.ng, .int .u64 im.nt, .slice A1 im.ses.length a1, .slice A2 im.gs.length a2, .slice A3 im.built.length a3] #[.int .i64 c.kind, .int .u64 c.ses, .int .u64 c.seq, .slice Ag c.ts.length cg, .int .u64 c.id, .int .u64 c.tok, .bool c.good, .int .u64 c.time] #[.int .u64 0, .int .u64 0, .int .u64 0, .slice none 0 0, .slice none 0 0, .slice none 0 0] #[.int .i64 0, .int .u64 0, .int .u64 0, .int .u64 0, .string ⟨#[]⟩, .string ⟨#[]⟩] 30 37 30 40
 have hg := (h.mono (D' := fun i => i < w.heap.size) (fun i hi _ => hi)).gs
 rw [e2] at hg
 have HG := Lib.hid (hg.keep KA (fun _ _ _ h => h))
 have HL := Lib.hid h
 have HMN := Lib.hid hM
 have HX := Lib.hid HX0
 have HC := Lib.hid HC0
 have HY := Lib.hid HY0
 have HZ := Lib.hid HZ0
 have HKA := Lib.hid KA
 have HI := Lib.hid hi
 have HTK := Lib.hid htk
 have HAGG : Hid (im.agg = .agg #[.int .u64 im.now, .int .u64 im.ng, .int .u64 im.nt, .slice A1 im.ses.length a1, .slice A2 im.gs.length a2, .slice A3 im.built.length a3]) := Lib.hid (by unfold Im.agg; rw [e1, e2, e3])
 have HD0 := rheld_any ((((w.alloc (.cells #[.int .u64 im.now, .int .u64 im.ng, .int .u64 im.nt, .slice A1 im.ses.length a1, .slice A2 im.gs.length a2, .slice A3 im.built.length a3] 30)).alloc (.cells #[.int .i64 c.kind, .int .u64 c.ses, .int .u64 c.seq, .slice Ag c.ts.length cg, .int .u64 c.id, .int .u64 c.tok, .bool c.good, .int .u64 c.time] 37)).alloc (.cells #[.int .u64 0, .int .u64 0, .int .u64 0, .slice none 0 0, .slice none 0 0, .slice none 0 0] 30)).alloc (.cells #[.int .i64 0, .int .u64 0, .int .u64 0, .int .u64 0, .string ⟨#[]⟩, .string ⟨#[]⟩] 40)) M im (h.keep KA (fun _ _ _ h => h)) c.tok htk
 rw [HAGG.out] at HD0
 have HD := Lib.hid HD0
 unfold Im.agg Cm.agg
 rw [e1, e2, e3, eg]
 clear h KA hg e1 e2 e3 hi HX0 HY0 HZ0 HC0 eg htk HD0
 go_enter Tryz.func32, Tryz.ntmps32
 go_upto_region 1 with fail
 generalize (((w.alloc (.cells #[.int .u64 im.now, .int .u64 im.ng, .int .u64 im.nt, .slice A1 im.ses.length a1, .slice A2 im.gs.length a2, .slice A3 im.built.length a3] 30)).alloc (.cells #[.int .i64 c.kind, .int .u64 c.ses, .int .u64 c.seq, .slice Ag c.ts.length cg, .int .u64 c.id, .int .u64 c.tok, .bool c.good, .int .u64 c.time] 37)).alloc (.cells #[.int .u64 0, .int .u64 0, .int .u64 0, .slice none 0 0, .slice none 0 0, .slice none 0 0] 30)).alloc (.cells #[.int .i64 0, .int .u64 0, .int .u64 0, .int .u64 0, .string ⟨#[]⟩, .string ⟨#[]⟩] 40) = w1 at *
 generalize hp : w.heap.size = p at *
 have HPS := Lib.hid hp
 clear hp
 obtain ⟨x0, x1, x2, x3, x4, x5⟩ := HX.out.six
 have m5 := HC.out.cell 5
 go_wp2_with fail
 refine HD.out.mono ?_
 rintro e w2 ⟨k2, hd⟩
 have HK2 := Lib.hid k2
 clear HD k2 x0 x1 x2 x3 x4 x5 m5
 rcases hd with ⟨hh, rfl⟩ | ⟨i, n, hh, rfl⟩
 ·
  have HRD : Hid (renewP im.plain c.plain = (im.plain, .err 100)) := Lib.hid (by
   unfold renewP
   rw [show c.plain.tok = c.tok from rfl, hh])
  obtain ⟨x0, x1, x2, x3, x4, x5⟩ := (HX.out.keep HK2.out (fun h => h)).six
  clear hh
  have HKW := Lib.hid (HKA.out.trans HK2.out (fun _ _ h => h))
  have HPB : Hid (w.heap.size ≤ p + 1) := Lib.hid (by have := HPS.out; omega)
  have HYW := Lib.hid (HY.out.keep HK2.out (fun h => h))
  have HZW := Lib.hid (HZ.out.keep HK2.out (fun h => h))
  obtain ⟨y0, y1, y2, y3, y4, y5⟩ := HYW.out.six
  obtain ⟨fy0, fy1, fy2, fy3, fy4, fy5⟩ := HYW.out.free6
  obtain ⟨z0, z1, z2, z3, z4, z5⟩ := HZW.out.six
  obtain ⟨fz0, fz1, fz2, fz3, fz4, fz5⟩ := HZW.out.free6
  go_wp2
  have HY6 := HYW.out.put6 (.int .u64 im.now) (.int .u64 im.ng) (.int .u64 im.nt) (.slice A1 im.ses.length a1) (.slice A2 im.gs.length a2) (.slice A3 im.built.length a3)
  have HZ5 := HZW.out.far6 (b := (p + 1 + 1)) (by omega) (.int .u64 im.now) (.int .u64 im.ng) (.int .u64 im.nt) (.slice A1 im.ses.length a1) (.slice A2 im.gs.length a2) (.slice A3 im.built.length a3)
  have HZ6 := HZ5.put6 (.int .i64 100) (.int .u64 0) (.int .u64 0) (.int .u64 0) (.string ⟨#[]⟩) (.string ⟨#[]⟩)
  have HY7 := HY6.far6 (b := (p + 1 + 1 + 1)) (by omega) (.int .i64 100) (.int .u64 0) (.int .u64 0) (.int .u64 0) (.string ⟨#[]⟩) (.string ⟨#[]⟩)
  have KK : Keep noneOf w (sixPut (sixPut w2 (p + 1 + 1) (.int .u64 im.now) (.int .u64 im.ng) (.int .u64 im.nt) (.slice A1 im.ses.length a1) (.slice A2 im.gs.length a2) (.slice A3 im.built.length a3)) (p + 1 + 1 + 1) (.int .i64 100) (.int .u64 0) (.int .u64 0) (.int .u64 0) (.string ⟨#[]⟩) (.string ⟨#[]⟩)) := by
   have KW := HKW.out
   have hb := HPB.out
   exact (KW.put6 (b := (p + 1 + 1)) (fun h => absurd h (by omega)) (.int .u64 im.now) (.int .u64 im.ng) (.int .u64 im.nt) (.slice A1 im.ses.length a1) (.slice A2 im.gs.length a2) (.slice A3 im.built.length a3)).put6 (b := (p + 1 + 1 + 1)) (fun h => absurd h (by omega)) (.int .i64 100) (.int .u64 0) (.int .u64 0) (.int .u64 0) (.string ⟨#[]⟩) (.string ⟨#[]⟩)
  have HFIN : RefIm2 M (renewP im.plain c.plain) w (.returned (.tuple #[.agg #[.int .u64 im.now, .int .u64 im.ng, .int .u64 im.nt, .slice A1 im.ses.length a1, .slice A2 im.gs.length a2, .slice A3 im.built.length a3], .agg #[.int .i64 100, .int .u64 0, .int .u64 0, .int .u64 0, .string ⟨#[]⟩, .string ⟨#[]⟩]])) (sixPut (sixPut w2 (p + 1 + 1) (.int .u64 im.now) (.int .u64 im.ng) (.int .u64 im.nt) (.slice A1 im.ses.length a1) (.slice A2 im.gs.length a2) (.slice A3 im.built.length a3)) (p + 1 + 1 + 1) (.int .i64 100) (.int .u64 0) (.int .u64 0) (.int .u64 0) (.string ⟨#[]⟩) (.string ⟨#[]⟩)) := by rw [HRD.out, ← HAGG.out]; exact refim2_ret rfl (HL.out.keep KK (fun _ _ _ h => h)) KK
  dsimp only [sixPut] at HZ6 HY7 HFIN
  obtain ⟨r0, r1, r2, r3, r4, r5⟩ := HY7.six
  obtain ⟨s0, s1, s2, s3, s4, s5⟩ := HZ6.six
  exact bodyPost_ret (v := .tuple #[.agg #[.int .u64 im.now, .int .u64 im.ng, .int .u64 im.nt, .slice A1 im.ses.length a1, .slice A2 im.gs.length a2, .slice A3 im.built.length a3], .agg #[.int .i64 100, .int .u64 0, .int .u64 0, .int .u64 0, .string ⟨#[]⟩, .string ⟨#[]⟩]]) (by simp [results, Tryz.results32, go_sem, r0, r1, r2, r3, r4, r5, s0, s1, s2, s3, s4, s5]) rfl HFIN
 ·
  obtain ⟨gq, x, hgq, hx, hb⟩ := held_some hh
  obtain ⟨g, hg, rfl⟩ := gm_of hgq
  have hx' : g.st[n]? = some x := hx
  have HX1 := Lib.hid hg
  have HXS := Lib.hid hx'
  have HRR : Hid (renewP im.plain c.plain = if (renewed x c.tok im.now).2 ≠ 0 then (im.plain, An.err (renewed x c.tok im.now).2) else (withG im.plain i (g.st.set n (renewed x c.tok im.now).1), ⟨0, g.id, (renewed x c.tok im.now).1.t, (renewed x c.tok im.now).1.u, g.plain.name n, ⟨#[]⟩⟩)) := Lib.hid (by
   unfold renewP
   rw [show c.plain.tok = c.tok from rfl, hh]
   dsimp only
   rw [getD_some hgq, getS_some hx]
   rfl)
  have HRN := Lib.hid (fun w' => refRenew_any w' x c.tok im.now HTK.out HI.out.now0.1)
  generalize hrn : renewed x c.tok im.now = rn at *
  clear hrn hh hgq hx hb
  obtain ⟨⟨ys, yt, yu⟩, E⟩ := rn
  dsimp only at HRR HRN
  unfold Pst.agg at HRN
  dsimp only at HRN
  have hil := (List.getElem?_eq_some_iff.1 hg).1
  have hnl := (List.getElem?_eq_some_iff.1 hx').1
  have q0 : (0 : Int) ≤ (i : Int) := by omega
  have q1 : (i : Int) < (im.gs.length : Int) := by omega
  have q2 : (0 : Int) ≤ (n : Int) := by omega
  have q3 : (n : Int) < (g.st.length : Int) := by omega
  have hG := HG.out.keep HK2.out (fun _ _ _ h => h)
  obtain ⟨tb, o, rfl, hblk, _, hcell⟩ := hG.1.cell (fun _ => rfl) hg
  have d0 : w2.cell? ⟨tb, o + i * 3, none⟩ = some (.int .u64 g.id) := hcell 0 (by decide)
  have d1 : w2.cell? ⟨tb, o + i * 3 + 1, none⟩ = some g.gv := hcell 1 (by decide)
  have d2 : w2.cell? ⟨tb, o + i * 3 + 2, none⟩ = some g.sv := hcell 2 (by decide)
  have hgl := hG.2 g (List.mem_of_getElem? hg)
  obtain ⟨B1, b1, f1, _⟩ := hgl.1.1
  obtain ⟨B2, b2, f2⟩ := Sts.shape hgl.2
  rw [f1] at d1
  rw [f2] at d2
  have hst := hgl.2
  rw [f2] at hst
  have hgt := hgl.1.1
  rw [f1] at hgt
  have KG := (Keep.refl noneOf w2).alloc (.cells #[.int .u64 g.id, .slice B1 g.ts.length b1, .slice B2 g.st.length b2] 59)
  have HBG := Lib.hid (Box.new w2 59 #[.int .u64 g.id, .slice B1 g.ts.length b1, .slice B2 g.st.length b2])
  have HK3 := Lib.hid (HK2.out.trans KG (fun _ _ h => h))
  have HST := Lib.hid (Sts.keep hst KG (fun _ _ _ h => h))
  have HGT : Hid (Many Tg.cells 3 (w2.alloc (.cells #[.int .u64 g.id, .slice B1 g.ts.length b1, .slice B2 g.st.length b2] 59)) (fun i => i < p) (.slice B1 g.ts.length b1) g.ts) := Lib.hid (Row.keep hgt KG (fun _ _ _ h => h))
  have HNX1 := Lib.hid (show p + 1 + 1 + 1 < w2.heap.size from by have h1 := HZ.out.lt; have h2 := HK2.out.size; omega)
  have x4 := (HX.out.keep HK2.out (fun h => h)).cell 4
  clear hG hcell hblk hgl f1 f2 hst hgt KG hg hx' hil hnl
  go_upto_region 5 with fail
  generalize hw : w2.alloc (.cells #[.int .u64 g.id, .slice B1 g.ts.length b1, .slice B2 g.st.length b2] 59) = w3 at *
  generalize hz : w2.heap.size = px at *
  clear hw hz d0 d1 d2 x4
  have hS : Many Pst.cells 3 w3 _ (.slice B2 g.st.length b2) g.st := HST.out
  obtain ⟨sb2, so2, eS, hsblk, _, hscell⟩ := hS.cell (fun _ => rfl) HXS.out
  have MC : Hid (∀ w', Keep noneOf w3 w' → w'.cell? ⟨p, 0, none⟩ = some (.int .u64 im.now) ∧ w'.cell? ⟨p + 1, 5, none⟩ = some (.int .u64 c.tok) ∧ w'.cell? ⟨px, 2, none⟩ = some (.slice (some ⟨sb2, so2, none⟩) g.st.length b2) ∧ w'.cell? ⟨sb2, so2 + n * 3, none⟩ = some (.int .i64 x.s) ∧ w'.cell? ⟨sb2, so2 + n * 3 + 1, none⟩ = some (.int .u64 x.t) ∧ w'.cell? ⟨sb2, so2 + n * 3 + 2, none⟩ = some (.int .u64 x.u)) := Lib.hid fun w' k' => by
   have h1 := (HX.out.keep (HK3.out.trans k' (fun _ _ h => h)) (fun h => h)).cell 0
   have h2 := (HC.out.keep (HK3.out.trans k' (fun _ _ h => h)) (fun h => h)).cell 5
   have h3 := (HBG.out.keep k' (fun h => h)).cell 2
   have ks := fun j hj => (k'.cell (p := ⟨sb2, so2 + (n * 3 + j), none⟩) hsblk (fun h => h)).trans (hscell j hj)
   rw [eS] at h3
   exact ⟨h1, h2, h3, ks 0 (by decide), ks 1 (by decide), ks 2 (by decide)⟩
  have K3 := Keep.refl noneOf w3
  clear hS hscell hsblk eS
  go_cut [10, 11] (fun s e wx => ∃ sb, s = .pointer (some ⟨sb, 0, none⟩) ∧ e = .int .i64 E ∧ Keep noneOf w3 wx ∧ w3.heap.size ≤ sb ∧ Box wx sb 61 #[.int .i64 ys, .int .u64 yt, .int .u64 yu])
  case first =>
   refine wp_region_held_drew (S := fun w' => Keep noneOf w3 w') (by kernel_rfl) (K3.drew) (fun hHeld => ?_)
   refine' ztk 0 _ rfl (.inl ⟨by kernel_rfl, ?hy0⟩) ?_
   case hy0 => intro w' hSw; obtain ⟨_, _, _, _, _, _⟩ := MC.out w' hSw; go_simp; try with_reducible rfl
   simp only [Act.put, zga, zgb, zgc, zgd, zge, zgf]
   refine' ztk 1 _ rfl (.inl ⟨by kernel_rfl, ?hy1⟩) ?_
   case hy1 => intro w' hSw; obtain ⟨_, _, _, _, _, _⟩ := MC.out w' hSw; go_simp; try with_reducible rfl
   simp only [Act.put, zga, zgb, zgc, zgd, zge, zgf]
   refine' ztk 2 _ rfl (.inl ⟨by kernel_rfl, ?hy2⟩) ?_
   case hy2 => intro w' hSw; obtain ⟨_, _, _, _, _, _⟩ := MC.out w' hSw; go_simp; try with_reducible rfl
   simp only [Act.put, zga, zgb, zgc, zgd, zge, zgf]
   refine' ztk 3 _ rfl (.inl ⟨by kernel_rfl, ?hy3⟩) ?_
   case hy3 => intro w' hSw; obtain ⟨_, _, _, _, _, _⟩ := MC.out w' hSw; go_simp; try with_reducible rfl
   simp only [Act.put, zga, zgb, zgc, zgd, zge, zgf]
   refine' ztk 4 _ rfl (.inl ⟨by kernel_rfl, ?hy4⟩) ?_
   case hy4 => intro w' hSw; obtain ⟨_, _, _, _, _, _⟩ := MC.out w' hSw; go_simp; try with_reducible rfl
   simp only [Act.put, zga, zgb, zgc, zgd, zge, zgf]
   refine' ztk 5 _ rfl (.inl ⟨by kernel_rfl, ?hy5⟩) ?_
   case hy5 => intro w' hSw; obtain ⟨_, _, _, _, _, _⟩ := MC.out w' hSw; go_simp; try with_reducible rfl
   simp only [Act.put, zga, zgb, zgc, zgd, zge, zgf]
   refine' ztk 6 _ rfl (.inl ⟨by kernel_rfl, ?hy6⟩) ?_
   case hy6 => intro w' hSw; obtain ⟨_, _, _, _, _, _⟩ := MC.out w' hSw; go_simp; try with_reducible rfl
   simp only [Act.put, zga, zgb, zgc, zgd, zge, zgf]
   refine' ztk 7 _ rfl (.inl ⟨by kernel_rfl, ?hy7⟩) ?_
   case hy7 => intro w' hSw; obtain ⟨_, _, _, _, _, _⟩ := MC.out w' hSw; go_simp; try with_reducible rfl
   simp only [Act.put, zga, zgb, zgc, zgd, zge, zgf]
   refine' ztk 8 _ rfl (.inl ⟨by kernel_rfl, ?hy8⟩) ?_
   case hy8 => intro w' hSw; obtain ⟨_, _, _, _, _, _⟩ := MC.out w' hSw; go_simp; try with_reducible rfl
   simp only [Act.put, zga, zgb, zgc, zgd, zge, zgf]
   refine wpAnyH_ready (rs := [9, 13]) (by kernel_rfl) (by simp) (AllReadyH.cons rfl (fun K hK => ?_) (AllReadyH.cons rfl (fun K hK => ?_) AllReadyH.nil))
   ·
    go_simp
    go_at_call 73
    refine (HRN.out _).mono ?_
    rintro e w5 ⟨rfl, k5⟩
    go_wp2_with fail
    have K5 : Keep noneOf w3 w5 := K3.drew.trans k5 (fun _ _ h => h)
    refine hK.out _ _ (K5) (fun hHeld => ?_)
    clear hK K
    try simp only [Act.put, zga, zgb, zgc, zgd, zge, zgf]
    refine' ztk 10 _ rfl (.inl ⟨by kernel_rfl, ?hy10⟩) ?_
    case hy10 => intro w' hSw; obtain ⟨_, _, _, _, _, _⟩ := MC.out w' hSw; go_simp; try with_reducible rfl
    simp only [Act.put, zga, zgb, zgc, zgd, zge, zgf]
    refine' ztk 11 _ rfl (.inl ⟨by kernel_rfl, ?hy11⟩) ?_
    case hy11 => intro w' hSw; obtain ⟨_, _, _, _, _, _⟩ := MC.out w' hSw; go_simp; try with_reducible rfl
    simp only [Act.put, zga, zgb, zgc, zgd, zge, zgf]
    refine' ztk 12 _ rfl (.inl ⟨by kernel_rfl, ?hy12⟩) ?_
    case hy12 => intro w' hSw; obtain ⟨_, _, _, _, _, _⟩ := MC.out w' hSw; go_simp; try with_reducible rfl
    simp only [Act.put, zga, zgb, zgc, zgd, zge, zgf]
    refine wpAnyH_ready (rs := [13]) (by kernel_rfl) (by simp) (AllReadyH.cons rfl (fun K hK => ?_) AllReadyH.nil)
    go_simp
    refine hK.out _ _ (K5.alloc _) (fun hHeld => ?_)
    clear hK K
    try simp only [Act.put, zga, zgb, zgc, zgd, zge, zgf]
    have hb0 := Box.new w5 61 #[.int .i64 0, .int .u64 0, .int .u64 0]
    refine wpAnyH_ready (rs := [14]) (by kernel_rfl) (by simp) (AllReadyH.cons rfl (fun K hK => ?_) AllReadyH.nil)
    go_simp
    have hk6 : Keep noneOf w3 (w5.alloc (.cells #[.int .i64 ys, .int .u64 yt, .int .u64 yu] 61)) := K5.alloc _
    have hb6 := Box.new w5 61 #[.int .i64 ys, .int .u64 yt, .int .u64 yu]
    have hs6 := K5.size
    refine hK.out _ _ (hk6) (fun hHeld => ?_)
    clear hK K
    try simp only [Act.put, zga, zgb, zgc, zgd, zge, zgf]
    refine' ztk 15 _ rfl (.inl ⟨by kernel_rfl, ?hy15⟩) ?_
    case hy15 => intro w' hSw; obtain ⟨_, _, _, _, _, _⟩ := MC.out w' hSw; go_simp; try with_reducible rfl
    simp only [Act.put, zga, zgb, zgc, zgd, zge, zgf]
    refine wpAnyH_done (by kernel_rfl) ?_ _
    go_wp2_with fail
    go_meet
    exact ⟨_, rfl, rfl, hk6, hs6, hb6⟩
   ·
    go_simp
    refine hK.out _ _ (K3.drew.alloc _) (fun hHeld => ?_)
    clear hK K
    try simp only [Act.put, zga, zgb, zgc, zgd, zge, zgf]
    have hb0 := Box.new w3 61 #[.int .i64 0, .int .u64 0, .int .u64 0]
    refine wpAnyH_ready (rs := [9]) (by kernel_rfl) (by simp) (AllReadyH.cons rfl (fun K hK => ?_) AllReadyH.nil)
    go_simp
    go_at_call 73
    refine (HRN.out _).mono ?_
    rintro e w5 ⟨rfl, k5⟩
    go_wp2_with fail
    have K5 : Keep noneOf w3 w5 := (K3.alloc _).drew.trans k5 (fun _ _ h => h)
    have hb5 : Box w5 w3.heap.size 61 #[.int .i64 0, .int .u64 0, .int .u64 0] := hb0.drew.keep k5 id
    obtain ⟨y0, y1, y2⟩ := hb5.three
    have z0 := hb5.free 0
    have z1 := hb5.free 1
    have z2 := hb5.free 2
    refine hK.out _ _ (K5) (fun hHeld => ?_)
    clear hK K
    try simp only [Act.put, zga, zgb, zgc, zgd, zge, zgf]
    refine' ztk 10 _ rfl (.inl ⟨by kernel_rfl, ?hy10⟩) ?_
    case hy10 => intro w' hSw; obtain ⟨_, _, _, _, _, _⟩ := MC.out w' hSw; go_simp; try with_reducible rfl
    simp only [Act.put, zga, zgb, zgc, zgd, zge, zgf]
    refine' ztk 11 _ rfl (.inl ⟨by kernel_rfl, ?hy11⟩) ?_
    case hy11 => intro w' hSw; obtain ⟨_, _, _, _, _, _⟩ := MC.out w' hSw; go_simp; try with_reducible rfl
    simp only [Act.put, zga, zgb, zgc, zgd, zge, zgf]
    refine' ztk 12 _ rfl (.inl ⟨by kernel_rfl, ?hy12⟩) ?_
    case hy12 => intro w' hSw; obtain ⟨_, _, _, _, _, _⟩ := MC.out w' hSw; go_simp; try with_reducible rfl
    simp only [Act.put, zga, zgb, zgc, zgd, zge, zgf]
    refine wpAnyH_ready (rs := [14]) (by kernel_rfl) (by simp) (AllReadyH.cons rfl (fun K hK => ?_) AllReadyH.nil)
    go_simp
    have hk6 := K5.put3 (g := w3.heap.size) (Nat.le_refl _) (.int .i64 ys) (.int .u64 yt) (.int .u64 yu)
    have hb6 := hb5.put3 (.int .i64 ys) (.int .u64 yt) (.int .u64 yu)
    refine hK.out _ _ (hk6) (fun hHeld => ?_)
    clear hK K
    try simp only [Act.put, zga, zgb, zgc, zgd, zge, zgf]
    refine' ztk 15 _ rfl (.inl ⟨by kernel_rfl, ?hy15⟩) ?_
    case hy15 => intro w' hSw; obtain ⟨_, _, _, _, _, _⟩ := MC.out w' hSw; go_simp; try with_reducible rfl
    simp only [Act.put, zga, zgb, zgc, zgd, zge, zgf]
    refine wpAnyH_done (by kernel_rfl) ?_ _
    go_wp2_with fail
    go_meet
    exact ⟨_, rfl, rfl, hk6, Nat.le_refl _, hb6⟩
  case rest =>
   obtain ⟨sb, rfl, rfl, kc, hsb, hbx⟩ := hcut
   have HK4 := Lib.hid (HK3.out.trans kc (fun _ _ h => h))
   have HBS := Lib.hid hbx
   have HBG4 := Lib.hid (HBG.out.keep kc (fun h => h))
   have HST4 := Lib.hid (Sts.keep HST.out kc (fun _ _ _ h => h))
   have HGT4 := Lib.hid (HGT.out.keep kc (fun _ _ _ h => h))
   have HNS1 := Lib.hid (show p + 1 + 1 + 1 < sb from by have h1 := HZ.out.lt; have h2 := HK3.out.size; omega)
   clear kc hsb hbx MC K3 HRN HBG HST HGT HK3
   by_cases hE : E = 0
   case neg =>
    have hEn : (E == 0) = false := beq_eq_false_iff_ne.2 hE
    rw [if_pos hE] at HRR
    obtain ⟨x0, x1, x2, x3, x4, x5⟩ := (HX.out.keep HK4.out (fun h => h)).six
    clear hE HBG4 HBS HST4 HGT4
    have HKW := Lib.hid (HKA.out.trans HK4.out (fun _ _ h => h))
    have HPB : Hid (w.heap.size ≤ p + 1) := Lib.hid (by have := HPS.out; omega)
    have HYW := Lib.hid (HY.out.keep HK4.out (fun h => h))
    have HZW := Lib.hid (HZ.out.keep HK4.out (fun h => h))
    obtain ⟨y0, y1, y2, y3, y4, y5⟩ := HYW.out.six
    obtain ⟨fy0, fy1, fy2, fy3, fy4, fy5⟩ := HYW.out.free6
    obtain ⟨z0, z1, z2, z3, z4, z5⟩ := HZW.out.six
    obtain ⟨fz0, fz1, fz2, fz3, fz4, fz5⟩ := HZW.out.free6
    go_wp2
    have HY6 := HYW.out.put6 (.int .u64 im.now) (.int .u64 im.ng) (.int .u64 im.nt) (.slice A1 im.ses.length a1) (.slice (some ⟨tb, o, none⟩) im.gs.length a2) (.slice A3 im.built.length a3)
    have HZ5 := HZW.out.far6 (b := (p + 1 + 1)) (by omega) (.int .u64 im.now) (.int .u64 im.ng) (.int .u64 im.nt) (.slice A1 im.ses.length a1) (.slice (some ⟨tb, o, none⟩) im.gs.length a2) (.slice A3 im.built.length a3)
    have HZ6 := HZ5.put6 (.int .i64 E) (.int .u64 0) (.int .u64 0) (.int .u64 0) (.string ⟨#[]⟩) (.string ⟨#[]⟩)
    have HY7 := HY6.far6 (b := (p + 1 + 1 + 1)) (by omega) (.int .i64 E) (.int .u64 0) (.int .u64 0) (.int .u64 0) (.string ⟨#[]⟩) (.string ⟨#[]⟩)
    have KK : Keep noneOf w (sixPut (sixPut wc (p + 1 + 1) (.int .u64 im.now) (.int .u64 im.ng) (.int .u64 im.nt) (.slice A1 im.ses.length a1) (.slice (some ⟨tb, o, none⟩) im.gs.length a2) (.slice A3 im.built.length a3)) (p + 1 + 1 + 1) (.int .i64 E) (.int .u64 0) (.int .u64 0) (.int .u64 0) (.string ⟨#[]⟩) (.string ⟨#[]⟩)) := by
     have KW := HKW.out
     have hb := HPB.out
     exact (KW.put6 (b := (p + 1 + 1)) (fun h => absurd h (by omega)) (.int .u64 im.now) (.int .u64 im.ng) (.int .u64 im.nt) (.slice A1 im.ses.length a1) (.slice (some ⟨tb, o, none⟩) im.gs.length a2) (.slice A3 im.built.length a3)).put6 (b := (p + 1 + 1 + 1)) (fun h => absurd h (by omega)) (.int .i64 E) (.int .u64 0) (.int .u64 0) (.int .u64 0) (.string ⟨#[]⟩) (.string ⟨#[]⟩)
    have HFIN : RefIm2 M (renewP im.plain c.plain) w (.returned (.tuple #[.agg #[.int .u64 im.now, .int .u64 im.ng, .int .u64 im.nt, .slice A1 im.ses.length a1, .slice (some ⟨tb, o, none⟩) im.gs.length a2, .slice A3 im.built.length a3], .agg #[.int .i64 E, .int .u64 0, .int .u64 0, .int .u64 0, .string ⟨#[]⟩, .string ⟨#[]⟩]])) (sixPut (sixPut wc (p + 1 + 1) (.int .u64 im.now) (.int .u64 im.ng) (.int .u64 im.nt) (.slice A1 im.ses.length a1) (.slice (some ⟨tb, o, none⟩) im.gs.length a2) (.slice A3 im.built.length a3)) (p + 1 + 1 + 1) (.int .i64 E) (.int .u64 0) (.int .u64 0) (.int .u64 0) (.string ⟨#[]⟩) (.string ⟨#[]⟩)) := by rw [HRR.out, ← HAGG.out]; exact refim2_ret rfl (HL.out.keep KK (fun _ _ _ h => h)) KK
    dsimp only [sixPut] at HZ6 HY7 HFIN
    obtain ⟨r0, r1, r2, r3, r4, r5⟩ := HY7.six
    obtain ⟨s0, s1, s2, s3, s4, s5⟩ := HZ6.six
    exact bodyPost_ret (v := .tuple #[.agg #[.int .u64 im.now, .int .u64 im.ng, .int .u64 im.nt, .slice A1 im.ses.length a1, .slice (some ⟨tb, o, none⟩) im.gs.length a2, .slice A3 im.built.length a3], .agg #[.int .i64 E, .int .u64 0, .int .u64 0, .int .u64 0, .string ⟨#[]⟩, .string ⟨#[]⟩]]) (by simp [results, Tryz.results32, go_sem, r0, r1, r2, r3, r4, r5, s0, s1, s2, s3, s4, s5]) rfl HFIN
   subst hE
   rw [if_neg (by decide)] at HRR
   have hfw := im_few HI.out (List.mem_of_getElem? HX1.out)
   have HSET : Hid (∀ w', Keep noneOf wc w' → Calls Tryz.prog 71 #[.slice B2 g.st.length b2, .int .i64 (n : Int), .agg #[.int .i64 ys, .int .u64 yt, .int .u64 yu]] w' (TellsSts (g.st.set n ⟨ys, yt, yu⟩) w')) := Lib.hid fun w' k' => rset_any w' _ _ g.st n ⟨ys, yt, yu⟩ (Sts.keep HST4.out k' (fun _ _ _ h => h)) (List.getElem?_eq_some_iff.1 HXS.out).1 (by rw [reach_is]; omega)
   have HWITH : Hid (∀ w' sv, Keep noneOf wc w' → Sts w' (fun i => (i < p ∧ M i) ∨ p + 1 + 1 + 1 < i) sv (g.st.set n ⟨ys, yt, yu⟩) → Calls Tryz.prog 26 #[.agg #[.int .u64 im.now, .int .u64 im.ng, .int .u64 im.nt, .slice A1 im.ses.length a1, .slice (some ⟨tb, o, none⟩) im.gs.length a2, .slice A3 im.built.length a3], .int .i64 (i : Int), sv] w' (RefIm (fun i => (i < p ∧ M i) ∨ p + 1 + 1 + 1 < i) (withG im.plain i (g.st.set n ⟨ys, yt, yu⟩)) w')) := Lib.hid fun w' sv k' hs => by
    have := rwith_any w' (fun i => (i < p ∧ M i) ∨ p + 1 + 1 + 1 < i) (fun i hi => .inr (by have h1 := HZ.out.lt; have h2 := HK4.out.size; have h3 := k'.size; omega)) im ((HL.out.mono (fun i hi hm => .inl ⟨by have := HPS.out; omega, hm⟩)).keep ((HKA.out.trans HK4.out (fun _ _ h => h)).trans k' (fun _ _ h => h)) (fun _ _ _ h => h)) i g HX1.out sv _ hs (by have := HI.out.gsFew; simpa [Im.plain] using this)
    rw [HAGG.out] at this
    exact this
   have hnt : n < g.ts.length := by have := (List.getElem?_eq_some_iff.1 HXS.out).1; omega
   obtain ⟨t, ht⟩ : ∃ t, g.ts[n]? = some t := ⟨_, List.getElem?_eq_getElem hnt⟩
   obtain ⟨tb2, o3, eT, htblk, htD, htcell⟩ := HGT4.out.cell (fun _ => rfl) ht
   have HNM := Lib.hid (name_at ht)
   have MC : Hid (∀ w', Keep (fun b => b = p + 1 + 1 ∨ b = p + 1 + 1 + 1) wc w' → (w'.cell? ⟨p, 0, none⟩ = some (.int .u64 im.now) ∧ w'.cell? ⟨p, 1, none⟩ = some (.int .u64 im.ng) ∧ w'.cell? ⟨p, 2, none⟩ = some (.int .u64 im.nt) ∧ w'.cell? ⟨p, 3, none⟩ = some (.slice A1 im.ses.length a1) ∧ w'.cell? ⟨p, 4, none⟩ = some (.slice (some ⟨tb, o, none⟩) im.gs.length a2) ∧ w'.cell? ⟨p, 5, none⟩ = some (.slice A3 im.built.length a3)) ∧
     (w'.cell? ⟨px, 0, none⟩ = some (.int .u64 g.id) ∧ w'.cell? ⟨px, 1, none⟩ = some (.slice (some ⟨tb2, o3, none⟩) g.ts.length b1) ∧ w'.cell? ⟨px, 2, none⟩ = some (.slice B2 g.st.length b2)) ∧ (w'.cell? ⟨sb, 0, none⟩ = some (.int .i64 ys) ∧ w'.cell? ⟨sb, 1, none⟩ = some (.int .u64 yt) ∧ w'.cell? ⟨sb, 2, none⟩ = some (.int .u64 yu)) ∧
     w'.cell? ⟨tb2, o3 + n * 3, none⟩ = some (.string t.name)) := Lib.hid fun w' k' => by
    have h1 := ((HX.out.keep HK4.out (fun h => h)).keep k' (by omega)).six
    have h2 := HBG4.out.keep k' (by have := HNX1.out; omega)
    have h3 := HBS.out.keep k' (by have := HNS1.out; omega)
    have ks := fun j hj => (k'.cell (p := ⟨tb2, o3 + (n * 3 + j), none⟩) htblk (by show ¬ (tb2 = p + 1 + 1 ∨ tb2 = p + 1 + 1 + 1); omega)).trans (htcell j hj)
    rw [eT] at h2
    exact ⟨h1, ⟨h2.cell 0, h2.cell 1, h2.cell 2⟩, ⟨h3.cell 0, h3.cell 1, h3.cell 2⟩, ks 0 (by decide)⟩
   have HYW := Lib.hid (HY.out.keep HK4.out (fun h => h))
   have HZW := Lib.hid (HZ.out.keep HK4.out (fun h => h))
   have q4 : (n : Int) < (g.ts.length : Int) := by omega
   have KZ9 := (Keep.refl (fun b => b = p + 1 + 1 ∨ b = p + 1 + 1 + 1) wc).drew
   have KN := (Keep.refl noneOf wc).drew
   clear hfw ht htcell htblk htD eT
   go_upto_region 8 with fail
   refine wp_region_held_drew (S := fun w' => Keep (fun b => b = p + 1 + 1 ∨ b = p + 1 + 1 + 1) wc w') (by kernel_rfl) (KZ9) (fun hHeld => ?_)
   refine' ztk 0 _ rfl (.inl ⟨by kernel_rfl, ?hy0⟩) ?_
   case hy0 => intro w' hSw; obtain ⟨⟨_, _, _, _, _, _⟩, ⟨_, _, _⟩, ⟨_, _, _⟩, _⟩ := MC.out w' hSw; go_simp; try with_reducible rfl
   simp only [Act.put, zga, zgb, zgc, zgd, zge, zgf]
   refine' ztk 1 _ rfl (.inl ⟨by kernel_rfl, ?hy1⟩) ?_
   case hy1 => intro w' hSw; obtain ⟨⟨_, _, _, _, _, _⟩, ⟨_, _, _⟩, ⟨_, _, _⟩, _⟩ := MC.out w' hSw; go_simp; try with_reducible rfl
   simp only [Act.put, zga, zgb, zgc, zgd, zge, zgf]
   refine' ztk 2 _ rfl (.inl ⟨by kernel_rfl, ?hy2⟩) ?_
   case hy2 => intro w' hSw; obtain ⟨⟨_, _, _, _, _, _⟩, ⟨_, _, _⟩, ⟨_, _, _⟩, _⟩ := MC.out w' hSw; go_simp; try with_reducible rfl
   simp only [Act.put, zga, zgb, zgc, zgd, zge, zgf]
   refine' ztk 3 _ rfl (.inl ⟨by kernel_rfl, ?hy3⟩) ?_
   case hy3 => intro w' hSw; obtain ⟨⟨_, _, _, _, _, _⟩, ⟨_, _, _⟩, ⟨_, _, _⟩, _⟩ := MC.out w' hSw; go_simp; try with_reducible rfl
   simp only [Act.put, zga, zgb, zgc, zgd, zge, zgf]
   refine' ztk 4 _ rfl (.inl ⟨by kernel_rfl, ?hy4⟩) ?_
   case hy4 => intro w' hSw; obtain ⟨⟨_, _, _, _, _, _⟩, ⟨_, _, _⟩, ⟨_, _, _⟩, _⟩ := MC.out w' hSw; go_simp; try with_reducible rfl
   simp only [Act.put, zga, zgb, zgc, zgd, zge, zgf]
   refine' ztk 5 _ rfl (.inl ⟨by kernel_rfl, ?hy5⟩) ?_
   case hy5 => intro w' hSw; obtain ⟨⟨_, _, _, _, _, _⟩, ⟨_, _, _⟩, ⟨_, _, _⟩, _⟩ := MC.out w' hSw; go_simp; try with_reducible rfl
   simp only [Act.put, zga, zgb, zgc, zgd, zge, zgf]
   refine' ztk 8 _ rfl (.inl ⟨by kernel_rfl, ?hy8⟩) ?_
   case hy8 => intro w' hSw; obtain ⟨⟨_, _, _, _, _, _⟩, ⟨_, _, _⟩, ⟨_, _, _⟩, _⟩ := MC.out w' hSw; go_simp; try with_reducible rfl
   simp only [Act.put, zga, zgb, zgc, zgd, zge, zgf]
   refine' ztk 9 _ rfl (.inl ⟨by kernel_rfl, ?hy9⟩) ?_
   case hy9 => intro w' hSw; obtain ⟨⟨_, _, _, _, _, _⟩, ⟨_, _, _⟩, ⟨_, _, _⟩, _⟩ := MC.out w' hSw; go_simp; try with_reducible rfl
   simp only [Act.put, zga, zgb, zgc, zgd, zge, zgf]
   refine' ztk 10 _ rfl (.inl ⟨by kernel_rfl, ?hy10⟩) ?_
   case hy10 => intro w' hSw; obtain ⟨⟨_, _, _, _, _, _⟩, ⟨_, _, _⟩, ⟨_, _, _⟩, _⟩ := MC.out w' hSw; go_simp; try with_reducible rfl
   simp only [Act.put, zga, zgb, zgc, zgd, zge, zgf]
   refine' ztk 11 _ rfl (.inl ⟨by kernel_rfl, ?hy11⟩) ?_
   case hy11 => intro w' hSw; obtain ⟨⟨_, _, _, _, _, _⟩, ⟨_, _, _⟩, ⟨_, _, _⟩, _⟩ := MC.out w' hSw; go_simp; try with_reducible rfl
   simp only [Act.put, zga, zgb, zgc, zgd, zge, zgf]
   refine' ztk 12 _ rfl (.inl ⟨by kernel_rfl, ?hy12⟩) ?_
   case hy12 => intro w' hSw; obtain ⟨⟨_, _, _, _, _, _⟩, ⟨_, _, _⟩, ⟨_, _, _⟩, _⟩ := MC.out w' hSw; go_simp; try with_reducible rfl
   simp only [Act.put, zga, zgb, zgc, zgd, zge, zgf]
   refine' ztk 13 _ rfl (.inl ⟨by kernel_rfl, ?hy13⟩) ?_
   case hy13 => intro w' hSw; obtain ⟨⟨_, _, _, _, _, _⟩, ⟨_, _, _⟩, ⟨_, _, _⟩, _⟩ := MC.out w' hSw; go_simp; try with_reducible rfl
   simp only [Act.put, zga, zgb, zgc, zgd, zge, zgf]
   refine' ztk 14 _ rfl (.inl ⟨by kernel_rfl, ?hy14⟩) ?_
   case hy14 => intro w' hSw; obtain ⟨⟨_, _, _, _, _, _⟩, ⟨_, _, _⟩, ⟨_, _, _⟩, _⟩ := MC.out w' hSw; go_simp; try with_reducible rfl
   simp only [Act.put, zga, zgb, zgc, zgd, zge, zgf]
   refine' ztk 15 _ rfl (.inl ⟨by kernel_rfl, ?hy15⟩) ?_
   case hy15 => intro w' hSw; obtain ⟨⟨_, _, _, _, _, _⟩, ⟨_, _, _⟩, ⟨_, _, _⟩, _⟩ := MC.out w' hSw; go_simp; try with_reducible rfl
   simp only [Act.put, zga, zgb, zgc, zgd, zge, zgf]
   refine' ztk 16 _ rfl (.inl ⟨by kernel_rfl, ?hy16⟩) ?_
   case hy16 => intro w' hSw; obtain ⟨⟨_, _, _, _, _, _⟩, ⟨_, _, _⟩, ⟨_, _, _⟩, _⟩ := MC.out w' hSw; go_simp; try with_reducible rfl
   simp only [Act.put, zga, zgb, zgc, zgd, zge, zgf]
   refine' ztk 17 _ rfl (.inl ⟨by kernel_rfl, ?hy17⟩) ?_
   case hy17 => intro w' hSw; obtain ⟨⟨_, _, _, _, _, _⟩, ⟨_, _, _⟩, ⟨_, _, _⟩, _⟩ := MC.out w' hSw; go_simp; try with_reducible rfl
   simp only [Act.put, zga, zgb, zgc, zgd, zge, zgf]
   refine' ztk 18 _ rfl (.inl ⟨by kernel_rfl, ?hy18⟩) ?_
   case hy18 => intro w' hSw; obtain ⟨⟨_, _, _, _, _, _⟩, ⟨_, _, _⟩, ⟨_, _, _⟩, _⟩ := MC.out w' hSw; go_simp; try with_reducible rfl
   simp only [Act.put, zga, zgb, zgc, zgd, zge, zgf]
   refine' ztk 19 _ rfl (.inl ⟨by kernel_rfl, ?hy19⟩) ?_
   case hy19 => intro w' hSw; obtain ⟨⟨_, _, _, _, _, _⟩, ⟨_, _, _⟩, ⟨_, _, _⟩, _⟩ := MC.out w' hSw; go_simp; try with_reducible rfl
   simp only [Act.put, zga, zgb, zgc, zgd, zge, zgf]
   refine' ztk 20 _ rfl (.inl ⟨by kernel_rfl, ?hy20⟩) ?_
   case hy20 => intro w' hSw; obtain ⟨⟨_, _, _, _, _, _⟩, ⟨_, _, _⟩, ⟨_, _, _⟩, _⟩ := MC.out w' hSw; go_simp; try with_reducible rfl
   simp only [Act.put, zga, zgb, zgc, zgd, zge, zgf]
   refine' ztk 21 _ rfl (.inl ⟨by kernel_rfl, ?hy21⟩) ?_
   case hy21 => intro w' hSw; obtain ⟨⟨_, _, _, _, _, _⟩, ⟨_, _, _⟩, ⟨_, _, _⟩, _⟩ := MC.out w' hSw; go_simp; try with_reducible rfl
   simp only [Act.put, zga, zgb, zgc, zgd, zge, zgf]
   generalize wc.drew = wz at *
   refine wpAnyH_ready (rs := [6]) (by kernel_rfl) (by simp) (AllReadyH.cons rfl (fun K hK => ?_) AllReadyH.nil)
   go_simp
   go_at_call 71
   refine (HSET.out _ KN).mono ?_
   rintro e w6 ⟨A6, c6, rfl, hst6, k6⟩
   rw [List.length_set] at hst6 ⊢
   have K6 : Keep noneOf wc w6 := KN.trans k6 (fun _ _ h => h)
   have WT := HWITH.out w6 _ K6 (hst6.mono (fun i _ h => .inr (by have h1 := HZ.out.lt; have h2 := HK4.out.size; have h3 := KN.size; omega)))
   replace WT := Lib.hid WT
   clear k6
   go_wp2_with fail
   refine hK.out _ _ (K6.wide) (fun hHeld => ?_)
   clear hK K
   try simp only [Act.put, zga, zgb, zgc, zgd, zge, zgf]
   refine wpAnyH_ready (rs := [7]) (by kernel_rfl) (by simp) (AllReadyH.cons rfl (fun K hK => ?_) AllReadyH.nil)
   go_simp
   go_at_call 26
   refine WT.out.mono ?_
   rintro e w7 ⟨im7, rfl, hp7, hl7, k7⟩
   obtain ⟨E1, c1, E2, c2, E3, c3, e1, e2, e3⟩ := hl7.shapes
   have K7 : Keep noneOf wc w7 := K6.trans k7 (fun _ _ h => h)
   have HI7 := Lib.hid hl7
   have HP7 := Lib.hid hp7
   have HE7 := Lib.hid (And.intro e1 (And.intro e2 e3))
   unfold Im.agg
   rw [e1, e2, e3]
   clear WT k7 hp7 hl7 e1 e2 e3 HSET HWITH
   go_wp2_with fail
   refine hK.out _ _ (K7.wide) (fun hHeld => ?_)
   clear hK K
   try simp only [Act.put, zga, zgb, zgc, zgd, zge, zgf]
   have HYD := Lib.hid (HYW.out.keep K7 (fun h => h))
   have HZD := Lib.hid (HZW.out.keep K7 (fun h => h))
   obtain ⟨y0, y1, y2, y3, y4, y5⟩ := HYD.out.six
   obtain ⟨fy0, fy1, fy2, fy3, fy4, fy5⟩ := HYD.out.free6
   have HYV := Lib.hid (HYD.out.put6 (.int .u64 im7.now) (.int .u64 im7.ng) (.int .u64 im7.nt) (.slice E1 im7.ses.length c1) (.slice E2 im7.gs.length c2) (.slice E3 im7.built.length c3))
   have HZV := Lib.hid (HZD.out.far6 (b := p + 1 + 1) (by omega) (.int .u64 im7.now) (.int .u64 im7.ng) (.int .u64 im7.nt) (.slice E1 im7.ses.length c1) (.slice E2 im7.gs.length c2) (.slice E3 im7.built.length c3))
   have KY7 := (Keep.refl (fun b => b = p + 1 + 1 ∨ b = p + 1 + 1 + 1) w7).put6 (b := p + 1 + 1) (fun _ => .inl rfl) (.int .u64 im7.now) (.int .u64 im7.ng) (.int .u64 im7.nt) (.slice E1 im7.ses.length c1) (.slice E2 im7.gs.length c2) (.slice E3 im7.built.length c3)
   have KY := (K7.wide (S := fun b => b = p + 1 + 1 ∨ b = p + 1 + 1 + 1)).trans KY7 (fun _ _ h => h)
   dsimp only [sixPut] at HYV HZV KY KY7
   refine wpAnyH_ready (rs := [22]) (by kernel_rfl) (by simp) (AllReadyH.cons rfl (fun K hK => ?_) AllReadyH.nil)
   go_simp
   refine hK.out _ _ (KY) (fun hHeld => ?_)
   clear hK K
   try simp only [Act.put, zga, zgb, zgc, zgd, zge, zgf]
   generalize ((((((w7.setCell ⟨p + 1 + 1, 0, none⟩ (.int .u64 im7.now)).setCell ⟨p + 1 + 1, 1, none⟩ (.int .u64 im7.ng)).setCell ⟨p + 1 + 1, 2, none⟩ (.int .u64 im7.nt)).setCell ⟨p + 1 + 1, 3, none⟩ (.slice E1 im7.ses.length c1)).setCell ⟨p + 1 + 1, 4, none⟩ (.slice E2 im7.gs.length c2)).setCell ⟨p + 1 + 1, 5, none⟩ (.slice E3 im7.built.length c3)) = wy at *
   clear y0 y1 y2 y3 y4 y5 fy0 fy1 fy2 fy3 fy4 fy5 HYD HZD
   obtain ⟨z0, z1, z2, z3, z4, z5⟩ := HZV.out.six
   obtain ⟨fz0, fz1, fz2, fz3, fz4, fz5⟩ := HZV.out.free6
   have HZA := Lib.hid (HZV.out.put6 (.int .i64 0) (.int .u64 g.id) (.int .u64 yt) (.int .u64 yu) (.string t.name) (.string ⟨#[]⟩))
   have HYA := Lib.hid (HYV.out.far6 (b := p + 1 + 1 + 1) (by omega) (.int .i64 0) (.int .u64 g.id) (.int .u64 yt) (.int .u64 yu) (.string t.name) (.string ⟨#[]⟩))
   have KA7 := KY7.put6 (b := p + 1 + 1 + 1) (fun _ => .inr rfl) (.int .i64 0) (.int .u64 g.id) (.int .u64 yt) (.int .u64 yu) (.string t.name) (.string ⟨#[]⟩)
   have KA := KY.put6 (b := p + 1 + 1 + 1) (fun _ => .inr rfl) (.int .i64 0) (.int .u64 g.id) (.int .u64 yt) (.int .u64 yu) (.string t.name) (.string ⟨#[]⟩)
   dsimp only [sixPut] at HZA HYA KA KA7
   refine wpAnyH_ready (rs := [23]) (by kernel_rfl) (by simp) (AllReadyH.cons rfl (fun K hK => ?_) AllReadyH.nil)
   go_simp
   refine hK.out _ _ (KA) (fun hHeld => ?_)
   clear hK K
   try simp only [Act.put, zga, zgb, zgc, zgd, zge, zgf]
   refine wpAnyH_done (by kernel_rfl) ?_ _
   generalize ((((((wy.setCell ⟨p + 1 + 1 + 1, 0, none⟩ (.int .i64 0)).setCell ⟨p + 1 + 1 + 1, 1, none⟩ (.int .u64 g.id)).setCell ⟨p + 1 + 1 + 1, 2, none⟩ (.int .u64 yt)).setCell ⟨p + 1 + 1 + 1, 3, none⟩ (.int .u64 yu)).setCell ⟨p + 1 + 1 + 1, 4, none⟩ (.string t.name)).setCell ⟨p + 1 + 1 + 1, 5, none⟩ (.string ⟨#[]⟩)) = wf at *
   clear z0 z1 z2 z3 z4 z5 fz0 fz1 fz2 fz3 fz4 fz5 HYV HZV KY KY7 MC KZ9 HYW HZW
   have HFIN : Hid (RefIm2 M (renewP im.plain c.plain) w (.returned (.tuple #[.agg #[.int .u64 im7.now, .int .u64 im7.ng, .int .u64 im7.nt, .slice E1 im7.ses.length c1, .slice E2 im7.gs.length c2, .slice E3 im7.built.length c3], .agg #[.int .i64 0, .int .u64 g.id, .int .u64 yt, .int .u64 yu, .string t.name, .string ⟨#[]⟩]])) wf) := Lib.hid (by
    have kk : Keep noneOf w wf := (HKA.out.trans HK4.out (fun _ _ h => h)).trans KA (fun i hi e => by have := HPS.out; omega)
    rw [HRR.out, HNM.out]
    refine ⟨im7, ?_, HP7.out, ?_, kk⟩
    ·
     unfold Im.agg An.agg
     dsimp only
     rw [HE7.out.1, HE7.out.2.1, HE7.out.2.2]
    ·
     exact (HI7.out.keep KA7 (fun i _ hd e => by omega)).mono (fun i _ hd => hd.elim (fun h => h.2) (fun h => HMN.out i (by have := HPS.out; omega))))
   clear KA KA7
   go_wp2
   obtain ⟨r0, r1, r2, r3, r4, r5⟩ := HYA.out.six
   obtain ⟨s0, s1, s2, s3, s4, s5⟩ := HZA.out.six
   exact bodyPost_ret (v := .tuple #[.agg #[.int .u64 im7.now, .int .u64 im7.ng, .int .u64 im7.nt, .slice E1 im7.ses.length c1, .slice E2 im7.gs.length c2, .slice E3 im7.built.length c3], .agg #[.int .i64 0, .int .u64 g.id, .int .u64 yt, .int .u64 yu, .string t.name, .string ⟨#[]⟩]]) (by simp [results, Tryz.results32, go_sem, r0, r1, r2, r3, r4, r5, s0, s1, s2, s3, s4, s5]) rfl HFIN.out
end Go.Proofs.YtffoeodjbbkdjaaGreat
