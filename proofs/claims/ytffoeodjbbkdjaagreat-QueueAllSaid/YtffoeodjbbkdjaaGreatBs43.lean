import Derived.Test.YtffoeodjbbkdjaaGreatBs01
import Derived.Test.YtffoeodjbbkdjaaGreatBs42
namespace Go.Proofs.YtffoeodjbbkdjaaGreat
open Go.RowKit
def RefIm2 (M : Nat → Prop) (R : Qp × An) (w : World) (e : Ending) (w' : World) : Prop := ∃ im : Im, e = .returned (.tuple #[im.agg, R.2.agg]) ∧ im.plain = R.1 ∧ im.lies w' M ∧ Keep noneOf w w'
theorem three_new (w : World) (x y z : Array Value) (t u r : TypeId) : Keep noneOf w (((w.alloc (.cells x t)).alloc (.cells y u)).alloc (.cells z r)) ∧ Box (((w.alloc (.cells x t)).alloc (.cells y u)).alloc (.cells z r)) w.heap.size t x ∧ Box (((w.alloc (.cells x t)).alloc (.cells y u)).alloc (.cells z r)) (w.heap.size + 1) u y ∧ Box (((w.alloc (.cells x t)).alloc (.cells y u)).alloc (.cells z r)) (w.heap.size + 1 + 1) r z := by
 refine ⟨(((Keep.refl noneOf w).alloc _).alloc _).alloc _, ((Box.new w t x).alloc _).alloc _, ?_, ?_⟩
 ·
  have := (Box.new (w.alloc (.cells x t)) u y).alloc (.cells z r)
  rw [World.size_alloc] at this
  exact this
 ·
  have := Box.new ((w.alloc (.cells x t)).alloc (.cells y u)) r z
  rw [World.size_alloc, World.size_alloc] at this
  exact this
theorem im_few {im : Im} (hi : Inv im.plain) {g : Gm} (hg : g ∈ im.gs) : g.st.length ≤ 32 ∧ g.ts.length ≤ 32 ∧ grCheck (g.ts.map Tg.plain) = 0 ∧ g.st.length = g.ts.length := by
 have h := hi.gsIn g.plain (List.mem_map.2 ⟨g, hg, rfl⟩)
 have h32 := (fits_few (ts := g.ts) (check_fits h.2.2.1).1).1
 have hl : g.st.length = (g.ts.map Tg.plain).length := h.2.2.2.1
 rw [List.length_map] at hl
 exact ⟨by omega, h32, h.2.2.1, hl⟩
theorem refim2_ret {M : Nat → Prop} {w wf : World} {im : Im} {R : Qp × An} (hp : im.plain = R.1) (hl : im.lies wf M) (hk : Keep noneOf w wf) : RefIm2 M R w (.returned (.tuple #[im.agg, R.2.agg])) wf := ⟨im, rfl, hp, hl, hk⟩
set_option maxRecDepth 100000 in
set_option maxHeartbeats 8000000 in
set_option linter.unusedSimpArgs false in
theorem rclaim_any (w : World) (M : Nat → Prop) (hM : ∀ i, w.heap.size ≤ i → M i) (im : Im) (h : im.lies w M) (hi : Inv im.plain) :
  Calls Tryz.prog 31 #[im.agg] w (RefIm2 M (claimP im.plain) w) := by
 obtain ⟨A1, a1, A2, a2, A3, a3, e1, e2, e3⟩ := h.shapes
 have hfew := h.gs.1.few
 unfold maxLen at hfew
 obtain ⟨KA, HX0, HY0, HZ0⟩ := three_new w #[.int .u64 im.now, .int .u64 im.ng, .int .u64 im.nt, .slice A1 im.ses.length a1, .slice A2 im.gs.length a2, .slice A3 im.built.length a3] #[.int .u64 0, .int .u64 0, .int .u64 0, .slice none 0 0, .slice none 0 0, .slice none 0 0] #[.int .i64 0, .int .u64 0, .int .u64 0, .int .u64 0, .string ⟨#[]⟩, .string ⟨#[]⟩] 30 30 40
 have hg := (h.mono (D' := fun i => i < w.heap.size) (fun i hi _ => hi)).gs
 rw [e2] at hg
 have HG := Lib.hid (hg.keep KA (fun _ _ _ h => h))
 have HL := Lib.hid h
 have HMN := Lib.hid hM
 have HX := Lib.hid HX0
 have HY := Lib.hid HY0
 have HZ := Lib.hid HZ0
 have HKA := Lib.hid KA
 have HI := Lib.hid hi
 have HE := Lib.hid (And.intro e1 (And.intro e2 e3))
 have HAGG : Hid (im.agg = .agg #[.int .u64 im.now, .int .u64 im.ng, .int .u64 im.nt, .slice A1 im.ses.length a1, .slice A2 im.gs.length a2, .slice A3 im.built.length a3]) := Lib.hid (by unfold Im.agg; rw [e1, e2, e3])
 unfold Im.agg
 rw [e1, e2, e3]
 clear h KA hg e1 e2 e3 hi HX0 HY0 HZ0
 go_enter Tryz.func31, Tryz.ntmps31
 go_upto_region 1 with fail
 generalize ((w.alloc (.cells #[.int .u64 im.now, .int .u64 im.ng, .int .u64 im.nt, .slice A1 im.ses.length a1, .slice A2 im.gs.length a2, .slice A3 im.built.length a3] 30)).alloc (.cells #[.int .u64 0, .int .u64 0, .int .u64 0, .slice none 0 0, .slice none 0 0, .slice none 0 0] 30)).alloc (.cells #[.int .i64 0, .int .u64 0, .int .u64 0, .int .u64 0, .string ⟨#[]⟩, .string ⟨#[]⟩] 40) = w1 at *
 generalize hp : w.heap.size = p at *
 have HPS := Lib.hid hp
 clear hp
 go_wp2
 go_loopw [4] (fun i wr => ∃ (k : Nat), k ≤ im.gs.length ∧ i = .int .i64 k ∧ Keep noneOf w1 wr ∧ ∀ (j : Nat) (g : Gm), j < k → im.gs[j]? = some g → nextIx g.plain.st = none) (fun i _ => im.gs.length - (intOf i).toNat)
 case atStart => exact ⟨0, Nat.zero_le _, rfl, Keep.refl _ _, fun j _ hj => absurd hj (Nat.not_lt_zero _)⟩
 case round =>
  obtain ⟨k, hk, rfl, hkeep, hall⟩ := hrel
  have HA := Lib.hid hall
  have HKP := Lib.hid hkeep
  have x4 := (HX.out.keep hkeep (fun h => h)).cell 4
  clear hall
  by_cases hlt : k < im.gs.length
  ·
   have hx : im.gs[k]? = some im.gs[k] := List.getElem?_eq_getElem hlt
   have hG := HG.out.keep hkeep (fun _ _ _ h => h)
   generalize im.gs[k] = g at *
   obtain ⟨tb, o, rfl, hblk, _, hcell⟩ := hG.1.cell (fun _ => rfl) hx
   have d0 : wr.cell? ⟨tb, o + k * 3, none⟩ = some (.int .u64 g.id) := hcell 0 (by decide)
   have d1 : wr.cell? ⟨tb, o + k * 3 + 1, none⟩ = some g.gv := hcell 1 (by decide)
   have d2 : wr.cell? ⟨tb, o + k * 3 + 2, none⟩ = some g.sv := hcell 2 (by decide)
   have hgl := hG.2 g (List.mem_of_getElem? hx)
   obtain ⟨B1, b1, f1, _⟩ := hgl.1.1
   obtain ⟨B2, b2, f2⟩ := Sts.shape hgl.2
   rw [f1] at d1
   rw [f2] at d2
   have hst := hgl.2
   rw [f2] at hst
   have hgt := hgl.1.1
   rw [f1] at hgt
   have htl := hgl.1.2
   have q0 : (0 : Int) ≤ (k : Int) := by omega
   have q1 : (k : Int) < (im.gs.length : Int) := by omega
   have KG := (Keep.refl noneOf wr).alloc (.cells #[.int .u64 g.id, .slice B1 g.ts.length b1, .slice B2 g.st.length b2] 59)
   have HBG := Lib.hid (Box.new wr 59 #[.int .u64 g.id, .slice B1 g.ts.length b1, .slice B2 g.st.length b2])
   have HK2 := Lib.hid (hkeep.trans KG (fun _ _ h => h))
   have HST := Lib.hid (Sts.keep hst KG (fun _ _ _ h => h))
   have HGT : Hid (Many Tg.cells 3 (wr.alloc (.cells #[.int .u64 g.id, .slice B1 g.ts.length b1, .slice B2 g.st.length b2] 59)) (fun i => i < p) (.slice B1 g.ts.length b1) g.ts) := Lib.hid (Row.keep hgt KG (fun _ _ _ h => h))
   have NX := Lib.hid (refNext_any _ _ _ _ (Sts.keep hst KG (fun _ _ _ h => h)))
   have HNX1 := Lib.hid (show p + 1 + 1 < wr.heap.size from by have h1 := HZ.out.lt; have h2 := hkeep.size; omega)
   have HX1 := Lib.hid hx
   have HTL := Lib.hid htl
   clear hG hx hcell hblk hgl f1 f2 hst hgt htl KG hkeep
   go_upto_region 5 with fail
   generalize hw : wr.alloc (.cells #[.int .u64 g.id, .slice B1 g.ts.length b1, .slice B2 g.st.length b2] 59) = w2 at *
   generalize hz : wr.heap.size = px at *
   clear hw hz d0 d1 d2 x4
   have g2 := HBG.out.cell 2
   go_wp2_with fail
   refine NX.out.mono ?_
   rintro e w3 ⟨rfl, k3⟩
   have HK3 := Lib.hid (HK2.out.trans k3 (fun _ _ h => h))
   have HBG3 := Lib.hid (HBG.out.keep k3 (fun h => h))
   have HST3 := Lib.hid (Sts.keep HST.out k3 (fun _ _ _ h => h))
   have HGT3 := Lib.hid (HGT.out.keep k3 (fun _ _ _ h => h))
   clear NX k3 g2 HK2 HBG HST HGT HKP
   obtain ⟨r, hr⟩ : ∃ r, nextIx g.st = r := ⟨_, rfl⟩
   rw [hr]
   have HNX := Lib.hid hr
   clear hr
   cases r with
   | none =>
    dsimp only [Option.isSome, Option.getD]
    go_wp2
    go_roundw
    case rel =>
     refine ⟨k + 1, by omega, by go_num, HK3.out, fun j y hj e => ?_⟩
     rcases Nat.lt_or_ge j k with h | h
     ·
      exact HA.out j y h e
     ·
      obtain rfl : j = k := by omega
      rw [HX1.out] at e
      injection e with e
      rw [← e]
      exact HNX.out
    case measure => simp only [intOf]; omega
   | some n =>
    dsimp only [Option.isSome, Option.getD]
    have HRD : Hid (readyAt im.plain = some (k, n)) := Lib.hid (by
     have := firstG_some (f := fun g => nextIx g.st) (i := 0) (gm_at HX1.out) HNX.out (fun j b hj hb' => by
      obtain ⟨gj, hgj, rfl⟩ := gm_of hb'
      exact HA.out j gj hj hgj)
     rw [Nat.zero_add] at this
     exact this)
    have HGI := Lib.hid (HI.out.gsIn g.plain (List.mem_of_getElem? (gm_at HX1.out)))
    have HNL : Hid (n < g.st.length) := Lib.hid (List.findIdx?_eq_some_iff_findIdx_eq.1 HNX.out).1
    have x0 := (HX.out.keep HK3.out (fun h => h)).cell 0
    have x2 := (HX.out.keep HK3.out (fun h => h)).cell 2
    have GR := Lib.hid (refGrant_any w3 im.nt im.now HI.out.nt.1 HI.out.nt.2 HI.out.now0.1)
    obtain ⟨rn, hrn⟩ : ∃ rn, granted im.nt im.now = rn := ⟨_, rfl⟩
    have HCP : Hid (claimP im.plain = if rn.2.2 ≠ 0 then (im.plain, .err rn.2.2) else ({ withG im.plain k (g.st.set n rn.2.1) with nt := rn.1 }, ⟨0, g.id, rn.2.1.t, rn.2.1.u, g.plain.name n, g.plain.cmd n⟩)) := Lib.hid (by
     unfold claimP
     rw [HRD.out]
     dsimp only
     rw [getD_some (show im.plain.gs[k]? = some g.plain from gm_at HX1.out), show im.plain.nt = im.nt from rfl, show im.plain.now = im.now from rfl, hrn]
     rfl)
    rw [hrn] at GR
    obtain ⟨o2, ⟨ys, yt, yu⟩, E⟩ := rn
    unfold Pst.agg at GR
    dsimp only at GR HCP
    clear hrn
    go_wp2_with fail
    refine GR.out.mono ?_
    rintro e w4 ⟨rfl, k4⟩
    have KS := (Keep.refl noneOf w4).alloc (.cells #[.int .i64 ys, .int .u64 yt, .int .u64 yu] 61)
    have HNS1 := Lib.hid (show p + 1 + 1 < w4.heap.size from by have h1 := HZ.out.lt; have h2 := HK3.out.size; have h3 := k4.size; omega)
    have HBS := Lib.hid (Box.new w4 61 #[.int .i64 ys, .int .u64 yt, .int .u64 yu])
    have k5 := k4.trans KS (fun _ _ h => h)
    have HK5 := Lib.hid (HK3.out.trans k5 (fun _ _ h => h))
    have HBG5 := Lib.hid (HBG3.out.keep k5 (fun h => h))
    have HST5 := Lib.hid (Sts.keep HST3.out k5 (fun _ _ _ h => h))
    have HGT5 := Lib.hid (HGT3.out.keep k5 (fun _ _ _ h => h))
    clear GR x0 x2 k4 KS k5 HK3 HBG3 HST3 HGT3
    go_upto_region 8 with fail
    generalize hw : w4.alloc (.cells #[.int .i64 ys, .int .u64 yt, .int .u64 yu] 61) = w5 at *
    generalize hz : w4.heap.size = ps at *
    clear hw hz
    by_cases hE : E = 0
    case neg =>
     have hEn : (E == 0) = false := beq_eq_false_iff_ne.2 hE
     rw [if_pos hE] at HCP
     obtain ⟨x0, x1, x2, x3, x4, x5⟩ := (HX.out.keep HK5.out (fun h => h)).six
     clear hE HBG5 HBS HST5 HGT5
     have HKW := Lib.hid (HKA.out.trans HK5.out (fun _ _ h => h))
     have HPB : Hid (w.heap.size ≤ p + 1) := Lib.hid (by have := HPS.out; omega)
     have HYW := Lib.hid (HY.out.keep HK5.out (fun h => h))
     have HZW := Lib.hid (HZ.out.keep HK5.out (fun h => h))
     obtain ⟨y0, y1, y2, y3, y4, y5⟩ := HYW.out.six
     obtain ⟨fy0, fy1, fy2, fy3, fy4, fy5⟩ := HYW.out.free6
     obtain ⟨z0, z1, z2, z3, z4, z5⟩ := HZW.out.six
     obtain ⟨fz0, fz1, fz2, fz3, fz4, fz5⟩ := HZW.out.free6
     go_wp2
     have HY6 := HYW.out.put6 (.int .u64 im.now) (.int .u64 im.ng) (.int .u64 im.nt) (.slice A1 im.ses.length a1) (.slice (some ⟨tb, o, none⟩) im.gs.length a2) (.slice A3 im.built.length a3)
     have HZ5 := HZW.out.far6 (b := (p + 1)) (by omega) (.int .u64 im.now) (.int .u64 im.ng) (.int .u64 im.nt) (.slice A1 im.ses.length a1) (.slice (some ⟨tb, o, none⟩) im.gs.length a2) (.slice A3 im.built.length a3)
     have HZ6 := HZ5.put6 (.int .i64 E) (.int .u64 0) (.int .u64 0) (.int .u64 0) (.string ⟨#[]⟩) (.string ⟨#[]⟩)
     have HY7 := HY6.far6 (b := (p + 1 + 1)) (by omega) (.int .i64 E) (.int .u64 0) (.int .u64 0) (.int .u64 0) (.string ⟨#[]⟩) (.string ⟨#[]⟩)
     have KK : Keep noneOf w (sixPut (sixPut w5 (p + 1) (.int .u64 im.now) (.int .u64 im.ng) (.int .u64 im.nt) (.slice A1 im.ses.length a1) (.slice (some ⟨tb, o, none⟩) im.gs.length a2) (.slice A3 im.built.length a3)) (p + 1 + 1) (.int .i64 E) (.int .u64 0) (.int .u64 0) (.int .u64 0) (.string ⟨#[]⟩) (.string ⟨#[]⟩)) := by
      have KW := HKW.out
      have hb := HPB.out
      exact (KW.put6 (b := (p + 1)) (fun h => absurd h (by omega)) (.int .u64 im.now) (.int .u64 im.ng) (.int .u64 im.nt) (.slice A1 im.ses.length a1) (.slice (some ⟨tb, o, none⟩) im.gs.length a2) (.slice A3 im.built.length a3)).put6 (b := (p + 1 + 1)) (fun h => absurd h (by omega)) (.int .i64 E) (.int .u64 0) (.int .u64 0) (.int .u64 0) (.string ⟨#[]⟩) (.string ⟨#[]⟩)
     have HFIN : RefIm2 M (claimP im.plain) w (.returned (.tuple #[.agg #[.int .u64 im.now, .int .u64 im.ng, .int .u64 im.nt, .slice A1 im.ses.length a1, .slice (some ⟨tb, o, none⟩) im.gs.length a2, .slice A3 im.built.length a3], .agg #[.int .i64 E, .int .u64 0, .int .u64 0, .int .u64 0, .string ⟨#[]⟩, .string ⟨#[]⟩]])) (sixPut (sixPut w5 (p + 1) (.int .u64 im.now) (.int .u64 im.ng) (.int .u64 im.nt) (.slice A1 im.ses.length a1) (.slice (some ⟨tb, o, none⟩) im.gs.length a2) (.slice A3 im.built.length a3)) (p + 1 + 1) (.int .i64 E) (.int .u64 0) (.int .u64 0) (.int .u64 0) (.string ⟨#[]⟩) (.string ⟨#[]⟩)) := by rw [HCP.out, ← HAGG.out]; exact refim2_ret rfl (HL.out.keep KK (fun _ _ _ h => h)) KK
     dsimp only [sixPut] at HZ6 HY7 HFIN
     obtain ⟨r0, r1, r2, r3, r4, r5⟩ := HY7.six
     obtain ⟨s0, s1, s2, s3, s4, s5⟩ := HZ6.six
     exact bodyPost_ret (v := .tuple #[.agg #[.int .u64 im.now, .int .u64 im.ng, .int .u64 im.nt, .slice A1 im.ses.length a1, .slice (some ⟨tb, o, none⟩) im.gs.length a2, .slice A3 im.built.length a3], .agg #[.int .i64 E, .int .u64 0, .int .u64 0, .int .u64 0, .string ⟨#[]⟩, .string ⟨#[]⟩]]) (by simp [results, Tryz.results31, go_sem, r0, r1, r2, r3, r4, r5, s0, s1, s2, s3, s4, s5]) rfl HFIN
    subst hE
    rw [if_neg (by decide)] at HCP
    try dsimp only at HCP
    have hfw := im_few HI.out (List.mem_of_getElem? HX1.out)
    have HXW := Lib.hid (HX.out.keep HK5.out (fun h => h))
    have HSET : Hid (∀ w', Keep noneOf w5 w' → Calls Tryz.prog 71 #[.slice B2 g.st.length b2, .int .i64 (n : Int), .agg #[.int .i64 ys, .int .u64 yt, .int .u64 yu]] w' (TellsSts (g.st.set n ⟨ys, yt, yu⟩) w')) := Lib.hid fun w' k' => rset_any w' _ _ g.st n ⟨ys, yt, yu⟩ (Sts.keep HST5.out k' (fun _ _ _ h => h)) HNL.out (by rw [reach_is]; omega)
    have HWITH : Hid (∀ w' sv, Keep noneOf w5 w' → Sts w' (fun i => (i < p ∧ M i) ∨ p + 1 + 1 < i) sv (g.st.set n ⟨ys, yt, yu⟩) → Calls Tryz.prog 26 #[.agg #[.int .u64 im.now, .int .u64 im.ng, .int .u64 im.nt, .slice A1 im.ses.length a1, .slice (some ⟨tb, o, none⟩) im.gs.length a2, .slice A3 im.built.length a3], .int .i64 (k : Int), sv] w' (RefIm (fun i => (i < p ∧ M i) ∨ p + 1 + 1 < i) (withG im.plain k (g.st.set n ⟨ys, yt, yu⟩)) w')) := Lib.hid fun w' sv k' hs => by
     have := rwith_any w' (fun i => (i < p ∧ M i) ∨ p + 1 + 1 < i) (fun i hi => .inr (by have h1 := HZ.out.lt; have h2 := HK5.out.size; have h3 := k'.size; omega)) im ((HL.out.mono (fun i hi hm => .inl ⟨by have := HPS.out; omega, hm⟩)).keep ((HKA.out.trans HK5.out (fun _ _ h => h)).trans k' (fun _ _ h => h)) (fun _ _ _ h => h)) k g HX1.out sv _ hs (by have := HI.out.gsFew; simpa [Im.plain] using this)
     rw [HAGG.out] at this
     exact this
    have MC : Hid (∀ w', Keep (fun b => b = p) w5 w' → w'.cell? ⟨px, 2, none⟩ = some (.slice B2 g.st.length b2) ∧ w'.cell? ⟨ps, 0, none⟩ = some (.int .i64 ys) ∧ w'.cell? ⟨ps, 1, none⟩ = some (.int .u64 yt) ∧ w'.cell? ⟨ps, 2, none⟩ = some (.int .u64 yu)) := Lib.hid fun w' k' =>
     ⟨(HBG5.out.keep k' (fun e => by have := HNX1.out; omega)).cell 2, (HBS.out.keep k' (fun e => by have := HNS1.out; omega)).cell 0, (HBS.out.keep k' (fun e => by have := HNS1.out; omega)).cell 1, (HBS.out.keep k' (fun e => by have := HNS1.out; omega)).cell 2⟩
    have KZ := (Keep.refl (fun b => b = p) w5).drew
    have KN := (Keep.refl noneOf w5).drew
    clear hfw
    go_upto_region 10 with fail
    refine wp_region_held_drew (S := fun w' => Keep (fun b => b = p) w5 w') (by kernel_rfl) (KZ) (fun hHeld => ?_)
    refine' ztk 1 _ rfl (.inl ⟨by kernel_rfl, ?hy1⟩) ?_
    case hy1 => intro w' hSw; obtain ⟨_, _, _, _⟩ := MC.out w' hSw; go_simp; try with_reducible rfl
    simp only [Act.put, zga, zgb, zgc, zgd, zge, zgf]
    refine' ztk 2 _ rfl (.inl ⟨by kernel_rfl, ?hy2⟩) ?_
    case hy2 => intro w' hSw; obtain ⟨_, _, _, _⟩ := MC.out w' hSw; go_simp; try with_reducible rfl
    simp only [Act.put, zga, zgb, zgc, zgd, zge, zgf]
    refine' ztk 3 _ rfl (.inl ⟨by kernel_rfl, ?hy3⟩) ?_
    case hy3 => intro w' hSw; obtain ⟨_, _, _, _⟩ := MC.out w' hSw; go_simp; try with_reducible rfl
    simp only [Act.put, zga, zgb, zgc, zgd, zge, zgf]
    refine' ztk 4 _ rfl (.inl ⟨by kernel_rfl, ?hy4⟩) ?_
    case hy4 => intro w' hSw; obtain ⟨_, _, _, _⟩ := MC.out w' hSw; go_simp; try with_reducible rfl
    simp only [Act.put, zga, zgb, zgc, zgd, zge, zgf]
    refine' ztk 5 _ rfl (.inl ⟨by kernel_rfl, ?hy5⟩) ?_
    case hy5 => intro w' hSw; obtain ⟨_, _, _, _⟩ := MC.out w' hSw; go_simp; try with_reducible rfl
    simp only [Act.put, zga, zgb, zgc, zgd, zge, zgf]
    generalize w5.drew = wz at *
    refine wpAnyH_ready (rs := [0, 6]) (by kernel_rfl) (by simp) (AllReadyH.cons rfl (fun K hK => ?_) (AllReadyH.cons rfl (fun K hK => ?_) AllReadyH.nil))
    ·
     obtain ⟨x0, x1, x2, x3, x4, x5⟩ := (HXW.out.keep KN (fun h => h)).six
     go_simp
     refine hK.out _ _ (KZ) (fun hHeld => ?_)
     clear hK K
     try simp only [Act.put, zga, zgb, zgc, zgd, zge, zgf]
     clear x0 x1 x2 x3 x4 x5
     refine wpAnyH_ready (rs := [6]) (by kernel_rfl) (by simp) (AllReadyH.cons rfl (fun K hK => ?_) AllReadyH.nil)
     go_simp
     go_at_call 71
     refine (HSET.out _ KN).mono ?_
     rintro e w6 ⟨A6, c6, rfl, hst6, k6⟩
     rw [List.length_set] at hst6 ⊢
     have K6 : Keep noneOf w5 w6 := KN.trans k6 (fun _ _ h => h)
     have WT := HWITH.out w6 _ K6 (hst6.mono (fun i _ h => .inr (by have h1 := HZ.out.lt; have h2 := HK5.out.size; have h3 := KN.size; omega)))
     replace WT := Lib.hid WT
     clear k6
     go_wp2_with fail
     refine hK.out _ _ (K6.wide) (fun hHeld => ?_)
     clear hK K
     try simp only [Act.put, zga, zgb, zgc, zgd, zge, zgf]
     refine wpAnyH_ready (rs := [7]) (by kernel_rfl) (by simp) (AllReadyH.cons rfl (fun K hK => ?_) AllReadyH.nil)
     go_simp
     go_at_call 26
     refine WT.out.mono ?_
     rintro e w7 ⟨im7, rfl, hp7, hl7, k7⟩
     obtain ⟨E1, c1, E2, c2, E3, c3, e1, e2, e3⟩ := hl7.shapes
     have K7 : Keep noneOf w5 w7 := K6.trans k7 (fun _ _ h => h)
     have HI7 := Lib.hid hl7
     have HP7 := Lib.hid hp7
     have HE7 := Lib.hid (And.intro e1 (And.intro e2 e3))
     unfold Im.agg
     rw [e1, e2, e3]
     clear WT k7 hp7 hl7 e1 e2 e3 HSET HWITH
     go_wp2_with fail
     refine hK.out _ _ (K7.wide) (fun hHeld => ?_)
     clear hK K
     try simp only [Act.put, zga, zgb, zgc, zgd, zge, zgf]
     have HX7 := Lib.hid (HXW.out.keep K7 (fun h => h))
     obtain ⟨x0, x1, x2, x3, x4, x5⟩ := HX7.out.six
     obtain ⟨fx0, fx1, fx2, fx3, fx4, fx5⟩ := HX7.out.free6
     have HX8 := Lib.hid (HX7.out.put6 (.int .u64 im7.now) (.int .u64 im7.ng) (.int .u64 im7.nt) (.slice E1 im7.ses.length c1) (.slice E2 im7.gs.length c2) (.slice E3 im7.built.length c3))
     have K8 := (Keep.refl (fun b => b = p) w7).put6 (b := p) (fun _ => rfl) (.int .u64 im7.now) (.int .u64 im7.ng) (.int .u64 im7.nt) (.slice E1 im7.ses.length c1) (.slice E2 im7.gs.length c2) (.slice E3 im7.built.length c3)
     have K58 := (K7.wide (S := fun b => b = p)).trans K8 (fun _ _ h => h)
     dsimp only [sixPut] at HX8 K8 K58
     refine wpAnyH_ready (rs := [8]) (by kernel_rfl) (by simp) (AllReadyH.cons rfl (fun K hK => ?_) AllReadyH.nil)
     go_simp
     refine hK.out _ _ (K58) (fun hHeld => ?_)
     clear hK K
     try simp only [Act.put, zga, zgb, zgc, zgd, zge, zgf]
     refine wpAnyH_done (by kernel_rfl) ?_ _
     generalize (((((w7.setCell ⟨p, 0, none⟩ (.int .u64 im7.now)).setCell ⟨p, 1, none⟩ (.int .u64 im7.ng)).setCell ⟨p, 2, none⟩ (.int .u64 im7.nt)).setCell ⟨p, 3, none⟩ (.slice E1 im7.ses.length c1)).setCell ⟨p, 4, none⟩ (.slice E2 im7.gs.length c2)).setCell ⟨p, 5, none⟩ (.slice E3 im7.built.length c3) = w8 at *
     clear x0 x1 x2 x3 x4 x5 fx0 fx1 fx2 fx3 fx4 fx5 HX7 K7 K6 MC hHeld
     have x2 := HX8.out.cell 2
     have fx2 := HX8.out.free 2
     have HX9 := Lib.hid (HX8.out.put 2 (.int .u64 o2))
     have K79 := Lib.hid (K8.trans ((Keep.refl (fun b => b = p) w8).setCell (p := ⟨p, 2, none⟩) (fun _ => rfl) (.int .u64 o2)) (fun _ _ h => h))
     have K59 := Lib.hid (K58.trans ((Keep.refl (fun b => b = p) w8).setCell (p := ⟨p, 2, none⟩) (fun _ => rfl) (.int .u64 o2)) (fun _ _ h => h))
     clear K58 K8
     go_upto_region 12 with fail
     generalize w8.setCell ⟨p, 2, none⟩ (.int .u64 o2) = w9 at *
     clear x2 fx2 HX8
     have hfw := im_few HI.out (List.mem_of_getElem? HX1.out)
     have hnt : n < g.ts.length := by have := HNL.out; omega
     obtain ⟨t, ht⟩ : ∃ t, g.ts[n]? = some t := ⟨_, List.getElem?_eq_getElem hnt⟩
     have hT := HGT5.out.keep K59.out (fun i _ hd e => by omega)
     obtain ⟨tb2, o3, eT, htblk, htD, htcell⟩ := hT.cell (fun _ => rfl) ht
     have HNM := Lib.hid (name_at ht)
     have HCM := Lib.hid (cmd_at ht)
     have MC : Hid (∀ w', Keep (fun b => b = p + 1 ∨ b = p + 1 + 1) w9 w' → (w'.cell? ⟨p, 0, none⟩ = some (.int .u64 im7.now) ∧ w'.cell? ⟨p, 1, none⟩ = some (.int .u64 im7.ng) ∧ w'.cell? ⟨p, 2, none⟩ = some (.int .u64 o2) ∧ w'.cell? ⟨p, 3, none⟩ = some (.slice E1 im7.ses.length c1) ∧ w'.cell? ⟨p, 4, none⟩ = some (.slice E2 im7.gs.length c2) ∧ w'.cell? ⟨p, 5, none⟩ = some (.slice E3 im7.built.length c3)) ∧
       (w'.cell? ⟨px, 0, none⟩ = some (.int .u64 g.id) ∧ w'.cell? ⟨px, 1, none⟩ = some (.slice (some ⟨tb2, o3, none⟩) g.ts.length b1)) ∧ (w'.cell? ⟨ps, 1, none⟩ = some (.int .u64 yt) ∧ w'.cell? ⟨ps, 2, none⟩ = some (.int .u64 yu)) ∧
       (w'.cell? ⟨tb2, o3 + n * 3, none⟩ = some (.string t.name) ∧ w'.cell? ⟨tb2, o3 + n * 3 + 1, none⟩ = some (.string t.cmd))) := Lib.hid fun w' k' => by
      have h1 := (HX9.out.keep k' (by omega)).six
      have h2 := (HBG5.out.keep K59.out (fun e => by have := HNX1.out; omega)).keep k' (by have := HNX1.out; omega)
      have h3 := (HBS.out.keep K59.out (fun e => by have := HNS1.out; omega)).keep k' (by have := HNS1.out; omega)
      have ks := fun j hj => (k'.cell (p := ⟨tb2, o3 + (n * 3 + j), none⟩) htblk (by show ¬ (tb2 = p + 1 ∨ tb2 = p + 1 + 1); omega)).trans (htcell j hj)
      rw [eT] at h2
      exact ⟨h1, ⟨h2.cell 0, h2.cell 1⟩, ⟨h3.cell 1, h3.cell 2⟩, ks 0 (by decide), ks 1 (by decide)⟩
     have HYW := Lib.hid ((HY.out.keep HK5.out (fun h => h)).keep K59.out (by omega))
     have HZW := Lib.hid ((HZ.out.keep HK5.out (fun h => h)).keep K59.out (by omega))
     have q2 : (0 : Int) ≤ (n : Int) := by omega
     have q3 : (n : Int) < (g.ts.length : Int) := by omega
     have KZ9 := (Keep.refl (fun b => b = p + 1 ∨ b = p + 1 + 1) w9).drew
     clear hfw ht hT htcell htblk htD eT
     refine wp_region_held_drew (S := fun w' => Keep (fun b => b = p + 1 ∨ b = p + 1 + 1) w9 w') (by kernel_rfl) (KZ9) (fun hHeld => ?_)
     refine' ztk 0 _ rfl (.inl ⟨by kernel_rfl, ?hy0⟩) ?_
     case hy0 => intro w' hSw; obtain ⟨⟨_, _, _, _, _, _⟩, ⟨_, _⟩, ⟨_, _⟩, _, _⟩ := MC.out w' hSw; go_simp; try with_reducible rfl
     simp only [Act.put, zga, zgb, zgc, zgd, zge, zgf]
     refine' ztk 1 _ rfl (.inl ⟨by kernel_rfl, ?hy1⟩) ?_
     case hy1 => intro w' hSw; obtain ⟨⟨_, _, _, _, _, _⟩, ⟨_, _⟩, ⟨_, _⟩, _, _⟩ := MC.out w' hSw; go_simp; try with_reducible rfl
     simp only [Act.put, zga, zgb, zgc, zgd, zge, zgf]
     refine' ztk 2 _ rfl (.inl ⟨by kernel_rfl, ?hy2⟩) ?_
     case hy2 => intro w' hSw; obtain ⟨⟨_, _, _, _, _, _⟩, ⟨_, _⟩, ⟨_, _⟩, _, _⟩ := MC.out w' hSw; go_simp; try with_reducible rfl
     simp only [Act.put, zga, zgb, zgc, zgd, zge, zgf]
     refine' ztk 3 _ rfl (.inl ⟨by kernel_rfl, ?hy3⟩) ?_
     case hy3 => intro w' hSw; obtain ⟨⟨_, _, _, _, _, _⟩, ⟨_, _⟩, ⟨_, _⟩, _, _⟩ := MC.out w' hSw; go_simp; try with_reducible rfl
     simp only [Act.put, zga, zgb, zgc, zgd, zge, zgf]
     refine' ztk 4 _ rfl (.inl ⟨by kernel_rfl, ?hy4⟩) ?_
     case hy4 => intro w' hSw; obtain ⟨⟨_, _, _, _, _, _⟩, ⟨_, _⟩, ⟨_, _⟩, _, _⟩ := MC.out w' hSw; go_simp; try with_reducible rfl
     simp only [Act.put, zga, zgb, zgc, zgd, zge, zgf]
     refine' ztk 5 _ rfl (.inl ⟨by kernel_rfl, ?hy5⟩) ?_
     case hy5 => intro w' hSw; obtain ⟨⟨_, _, _, _, _, _⟩, ⟨_, _⟩, ⟨_, _⟩, _, _⟩ := MC.out w' hSw; go_simp; try with_reducible rfl
     simp only [Act.put, zga, zgb, zgc, zgd, zge, zgf]
     refine' ztk 6 _ rfl (.inl ⟨by kernel_rfl, ?hy6⟩) ?_
     case hy6 => intro w' hSw; obtain ⟨⟨_, _, _, _, _, _⟩, ⟨_, _⟩, ⟨_, _⟩, _, _⟩ := MC.out w' hSw; go_simp; try with_reducible rfl
     simp only [Act.put, zga, zgb, zgc, zgd, zge, zgf]
     refine' ztk 7 _ rfl (.inl ⟨by kernel_rfl, ?hy7⟩) ?_
     case hy7 => intro w' hSw; obtain ⟨⟨_, _, _, _, _, _⟩, ⟨_, _⟩, ⟨_, _⟩, _, _⟩ := MC.out w' hSw; go_simp; try with_reducible rfl
     simp only [Act.put, zga, zgb, zgc, zgd, zge, zgf]
     refine' ztk 8 _ rfl (.inl ⟨by kernel_rfl, ?hy8⟩) ?_
     case hy8 => intro w' hSw; obtain ⟨⟨_, _, _, _, _, _⟩, ⟨_, _⟩, ⟨_, _⟩, _, _⟩ := MC.out w' hSw; go_simp; try with_reducible rfl
     simp only [Act.put, zga, zgb, zgc, zgd, zge, zgf]
     refine' ztk 9 _ rfl (.inl ⟨by kernel_rfl, ?hy9⟩) ?_
     case hy9 => intro w' hSw; obtain ⟨⟨_, _, _, _, _, _⟩, ⟨_, _⟩, ⟨_, _⟩, _, _⟩ := MC.out w' hSw; go_simp; try with_reducible rfl
     simp only [Act.put, zga, zgb, zgc, zgd, zge, zgf]
     refine' ztk 10 _ rfl (.inl ⟨by kernel_rfl, ?hy10⟩) ?_
     case hy10 => intro w' hSw; obtain ⟨⟨_, _, _, _, _, _⟩, ⟨_, _⟩, ⟨_, _⟩, _, _⟩ := MC.out w' hSw; go_simp; try with_reducible rfl
     simp only [Act.put, zga, zgb, zgc, zgd, zge, zgf]
     refine' ztk 11 _ rfl (.inl ⟨by kernel_rfl, ?hy11⟩) ?_
     case hy11 => intro w' hSw; obtain ⟨⟨_, _, _, _, _, _⟩, ⟨_, _⟩, ⟨_, _⟩, _, _⟩ := MC.out w' hSw; go_simp; try with_reducible rfl
     simp only [Act.put, zga, zgb, zgc, zgd, zge, zgf]
     refine' ztk 12 _ rfl (.inl ⟨by kernel_rfl, ?hy12⟩) ?_
     case hy12 => intro w' hSw; obtain ⟨⟨_, _, _, _, _, _⟩, ⟨_, _⟩, ⟨_, _⟩, _, _⟩ := MC.out w' hSw; go_simp; try with_reducible rfl
     simp only [Act.put, zga, zgb, zgc, zgd, zge, zgf]
     refine' ztk 13 _ rfl (.inl ⟨by kernel_rfl, ?hy13⟩) ?_
     case hy13 => intro w' hSw; obtain ⟨⟨_, _, _, _, _, _⟩, ⟨_, _⟩, ⟨_, _⟩, _, _⟩ := MC.out w' hSw; go_simp; try with_reducible rfl
     simp only [Act.put, zga, zgb, zgc, zgd, zge, zgf]
     refine' ztk 14 _ rfl (.inl ⟨by kernel_rfl, ?hy14⟩) ?_
     case hy14 => intro w' hSw; obtain ⟨⟨_, _, _, _, _, _⟩, ⟨_, _⟩, ⟨_, _⟩, _, _⟩ := MC.out w' hSw; go_simp; try with_reducible rfl
     simp only [Act.put, zga, zgb, zgc, zgd, zge, zgf]
     refine' ztk 15 _ rfl (.inl ⟨by kernel_rfl, ?hy15⟩) ?_
     case hy15 => intro w' hSw; obtain ⟨⟨_, _, _, _, _, _⟩, ⟨_, _⟩, ⟨_, _⟩, _, _⟩ := MC.out w' hSw; go_simp; try with_reducible rfl
     simp only [Act.put, zga, zgb, zgc, zgd, zge, zgf]
     refine' ztk 16 _ rfl (.inl ⟨by kernel_rfl, ?hy16⟩) ?_
     case hy16 => intro w' hSw; obtain ⟨⟨_, _, _, _, _, _⟩, ⟨_, _⟩, ⟨_, _⟩, _, _⟩ := MC.out w' hSw; go_simp; try with_reducible rfl
     simp only [Act.put, zga, zgb, zgc, zgd, zge, zgf]
     refine' ztk 17 _ rfl (.inl ⟨by kernel_rfl, ?hy17⟩) ?_
     case hy17 => intro w' hSw; obtain ⟨⟨_, _, _, _, _, _⟩, ⟨_, _⟩, ⟨_, _⟩, _, _⟩ := MC.out w' hSw; go_simp; try with_reducible rfl
     simp only [Act.put, zga, zgb, zgc, zgd, zge, zgf]
     refine' ztk 18 _ rfl (.inl ⟨by kernel_rfl, ?hy18⟩) ?_
     case hy18 => intro w' hSw; obtain ⟨⟨_, _, _, _, _, _⟩, ⟨_, _⟩, ⟨_, _⟩, _, _⟩ := MC.out w' hSw; go_simp; try with_reducible rfl
     simp only [Act.put, zga, zgb, zgc, zgd, zge, zgf]
     refine' ztk 19 _ rfl (.inl ⟨by kernel_rfl, ?hy19⟩) ?_
     case hy19 => intro w' hSw; obtain ⟨⟨_, _, _, _, _, _⟩, ⟨_, _⟩, ⟨_, _⟩, _, _⟩ := MC.out w' hSw; go_simp; try with_reducible rfl
     simp only [Act.put, zga, zgb, zgc, zgd, zge, zgf]
     refine' ztk 20 _ rfl (.inl ⟨by kernel_rfl, ?hy20⟩) ?_
     case hy20 => intro w' hSw; obtain ⟨⟨_, _, _, _, _, _⟩, ⟨_, _⟩, ⟨_, _⟩, _, _⟩ := MC.out w' hSw; go_simp; try with_reducible rfl
     simp only [Act.put, zga, zgb, zgc, zgd, zge, zgf]
     refine' ztk 21 _ rfl (.inl ⟨by kernel_rfl, ?hy21⟩) ?_
     case hy21 => intro w' hSw; obtain ⟨⟨_, _, _, _, _, _⟩, ⟨_, _⟩, ⟨_, _⟩, _, _⟩ := MC.out w' hSw; go_simp; try with_reducible rfl
     simp only [Act.put, zga, zgb, zgc, zgd, zge, zgf]
     have HYD := Lib.hid (HYW.out.keep (Keep.refl noneOf w9).drew (fun h => h))
     have HZD := Lib.hid (HZW.out.keep (Keep.refl noneOf w9).drew (fun h => h))
     generalize w9.drew = wd at *
     obtain ⟨y0, y1, y2, y3, y4, y5⟩ := HYD.out.six
     obtain ⟨fy0, fy1, fy2, fy3, fy4, fy5⟩ := HYD.out.free6
     have HYV := Lib.hid (HYD.out.put6 (.int .u64 im7.now) (.int .u64 im7.ng) (.int .u64 o2) (.slice E1 im7.ses.length c1) (.slice E2 im7.gs.length c2) (.slice E3 im7.built.length c3))
     have HZV := Lib.hid (HZD.out.far6 (b := p + 1) (by omega) (.int .u64 im7.now) (.int .u64 im7.ng) (.int .u64 o2) (.slice E1 im7.ses.length c1) (.slice E2 im7.gs.length c2) (.slice E3 im7.built.length c3))
     have KY := KZ9.put6 (b := p + 1) (fun _ => .inl rfl) (.int .u64 im7.now) (.int .u64 im7.ng) (.int .u64 o2) (.slice E1 im7.ses.length c1) (.slice E2 im7.gs.length c2) (.slice E3 im7.built.length c3)
     dsimp only [sixPut] at HYV HZV KY
     refine wpAnyH_ready (rs := [22]) (by kernel_rfl) (by simp) (AllReadyH.cons rfl (fun K hK => ?_) AllReadyH.nil)
     go_simp
     refine hK.out _ _ (KY) (fun hHeld => ?_)
     clear hK K
     try simp only [Act.put, zga, zgb, zgc, zgd, zge, zgf]
     generalize ((((((wd.setCell ⟨p + 1, 0, none⟩ (.int .u64 im7.now)).setCell ⟨p + 1, 1, none⟩ (.int .u64 im7.ng)).setCell ⟨p + 1, 2, none⟩ (.int .u64 o2)).setCell ⟨p + 1, 3, none⟩ (.slice E1 im7.ses.length c1)).setCell ⟨p + 1, 4, none⟩ (.slice E2 im7.gs.length c2)).setCell ⟨p + 1, 5, none⟩ (.slice E3 im7.built.length c3)) = wy at *
     clear y0 y1 y2 y3 y4 y5 fy0 fy1 fy2 fy3 fy4 fy5 HYD HZD
     obtain ⟨z0, z1, z2, z3, z4, z5⟩ := HZV.out.six
     obtain ⟨fz0, fz1, fz2, fz3, fz4, fz5⟩ := HZV.out.free6
     have HZA := Lib.hid (HZV.out.put6 (.int .i64 0) (.int .u64 g.id) (.int .u64 yt) (.int .u64 yu) (.string t.name) (.string t.cmd))
     have HYA := Lib.hid (HYV.out.far6 (b := p + 1 + 1) (by omega) (.int .i64 0) (.int .u64 g.id) (.int .u64 yt) (.int .u64 yu) (.string t.name) (.string t.cmd))
     have KA := KY.put6 (b := p + 1 + 1) (fun _ => .inr rfl) (.int .i64 0) (.int .u64 g.id) (.int .u64 yt) (.int .u64 yu) (.string t.name) (.string t.cmd)
     dsimp only [sixPut] at HZA HYA KA
     refine wpAnyH_ready (rs := [23]) (by kernel_rfl) (by simp) (AllReadyH.cons rfl (fun K hK => ?_) AllReadyH.nil)
     go_simp
     refine hK.out _ _ (KA) (fun hHeld => ?_)
     clear hK K
     try simp only [Act.put, zga, zgb, zgc, zgd, zge, zgf]
     refine wpAnyH_done (by kernel_rfl) ?_ _
     generalize ((((((wy.setCell ⟨p + 1 + 1, 0, none⟩ (.int .i64 0)).setCell ⟨p + 1 + 1, 1, none⟩ (.int .u64 g.id)).setCell ⟨p + 1 + 1, 2, none⟩ (.int .u64 yt)).setCell ⟨p + 1 + 1, 3, none⟩ (.int .u64 yu)).setCell ⟨p + 1 + 1, 4, none⟩ (.string t.name)).setCell ⟨p + 1 + 1, 5, none⟩ (.string t.cmd)) = wf at *
     clear z0 z1 z2 z3 z4 z5 fz0 fz1 fz2 fz3 fz4 fz5 HYV HZV KY MC KZ9 HYW HZW
     have HFIN : Hid (RefIm2 M (claimP im.plain) w (.returned (.tuple #[.agg #[.int .u64 im7.now, .int .u64 im7.ng, .int .u64 o2, .slice E1 im7.ses.length c1, .slice E2 im7.gs.length c2, .slice E3 im7.built.length c3], .agg #[.int .i64 0, .int .u64 g.id, .int .u64 yt, .int .u64 yu, .string t.name, .string t.cmd]])) wf) := Lib.hid (by
      have kk : Keep noneOf w wf := (HKA.out.trans HK5.out (fun _ _ h => h)).trans ((K59.out.mono (T := fun b => p ≤ b) (fun i _ e => by omega)).trans (KA.mono (T := fun b => p ≤ b) (fun i _ e => by omega)) (fun _ _ h => h)) (fun i hi e => by have := HPS.out; omega)
      rw [HCP.out, HNM.out, HCM.out]
      refine ⟨{ im7 with nt := o2 }, ?_, ?_, ?_, kk⟩
      ·
       unfold Im.agg An.agg
       dsimp only
       rw [HE7.out.1, HE7.out.2.1, HE7.out.2.2]
      ·
       show Qp.mk im7.plain.now im7.plain.ng o2 im7.plain.ses im7.plain.gs im7.plain.built = _
       rw [HP7.out]
      ·
       have hl9 := (HI7.out.keep K79.out (fun i _ hd e => by omega)).keep KA (fun i _ hd e => by omega)
       have hl8 := hl9.mono (D' := M) (fun i _ hd => hd.elim (fun h => h.2) (fun h => HMN.out i (by have := HPS.out; omega)))
       exact ⟨hl8.ses, hl8.gs, hl8.built⟩)
     go_wp2
     obtain ⟨r0, r1, r2, r3, r4, r5⟩ := HYA.out.six
     obtain ⟨s0, s1, s2, s3, s4, s5⟩ := HZA.out.six
     exact bodyPost_ret (v := .tuple #[.agg #[.int .u64 im7.now, .int .u64 im7.ng, .int .u64 o2, .slice E1 im7.ses.length c1, .slice E2 im7.gs.length c2, .slice E3 im7.built.length c3], .agg #[.int .i64 0, .int .u64 g.id, .int .u64 yt, .int .u64 yu, .string t.name, .string t.cmd]]) (by simp [results, Tryz.results31, go_sem, r0, r1, r2, r3, r4, r5, s0, s1, s2, s3, s4, s5]) rfl HFIN.out
    ·
     go_simp
     go_at_call 71
     refine (HSET.out _ KN).mono ?_
     rintro e w6 ⟨A6, c6, rfl, hst6, k6⟩
     rw [List.length_set] at hst6 ⊢
     have K6 : Keep noneOf w5 w6 := KN.trans k6 (fun _ _ h => h)
     have WT := HWITH.out w6 _ K6 (hst6.mono (fun i _ h => .inr (by have h1 := HZ.out.lt; have h2 := HK5.out.size; have h3 := KN.size; omega)))
     replace WT := Lib.hid WT
     clear k6
     go_wp2_with fail
     refine hK.out _ _ (K6.wide) (fun hHeld => ?_)
     clear hK K
     try simp only [Act.put, zga, zgb, zgc, zgd, zge, zgf]
     obtain ⟨x0, x1, x2, x3, x4, x5⟩ := (HXW.out.keep K6 (fun h => h)).six
     refine wpAnyH_ready (rs := [0]) (by kernel_rfl) (by simp) (AllReadyH.cons rfl (fun K hK => ?_) AllReadyH.nil)
     go_simp
     refine hK.out _ _ hHeld (fun hHeld => ?_)
     clear hK K
     try simp only [Act.put, zga, zgb, zgc, zgd, zge, zgf]
     clear x0 x1 x2 x3 x4 x5
     refine wpAnyH_ready (rs := [7]) (by kernel_rfl) (by simp) (AllReadyH.cons rfl (fun K hK => ?_) AllReadyH.nil)
     go_simp
     go_at_call 26
     refine WT.out.mono ?_
     rintro e w7 ⟨im7, rfl, hp7, hl7, k7⟩
     obtain ⟨E1, c1, E2, c2, E3, c3, e1, e2, e3⟩ := hl7.shapes
     have K7 : Keep noneOf w5 w7 := K6.trans k7 (fun _ _ h => h)
     have HI7 := Lib.hid hl7
     have HP7 := Lib.hid hp7
     have HE7 := Lib.hid (And.intro e1 (And.intro e2 e3))
     unfold Im.agg
     rw [e1, e2, e3]
     clear WT k7 hp7 hl7 e1 e2 e3 HSET HWITH
     go_wp2_with fail
     refine hK.out _ _ (K7.wide) (fun hHeld => ?_)
     clear hK K
     try simp only [Act.put, zga, zgb, zgc, zgd, zge, zgf]
     have HX7 := Lib.hid (HXW.out.keep K7 (fun h => h))
     obtain ⟨x0, x1, x2, x3, x4, x5⟩ := HX7.out.six
     obtain ⟨fx0, fx1, fx2, fx3, fx4, fx5⟩ := HX7.out.free6
     have HX8 := Lib.hid (HX7.out.put6 (.int .u64 im7.now) (.int .u64 im7.ng) (.int .u64 im7.nt) (.slice E1 im7.ses.length c1) (.slice E2 im7.gs.length c2) (.slice E3 im7.built.length c3))
     have K8 := (Keep.refl (fun b => b = p) w7).put6 (b := p) (fun _ => rfl) (.int .u64 im7.now) (.int .u64 im7.ng) (.int .u64 im7.nt) (.slice E1 im7.ses.length c1) (.slice E2 im7.gs.length c2) (.slice E3 im7.built.length c3)
     have K58 := (K7.wide (S := fun b => b = p)).trans K8 (fun _ _ h => h)
     dsimp only [sixPut] at HX8 K8 K58
     refine wpAnyH_ready (rs := [8]) (by kernel_rfl) (by simp) (AllReadyH.cons rfl (fun K hK => ?_) AllReadyH.nil)
     go_simp
     refine hK.out _ _ (K58) (fun hHeld => ?_)
     clear hK K
     try simp only [Act.put, zga, zgb, zgc, zgd, zge, zgf]
     refine wpAnyH_done (by kernel_rfl) ?_ _
     generalize (((((w7.setCell ⟨p, 0, none⟩ (.int .u64 im7.now)).setCell ⟨p, 1, none⟩ (.int .u64 im7.ng)).setCell ⟨p, 2, none⟩ (.int .u64 im7.nt)).setCell ⟨p, 3, none⟩ (.slice E1 im7.ses.length c1)).setCell ⟨p, 4, none⟩ (.slice E2 im7.gs.length c2)).setCell ⟨p, 5, none⟩ (.slice E3 im7.built.length c3) = w8 at *
     clear x0 x1 x2 x3 x4 x5 fx0 fx1 fx2 fx3 fx4 fx5 HX7 K7 K6 MC hHeld
     have x2 := HX8.out.cell 2
     have fx2 := HX8.out.free 2
     have HX9 := Lib.hid (HX8.out.put 2 (.int .u64 o2))
     have K79 := Lib.hid (K8.trans ((Keep.refl (fun b => b = p) w8).setCell (p := ⟨p, 2, none⟩) (fun _ => rfl) (.int .u64 o2)) (fun _ _ h => h))
     have K59 := Lib.hid (K58.trans ((Keep.refl (fun b => b = p) w8).setCell (p := ⟨p, 2, none⟩) (fun _ => rfl) (.int .u64 o2)) (fun _ _ h => h))
     clear K58 K8
     go_upto_region 12 with fail
     generalize w8.setCell ⟨p, 2, none⟩ (.int .u64 o2) = w9 at *
     clear x2 fx2 HX8
     have hfw := im_few HI.out (List.mem_of_getElem? HX1.out)
     have hnt : n < g.ts.length := by have := HNL.out; omega
     obtain ⟨t, ht⟩ : ∃ t, g.ts[n]? = some t := ⟨_, List.getElem?_eq_getElem hnt⟩
     have hT := HGT5.out.keep K59.out (fun i _ hd e => by omega)
     obtain ⟨tb2, o3, eT, htblk, htD, htcell⟩ := hT.cell (fun _ => rfl) ht
     have HNM := Lib.hid (name_at ht)
     have HCM := Lib.hid (cmd_at ht)
     have MC : Hid (∀ w', Keep (fun b => b = p + 1 ∨ b = p + 1 + 1) w9 w' → (w'.cell? ⟨p, 0, none⟩ = some (.int .u64 im7.now) ∧ w'.cell? ⟨p, 1, none⟩ = some (.int .u64 im7.ng) ∧ w'.cell? ⟨p, 2, none⟩ = some (.int .u64 o2) ∧ w'.cell? ⟨p, 3, none⟩ = some (.slice E1 im7.ses.length c1) ∧ w'.cell? ⟨p, 4, none⟩ = some (.slice E2 im7.gs.length c2) ∧ w'.cell? ⟨p, 5, none⟩ = some (.slice E3 im7.built.length c3)) ∧
       (w'.cell? ⟨px, 0, none⟩ = some (.int .u64 g.id) ∧ w'.cell? ⟨px, 1, none⟩ = some (.slice (some ⟨tb2, o3, none⟩) g.ts.length b1)) ∧ (w'.cell? ⟨ps, 1, none⟩ = some (.int .u64 yt) ∧ w'.cell? ⟨ps, 2, none⟩ = some (.int .u64 yu)) ∧
       (w'.cell? ⟨tb2, o3 + n * 3, none⟩ = some (.string t.name) ∧ w'.cell? ⟨tb2, o3 + n * 3 + 1, none⟩ = some (.string t.cmd))) := Lib.hid fun w' k' => by
      have h1 := (HX9.out.keep k' (by omega)).six
      have h2 := (HBG5.out.keep K59.out (fun e => by have := HNX1.out; omega)).keep k' (by have := HNX1.out; omega)
      have h3 := (HBS.out.keep K59.out (fun e => by have := HNS1.out; omega)).keep k' (by have := HNS1.out; omega)
      have ks := fun j hj => (k'.cell (p := ⟨tb2, o3 + (n * 3 + j), none⟩) htblk (by show ¬ (tb2 = p + 1 ∨ tb2 = p + 1 + 1); omega)).trans (htcell j hj)
      rw [eT] at h2
      exact ⟨h1, ⟨h2.cell 0, h2.cell 1⟩, ⟨h3.cell 1, h3.cell 2⟩, ks 0 (by decide), ks 1 (by decide)⟩
     have HYW := Lib.hid ((HY.out.keep HK5.out (fun h => h)).keep K59.out (by omega))
     have HZW := Lib.hid ((HZ.out.keep HK5.out (fun h => h)).keep K59.out (by omega))
     have q2 : (0 : Int) ≤ (n : Int) := by omega
     have q3 : (n : Int) < (g.ts.length : Int) := by omega
     have KZ9 := (Keep.refl (fun b => b = p + 1 ∨ b = p + 1 + 1) w9).drew
     clear hfw ht hT htcell htblk htD eT
     refine wp_region_held_drew (S := fun w' => Keep (fun b => b = p + 1 ∨ b = p + 1 + 1) w9 w') (by kernel_rfl) (KZ9) (fun hHeld => ?_)
     refine' ztk 0 _ rfl (.inl ⟨by kernel_rfl, ?hy0⟩) ?_
     case hy0 => intro w' hSw; obtain ⟨⟨_, _, _, _, _, _⟩, ⟨_, _⟩, ⟨_, _⟩, _, _⟩ := MC.out w' hSw; go_simp; try with_reducible rfl
     simp only [Act.put, zga, zgb, zgc, zgd, zge, zgf]
     refine' ztk 1 _ rfl (.inl ⟨by kernel_rfl, ?hy1⟩) ?_
     case hy1 => intro w' hSw; obtain ⟨⟨_, _, _, _, _, _⟩, ⟨_, _⟩, ⟨_, _⟩, _, _⟩ := MC.out w' hSw; go_simp; try with_reducible rfl
     simp only [Act.put, zga, zgb, zgc, zgd, zge, zgf]
     refine' ztk 2 _ rfl (.inl ⟨by kernel_rfl, ?hy2⟩) ?_
     case hy2 => intro w' hSw; obtain ⟨⟨_, _, _, _, _, _⟩, ⟨_, _⟩, ⟨_, _⟩, _, _⟩ := MC.out w' hSw; go_simp; try with_reducible rfl
     simp only [Act.put, zga, zgb, zgc, zgd, zge, zgf]
     refine' ztk 3 _ rfl (.inl ⟨by kernel_rfl, ?hy3⟩) ?_
     case hy3 => intro w' hSw; obtain ⟨⟨_, _, _, _, _, _⟩, ⟨_, _⟩, ⟨_, _⟩, _, _⟩ := MC.out w' hSw; go_simp; try with_reducible rfl
     simp only [Act.put, zga, zgb, zgc, zgd, zge, zgf]
     refine' ztk 4 _ rfl (.inl ⟨by kernel_rfl, ?hy4⟩) ?_
     case hy4 => intro w' hSw; obtain ⟨⟨_, _, _, _, _, _⟩, ⟨_, _⟩, ⟨_, _⟩, _, _⟩ := MC.out w' hSw; go_simp; try with_reducible rfl
     simp only [Act.put, zga, zgb, zgc, zgd, zge, zgf]
     refine' ztk 5 _ rfl (.inl ⟨by kernel_rfl, ?hy5⟩) ?_
     case hy5 => intro w' hSw; obtain ⟨⟨_, _, _, _, _, _⟩, ⟨_, _⟩, ⟨_, _⟩, _, _⟩ := MC.out w' hSw; go_simp; try with_reducible rfl
     simp only [Act.put, zga, zgb, zgc, zgd, zge, zgf]
     refine' ztk 6 _ rfl (.inl ⟨by kernel_rfl, ?hy6⟩) ?_
     case hy6 => intro w' hSw; obtain ⟨⟨_, _, _, _, _, _⟩, ⟨_, _⟩, ⟨_, _⟩, _, _⟩ := MC.out w' hSw; go_simp; try with_reducible rfl
     simp only [Act.put, zga, zgb, zgc, zgd, zge, zgf]
     refine' ztk 7 _ rfl (.inl ⟨by kernel_rfl, ?hy7⟩) ?_
     case hy7 => intro w' hSw; obtain ⟨⟨_, _, _, _, _, _⟩, ⟨_, _⟩, ⟨_, _⟩, _, _⟩ := MC.out w' hSw; go_simp; try with_reducible rfl
     simp only [Act.put, zga, zgb, zgc, zgd, zge, zgf]
     refine' ztk 8 _ rfl (.inl ⟨by kernel_rfl, ?hy8⟩) ?_
     case hy8 => intro w' hSw; obtain ⟨⟨_, _, _, _, _, _⟩, ⟨_, _⟩, ⟨_, _⟩, _, _⟩ := MC.out w' hSw; go_simp; try with_reducible rfl
     simp only [Act.put, zga, zgb, zgc, zgd, zge, zgf]
     refine' ztk 9 _ rfl (.inl ⟨by kernel_rfl, ?hy9⟩) ?_
     case hy9 => intro w' hSw; obtain ⟨⟨_, _, _, _, _, _⟩, ⟨_, _⟩, ⟨_, _⟩, _, _⟩ := MC.out w' hSw; go_simp; try with_reducible rfl
     simp only [Act.put, zga, zgb, zgc, zgd, zge, zgf]
     refine' ztk 10 _ rfl (.inl ⟨by kernel_rfl, ?hy10⟩) ?_
     case hy10 => intro w' hSw; obtain ⟨⟨_, _, _, _, _, _⟩, ⟨_, _⟩, ⟨_, _⟩, _, _⟩ := MC.out w' hSw; go_simp; try with_reducible rfl
     simp only [Act.put, zga, zgb, zgc, zgd, zge, zgf]
     refine' ztk 11 _ rfl (.inl ⟨by kernel_rfl, ?hy11⟩) ?_
     case hy11 => intro w' hSw; obtain ⟨⟨_, _, _, _, _, _⟩, ⟨_, _⟩, ⟨_, _⟩, _, _⟩ := MC.out w' hSw; go_simp; try with_reducible rfl
     simp only [Act.put, zga, zgb, zgc, zgd, zge, zgf]
     refine' ztk 12 _ rfl (.inl ⟨by kernel_rfl, ?hy12⟩) ?_
     case hy12 => intro w' hSw; obtain ⟨⟨_, _, _, _, _, _⟩, ⟨_, _⟩, ⟨_, _⟩, _, _⟩ := MC.out w' hSw; go_simp; try with_reducible rfl
     simp only [Act.put, zga, zgb, zgc, zgd, zge, zgf]
     refine' ztk 13 _ rfl (.inl ⟨by kernel_rfl, ?hy13⟩) ?_
     case hy13 => intro w' hSw; obtain ⟨⟨_, _, _, _, _, _⟩, ⟨_, _⟩, ⟨_, _⟩, _, _⟩ := MC.out w' hSw; go_simp; try with_reducible rfl
     simp only [Act.put, zga, zgb, zgc, zgd, zge, zgf]
     refine' ztk 14 _ rfl (.inl ⟨by kernel_rfl, ?hy14⟩) ?_
     case hy14 => intro w' hSw; obtain ⟨⟨_, _, _, _, _, _⟩, ⟨_, _⟩, ⟨_, _⟩, _, _⟩ := MC.out w' hSw; go_simp; try with_reducible rfl
     simp only [Act.put, zga, zgb, zgc, zgd, zge, zgf]
     refine' ztk 15 _ rfl (.inl ⟨by kernel_rfl, ?hy15⟩) ?_
     case hy15 => intro w' hSw; obtain ⟨⟨_, _, _, _, _, _⟩, ⟨_, _⟩, ⟨_, _⟩, _, _⟩ := MC.out w' hSw; go_simp; try with_reducible rfl
     simp only [Act.put, zga, zgb, zgc, zgd, zge, zgf]
     refine' ztk 16 _ rfl (.inl ⟨by kernel_rfl, ?hy16⟩) ?_
     case hy16 => intro w' hSw; obtain ⟨⟨_, _, _, _, _, _⟩, ⟨_, _⟩, ⟨_, _⟩, _, _⟩ := MC.out w' hSw; go_simp; try with_reducible rfl
     simp only [Act.put, zga, zgb, zgc, zgd, zge, zgf]
     refine' ztk 17 _ rfl (.inl ⟨by kernel_rfl, ?hy17⟩) ?_
     case hy17 => intro w' hSw; obtain ⟨⟨_, _, _, _, _, _⟩, ⟨_, _⟩, ⟨_, _⟩, _, _⟩ := MC.out w' hSw; go_simp; try with_reducible rfl
     simp only [Act.put, zga, zgb, zgc, zgd, zge, zgf]
     refine' ztk 18 _ rfl (.inl ⟨by kernel_rfl, ?hy18⟩) ?_
     case hy18 => intro w' hSw; obtain ⟨⟨_, _, _, _, _, _⟩, ⟨_, _⟩, ⟨_, _⟩, _, _⟩ := MC.out w' hSw; go_simp; try with_reducible rfl
     simp only [Act.put, zga, zgb, zgc, zgd, zge, zgf]
     refine' ztk 19 _ rfl (.inl ⟨by kernel_rfl, ?hy19⟩) ?_
     case hy19 => intro w' hSw; obtain ⟨⟨_, _, _, _, _, _⟩, ⟨_, _⟩, ⟨_, _⟩, _, _⟩ := MC.out w' hSw; go_simp; try with_reducible rfl
     simp only [Act.put, zga, zgb, zgc, zgd, zge, zgf]
     refine' ztk 20 _ rfl (.inl ⟨by kernel_rfl, ?hy20⟩) ?_
     case hy20 => intro w' hSw; obtain ⟨⟨_, _, _, _, _, _⟩, ⟨_, _⟩, ⟨_, _⟩, _, _⟩ := MC.out w' hSw; go_simp; try with_reducible rfl
     simp only [Act.put, zga, zgb, zgc, zgd, zge, zgf]
     refine' ztk 21 _ rfl (.inl ⟨by kernel_rfl, ?hy21⟩) ?_
     case hy21 => intro w' hSw; obtain ⟨⟨_, _, _, _, _, _⟩, ⟨_, _⟩, ⟨_, _⟩, _, _⟩ := MC.out w' hSw; go_simp; try with_reducible rfl
     simp only [Act.put, zga, zgb, zgc, zgd, zge, zgf]
     have HYD := Lib.hid (HYW.out.keep (Keep.refl noneOf w9).drew (fun h => h))
     have HZD := Lib.hid (HZW.out.keep (Keep.refl noneOf w9).drew (fun h => h))
     generalize w9.drew = wd at *
     obtain ⟨y0, y1, y2, y3, y4, y5⟩ := HYD.out.six
     obtain ⟨fy0, fy1, fy2, fy3, fy4, fy5⟩ := HYD.out.free6
     have HYV := Lib.hid (HYD.out.put6 (.int .u64 im7.now) (.int .u64 im7.ng) (.int .u64 o2) (.slice E1 im7.ses.length c1) (.slice E2 im7.gs.length c2) (.slice E3 im7.built.length c3))
     have HZV := Lib.hid (HZD.out.far6 (b := p + 1) (by omega) (.int .u64 im7.now) (.int .u64 im7.ng) (.int .u64 o2) (.slice E1 im7.ses.length c1) (.slice E2 im7.gs.length c2) (.slice E3 im7.built.length c3))
     have KY := KZ9.put6 (b := p + 1) (fun _ => .inl rfl) (.int .u64 im7.now) (.int .u64 im7.ng) (.int .u64 o2) (.slice E1 im7.ses.length c1) (.slice E2 im7.gs.length c2) (.slice E3 im7.built.length c3)
     dsimp only [sixPut] at HYV HZV KY
     refine wpAnyH_ready (rs := [22]) (by kernel_rfl) (by simp) (AllReadyH.cons rfl (fun K hK => ?_) AllReadyH.nil)
     go_simp
     refine hK.out _ _ (KY) (fun hHeld => ?_)
     clear hK K
     try simp only [Act.put, zga, zgb, zgc, zgd, zge, zgf]
     generalize ((((((wd.setCell ⟨p + 1, 0, none⟩ (.int .u64 im7.now)).setCell ⟨p + 1, 1, none⟩ (.int .u64 im7.ng)).setCell ⟨p + 1, 2, none⟩ (.int .u64 o2)).setCell ⟨p + 1, 3, none⟩ (.slice E1 im7.ses.length c1)).setCell ⟨p + 1, 4, none⟩ (.slice E2 im7.gs.length c2)).setCell ⟨p + 1, 5, none⟩ (.slice E3 im7.built.length c3)) = wy at *
     clear y0 y1 y2 y3 y4 y5 fy0 fy1 fy2 fy3 fy4 fy5 HYD HZD
     obtain ⟨z0, z1, z2, z3, z4, z5⟩ := HZV.out.six
     obtain ⟨fz0, fz1, fz2, fz3, fz4, fz5⟩ := HZV.out.free6
     have HZA := Lib.hid (HZV.out.put6 (.int .i64 0) (.int .u64 g.id) (.int .u64 yt) (.int .u64 yu) (.string t.name) (.string t.cmd))
     have HYA := Lib.hid (HYV.out.far6 (b := p + 1 + 1) (by omega) (.int .i64 0) (.int .u64 g.id) (.int .u64 yt) (.int .u64 yu) (.string t.name) (.string t.cmd))
     have KA := KY.put6 (b := p + 1 + 1) (fun _ => .inr rfl) (.int .i64 0) (.int .u64 g.id) (.int .u64 yt) (.int .u64 yu) (.string t.name) (.string t.cmd)
     dsimp only [sixPut] at HZA HYA KA
     refine wpAnyH_ready (rs := [23]) (by kernel_rfl) (by simp) (AllReadyH.cons rfl (fun K hK => ?_) AllReadyH.nil)
     go_simp
     refine hK.out _ _ (KA) (fun hHeld => ?_)
     clear hK K
     try simp only [Act.put, zga, zgb, zgc, zgd, zge, zgf]
     refine wpAnyH_done (by kernel_rfl) ?_ _
     generalize ((((((wy.setCell ⟨p + 1 + 1, 0, none⟩ (.int .i64 0)).setCell ⟨p + 1 + 1, 1, none⟩ (.int .u64 g.id)).setCell ⟨p + 1 + 1, 2, none⟩ (.int .u64 yt)).setCell ⟨p + 1 + 1, 3, none⟩ (.int .u64 yu)).setCell ⟨p + 1 + 1, 4, none⟩ (.string t.name)).setCell ⟨p + 1 + 1, 5, none⟩ (.string t.cmd)) = wf at *
     clear z0 z1 z2 z3 z4 z5 fz0 fz1 fz2 fz3 fz4 fz5 HYV HZV KY MC KZ9 HYW HZW
     have HFIN : Hid (RefIm2 M (claimP im.plain) w (.returned (.tuple #[.agg #[.int .u64 im7.now, .int .u64 im7.ng, .int .u64 o2, .slice E1 im7.ses.length c1, .slice E2 im7.gs.length c2, .slice E3 im7.built.length c3], .agg #[.int .i64 0, .int .u64 g.id, .int .u64 yt, .int .u64 yu, .string t.name, .string t.cmd]])) wf) := Lib.hid (by
      have kk : Keep noneOf w wf := (HKA.out.trans HK5.out (fun _ _ h => h)).trans ((K59.out.mono (T := fun b => p ≤ b) (fun i _ e => by omega)).trans (KA.mono (T := fun b => p ≤ b) (fun i _ e => by omega)) (fun _ _ h => h)) (fun i hi e => by have := HPS.out; omega)
      rw [HCP.out, HNM.out, HCM.out]
      refine ⟨{ im7 with nt := o2 }, ?_, ?_, ?_, kk⟩
      ·
       unfold Im.agg An.agg
       dsimp only
       rw [HE7.out.1, HE7.out.2.1, HE7.out.2.2]
      ·
       show Qp.mk im7.plain.now im7.plain.ng o2 im7.plain.ses im7.plain.gs im7.plain.built = _
       rw [HP7.out]
      ·
       have hl9 := (HI7.out.keep K79.out (fun i _ hd e => by omega)).keep KA (fun i _ hd e => by omega)
       have hl8 := hl9.mono (D' := M) (fun i _ hd => hd.elim (fun h => h.2) (fun h => HMN.out i (by have := HPS.out; omega)))
       exact ⟨hl8.ses, hl8.gs, hl8.built⟩)
     go_wp2
     obtain ⟨r0, r1, r2, r3, r4, r5⟩ := HYA.out.six
     obtain ⟨s0, s1, s2, s3, s4, s5⟩ := HZA.out.six
     exact bodyPost_ret (v := .tuple #[.agg #[.int .u64 im7.now, .int .u64 im7.ng, .int .u64 o2, .slice E1 im7.ses.length c1, .slice E2 im7.gs.length c2, .slice E3 im7.built.length c3], .agg #[.int .i64 0, .int .u64 g.id, .int .u64 yt, .int .u64 yu, .string t.name, .string t.cmd]]) (by simp [results, Tryz.results31, go_sem, r0, r1, r2, r3, r4, r5, s0, s1, s2, s3, s4, s5]) rfl HFIN.out
  ·
   have hkn : ¬ ((k : Int) < (im.gs.length : Int)) := by omega
   have HRD : Hid (claimP im.plain = (im.plain, .err 122)) := Lib.hid (by
    have : readyAt im.plain = none := firstG_none (fun m b hb => by
     obtain ⟨gj, hgj, rfl⟩ := gm_of hb
     exact HA.out m gj (by have := (List.getElem?_eq_some_iff.1 hgj).1; omega) hgj)
    unfold claimP
    rw [this])
   have HKW := Lib.hid (HKA.out.trans hkeep (fun _ _ h => h))
   have HPB : Hid (w.heap.size ≤ p + 1) := Lib.hid (by have := HPS.out; omega)
   obtain ⟨x0, x1, x2, x3, x4', x5⟩ := (HX.out.keep hkeep (fun h => h)).six
   clear hlt hkeep x4
   have HYW := Lib.hid (HY.out.keep HKP.out (fun h => h))
   have HZW := Lib.hid (HZ.out.keep HKP.out (fun h => h))
   obtain ⟨y0, y1, y2, y3, y4, y5⟩ := HYW.out.six
   obtain ⟨fy0, fy1, fy2, fy3, fy4, fy5⟩ := HYW.out.free6
   obtain ⟨z0, z1, z2, z3, z4, z5⟩ := HZW.out.six
   obtain ⟨fz0, fz1, fz2, fz3, fz4, fz5⟩ := HZW.out.free6
   go_wp2
   have HY6 := HYW.out.put6 (.int .u64 im.now) (.int .u64 im.ng) (.int .u64 im.nt) (.slice A1 im.ses.length a1) (.slice A2 im.gs.length a2) (.slice A3 im.built.length a3)
   have HZ5 := HZW.out.far6 (b := (p + 1)) (by omega) (.int .u64 im.now) (.int .u64 im.ng) (.int .u64 im.nt) (.slice A1 im.ses.length a1) (.slice A2 im.gs.length a2) (.slice A3 im.built.length a3)
   have HZ6 := HZ5.put6 (.int .i64 122) (.int .u64 0) (.int .u64 0) (.int .u64 0) (.string ⟨#[]⟩) (.string ⟨#[]⟩)
   have HY7 := HY6.far6 (b := (p + 1 + 1)) (by omega) (.int .i64 122) (.int .u64 0) (.int .u64 0) (.int .u64 0) (.string ⟨#[]⟩) (.string ⟨#[]⟩)
   have KK : Keep noneOf w (sixPut (sixPut wr (p + 1) (.int .u64 im.now) (.int .u64 im.ng) (.int .u64 im.nt) (.slice A1 im.ses.length a1) (.slice A2 im.gs.length a2) (.slice A3 im.built.length a3)) (p + 1 + 1) (.int .i64 122) (.int .u64 0) (.int .u64 0) (.int .u64 0) (.string ⟨#[]⟩) (.string ⟨#[]⟩)) := by
    have KW := HKW.out
    have hb := HPB.out
    exact (KW.put6 (b := (p + 1)) (fun h => absurd h (by omega)) (.int .u64 im.now) (.int .u64 im.ng) (.int .u64 im.nt) (.slice A1 im.ses.length a1) (.slice A2 im.gs.length a2) (.slice A3 im.built.length a3)).put6 (b := (p + 1 + 1)) (fun h => absurd h (by omega)) (.int .i64 122) (.int .u64 0) (.int .u64 0) (.int .u64 0) (.string ⟨#[]⟩) (.string ⟨#[]⟩)
   have HFIN : RefIm2 M (claimP im.plain) w (.returned (.tuple #[.agg #[.int .u64 im.now, .int .u64 im.ng, .int .u64 im.nt, .slice A1 im.ses.length a1, .slice A2 im.gs.length a2, .slice A3 im.built.length a3], .agg #[.int .i64 122, .int .u64 0, .int .u64 0, .int .u64 0, .string ⟨#[]⟩, .string ⟨#[]⟩]])) (sixPut (sixPut wr (p + 1) (.int .u64 im.now) (.int .u64 im.ng) (.int .u64 im.nt) (.slice A1 im.ses.length a1) (.slice A2 im.gs.length a2) (.slice A3 im.built.length a3)) (p + 1 + 1) (.int .i64 122) (.int .u64 0) (.int .u64 0) (.int .u64 0) (.string ⟨#[]⟩) (.string ⟨#[]⟩)) := by rw [HRD.out, ← HAGG.out]; exact refim2_ret rfl (HL.out.keep KK (fun _ _ _ h => h)) KK
   dsimp only [sixPut] at HZ6 HY7 HFIN
   obtain ⟨r0, r1, r2, r3, r4, r5⟩ := HY7.six
   obtain ⟨s0, s1, s2, s3, s4, s5⟩ := HZ6.six
   exact bodyPost_ret (v := .tuple #[.agg #[.int .u64 im.now, .int .u64 im.ng, .int .u64 im.nt, .slice A1 im.ses.length a1, .slice A2 im.gs.length a2, .slice A3 im.built.length a3], .agg #[.int .i64 122, .int .u64 0, .int .u64 0, .int .u64 0, .string ⟨#[]⟩, .string ⟨#[]⟩]]) (by simp [results, Tryz.results31, go_sem, r0, r1, r2, r3, r4, r5, s0, s1, s2, s3, s4, s5]) rfl HFIN
end Go.Proofs.YtffoeodjbbkdjaaGreat
