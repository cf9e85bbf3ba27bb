import Derived.Test.YtffoeodjbbkdjaaGreatBs01
import Derived.Test.YtffoeodjbbkdjaaGreatBs45
namespace Go.Proofs.YtffoeodjbbkdjaaGreat
open Go.RowKit
set_option maxRecDepth 100000 in
set_option maxHeartbeats 8000000 in
set_option linter.unusedSimpArgs false in
theorem rsubmit_any (w : World) (M : Nat → Prop) (hM : ∀ i, w.heap.size ≤ i → M i) (im : Im) (h : im.lies w M) (hi : Inv im.plain) (c : Cm) (Ag : Option Addr) (cg : Nat) (eg : c.gv = .slice Ag c.ts.length cg) (hc : c.lies w M) :
  Calls Tryz.prog 30 #[im.agg, c.agg] w (RefIm2 M (submitP im.plain c.plain) w) := by
 obtain ⟨A1, a1, A2, a2, A3, a3, e1, e2, e3⟩ := h.shapes
 have hfew := h.gs.1.few
 unfold maxLen at hfew
 obtain ⟨KA, HX0, HC0, HY0, HZ0⟩ := four_new w #[.int .u64 im.now, .int .u64 im.ng, .int .u64 im.nt, .slice A1 im.ses.length a1, .slice A2 im.gs.length a2, .slice A3 im.built.length a3] #[.int .i64 c.kind, .int .u64 c.ses, .int .u64 c.seq, .slice Ag c.ts.length cg, .int .u64 c.id, .int .u64 c.tok, .bool c.good, .int .u64 c.time] #[.int .u64 0, .int .u64 0, .int .u64 0, .slice none 0 0, .slice none 0 0, .slice none 0 0] #[.int .i64 0, .int .u64 0, .int .u64 0, .int .u64 0, .string ⟨#[]⟩, .string ⟨#[]⟩] 30 37 30 40
 have HL := Lib.hid h
 have HCL := Lib.hid hc
 have HMN := Lib.hid hM
 have HX := Lib.hid HX0
 have HC := Lib.hid HC0
 have HY := Lib.hid HY0
 have HZ := Lib.hid HZ0
 have HKA := Lib.hid KA
 have HI := Lib.hid hi
 have HEG := Lib.hid eg
 have HEE := Lib.hid (And.intro e1 (And.intro e2 e3))
 have HAGG : Hid (im.agg = .agg #[.int .u64 im.now, .int .u64 im.ng, .int .u64 im.nt, .slice A1 im.ses.length a1, .slice A2 im.gs.length a2, .slice A3 im.built.length a3]) := Lib.hid (by unfold Im.agg; rw [e1, e2, e3])
 have htg := (hc.keep KA (fun _ _ _ h => h)).tgs
 rw [eg] at htg
 have CK := Lib.hid (refCheck_any _ _ _ c.ts htg)
 have HTG := Lib.hid htg
 have h16 : im.gs.length ≤ 16 := by have := hi.gsFew; simpa [Im.plain] using this
 have H16 := Lib.hid h16
 unfold Im.agg Cm.agg
 rw [e1, e2, e3, eg]
 clear h hc KA e1 e2 e3 hi HX0 HY0 HZ0 HC0 eg htg h16
 go_enter Tryz.func30, Tryz.ntmps30
 go_upto_region 1 with fail
 generalize (((w.alloc (.cells #[.int .u64 im.now, .int .u64 im.ng, .int .u64 im.nt, .slice A1 im.ses.length a1, .slice A2 im.gs.length a2, .slice A3 im.built.length a3] 30)).alloc (.cells #[.int .i64 c.kind, .int .u64 c.ses, .int .u64 c.seq, .slice Ag c.ts.length cg, .int .u64 c.id, .int .u64 c.tok, .bool c.good, .int .u64 c.time] 37)).alloc (.cells #[.int .u64 0, .int .u64 0, .int .u64 0, .slice none 0 0, .slice none 0 0, .slice none 0 0] 30)).alloc (.cells #[.int .i64 0, .int .u64 0, .int .u64 0, .int .u64 0, .string ⟨#[]⟩, .string ⟨#[]⟩] 40) = w1 at *
 generalize hp : w.heap.size = p at *
 have HPS := Lib.hid hp
 clear hp
 have m3 := HC.out.cell 3
 go_wp2_with fail
 refine CK.out.mono ?_
 obtain ⟨E0, hE0⟩ : ∃ E0, grCheck (c.ts.map Tg.plain) = E0 := ⟨_, rfl⟩
 rw [hE0]
 rintro e w2 ⟨rfl, k2⟩
 have HK2 := Lib.hid k2
 have HE0 := Lib.hid hE0
 clear CK k2 m3 hE0
 obtain ⟨x0, x1, x2, x3, x4, x5⟩ := (HX.out.keep HK2.out (fun h => h)).six
 by_cases hE : E0 = 0
 case neg =>
  have hEn : (E0 == 0) = false := beq_eq_false_iff_ne.2 hE
  have HRD : Hid (submitP im.plain c.plain = (im.plain, .err E0)) := Lib.hid (by
   unfold submitP
   rw [show c.plain.ps = c.ts.map Tg.plain from rfl, HE0.out, if_pos hE])
  clear hE
  have HKW := Lib.hid (HKA.out.trans HK2.out (fun _ _ h => h))
  have HPB : Hid (w.heap.size ≤ p + 1) := Lib.hid (by have := HPS.out; omega)
  have HYW := Lib.hid (HY.out.keep HK2.out (fun h => h))
  have HZW := Lib.hid (HZ.out.keep HK2.out (fun h => h))
  obtain ⟨y0, y1, y2, y3, y4, y5⟩ := HYW.out.six
  obtain ⟨fy0, fy1, fy2, fy3, fy4, fy5⟩ := HYW.out.free6
  obtain ⟨z0, z1, z2, z3, z4, z5⟩ := HZW.out.six
  obtain ⟨fz0, fz1, fz2, fz3, fz4, fz5⟩ := HZW.out.free6
  go_wp2
  have HY6 := HYW.out.put6 (.int .u64 im.now) (.int .u64 im.ng) (.int .u64 im.nt) (.slice A1 im.ses.length a1) (.slice A2 im.gs.length a2) (.slice A3 im.built.length a3)
  have HZ5 := HZW.out.far6 (b := (p + 1 + 1)) (by omega) (.int .u64 im.now) (.int .u64 im.ng) (.int .u64 im.nt) (.slice A1 im.ses.length a1) (.slice A2 im.gs.length a2) (.slice A3 im.built.length a3)
  have HZ6 := HZ5.put6 (.int .i64 E0) (.int .u64 0) (.int .u64 0) (.int .u64 0) (.string ⟨#[]⟩) (.string ⟨#[]⟩)
  have HY7 := HY6.far6 (b := (p + 1 + 1 + 1)) (by omega) (.int .i64 E0) (.int .u64 0) (.int .u64 0) (.int .u64 0) (.string ⟨#[]⟩) (.string ⟨#[]⟩)
  have KK : Keep noneOf w (sixPut (sixPut w2 (p + 1 + 1) (.int .u64 im.now) (.int .u64 im.ng) (.int .u64 im.nt) (.slice A1 im.ses.length a1) (.slice A2 im.gs.length a2) (.slice A3 im.built.length a3)) (p + 1 + 1 + 1) (.int .i64 E0) (.int .u64 0) (.int .u64 0) (.int .u64 0) (.string ⟨#[]⟩) (.string ⟨#[]⟩)) := by
   have KW := HKW.out
   have hb := HPB.out
   exact (KW.put6 (b := (p + 1 + 1)) (fun h => absurd h (by omega)) (.int .u64 im.now) (.int .u64 im.ng) (.int .u64 im.nt) (.slice A1 im.ses.length a1) (.slice A2 im.gs.length a2) (.slice A3 im.built.length a3)).put6 (b := (p + 1 + 1 + 1)) (fun h => absurd h (by omega)) (.int .i64 E0) (.int .u64 0) (.int .u64 0) (.int .u64 0) (.string ⟨#[]⟩) (.string ⟨#[]⟩)
  have HFIN : RefIm2 M (submitP im.plain c.plain) w (.returned (.tuple #[.agg #[.int .u64 im.now, .int .u64 im.ng, .int .u64 im.nt, .slice A1 im.ses.length a1, .slice A2 im.gs.length a2, .slice A3 im.built.length a3], .agg #[.int .i64 E0, .int .u64 0, .int .u64 0, .int .u64 0, .string ⟨#[]⟩, .string ⟨#[]⟩]])) (sixPut (sixPut w2 (p + 1 + 1) (.int .u64 im.now) (.int .u64 im.ng) (.int .u64 im.nt) (.slice A1 im.ses.length a1) (.slice A2 im.gs.length a2) (.slice A3 im.built.length a3)) (p + 1 + 1 + 1) (.int .i64 E0) (.int .u64 0) (.int .u64 0) (.int .u64 0) (.string ⟨#[]⟩) (.string ⟨#[]⟩)) := by rw [HRD.out, ← HAGG.out]; exact refim2_ret rfl (HL.out.keep KK (fun _ _ _ h => h)) KK
  dsimp only [sixPut] at HZ6 HY7 HFIN
  obtain ⟨r0, r1, r2, r3, r4, r5⟩ := HY7.six
  obtain ⟨s0, s1, s2, s3, s4, s5⟩ := HZ6.six
  exact bodyPost_ret (v := .tuple #[.agg #[.int .u64 im.now, .int .u64 im.ng, .int .u64 im.nt, .slice A1 im.ses.length a1, .slice A2 im.gs.length a2, .slice A3 im.built.length a3], .agg #[.int .i64 E0, .int .u64 0, .int .u64 0, .int .u64 0, .string ⟨#[]⟩, .string ⟨#[]⟩]]) (by simp [results, Tryz.results30, go_sem, r0, r1, r2, r3, r4, r5, s0, s1, s2, s3, s4, s5]) rfl HFIN
 subst hE
 by_cases hfull : 16 ≤ im.gs.length ∨ im.ng = top
 case pos =>
  have HRD : Hid (submitP im.plain c.plain = (im.plain, .err 120)) := Lib.hid (by
   unfold submitP
   rw [show c.plain.ps = c.ts.map Tg.plain from rfl, HE0.out, if_neg (by decide), if_pos (by
    have e : im.plain.gs.length = im.gs.length := by simp [Im.plain]
    rw [e]
    exact hfull)])
  by_cases hf1 : (16 : Int) ≤ (im.gs.length : Int)
  ·
   clear hfull
   have HKW := Lib.hid (HKA.out.trans HK2.out (fun _ _ h => h))
   have HPB : Hid (w.heap.size ≤ p + 1) := Lib.hid (by have := HPS.out; omega)
   have HYW := Lib.hid (HY.out.keep HK2.out (fun h => h))
   have HZW := Lib.hid (HZ.out.keep HK2.out (fun h => h))
   obtain ⟨y0, y1, y2, y3, y4, y5⟩ := HYW.out.six
   obtain ⟨fy0, fy1, fy2, fy3, fy4, fy5⟩ := HYW.out.free6
   obtain ⟨z0, z1, z2, z3, z4, z5⟩ := HZW.out.six
   obtain ⟨fz0, fz1, fz2, fz3, fz4, fz5⟩ := HZW.out.free6
   go_wp2
   have HY6 := HYW.out.put6 (.int .u64 im.now) (.int .u64 im.ng) (.int .u64 im.nt) (.slice A1 im.ses.length a1) (.slice A2 im.gs.length a2) (.slice A3 im.built.length a3)
   have HZ5 := HZW.out.far6 (b := (p + 1 + 1)) (by omega) (.int .u64 im.now) (.int .u64 im.ng) (.int .u64 im.nt) (.slice A1 im.ses.length a1) (.slice A2 im.gs.length a2) (.slice A3 im.built.length a3)
   have HZ6 := HZ5.put6 (.int .i64 120) (.int .u64 0) (.int .u64 0) (.int .u64 0) (.string ⟨#[]⟩) (.string ⟨#[]⟩)
   have HY7 := HY6.far6 (b := (p + 1 + 1 + 1)) (by omega) (.int .i64 120) (.int .u64 0) (.int .u64 0) (.int .u64 0) (.string ⟨#[]⟩) (.string ⟨#[]⟩)
   have KK : Keep noneOf w (sixPut (sixPut w2 (p + 1 + 1) (.int .u64 im.now) (.int .u64 im.ng) (.int .u64 im.nt) (.slice A1 im.ses.length a1) (.slice A2 im.gs.length a2) (.slice A3 im.built.length a3)) (p + 1 + 1 + 1) (.int .i64 120) (.int .u64 0) (.int .u64 0) (.int .u64 0) (.string ⟨#[]⟩) (.string ⟨#[]⟩)) := by
    have KW := HKW.out
    have hb := HPB.out
    exact (KW.put6 (b := (p + 1 + 1)) (fun h => absurd h (by omega)) (.int .u64 im.now) (.int .u64 im.ng) (.int .u64 im.nt) (.slice A1 im.ses.length a1) (.slice A2 im.gs.length a2) (.slice A3 im.built.length a3)).put6 (b := (p + 1 + 1 + 1)) (fun h => absurd h (by omega)) (.int .i64 120) (.int .u64 0) (.int .u64 0) (.int .u64 0) (.string ⟨#[]⟩) (.string ⟨#[]⟩)
   have HFIN : RefIm2 M (submitP im.plain c.plain) w (.returned (.tuple #[.agg #[.int .u64 im.now, .int .u64 im.ng, .int .u64 im.nt, .slice A1 im.ses.length a1, .slice A2 im.gs.length a2, .slice A3 im.built.length a3], .agg #[.int .i64 120, .int .u64 0, .int .u64 0, .int .u64 0, .string ⟨#[]⟩, .string ⟨#[]⟩]])) (sixPut (sixPut w2 (p + 1 + 1) (.int .u64 im.now) (.int .u64 im.ng) (.int .u64 im.nt) (.slice A1 im.ses.length a1) (.slice A2 im.gs.length a2) (.slice A3 im.built.length a3)) (p + 1 + 1 + 1) (.int .i64 120) (.int .u64 0) (.int .u64 0) (.int .u64 0) (.string ⟨#[]⟩) (.string ⟨#[]⟩)) := by rw [HRD.out, ← HAGG.out]; exact refim2_ret rfl (HL.out.keep KK (fun _ _ _ h => h)) KK
   dsimp only [sixPut] at HZ6 HY7 HFIN
   obtain ⟨r0, r1, r2, r3, r4, r5⟩ := HY7.six
   obtain ⟨s0, s1, s2, s3, s4, s5⟩ := HZ6.six
   exact bodyPost_ret (v := .tuple #[.agg #[.int .u64 im.now, .int .u64 im.ng, .int .u64 im.nt, .slice A1 im.ses.length a1, .slice A2 im.gs.length a2, .slice A3 im.built.length a3], .agg #[.int .i64 120, .int .u64 0, .int .u64 0, .int .u64 0, .string ⟨#[]⟩, .string ⟨#[]⟩]]) (by simp [results, Tryz.results30, go_sem, r0, r1, r2, r3, r4, r5, s0, s1, s2, s3, s4, s5]) rfl HFIN
  ·
   have hf2 : im.ng = 18446744073709551615 := by
    rcases hfull with h | h
    ·
     exact absurd h (by omega)
    ·
     exact h
   have hf3 : (im.ng == 18446744073709551615) = true := beq_iff_eq.2 hf2
   clear hfull hf2
   have HKW := Lib.hid (HKA.out.trans HK2.out (fun _ _ h => h))
   have HPB : Hid (w.heap.size ≤ p + 1) := Lib.hid (by have := HPS.out; omega)
   have HYW := Lib.hid (HY.out.keep HK2.out (fun h => h))
   have HZW := Lib.hid (HZ.out.keep HK2.out (fun h => h))
   obtain ⟨y0, y1, y2, y3, y4, y5⟩ := HYW.out.six
   obtain ⟨fy0, fy1, fy2, fy3, fy4, fy5⟩ := HYW.out.free6
   obtain ⟨z0, z1, z2, z3, z4, z5⟩ := HZW.out.six
   obtain ⟨fz0, fz1, fz2, fz3, fz4, fz5⟩ := HZW.out.free6
   go_wp2
   have HY6 := HYW.out.put6 (.int .u64 im.now) (.int .u64 im.ng) (.int .u64 im.nt) (.slice A1 im.ses.length a1) (.slice A2 im.gs.length a2) (.slice A3 im.built.length a3)
   have HZ5 := HZW.out.far6 (b := (p + 1 + 1)) (by omega) (.int .u64 im.now) (.int .u64 im.ng) (.int .u64 im.nt) (.slice A1 im.ses.length a1) (.slice A2 im.gs.length a2) (.slice A3 im.built.length a3)
   have HZ6 := HZ5.put6 (.int .i64 120) (.int .u64 0) (.int .u64 0) (.int .u64 0) (.string ⟨#[]⟩) (.string ⟨#[]⟩)
   have HY7 := HY6.far6 (b := (p + 1 + 1 + 1)) (by omega) (.int .i64 120) (.int .u64 0) (.int .u64 0) (.int .u64 0) (.string ⟨#[]⟩) (.string ⟨#[]⟩)
   have KK : Keep noneOf w (sixPut (sixPut w2 (p + 1 + 1) (.int .u64 im.now) (.int .u64 im.ng) (.int .u64 im.nt) (.slice A1 im.ses.length a1) (.slice A2 im.gs.length a2) (.slice A3 im.built.length a3)) (p + 1 + 1 + 1) (.int .i64 120) (.int .u64 0) (.int .u64 0) (.int .u64 0) (.string ⟨#[]⟩) (.string ⟨#[]⟩)) := by
    have KW := HKW.out
    have hb := HPB.out
    exact (KW.put6 (b := (p + 1 + 1)) (fun h => absurd h (by omega)) (.int .u64 im.now) (.int .u64 im.ng) (.int .u64 im.nt) (.slice A1 im.ses.length a1) (.slice A2 im.gs.length a2) (.slice A3 im.built.length a3)).put6 (b := (p + 1 + 1 + 1)) (fun h => absurd h (by omega)) (.int .i64 120) (.int .u64 0) (.int .u64 0) (.int .u64 0) (.string ⟨#[]⟩) (.string ⟨#[]⟩)
   have HFIN : RefIm2 M (submitP im.plain c.plain) w (.returned (.tuple #[.agg #[.int .u64 im.now, .int .u64 im.ng, .int .u64 im.nt, .slice A1 im.ses.length a1, .slice A2 im.gs.length a2, .slice A3 im.built.length a3], .agg #[.int .i64 120, .int .u64 0, .int .u64 0, .int .u64 0, .string ⟨#[]⟩, .string ⟨#[]⟩]])) (sixPut (sixPut w2 (p + 1 + 1) (.int .u64 im.now) (.int .u64 im.ng) (.int .u64 im.nt) (.slice A1 im.ses.length a1) (.slice A2 im.gs.length a2) (.slice A3 im.built.length a3)) (p + 1 + 1 + 1) (.int .i64 120) (.int .u64 0) (.int .u64 0) (.int .u64 0) (.string ⟨#[]⟩) (.string ⟨#[]⟩)) := by rw [HRD.out, ← HAGG.out]; exact refim2_ret rfl (HL.out.keep KK (fun _ _ _ h => h)) KK
   dsimp only [sixPut] at HZ6 HY7 HFIN
   obtain ⟨r0, r1, r2, r3, r4, r5⟩ := HY7.six
   obtain ⟨s0, s1, s2, s3, s4, s5⟩ := HZ6.six
   exact bodyPost_ret (v := .tuple #[.agg #[.int .u64 im.now, .int .u64 im.ng, .int .u64 im.nt, .slice A1 im.ses.length a1, .slice A2 im.gs.length a2, .slice A3 im.built.length a3], .agg #[.int .i64 120, .int .u64 0, .int .u64 0, .int .u64 0, .string ⟨#[]⟩, .string ⟨#[]⟩]]) (by simp [results, Tryz.results30, go_sem, r0, r1, r2, r3, r4, r5, s0, s1, s2, s3, s4, s5]) rfl HFIN
 have hf1 : ¬ ((16 : Int) ≤ (im.gs.length : Int)) := by omega
 have hf3 : (im.ng == 18446744073709551615) = false := beq_eq_false_iff_ne.2 (fun e => hfull (.inr e))
 obtain ⟨l, hl⟩ : ∃ l, grStart (c.ts.map Tg.plain) (grFresh (c.ts.map Tg.plain) (fun k => im.built.contains k)) = l := ⟨_, rfl⟩
 have HRR : Hid (submitP im.plain c.plain = ({ im.plain with gs := im.plain.gs ++ [⟨im.ng, c.ts.map Tg.plain, l⟩], ng := im.ng + 1 }, ⟨0, im.ng, 0, 0, ⟨#[]⟩, ⟨#[]⟩⟩)) := Lib.hid (by
  unfold submitP
  rw [show c.plain.ps = c.ts.map Tg.plain from rfl, HE0.out, if_neg (by decide), if_neg (by
   have e : im.plain.gs.length = im.gs.length := by simp [Im.plain]
   rw [e]
   exact hfull), ← hl]
  rfl)
 have hng : im.ng < top := by
  have h1 := HI.out.ng
  have h2 : im.plain.ng = im.ng := rfl
  have h3 : ¬ im.ng = top := fun e => hfull (.inr e)
  omega
 have HNG : Hid (1 ≤ im.ng ∧ im.ng < top) := Lib.hid ⟨HI.out.ng.1, hng⟩
 have hbt := HL.out.built
 have KM2 := HKA.out.trans HK2.out (fun _ _ h => h)
 have hkb := ((HL.out.keep KM2 (fun _ _ _ h => h)).built)
 rw [HEE.out.2.2] at hkb
 have HKB := Lib.hid hkb
 have HTG2 := Lib.hid (HTG.out.keep HK2.out (fun _ _ _ h => h))
 have FR := Lib.hid (fun w' (k' : Keep noneOf w2 w') => refFresh_any w' _ _ _ _ im.built c.ts (HTG2.out.keep k' (fun _ _ _ h => h)) (Kys.keep HKB.out k' (fun _ _ _ h => h)))
 have ST := Lib.hid (fun w' vf Df (k' : Keep noneOf w2 w') (hb : Bls w' Df vf (grFresh (c.ts.map Tg.plain) (fun k => im.built.contains k))) => refStart_any w' _ Df _ vf c.ts _ (HTG2.out.keep k' (fun _ _ _ h => h)) hb HCL.out.few)
 rw [hl] at ST
 obtain ⟨fs, hfs⟩ : ∃ fs, grFresh (c.ts.map Tg.plain) (fun k => im.built.contains k) = fs := ⟨_, rfl⟩
 rw [hfs] at ST FR hl
 clear hfs
 have HLL := Lib.hid hl
 have MC : Hid (∀ w', Keep noneOf w2 w' → w'.cell? ⟨p + 1, 3, none⟩ = some (.slice Ag c.ts.length cg) ∧ w'.cell? ⟨p, 5, none⟩ = some (.slice A3 im.built.length a3)) := Lib.hid fun w' k' =>
  ⟨((HC.out.keep HK2.out (fun h => h)).keep k' (fun h => h)).cell 3, ((HX.out.keep HK2.out (fun h => h)).keep k' (fun h => h)).cell 5⟩
 have K0 := (Keep.refl noneOf w2).drew
 clear hfull hng hbt KM2 hkb hl
 go_upto_region 6 with fail
 clear x0 x1 x2 x3 x4 x5 hf1 hf3
 refine wp_region_held_drew (S := fun w' => Keep noneOf w2 w') (by kernel_rfl) (K0) (fun hHeld => ?_)
 refine' ztk 0 _ rfl (.inl ⟨by kernel_rfl, ?hy0⟩) ?_
 case hy0 => intro w' hSw; obtain ⟨_, _⟩ := MC.out w' hSw; go_simp; try with_reducible rfl
 simp only [Act.put, zga, zgb, zgc, zgd, zge, zgf]
 refine' ztk 1 _ rfl (.inl ⟨by kernel_rfl, ?hy1⟩) ?_
 case hy1 => intro w' hSw; obtain ⟨_, _⟩ := MC.out w' hSw; go_simp; try with_reducible rfl
 simp only [Act.put, zga, zgb, zgc, zgd, zge, zgf]
 refine' ztk 2 _ rfl (.inl ⟨by kernel_rfl, ?hy2⟩) ?_
 case hy2 => intro w' hSw; obtain ⟨_, _⟩ := MC.out w' hSw; go_simp; try with_reducible rfl
 simp only [Act.put, zga, zgb, zgc, zgd, zge, zgf]
 refine' ztk 3 _ rfl (.inl ⟨by kernel_rfl, ?hy3⟩) ?_
 case hy3 => intro w' hSw; obtain ⟨_, _⟩ := MC.out w' hSw; go_simp; try with_reducible rfl
 simp only [Act.put, zga, zgb, zgc, zgd, zge, zgf]
 refine' ztk 4 _ rfl (.inl ⟨by kernel_rfl, ?hy4⟩) ?_
 case hy4 => intro w' hSw; obtain ⟨_, _⟩ := MC.out w' hSw; go_simp; try with_reducible rfl
 simp only [Act.put, zga, zgb, zgc, zgd, zge, zgf]
 refine' ztk 5 _ rfl (.inl ⟨by kernel_rfl, ?hy5⟩) ?_
 case hy5 => intro w' hSw; obtain ⟨_, _⟩ := MC.out w' hSw; go_simp; try with_reducible rfl
 simp only [Act.put, zga, zgb, zgc, zgd, zge, zgf]
 refine wpAnyH_ready (rs := [6]) (by kernel_rfl) (by simp) (AllReadyH.cons rfl (fun K hK => ?_) AllReadyH.nil)
 go_simp
 go_at_call 68
 refine (FR.out _ K0).mono ?_
 rintro e w4 ⟨Af, cf, rfl, hbl, k4⟩
 have K4 : Keep noneOf w2 w4 := K0.trans k4 (fun _ _ h => h)
 have SS := Lib.hid (ST.out w4 _ _ K4 hbl)
 clear k4 hbl
 go_wp2_with fail
 refine hK.out _ _ (K4) (fun hHeld => ?_)
 clear hK K
 try simp only [Act.put, zga, zgb, zgc, zgd, zge, zgf]
 refine wpAnyH_ready (rs := [7]) (by kernel_rfl) (by simp) (AllReadyH.cons rfl (fun K hK => ?_) AllReadyH.nil)
 go_simp
 go_at_call 67
 refine SS.out.mono ?_
 rintro e w5 ⟨E, d, rfl, hls, k5⟩
 have K5 : Keep noneOf w2 w5 := K4.trans k5 (fun _ _ h => h)
 have hls2 := hls.mono (D' := fun i => w2.heap.size ≤ i) (fun i _ h => Nat.le_trans K4.size h)
 have HLS := Lib.hid hls2
 clear FR ST SS k5 hls hls2
 go_wp2_with fail
 refine hK.out _ _ (K5) (fun hHeld => ?_)
 clear hK K
 try simp only [Act.put, zga, zgb, zgc, zgd, zge, zgf]
 refine' ztk 8 (.slice E l.length d) rfl (.inl ⟨by kernel_rfl, ?hy8⟩) ?_
 case hy8 => intro w' hSw; obtain ⟨_, _⟩ := MC.out w' hSw; first | rfl | (go_simp; try simp only [List.getElem?_cons_zero, Option.getD_some]; try go_simp)
 simp only [Act.put, zga, zgb, zgc, zgd, zge, zgf]
 refine wpAnyH_done (by kernel_rfl) ?_ _
 have HK5 := Lib.hid (HK2.out.trans K5 (fun _ _ h => h))
 have HK25 := Lib.hid K5.size
 clear MC K0 K4 K5 hHeld
 have HXB := Lib.hid (HX.out.keep HK5.out (fun h => h))
 have HFX := Lib.hid (fx_eq (gm_one HL.out.gs.2))
 have HSRC : Hid (Many (fx Gm.cells) 3 w5 M (.slice A2 im.gs.length a2) im.gs) := Lib.hid (by
  have h1 := ((HL.out.gs.keep (HKA.out.trans HK5.out (fun _ _ h => h)) (fun _ _ _ h => h))).1
  unfold Many at h1 ⊢
  rw [HEE.out.2.1] at h1
  rw [HFX.out]
  exact h1)
 have HE := Lib.hid (empty_own (ec := fx Gm.cells) (k := 3) w5 59)
 have HZL : Hid (p + 1 + 1 + 1 < w5.heap.size) := Lib.hid (by have h1 := HZ.out.lt; have h2 := HK5.out.size; omega)
 have x4 := HXB.out.cell 4
 have hp1 := HXB.out.lt
 go_upto_region 8 with (first
  | (at_builtin; refine wpList_append_many elems_gr (ec := fx Gm.cells) (fun x => by unfold fx; rw [List.length_map]; rfl) (fx_one Gm.cells) (by decide) _ rfl _ _ rfl w5.heap.size _ _ ([] : List Gm) im.gs M rfl rfl HE.out (HSRC.out.keep ((Keep.refl noneOf w5).alloc _) (fun _ _ _ h => h)) (by have := H16.out; unfold maxLen; rw [List.length_nil]; omega) (by have := H16.out; rw [List.length_nil]; omega) (by simp) ?_; intro v1 w6 hown1 hg1 _; have HK6 := Lib.hid (empty_grown hg1); have HO1 : Hid (w6.ownsRow w5.heap.size 59 3 v1 im.gs.length (im.gs.flatMap (fx Gm.cells))) := Lib.hid hown1; clear hown1 hg1)
  | fail)
 clear x4 hp1
 obtain ⟨gn, hgn⟩ : ∃ gn : Gm, gn = ⟨im.ng, .slice Ag c.ts.length cg, .slice E l.length d, c.ts, l⟩ := ⟨_, rfl⟩
 obtain ⟨N, hN⟩ : ∃ N, (im.gs ++ [gn]).length = N := ⟨_, rfl⟩
 have HN := Lib.hid hN
 have HGN := Lib.hid hgn
 have HONE : Hid (Many (fx Gm.cells) 3 (w6.alloc (.cells #[.int .u64 im.ng, .slice Ag c.ts.length cg, .slice E l.length d] 59)) (fun i => w6.heap.size ≤ i) (.slice (some ⟨w6.heap.size, 0, none⟩) 1 1) [gn]) := Lib.hid (by
  rw [HGN.out]
  exact Many.one (ec := fx Gm.cells) (k := 3) (fun x => by unfold fx; rw [List.length_map]; rfl) w6 ⟨im.ng, .slice Ag c.ts.length cg, .slice E l.length d, c.ts, l⟩ 59)
 have HO6 := Lib.hid (own_keep HO1.out ((Keep.refl noneOf w6).alloc (.cells #[.int .u64 im.ng, .slice Ag c.ts.length cg, .slice E l.length d] 59)) (fun _ _ h => h))
 have HXC := Lib.hid (HXB.out.keep HK6.out (fun h => h))
 have HA2 : Hid (∀ (w7 : World), (w6.alloc (.cells #[.int .u64 im.ng, .slice Ag c.ts.length cg, .slice E l.length d] 59)).grownBy w7 v1.ownBlock → Keep noneOf w5 w7 ∧ Box w7 p 30 #[.int .u64 im.now, .int .u64 im.ng, .int .u64 im.nt, .slice A1 im.ses.length a1, .slice A2 im.gs.length a2, .slice A3 im.built.length a3]) := Lib.hid fun w7 hg => by
  have kk := (HK6.out.alloc (.cells #[.int .u64 im.ng, .slice Ag c.ts.length cg, .slice E l.length d] 59)).trans (Keep.of_grown hg) (fun j hj e => by have := (HO1.out.lt j e.symm).1; omega)
  exact ⟨kk, HXB.out.keep kk (fun h => h)⟩
 have x1 := HXC.out.cell 1
 have c3 := ((HC.out.keep HK5.out (fun h => h)).keep HK6.out (fun h => h)).cell 3
 clear hN hgn HE HSRC
 go_upto_region 9 with (first
  | (at_builtin; refine wpList_append_many elems_gr (ec := fx Gm.cells) (fun x => by unfold fx; rw [List.length_map]; rfl) (fx_one Gm.cells) (by decide) _ rfl _ _ rfl w5.heap.size _ _ im.gs [gn] (fun i => w6.heap.size ≤ i) rfl rfl HO6.out HONE.out (by have := H16.out; unfold maxLen; simp only [List.length_cons, List.length_nil]; omega) (by have := H16.out; simp only [List.length_cons, List.length_nil]; omega) (by have := HK6.out.size; simp; omega) ?_; intro v2 w7 hown2 hg2 _; have HA := HA2.out w7 hg2; have HK7 := Lib.hid HA.1; have HX7 := Lib.hid HA.2; have hown2 : w7.ownsRow w5.heap.size 59 3 v2 (im.gs ++ [gn]).length ((im.gs ++ [gn]).flatMap (fx Gm.cells)) := hown2; rw [HN.out] at hown2; have HO7 := Lib.hid hown2; obtain ⟨E2, c2, rfl⟩ := own_shape hown2; have x47 := HX7.out.cell 4; have f47 := HX7.out.free 4; clear hown2 hg2 HA)
  | fail)
 have HX8 := Lib.hid (HX7.out.put 4 (.slice E2 N c2))
 have K78 := (Keep.refl (fun b => b = p) w7).setCell (p := ⟨p, 4, none⟩) (fun _ => rfl) (.slice E2 N c2)
 have HK58 := Lib.hid (HK7.out.wide.trans K78 (fun _ _ h => h))
 have HO8 := Lib.hid (own_keep HO7.out K78 (fun j hj e => by have := (HO7.out.lt j hj).1; have := HZL.out; omega))
 clear K78 x47 f47 HX7 HO7 x1 c3 HA2 HONE HO6 HO1 HK7
 generalize w7.setCell ⟨p, 4, none⟩ (.slice E2 N c2) = w8 at *
 have HW1 : Hid (IntKind.u64.wrap (im.ng + 1) = im.ng + 1) := Lib.hid (wrap1 HNG.out.1 HNG.out.2)
 have HW2 : Hid (IntKind.u64.wrap (im.ng + 1 - 1) = im.ng) := Lib.hid (by
  have h := HNG.out
  unfold top at h
  show (im.ng + 1 - 1) % 18446744073709551616 = im.ng
  omega)
 have HW3 : Hid (IntKind.u64.wrap im.ng = im.ng) := Lib.hid (by
  have h := HNG.out
  unfold top at h
  show im.ng % 18446744073709551616 = im.ng
  omega)
 have x1 := HX8.out.cell 1
 have f1 := HX8.out.free 1
 go_upto_region 10 with fail
 rw [HW1.out]
 have HX9 := Lib.hid (HX8.out.put 1 (.int .u64 (im.ng + 1)))
 have K89 := (Keep.refl (fun b => b = p) w8).setCell (p := ⟨p, 1, none⟩) (fun _ => rfl) (.int .u64 (im.ng + 1))
 have HK59 := Lib.hid (HK58.out.trans K89 (fun _ _ h => h))
 have HO9 := Lib.hid (own_keep HO8.out K89 (fun j hj e => by have := (HO8.out.lt j hj).1; have := HZL.out; omega))
 clear K89 x1 f1 HX8 HO8 HK58
 generalize w8.setCell ⟨p, 1, none⟩ (.int .u64 (im.ng + 1)) = w9 at *
 have HYD9 := Lib.hid ((HY.out.keep HK5.out (fun h => h)).keep HK59.out (by omega))
 have HZD9 := Lib.hid ((HZ.out.keep HK5.out (fun h => h)).keep HK59.out (by omega))
 have MC : Hid (∀ w', Keep (fun b => b = p + 1 + 1 ∨ b = p + 1 + 1 + 1) w9 w' → (w'.cell? ⟨p, 0, none⟩ = some (.int .u64 im.now) ∧ w'.cell? ⟨p, 1, none⟩ = some (.int .u64 (im.ng + 1)) ∧ w'.cell? ⟨p, 2, none⟩ = some (.int .u64 im.nt) ∧ w'.cell? ⟨p, 3, none⟩ = some (.slice A1 im.ses.length a1) ∧ w'.cell? ⟨p, 4, none⟩ = some (.slice E2 N c2) ∧ w'.cell? ⟨p, 5, none⟩ = some (.slice A3 im.built.length a3))) := Lib.hid fun w' k' =>
  (HX9.out.keep k' (by omega)).six
 have KZ9 := (Keep.refl (fun b => b = p + 1 + 1 ∨ b = p + 1 + 1 + 1) w9).drew
 have KN := (Keep.refl noneOf w9).drew
 have HYW := HYD9
 have HZW := HZD9
 refine wp_region_held_drew (S := fun w' => Keep (fun b => b = p + 1 + 1 ∨ b = p + 1 + 1 + 1) w9 w') (by kernel_rfl) (KZ9) (fun hHeld => ?_)
 refine' ztk 0 _ rfl (.inl ⟨by kernel_rfl, ?hy0⟩) ?_
 case hy0 => intro w' hSw; obtain ⟨_, _, _, _, _, _⟩ := MC.out w' hSw; go_simp; try with_reducible rfl
 simp only [Act.put, zga, zgb, zgc, zgd, zge, zgf]
 refine' ztk 1 _ rfl (.inl ⟨by kernel_rfl, ?hy1⟩) ?_
 case hy1 => intro w' hSw; obtain ⟨_, _, _, _, _, _⟩ := MC.out w' hSw; go_simp; try with_reducible rfl
 simp only [Act.put, zga, zgb, zgc, zgd, zge, zgf]
 refine' ztk 2 _ rfl (.inl ⟨by kernel_rfl, ?hy2⟩) ?_
 case hy2 => intro w' hSw; obtain ⟨_, _, _, _, _, _⟩ := MC.out w' hSw; go_simp; try with_reducible rfl
 simp only [Act.put, zga, zgb, zgc, zgd, zge, zgf]
 refine' ztk 3 (.int .u64 im.ng) rfl (.inl ⟨by kernel_rfl, ?hy3⟩) ?_
 case hy3 => intro w' hSw; go_simp; all_goals (first | exact HW3.out | exact HW2.out | (rw [HW3.out]) | (rw [HW2.out]) | trace_state)
 simp only [Act.put, zga, zgb, zgc, zgd, zge, zgf]
 refine' ztk 4 _ rfl (.inl ⟨by kernel_rfl, ?hy4⟩) ?_
 case hy4 => intro w' hSw; obtain ⟨_, _, _, _, _, _⟩ := MC.out w' hSw; go_simp; try with_reducible rfl
 simp only [Act.put, zga, zgb, zgc, zgd, zge, zgf]
 generalize w9.drew = wz at *
 have HYD := Lib.hid (HYD9.out.keep KN (fun h => h))
 have HZD := Lib.hid (HZD9.out.keep KN (fun h => h))
 obtain ⟨y0, y1, y2, y3, y4, y5⟩ := HYD.out.six
 obtain ⟨fy0, fy1, fy2, fy3, fy4, fy5⟩ := HYD.out.free6
 have HYV := Lib.hid (HYD.out.put6 (.int .u64 im.now) (.int .u64 (im.ng + 1)) (.int .u64 im.nt) (.slice A1 im.ses.length a1) (.slice E2 N c2) (.slice A3 im.built.length a3))
 have HZV := Lib.hid (HZD.out.far6 (b := p + 1 + 1) (by omega) (.int .u64 im.now) (.int .u64 (im.ng + 1)) (.int .u64 im.nt) (.slice A1 im.ses.length a1) (.slice E2 N c2) (.slice A3 im.built.length a3))
 have KY7 := (Keep.refl (fun b => b = p + 1 + 1 ∨ b = p + 1 + 1 + 1) wz).put6 (b := p + 1 + 1) (fun _ => .inl rfl) (.int .u64 im.now) (.int .u64 (im.ng + 1)) (.int .u64 im.nt) (.slice A1 im.ses.length a1) (.slice E2 N c2) (.slice A3 im.built.length a3)
 have KY := (KZ9).trans KY7 (fun _ _ h => h)
 dsimp only [sixPut] at HYV HZV KY KY7
 refine wpAnyH_ready (rs := [5]) (by kernel_rfl) (by simp) (AllReadyH.cons rfl (fun K hK => ?_) AllReadyH.nil)
 go_simp
 refine hK.out _ _ (KY) (fun hHeld => ?_)
 clear hK K
 try simp only [Act.put, zga, zgb, zgc, zgd, zge, zgf]
 generalize ((((((wz.setCell ⟨p + 1 + 1, 0, none⟩ (.int .u64 im.now)).setCell ⟨p + 1 + 1, 1, none⟩ (.int .u64 (im.ng + 1))).setCell ⟨p + 1 + 1, 2, none⟩ (.int .u64 im.nt)).setCell ⟨p + 1 + 1, 3, none⟩ (.slice A1 im.ses.length a1)).setCell ⟨p + 1 + 1, 4, none⟩ (.slice E2 N c2)).setCell ⟨p + 1 + 1, 5, none⟩ (.slice A3 im.built.length a3)) = wy at *
 clear y0 y1 y2 y3 y4 y5 fy0 fy1 fy2 fy3 fy4 fy5 HYD HZD
 obtain ⟨z0, z1, z2, z3, z4, z5⟩ := HZV.out.six
 obtain ⟨fz0, fz1, fz2, fz3, fz4, fz5⟩ := HZV.out.free6
 have HZA := Lib.hid (HZV.out.put6 (.int .i64 0) (.int .u64 im.ng) (.int .u64 0) (.int .u64 0) (.string ⟨#[]⟩) (.string ⟨#[]⟩))
 have HYA := Lib.hid (HYV.out.far6 (b := p + 1 + 1 + 1) (by omega) (.int .i64 0) (.int .u64 im.ng) (.int .u64 0) (.int .u64 0) (.string ⟨#[]⟩) (.string ⟨#[]⟩))
 have KA7 := KY7.put6 (b := p + 1 + 1 + 1) (fun _ => .inr rfl) (.int .i64 0) (.int .u64 im.ng) (.int .u64 0) (.int .u64 0) (.string ⟨#[]⟩) (.string ⟨#[]⟩)
 have KA := KY.put6 (b := p + 1 + 1 + 1) (fun _ => .inr rfl) (.int .i64 0) (.int .u64 im.ng) (.int .u64 0) (.int .u64 0) (.string ⟨#[]⟩) (.string ⟨#[]⟩)
 dsimp only [sixPut] at HZA HYA KA KA7
 refine wpAnyH_ready (rs := [6]) (by kernel_rfl) (by simp) (AllReadyH.cons rfl (fun K hK => ?_) AllReadyH.nil)
 go_simp
 refine hK.out _ _ (KA) (fun hHeld => ?_)
 clear hK K
 try simp only [Act.put, zga, zgb, zgc, zgd, zge, zgf]
 refine wpAnyH_done (by kernel_rfl) ?_ _
 generalize ((((((wy.setCell ⟨p + 1 + 1 + 1, 0, none⟩ (.int .i64 0)).setCell ⟨p + 1 + 1 + 1, 1, none⟩ (.int .u64 im.ng)).setCell ⟨p + 1 + 1 + 1, 2, none⟩ (.int .u64 0)).setCell ⟨p + 1 + 1 + 1, 3, none⟩ (.int .u64 0)).setCell ⟨p + 1 + 1 + 1, 4, none⟩ (.string ⟨#[]⟩)).setCell ⟨p + 1 + 1 + 1, 5, none⟩ (.string ⟨#[]⟩)) = wf at *
 clear z0 z1 z2 z3 z4 z5 fz0 fz1 fz2 fz3 fz4 fz5 HYV HZV KY KY7 MC HYW HZW
 have HFIN : Hid (RefIm2 M (submitP im.plain c.plain) w (.returned (.tuple #[.agg #[.int .u64 im.now, .int .u64 (im.ng + 1), .int .u64 im.nt, .slice A1 im.ses.length a1, .slice E2 N c2, .slice A3 im.built.length a3], .agg #[.int .i64 0, .int .u64 im.ng, .int .u64 0, .int .u64 0, .string ⟨#[]⟩, .string ⟨#[]⟩]])) wf) := Lib.hid (by
  have kk : Keep noneOf w wf := ((HKA.out.trans HK5.out (fun _ _ h => h)).trans HK59.out (fun i hi e => by have := HPS.out; omega)).trans KA (fun i hi e => by have := HPS.out; omega)
  have hl := HL.out.keep kk (fun _ _ _ h => h)
  have hcl := HCL.out.keep kk (fun _ _ _ h => h)
  have ho := own_keep HO9.out KA (fun j hj e => by have := (HO9.out.lt j hj).1; have := HZL.out; omega)
  have hls := ((HLS.out.mono (D' := fun i => p + 1 + 1 + 1 < i) (fun i _ hd => by have h1 := HZ.out.lt; have h2 := HK2.out.size; omega)).keep HK59.out (fun i _ hd e => by omega)).keep KA (fun i _ hd e => by omega)
  have hgl : ∀ g ∈ im.gs ++ [gn], g.lies wf M := fun a ha => by
   rcases List.mem_append.1 ha with h | h
   ·
    exact hl.gs.2 a h
   ·
    rw [List.mem_singleton.1 h, HGN.out]
    refine ⟨?_, hls.mono (fun i _ hd => HMN.out i (by have := HPS.out; omega))⟩
    have := hcl.tgs
    rw [HEG.out] at this
    exact this
  rw [← HN.out, fx_eq (gm_one hgl)] at ho
  rw [HRR.out]
  refine ⟨{ im with ng := im.ng + 1, gv := .slice E2 N c2, gs := im.gs ++ [gn] }, ?_, ?_, ⟨hl.ses, ⟨?_, hgl⟩, hl.built⟩, kk⟩
  ·
   unfold Im.agg An.agg
   dsimp only
   rw [HEE.out.1, HEE.out.2.2]
  ·
   show Qp.mk im.now (im.ng + 1) im.nt im.ses ((im.gs ++ [gn]).map Gm.plain) im.built = _
   rw [List.map_append, HGN.out]
   rfl
  ·
   have := (Row.of_own ho).mono (D' := M) (fun j _ hj => HMN.out j (by have := HZL.out; have := HPS.out; omega))
   have e : Many Gm.cells 3 wf M (.slice E2 (im.gs ++ [gn]).length c2) (im.gs ++ [gn]) := this
   rw [HN.out] at e
   exact e)
 clear KA KA7
 go_wp2
 obtain ⟨r0, r1, r2, r3, r4, r5⟩ := HYA.out.six
 obtain ⟨s0, s1, s2, s3, s4, s5⟩ := HZA.out.six
 exact bodyPost_ret (v := .tuple #[.agg #[.int .u64 im.now, .int .u64 (im.ng + 1), .int .u64 im.nt, .slice A1 im.ses.length a1, .slice E2 N c2, .slice A3 im.built.length a3], .agg #[.int .i64 0, .int .u64 im.ng, .int .u64 0, .int .u64 0, .string ⟨#[]⟩, .string ⟨#[]⟩]]) (by simp [results, Tryz.results30, go_sem, r0, r1, r2, r3, r4, r5, s0, s1, s2, s3, s4, s5]) rfl HFIN.out
end Go.Proofs.YtffoeodjbbkdjaaGreat
