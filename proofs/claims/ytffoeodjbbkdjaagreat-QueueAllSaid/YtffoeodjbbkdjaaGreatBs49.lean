import Derived.Deep.CutBlock
import Derived.Test.YtffoeodjbbkdjaaGreatBs01
import Derived.Test.YtffoeodjbbkdjaaGreatBs26
import Derived.Test.YtffoeodjbbkdjaaGreatBs46
import Derived.Test.YtffoeodjbbkdjaaGreatBs47
import Derived.Test.YtffoeodjbbkdjaaGreatBs48
namespace Go.Proofs.YtffoeodjbbkdjaaGreat
open Go.RowKit
theorem modify_at {α : Type} {l : List α} {k : Nat} {a : α} {f g : α → α} (h : l[k]? = some a) (e : f a = g a) : l.modify k f = l.modify k g := by
 apply List.ext_getElem?
 intro i
 rw [List.getElem?_modify, List.getElem?_modify]
 by_cases hi : k = i
 ·
  subst hi
  rw [h]
  simp [e]
 ·
  simp [hi]
theorem Cm.lies.monoR {w : World} {D D' : Nat → Prop} {c : Cm} (h : c.lies w D) (hD : ∀ i, i < w.heap.size → D i → D' i) : c.lies w D' :=
 ⟨Tgs.monoQ h.tgs hD, h.few, h.needs, h.ses, h.seq, h.id, h.tok, h.time⟩
set_option maxRecDepth 100000 in
set_option maxHeartbeats 8000000 in
set_option linter.unusedSimpArgs false in
theorem rapply_any (w : World) (M : Nat → Prop) (hM : ∀ i, w.heap.size ≤ i → M i) (im : Im) (h : im.lies w M) (hi : Inv im.plain) (c : Cm) (htk : 0 ≤ c.tok) (hcl : c.lies w M) (Ag : Option Addr) (cg : Nat) (eg : c.gv = .slice Ag c.ts.length cg) :
  Calls Tryz.prog 10 #[im.agg, c.agg] w (RefIm2 M (applyP im.plain c.plain) w) := by
 obtain ⟨A1, a1, A2, a2, A3, a3, e1, e2, e3⟩ := h.shapes
 have hfew := h.gs.1.few
 unfold maxLen at hfew
 obtain ⟨KA, HX0, HC0, HY0, HZ0⟩ := four_new w #[.int .u64 im.now, .int .u64 im.ng, .int .u64 im.nt, .slice A1 im.ses.length a1, .slice A2 im.gs.length a2, .slice A3 im.built.length a3] #[.int .i64 c.kind, .int .u64 c.ses, .int .u64 c.seq, .slice Ag c.ts.length cg, .int .u64 c.id, .int .u64 c.tok, .bool c.good, .int .u64 c.time] #[.int .u64 0, .int .u64 0, .int .u64 0, .slice none 0 0, .slice none 0 0, .slice none 0 0] #[.int .i64 0, .int .u64 0, .int .u64 0, .int .u64 0, .string ⟨#[]⟩, .string ⟨#[]⟩] 30 37 30 40
 have HL := Lib.hid h
 have hss := (h.mono (D' := fun i => i < w.heap.size ∧ M i) (fun i hi hm => ⟨hi, hm⟩)).ses
 rw [e1] at hss
 have HSS := Lib.hid (hss.keep KA (fun _ _ _ h => h))
 have HCL := Lib.hid hcl
 have HEG := Lib.hid eg
 have HTK := Lib.hid htk
 have HMN := Lib.hid hM
 have HX := Lib.hid HX0
 have HC := Lib.hid HC0
 have HY := Lib.hid HY0
 have HZ := Lib.hid HZ0
 have HKA := Lib.hid KA
 have HI := Lib.hid hi
 have HAGG : Hid (im.agg = .agg #[.int .u64 im.now, .int .u64 im.ng, .int .u64 im.nt, .slice A1 im.ses.length a1, .slice A2 im.gs.length a2, .slice A3 im.built.length a3]) := Lib.hid (by unfold Im.agg; rw [e1, e2, e3])
 have HCA : Hid (c.agg = .agg #[.int .i64 c.kind, .int .u64 c.ses, .int .u64 c.seq, .slice Ag c.ts.length cg, .int .u64 c.id, .int .u64 c.tok, .bool c.good, .int .u64 c.time]) := Lib.hid (by unfold Cm.agg; rw [eg])
 have HE := Lib.hid (And.intro e1 (And.intro e2 e3))
 unfold Im.agg Cm.agg
 rw [e1, e2, e3, eg]
 clear h hcl htk hss KA e1 e2 e3 hi HX0 HY0 HZ0 HC0 eg
 go_enter Tryz.func10, Tryz.ntmps10
 go_upto_region 1 with fail
 generalize (((w.alloc (.cells #[.int .u64 im.now, .int .u64 im.ng, .int .u64 im.nt, .slice A1 im.ses.length a1, .slice A2 im.gs.length a2, .slice A3 im.built.length a3] 30)).alloc (.cells #[.int .i64 c.kind, .int .u64 c.ses, .int .u64 c.seq, .slice Ag c.ts.length cg, .int .u64 c.id, .int .u64 c.tok, .bool c.good, .int .u64 c.time] 37)).alloc (.cells #[.int .u64 0, .int .u64 0, .int .u64 0, .slice none 0 0, .slice none 0 0, .slice none 0 0] 30)).alloc (.cells #[.int .i64 0, .int .u64 0, .int .u64 0, .int .u64 0, .string ⟨#[]⟩, .string ⟨#[]⟩] 40) = w1 at *
 generalize hp : w.heap.size = p at *
 have HPS := Lib.hid hp
 clear hp
 have m0 := HC.out.cell 0
 by_cases h7 : c.kind = 7
 ·
  have m7 := HC.out.cell 7
  have x0 := HX.out.cell 0
  by_cases ht : c.time ≤ im.now
  ·
   have HRD : Hid (applyP im.plain c.plain = (im.plain, .zero)) := Lib.hid (by
    unfold applyP
    rw [if_pos (show c.plain.kind = 7 from h7), if_pos (show c.plain.time ≤ im.plain.now from ht)])
   rw [h7] at m0
   have HK7 := Lib.hid h7
   clear h7 x0
   obtain ⟨x0, x1, x2, x3, x4, x5⟩ := HX.out.six
   have HKW := Lib.hid (HKA.out)
   have HPB : Hid (w.heap.size ≤ p + 1) := Lib.hid (by have := HPS.out; omega)
   have HYW := Lib.hid HY.out
   have HZW := Lib.hid HZ.out
   obtain ⟨y0, y1, y2, y3, y4, y5⟩ := HYW.out.six
   obtain ⟨fy0, fy1, fy2, fy3, fy4, fy5⟩ := HYW.out.free6
   obtain ⟨z0, z1, z2, z3, z4, z5⟩ := HZW.out.six
   obtain ⟨fz0, fz1, fz2, fz3, fz4, fz5⟩ := HZW.out.free6
   go_wp2
   have HY6 := HYW.out.put6 (.int .u64 im.now) (.int .u64 im.ng) (.int .u64 im.nt) (.slice A1 im.ses.length a1) (.slice A2 im.gs.length a2) (.slice A3 im.built.length a3)
   have HZ5 := HZW.out.far6 (b := (p + 1 + 1)) (by omega) (.int .u64 im.now) (.int .u64 im.ng) (.int .u64 im.nt) (.slice A1 im.ses.length a1) (.slice A2 im.gs.length a2) (.slice A3 im.built.length a3)
   have HZ6 := HZ5.put6 (.int .i64 0) (.int .u64 0) (.int .u64 0) (.int .u64 0) (.string ⟨#[]⟩) (.string ⟨#[]⟩)
   have HY7 := HY6.far6 (b := (p + 1 + 1 + 1)) (by omega) (.int .i64 0) (.int .u64 0) (.int .u64 0) (.int .u64 0) (.string ⟨#[]⟩) (.string ⟨#[]⟩)
   have KK : Keep noneOf w (sixPut (sixPut w1 (p + 1 + 1) (.int .u64 im.now) (.int .u64 im.ng) (.int .u64 im.nt) (.slice A1 im.ses.length a1) (.slice A2 im.gs.length a2) (.slice A3 im.built.length a3)) (p + 1 + 1 + 1) (.int .i64 0) (.int .u64 0) (.int .u64 0) (.int .u64 0) (.string ⟨#[]⟩) (.string ⟨#[]⟩)) := by
    have KW := HKW.out
    have hb := HPB.out
    exact (KW.put6 (b := (p + 1 + 1)) (fun h => absurd h (by omega)) (.int .u64 im.now) (.int .u64 im.ng) (.int .u64 im.nt) (.slice A1 im.ses.length a1) (.slice A2 im.gs.length a2) (.slice A3 im.built.length a3)).put6 (b := (p + 1 + 1 + 1)) (fun h => absurd h (by omega)) (.int .i64 0) (.int .u64 0) (.int .u64 0) (.int .u64 0) (.string ⟨#[]⟩) (.string ⟨#[]⟩)
   have HFIN : RefIm2 M (applyP im.plain c.plain) w (.returned (.tuple #[.agg #[.int .u64 im.now, .int .u64 im.ng, .int .u64 im.nt, .slice A1 im.ses.length a1, .slice A2 im.gs.length a2, .slice A3 im.built.length a3], .agg #[.int .i64 0, .int .u64 0, .int .u64 0, .int .u64 0, .string ⟨#[]⟩, .string ⟨#[]⟩]])) (sixPut (sixPut w1 (p + 1 + 1) (.int .u64 im.now) (.int .u64 im.ng) (.int .u64 im.nt) (.slice A1 im.ses.length a1) (.slice A2 im.gs.length a2) (.slice A3 im.built.length a3)) (p + 1 + 1 + 1) (.int .i64 0) (.int .u64 0) (.int .u64 0) (.int .u64 0) (.string ⟨#[]⟩) (.string ⟨#[]⟩)) := by rw [HRD.out, ← HAGG.out]; exact refim2_ret rfl (HL.out.keep KK (fun _ _ _ h => h)) KK
   dsimp only [sixPut] at HZ6 HY7 HFIN
   obtain ⟨r0, r1, r2, r3, r4, r5⟩ := HY7.six
   obtain ⟨s0, s1, s2, s3, s4, s5⟩ := HZ6.six
   exact bodyPost_ret (v := .tuple #[.agg #[.int .u64 im.now, .int .u64 im.ng, .int .u64 im.nt, .slice A1 im.ses.length a1, .slice A2 im.gs.length a2, .slice A3 im.built.length a3], .agg #[.int .i64 0, .int .u64 0, .int .u64 0, .int .u64 0, .string ⟨#[]⟩, .string ⟨#[]⟩]]) (by simp [results, Tryz.results10, go_sem, r0, r1, r2, r3, r4, r5, s0, s1, s2, s3, s4, s5]) rfl HFIN
  ·
   have hlt : ¬ c.time ≤ im.now := ht
   have HRD : Hid (applyP im.plain c.plain = ({ im.plain with now := c.time, gs := im.plain.gs.map (expG c.time) }, .zero)) := Lib.hid (by
    unfold applyP
    rw [if_pos (show c.plain.kind = 7 from h7), if_neg (show ¬ c.plain.time ≤ im.plain.now from ht)]
    rfl)
   rw [h7] at m0
   have f0 := HX.out.free 0
   have H16 : Hid (im.gs.length ≤ 16) := Lib.hid (by have := HI.out.gsFew; simpa [Im.plain] using this)
   clear h7 hlt
   go_upto_region 5 with fail
   have hx2 := HX.out.put 0 (.int .u64 c.time)
   have K12 := (Keep.refl (fun b => b = p) w1).setCell (p := ⟨p, 0, none⟩) (fun _ => rfl) (.int .u64 c.time)
   have HX2 : Hid (Box (w1.setCell ⟨p, 0, none⟩ (.int .u64 c.time)) p 30 #[.int .u64 c.time, .int .u64 im.ng, .int .u64 im.nt, .slice A1 im.ses.length a1, .slice A2 im.gs.length a2, .slice A3 im.built.length a3]) := Lib.hid hx2
   have HK2 := Lib.hid (HKA.out.trans K12 (fun i hi e => by have := HPS.out; omega))
   have HC2 := Lib.hid (HC.out.keep K12 (by omega))
   have HY2 := Lib.hid (HY.out.keep K12 (by omega))
   have HZ2 := Lib.hid (HZ.out.keep K12 (by omega))
   clear m0 m7 x0 f0 ht hx2 K12
   generalize w1.setCell ⟨p, 0, none⟩ (.int .u64 c.time) = w2 at *
   have HL2 : Hid (Im.lies w2 (fun i => (i < p ∧ M i) ∨ p + 1 + 1 + 1 < i) { im with now := c.time }) := Lib.hid (by
    have h := (HL.out.mono (D' := (fun i => (i < p ∧ M i) ∨ p + 1 + 1 + 1 < i)) (fun i hi hm => .inl ⟨by have := HPS.out; omega, hm⟩)).keep HK2.out (fun _ _ _ h => h)
    exact ⟨h.ses, h.gs, h.built⟩)
   obtain ⟨NL, hNL⟩ : ∃ NL, im.gs.length = NL := ⟨_, rfl⟩
   have HNL := Lib.hid hNL
   have HL16 : Hid (NL ≤ 16) := Lib.hid (hNL ▸ H16.out)
   clear hNL
   go_wp2
   go_loopg [6] NL (fun gg i wx => ∃ (k : Nat) (im7 : Im) (E1 : Option Addr) (c1 : Nat) (E2 : Option Addr) (c2 : Nat) (E3 : Option Addr) (c3 : Nat), k + gg = NL ∧ i = .int .i64 (k : Int) ∧ Keep (fun b => b = p) w2 wx ∧ Box wx p 30 #[.int .u64 im7.now, .int .u64 im7.ng, .int .u64 im7.nt, .slice E1 im7.ses.length c1, .slice E2 im7.gs.length c2, .slice E3 im7.built.length c3] ∧ im7.plain = { im.plain with now := c.time, gs := (im.plain.gs.take k).map (expG c.time) ++ im.plain.gs.drop k } ∧ im7.lies wx (fun i => (i < p ∧ M i) ∨ p + 1 + 1 + 1 < i) ∧ im7.sv = .slice E1 im7.ses.length c1 ∧ im7.gv = .slice E2 im7.gs.length c2 ∧ im7.bv = .slice E3 im7.built.length c3)
   case atStart =>
    refine ⟨0, { im with now := c.time }, A1, a1, A2, a2, A3, a3, by omega, rfl, Keep.refl _ _, HX2.out, ?_, HL2.out, HE.out.1, HE.out.2.1, HE.out.2.2⟩
    simp [Im.plain]
   case round =>
    obtain ⟨k, im7, E1, c1, E2, c2, E3, c3, hkg, rfl, hk7, hx7, hp7, hl7, e1, e2, e3⟩ := hrel
    have HK7 := Lib.hid hk7
    have HX7 := Lib.hid hx7
    have HP7 := Lib.hid hp7
    have HL7 := Lib.hid hl7
    have HE7 := Lib.hid (And.intro e1 (And.intro e2 e3))
    have HLN : Hid (im7.gs.length = NL) := Lib.hid (by
     have h := congrArg (fun x => x.gs.length) hp7
     have h2 := HNL.out
     simp [Im.plain] at h
     omega)
    have x4 := hx7.cell 4
    clear hk7 hx7 hp7 hl7 e1 e2 e3
    cases gk with
    | zero =>
     have hkz : ¬ ((k : Int) < (im7.gs.length : Int)) := by have := HLN.out; omega
     have HKG : Hid (im.plain.gs.length ≤ k) := Lib.hid (by have h := HNL.out; simp [Im.plain]; omega)
     clear x4
     obtain ⟨x0, x1, x2, x3, x4, x5⟩ := HX7.out.six
     have HKW := Lib.hid (HK2.out.trans HK7.out (fun i hi e => by have := HPS.out; omega))
     have HPB : Hid (w.heap.size ≤ p + 1) := Lib.hid (by have := HPS.out; omega)
     have HYW := Lib.hid (HY2.out.keep HK7.out (by omega))
     have HZW := Lib.hid (HZ2.out.keep HK7.out (by omega))
     obtain ⟨y0, y1, y2, y3, y4, y5⟩ := HYW.out.six
     obtain ⟨fy0, fy1, fy2, fy3, fy4, fy5⟩ := HYW.out.free6
     obtain ⟨z0, z1, z2, z3, z4, z5⟩ := HZW.out.six
     obtain ⟨fz0, fz1, fz2, fz3, fz4, fz5⟩ := HZW.out.free6
     go_wp2
     have HY6 := HYW.out.put6 (.int .u64 im7.now) (.int .u64 im7.ng) (.int .u64 im7.nt) (.slice E1 im7.ses.length c1) (.slice E2 im7.gs.length c2) (.slice E3 im7.built.length c3)
     have HZ5 := HZW.out.far6 (b := (p + 1 + 1)) (by omega) (.int .u64 im7.now) (.int .u64 im7.ng) (.int .u64 im7.nt) (.slice E1 im7.ses.length c1) (.slice E2 im7.gs.length c2) (.slice E3 im7.built.length c3)
     have HZ6 := HZ5.put6 (.int .i64 0) (.int .u64 0) (.int .u64 0) (.int .u64 0) (.string ⟨#[]⟩) (.string ⟨#[]⟩)
     have HY7 := HY6.far6 (b := (p + 1 + 1 + 1)) (by omega) (.int .i64 0) (.int .u64 0) (.int .u64 0) (.int .u64 0) (.string ⟨#[]⟩) (.string ⟨#[]⟩)
     have KK : Keep noneOf w (sixPut (sixPut wr (p + 1 + 1) (.int .u64 im7.now) (.int .u64 im7.ng) (.int .u64 im7.nt) (.slice E1 im7.ses.length c1) (.slice E2 im7.gs.length c2) (.slice E3 im7.built.length c3)) (p + 1 + 1 + 1) (.int .i64 0) (.int .u64 0) (.int .u64 0) (.int .u64 0) (.string ⟨#[]⟩) (.string ⟨#[]⟩)) := by
      have KW := HKW.out
      have hb := HPB.out
      exact (KW.put6 (b := (p + 1 + 1)) (fun h => absurd h (by omega)) (.int .u64 im7.now) (.int .u64 im7.ng) (.int .u64 im7.nt) (.slice E1 im7.ses.length c1) (.slice E2 im7.gs.length c2) (.slice E3 im7.built.length c3)).put6 (b := (p + 1 + 1 + 1)) (fun h => absurd h (by omega)) (.int .i64 0) (.int .u64 0) (.int .u64 0) (.int .u64 0) (.string ⟨#[]⟩) (.string ⟨#[]⟩)
     have HFIN : RefIm2 M (applyP im.plain c.plain) w (.returned (.tuple #[.agg #[.int .u64 im7.now, .int .u64 im7.ng, .int .u64 im7.nt, .slice E1 im7.ses.length c1, .slice E2 im7.gs.length c2, .slice E3 im7.built.length c3], .agg #[.int .i64 0, .int .u64 0, .int .u64 0, .int .u64 0, .string ⟨#[]⟩, .string ⟨#[]⟩]])) (sixPut (sixPut wr (p + 1 + 1) (.int .u64 im7.now) (.int .u64 im7.ng) (.int .u64 im7.nt) (.slice E1 im7.ses.length c1) (.slice E2 im7.gs.length c2) (.slice E3 im7.built.length c3)) (p + 1 + 1 + 1) (.int .i64 0) (.int .u64 0) (.int .u64 0) (.int .u64 0) (.string ⟨#[]⟩) (.string ⟨#[]⟩)) := by 
      rw [HRD.out]
      have KF := ((Keep.refl (fun b => b = p + 1 + 1 ∨ b = p + 1 + 1 + 1) wr).put6 (b := p + 1 + 1) (fun _ => .inl rfl) (.int .u64 im7.now) (.int .u64 im7.ng) (.int .u64 im7.nt) (.slice E1 im7.ses.length c1) (.slice E2 im7.gs.length c2) (.slice E3 im7.built.length c3)).put6 (b := p + 1 + 1 + 1) (fun _ => .inr rfl) (.int .i64 0) (.int .u64 0) (.int .u64 0) (.int .u64 0) (.string ⟨#[]⟩) (.string ⟨#[]⟩)
      refine ⟨im7, ?_, ?_, ?_, KK⟩
      ·
       unfold Im.agg An.zero An.agg
       dsimp only
       rw [HE7.out.1, HE7.out.2.1, HE7.out.2.2]
      ·
       rw [HP7.out]
       have hk := HKG.out
       have e1 : im.plain.gs.take k = im.plain.gs := List.take_of_length_le hk
       have e2 : im.plain.gs.drop k = [] := List.drop_eq_nil_of_le hk
       rw [e1, e2, List.append_nil]
      ·
       exact (HL7.out.keep KF (fun i _ hd e => by have := HZ.out.lt; omega)).mono (fun i _ hd => hd.elim (fun h => h.2) (fun h => HMN.out i (by have := HPS.out; omega)))
     dsimp only [sixPut] at HZ6 HY7 HFIN
     obtain ⟨r0, r1, r2, r3, r4, r5⟩ := HY7.six
     obtain ⟨s0, s1, s2, s3, s4, s5⟩ := HZ6.six
     exact bodyPost_ret (v := .tuple #[.agg #[.int .u64 im7.now, .int .u64 im7.ng, .int .u64 im7.nt, .slice E1 im7.ses.length c1, .slice E2 im7.gs.length c2, .slice E3 im7.built.length c3], .agg #[.int .i64 0, .int .u64 0, .int .u64 0, .int .u64 0, .string ⟨#[]⟩, .string ⟨#[]⟩]]) (by simp [results, Tryz.results10, go_sem, r0, r1, r2, r3, r4, r5, s0, s1, s2, s3, s4, s5]) rfl HFIN
    | succ g2 =>
     have hkl : k < im.gs.length := by have h := HNL.out; omega
     have hkz : (k : Int) < (im7.gs.length : Int) := by have := HLN.out; omega
     have hk0 : (0 : Int) ≤ (k : Int) := by omega
     obtain ⟨g, hg⟩ : ∃ g, im7.gs[k]? = some g := ⟨_, List.getElem?_eq_getElem (by have := HLN.out; omega)⟩
     have hG := HL7.out.gs
     rw [HE7.out.2.1] at hG
     obtain ⟨tb, o, rfl, hblk, hDb, hcell⟩ := hG.1.cell (fun _ => rfl) hg
     have d2 : wr.cell? ⟨tb, o + k * 3 + 2, none⟩ = some g.sv := hcell 2 (by decide)
     have hgl := hG.2 g (List.mem_of_getElem? hg)
     obtain ⟨B2, b2, f2⟩ := Sts.shape hgl.2
     rw [f2] at d2
     have hst := hgl.2
     rw [f2] at hst
     have hgq : im7.plain.gs[k]? = some g.plain := gm_at hg
     have h32 : g.st.length ≤ 32 := by
      rw [HP7.out] at hgq
      obtain ⟨g1, hg1⟩ : ∃ g1, im.gs[k]? = some g1 := ⟨_, List.getElem?_eq_getElem (by omega)⟩
      have h2 : im.plain.gs[k]? = some g1.plain := gm_at hg1
      dsimp only at hgq
      rw [mapk_at h2] at hgq
      injection hgq with h3
      have h4 := (im_few HI.out (List.mem_of_getElem? hg1)).1
      have h5 : g1.st = g.st := congrArg Gq.st h3
      rw [← h5]
      exact h4
     have HST : Hid (withG im7.plain k (repl 1 (pastB c.time) g.st) = { im.plain with now := c.time, gs := (im.plain.gs.take (k + 1)).map (expG c.time) ++ im.plain.gs.drop (k + 1) }) := Lib.hid (by
      unfold withG
      rw [HP7.out] at hgq ⊢
      dsimp only at hgq ⊢
      obtain ⟨g1, hg1⟩ : ∃ g1, im.plain.gs[k]? = some g1 := ⟨_, List.getElem?_eq_getElem (by simp [Im.plain]; omega)⟩
      rw [mapk_at hg1] at hgq
      injection hgq with h3
      rw [← mapk_step hg1]
      congr 1
      refine modify_at (mapk_at hg1) ?_
      rw [h3]
      rfl)
     have EXP0 := Lib.hid fun w' (k' : Keep noneOf wr w') => refExpire_any w' _ _ g.st (Sts.keep hst k' (fun _ _ _ h => h)) (by rw [reach_is]; omega) c.time
     have HGX := Lib.hid hg
     have HWITH : Hid (∀ w' sv, Keep noneOf wr w' → Sts w' (fun i => (i < p ∧ M i) ∨ p + 1 + 1 + 1 < i) sv (repl 1 (pastB c.time) g.st) → Calls Tryz.prog 26 #[.agg #[.int .u64 im7.now, .int .u64 im7.ng, .int .u64 im7.nt, .slice E1 im7.ses.length c1, .slice (some ⟨tb, o, none⟩) im7.gs.length c2, .slice E3 im7.built.length c3], .int .i64 (k : Int), sv] w' (RefIm (fun i => (i < p ∧ M i) ∨ p + 1 + 1 + 1 < i) (withG im7.plain k (repl 1 (pastB c.time) g.st)) w')) := Lib.hid fun w' sv k' hs => by
      have h := rwith_any w' (fun i => (i < p ∧ M i) ∨ p + 1 + 1 + 1 < i) (fun i hi => .inr (by have h1 := HZ2.out.lt; have h2 := HK7.out.size; have h3 := k'.size; omega)) im7 (HL7.out.keep k' (fun _ _ _ h => h)) k g HGX.out sv _ hs (by have := HLN.out; have := HL16.out; omega)
      have e : im7.agg = .agg #[.int .u64 im7.now, .int .u64 im7.ng, .int .u64 im7.nt, .slice E1 im7.ses.length c1, .slice (some ⟨tb, o, none⟩) im7.gs.length c2, .slice E3 im7.built.length c3] := by unfold Im.agg; rw [HE7.out.1, HE7.out.2.1, HE7.out.2.2]
      rw [e] at h
      exact h
     have MC : Hid (∀ w', Keep (fun b => b = p) wr w' → w'.cell? ⟨tb, o + k * 3 + 2, none⟩ = some (.slice B2 g.st.length b2) ∧ w'.cell? ⟨p + 1, 7, none⟩ = some (.int .u64 c.time)) := Lib.hid fun w' k' => by
      refine ⟨?_, ((HC2.out.keep HK7.out (by omega)).keep k' (by omega)).cell 7⟩
      rw [k'.cell hblk (fun e => hDb.elim (fun h => by have := h.1; simp only at e; omega) (fun h => by simp only at e; omega))]
      exact d2
     have KZ := (Keep.refl (fun b => b = p) wr).drew
     have KN := (Keep.refl noneOf wr).drew
     clear hgq h32 hgl hst hG hcell d2 f2 hg
     go_upto_block 1 with fail
     go_cut [6] (fun sn wx => sn = .int .i64 (k : Int) ∧ ∃ (im7 : Im) (E1 : Option Addr) (c1 : Nat) (E2 : Option Addr) (c2 : Nat) (E3 : Option Addr) (c3 : Nat), Keep (fun b => b = p) wr wx ∧ Box wx p 30 #[.int .u64 im7.now, .int .u64 im7.ng, .int .u64 im7.nt, .slice E1 im7.ses.length c1, .slice E2 im7.gs.length c2, .slice E3 im7.built.length c3] ∧ im7.plain = { im.plain with now := c.time, gs := (im.plain.gs.take (k + 1)).map (expG c.time) ++ im.plain.gs.drop (k + 1) } ∧ im7.lies wx (fun i => (i < p ∧ M i) ∨ p + 1 + 1 + 1 < i) ∧ im7.sv = .slice E1 im7.ses.length c1 ∧ im7.gv = .slice E2 im7.gs.length c2 ∧ im7.bv = .slice E3 im7.built.length c3)
     case first =>
      go_upto_region 8 with fail
      refine wp_region_held_drew (S := fun w' => Keep (fun b => b = p) wr w') (by kernel_rfl) (KZ) (fun hHeld => ?_)
      refine' ztk 1 _ rfl (.inl ⟨by kernel_rfl, ?hy1⟩) ?_
      case hy1 => intro w' hSw; obtain ⟨_, _⟩ := MC.out w' hSw; go_simp; try with_reducible rfl
      simp only [Act.put, zga, zgb, zgc, zgd, zge, zgf]
      refine' ztk 2 _ rfl (.inl ⟨by kernel_rfl, ?hy2⟩) ?_
      case hy2 => intro w' hSw; obtain ⟨_, _⟩ := MC.out w' hSw; go_simp; try with_reducible rfl
      simp only [Act.put, zga, zgb, zgc, zgd, zge, zgf]
      refine' ztk 4 _ rfl (.inl ⟨by kernel_rfl, ?hy4⟩) ?_
      case hy4 => intro w' hSw; obtain ⟨_, _⟩ := MC.out w' hSw; go_simp; try with_reducible rfl
      simp only [Act.put, zga, zgb, zgc, zgd, zge, zgf]
      refine' ztk 8 _ rfl (.inl ⟨by kernel_rfl, ?hy8⟩) ?_
      case hy8 => intro w' hSw; obtain ⟨_, _⟩ := MC.out w' hSw; go_simp; try with_reducible rfl
      simp only [Act.put, zga, zgb, zgc, zgd, zge, zgf]
      refine' ztk 9 _ rfl (.inl ⟨by kernel_rfl, ?hy9⟩) ?_
      case hy9 => intro w' hSw; obtain ⟨_, _⟩ := MC.out w' hSw; go_simp; try with_reducible rfl
      simp only [Act.put, zga, zgb, zgc, zgd, zge, zgf]
      generalize wr.drew = wz at *
      have EXP := Lib.hid (EXP0.out wz KN)
      refine wpAnyH_ready (rs := [0, 3]) (by kernel_rfl) (by simp) (AllReadyH.cons rfl (fun K hK => ?_) (AllReadyH.cons rfl (fun K hK => ?_) AllReadyH.nil))
      ·
       obtain ⟨x0, x1, x2, x3, x4, x5⟩ := (HX7.out.keep KN (fun h => h)).six
       go_simp
       refine hK.out _ _ (KN.wide) (fun hHeld => ?_)
       clear hK K
       try simp only [Act.put, zga, zgb, zgc, zgd, zge, zgf]
       clear x0 x1 x2 x3 x4 x5
       obtain ⟨x0, x1, x2, x3, x4, x5⟩ := (HX7.out.keep KN (fun h => h)).six
       refine wpAnyH_ready (rs := [3]) (by kernel_rfl) (by simp) (AllReadyH.cons rfl (fun K hK => ?_) AllReadyH.nil)
       go_simp
       refine hK.out _ _ hHeld (fun hHeld => ?_)
       clear hK K
       try simp only [Act.put, zga, zgb, zgc, zgd, zge, zgf]
       clear x0 x1 x2 x3 x4 x5
       refine' ztk 5 _ rfl (.inl ⟨by kernel_rfl, ?hy5⟩) ?_
       case hy5 => intro w' hSw; obtain ⟨_, _⟩ := MC.out w' hSw; go_simp; try with_reducible rfl
       simp only [Act.put, zga, zgb, zgc, zgd, zge, zgf]
       refine' ztk 6 _ rfl (.inl ⟨by kernel_rfl, ?hy6⟩) ?_
       case hy6 => intro w' hSw; obtain ⟨_, _⟩ := MC.out w' hSw; go_simp; try with_reducible rfl
       simp only [Act.put, zga, zgb, zgc, zgd, zge, zgf]
       refine' ztk 7 _ rfl (.inl ⟨by kernel_rfl, ?hy7⟩) ?_
       case hy7 => intro w' hSw; obtain ⟨_, _⟩ := MC.out w' hSw; go_simp; try with_reducible rfl
       simp only [Act.put, zga, zgb, zgc, zgd, zge, zgf]
       refine wpAnyH_ready (rs := [10]) (by kernel_rfl) (by simp) (AllReadyH.cons rfl (fun K hK => ?_) AllReadyH.nil)
       go_simp
       go_at_call 27
       refine EXP.out.mono ?_
       rintro e w4 ⟨A6, c6, rfl, hst6, k6⟩
       try rw [exp_len] at hst6
       have K4 : Keep noneOf wr w4 := KN.trans k6 (fun _ _ h => h)
       have WT := HWITH.out w4 _ K4 (hst6.mono (fun i _ h => .inr (by have h1 := HZ2.out.lt; have h2 := HK7.out.size; have h3 := KN.size; omega)))
       try rw [exp_len] at WT
       replace WT := Lib.hid WT
       clear k6
       go_wp2_with fail
       refine hK.out _ _ (K4.wide) (fun hHeld => ?_)
       clear hK K
       try simp only [Act.put, zga, zgb, zgc, zgd, zge, zgf]
       refine wpAnyH_ready (rs := [11]) (by kernel_rfl) (by simp) (AllReadyH.cons rfl (fun K hK => ?_) AllReadyH.nil)
       go_simp
       go_at_call 26
       try rw [exp_len]
       refine WT.out.mono ?_
       rintro e w5 ⟨im8, rfl, hp8, hl8, k8⟩
       obtain ⟨F1, d1, F2, d2, F3, d3, e1, e2, e3⟩ := hl8.shapes
       have K5 : Keep noneOf wr w5 := K4.trans k8 (fun _ _ h => h)
       have HI8 := Lib.hid hl8
       have HP8 := Lib.hid hp8
       have HE8 := Lib.hid (And.intro e1 (And.intro e2 e3))
       unfold Im.agg
       rw [e1, e2, e3]
       clear WT k8 hp8 hl8 e1 e2 e3
       go_wp2_with fail
       refine hK.out _ _ (K5.wide) (fun hHeld => ?_)
       clear hK K
       try simp only [Act.put, zga, zgb, zgc, zgd, zge, zgf]
       have HX8 := Lib.hid (HX7.out.keep K5 (fun h => h))
       obtain ⟨x0, x1, x2, x3, x4, x5⟩ := HX8.out.six
       obtain ⟨fx0, fx1, fx2, fx3, fx4, fx5⟩ := HX8.out.free6
       have HX9 := HX8.out.put6 (.int .u64 im8.now) (.int .u64 im8.ng) (.int .u64 im8.nt) (.slice F1 im8.ses.length d1) (.slice F2 im8.gs.length d2) (.slice F3 im8.built.length d3)
       have K89 := (Keep.refl (fun b => b = p) w5).put6 (b := p) (fun _ => rfl) (.int .u64 im8.now) (.int .u64 im8.ng) (.int .u64 im8.nt) (.slice F1 im8.ses.length d1) (.slice F2 im8.gs.length d2) (.slice F3 im8.built.length d3)
       have K9 := (K5.wide (S := fun b => b = p)).trans K89 (fun _ _ h => h)
       have HI9 := Lib.hid (HI8.out.keep K89 (fun i _ hd e => by omega))
       dsimp only [sixPut] at HX9 K9 HI9
       clear K89
       refine wpAnyH_ready (rs := [12]) (by kernel_rfl) (by simp) (AllReadyH.cons rfl (fun K hK => ?_) AllReadyH.nil)
       go_simp
       refine hK.out _ _ (K9) (fun hHeld => ?_)
       clear hK K
       try simp only [Act.put, zga, zgb, zgc, zgd, zge, zgf]
       refine wpAnyH_done (by kernel_rfl) ?_ _
       generalize ((((((w5.setCell ⟨p, 0, none⟩ (.int .u64 im8.now)).setCell ⟨p, 1, none⟩ (.int .u64 im8.ng)).setCell ⟨p, 2, none⟩ (.int .u64 im8.nt)).setCell ⟨p, 3, none⟩ (.slice F1 im8.ses.length d1)).setCell ⟨p, 4, none⟩ (.slice F2 im8.gs.length d2)).setCell ⟨p, 5, none⟩ (.slice F3 im8.built.length d3)) = w8 at *
       clear x0 x1 x2 x3 x4 x5 fx0 fx1 fx2 fx3 fx4 fx5
       go_wp2_with fail
       go_meet
       exact ⟨rfl, im8, F1, d1, F2, d2, F3, d3, K9, HX9, HP8.out.trans HST.out, HI9.out, HE8.out.1, HE8.out.2.1, HE8.out.2.2⟩
      ·
       obtain ⟨x0, x1, x2, x3, x4, x5⟩ := (HX7.out.keep KN (fun h => h)).six
       go_simp
       refine hK.out _ _ (KZ) (fun hHeld => ?_)
       clear hK K
       try simp only [Act.put, zga, zgb, zgc, zgd, zge, zgf]
       clear x0 x1 x2 x3 x4 x5
       refine' ztk 5 _ rfl (.inl ⟨by kernel_rfl, ?hy5⟩) ?_
       case hy5 => intro w' hSw; obtain ⟨_, _⟩ := MC.out w' hSw; go_simp; try with_reducible rfl
       simp only [Act.put, zga, zgb, zgc, zgd, zge, zgf]
       refine' ztk 6 _ rfl (.inl ⟨by kernel_rfl, ?hy6⟩) ?_
       case hy6 => intro w' hSw; obtain ⟨_, _⟩ := MC.out w' hSw; go_simp; try with_reducible rfl
       simp only [Act.put, zga, zgb, zgc, zgd, zge, zgf]
       refine' ztk 7 _ rfl (.inl ⟨by kernel_rfl, ?hy7⟩) ?_
       case hy7 => intro w' hSw; obtain ⟨_, _⟩ := MC.out w' hSw; go_simp; try with_reducible rfl
       simp only [Act.put, zga, zgb, zgc, zgd, zge, zgf]
       refine wpAnyH_ready (rs := [0, 10]) (by kernel_rfl) (by simp) (AllReadyH.cons rfl (fun K hK => ?_) (AllReadyH.cons rfl (fun K hK => ?_) AllReadyH.nil))
       ·
        obtain ⟨x0, x1, x2, x3, x4, x5⟩ := (HX7.out.keep KN (fun h => h)).six
        go_simp
        refine hK.out _ _ (KN.wide) (fun hHeld => ?_)
        clear hK K
        try simp only [Act.put, zga, zgb, zgc, zgd, zge, zgf]
        clear x0 x1 x2 x3 x4 x5
        refine wpAnyH_ready (rs := [10]) (by kernel_rfl) (by simp) (AllReadyH.cons rfl (fun K hK => ?_) AllReadyH.nil)
        go_simp
        go_at_call 27
        refine EXP.out.mono ?_
        rintro e w4 ⟨A6, c6, rfl, hst6, k6⟩
        try rw [exp_len] at hst6
        have K4 : Keep noneOf wr w4 := KN.trans k6 (fun _ _ h => h)
        have WT := HWITH.out w4 _ K4 (hst6.mono (fun i _ h => .inr (by have h1 := HZ2.out.lt; have h2 := HK7.out.size; have h3 := KN.size; omega)))
        try rw [exp_len] at WT
        replace WT := Lib.hid WT
        clear k6
        go_wp2_with fail
        refine hK.out _ _ (K4.wide) (fun hHeld => ?_)
        clear hK K
        try simp only [Act.put, zga, zgb, zgc, zgd, zge, zgf]
        refine wpAnyH_ready (rs := [11]) (by kernel_rfl) (by simp) (AllReadyH.cons rfl (fun K hK => ?_) AllReadyH.nil)
        go_simp
        go_at_call 26
        try rw [exp_len]
        refine WT.out.mono ?_
        rintro e w5 ⟨im8, rfl, hp8, hl8, k8⟩
        obtain ⟨F1, d1, F2, d2, F3, d3, e1, e2, e3⟩ := hl8.shapes
        have K5 : Keep noneOf wr w5 := K4.trans k8 (fun _ _ h => h)
        have HI8 := Lib.hid hl8
        have HP8 := Lib.hid hp8
        have HE8 := Lib.hid (And.intro e1 (And.intro e2 e3))
        unfold Im.agg
        rw [e1, e2, e3]
        clear WT k8 hp8 hl8 e1 e2 e3
        go_wp2_with fail
        refine hK.out _ _ (K5.wide) (fun hHeld => ?_)
        clear hK K
        try simp only [Act.put, zga, zgb, zgc, zgd, zge, zgf]
        have HX8 := Lib.hid (HX7.out.keep K5 (fun h => h))
        obtain ⟨x0, x1, x2, x3, x4, x5⟩ := HX8.out.six
        obtain ⟨fx0, fx1, fx2, fx3, fx4, fx5⟩ := HX8.out.free6
        have HX9 := HX8.out.put6 (.int .u64 im8.now) (.int .u64 im8.ng) (.int .u64 im8.nt) (.slice F1 im8.ses.length d1) (.slice F2 im8.gs.length d2) (.slice F3 im8.built.length d3)
        have K89 := (Keep.refl (fun b => b = p) w5).put6 (b := p) (fun _ => rfl) (.int .u64 im8.now) (.int .u64 im8.ng) (.int .u64 im8.nt) (.slice F1 im8.ses.length d1) (.slice F2 im8.gs.length d2) (.slice F3 im8.built.length d3)
        have K9 := (K5.wide (S := fun b => b = p)).trans K89 (fun _ _ h => h)
        have HI9 := Lib.hid (HI8.out.keep K89 (fun i _ hd e => by omega))
        dsimp only [sixPut] at HX9 K9 HI9
        clear K89
        refine wpAnyH_ready (rs := [12]) (by kernel_rfl) (by simp) (AllReadyH.cons rfl (fun K hK => ?_) AllReadyH.nil)
        go_simp
        refine hK.out _ _ (K9) (fun hHeld => ?_)
        clear hK K
        try simp only [Act.put, zga, zgb, zgc, zgd, zge, zgf]
        refine wpAnyH_done (by kernel_rfl) ?_ _
        generalize ((((((w5.setCell ⟨p, 0, none⟩ (.int .u64 im8.now)).setCell ⟨p, 1, none⟩ (.int .u64 im8.ng)).setCell ⟨p, 2, none⟩ (.int .u64 im8.nt)).setCell ⟨p, 3, none⟩ (.slice F1 im8.ses.length d1)).setCell ⟨p, 4, none⟩ (.slice F2 im8.gs.length d2)).setCell ⟨p, 5, none⟩ (.slice F3 im8.built.length d3)) = w8 at *
        clear x0 x1 x2 x3 x4 x5 fx0 fx1 fx2 fx3 fx4 fx5
        go_wp2_with fail
        go_meet
        exact ⟨rfl, im8, F1, d1, F2, d2, F3, d3, K9, HX9, HP8.out.trans HST.out, HI9.out, HE8.out.1, HE8.out.2.1, HE8.out.2.2⟩
       ·
        go_simp
        go_at_call 27
        refine EXP.out.mono ?_
        rintro e w4 ⟨A6, c6, rfl, hst6, k6⟩
        try rw [exp_len] at hst6
        have K4 : Keep noneOf wr w4 := KN.trans k6 (fun _ _ h => h)
        have WT := HWITH.out w4 _ K4 (hst6.mono (fun i _ h => .inr (by have h1 := HZ2.out.lt; have h2 := HK7.out.size; have h3 := KN.size; omega)))
        try rw [exp_len] at WT
        replace WT := Lib.hid WT
        clear k6
        go_wp2_with fail
        refine hK.out _ _ (K4.wide) (fun hHeld => ?_)
        clear hK K
        try simp only [Act.put, zga, zgb, zgc, zgd, zge, zgf]
        refine wpAnyH_ready (rs := [0]) (by kernel_rfl) (by simp) (AllReadyH.cons rfl (fun K hK => ?_) AllReadyH.nil)
        go_simp
        obtain ⟨x0, x1, x2, x3, x4, x5⟩ := (HX7.out.keep K4 (fun h => h)).six
        go_simp
        refine hK.out _ _ (K4.wide) (fun hHeld => ?_)
        clear hK K
        try simp only [Act.put, zga, zgb, zgc, zgd, zge, zgf]
        clear x0 x1 x2 x3 x4 x5
        refine wpAnyH_ready (rs := [11]) (by kernel_rfl) (by simp) (AllReadyH.cons rfl (fun K hK => ?_) AllReadyH.nil)
        go_simp
        go_at_call 26
        try rw [exp_len]
        refine WT.out.mono ?_
        rintro e w5 ⟨im8, rfl, hp8, hl8, k8⟩
        obtain ⟨F1, d1, F2, d2, F3, d3, e1, e2, e3⟩ := hl8.shapes
        have K5 : Keep noneOf wr w5 := K4.trans k8 (fun _ _ h => h)
        have HI8 := Lib.hid hl8
        have HP8 := Lib.hid hp8
        have HE8 := Lib.hid (And.intro e1 (And.intro e2 e3))
        unfold Im.agg
        rw [e1, e2, e3]
        clear WT k8 hp8 hl8 e1 e2 e3
        go_wp2_with fail
        refine hK.out _ _ (K5.wide) (fun hHeld => ?_)
        clear hK K
        try simp only [Act.put, zga, zgb, zgc, zgd, zge, zgf]
        have HX8 := Lib.hid (HX7.out.keep K5 (fun h => h))
        obtain ⟨x0, x1, x2, x3, x4, x5⟩ := HX8.out.six
        obtain ⟨fx0, fx1, fx2, fx3, fx4, fx5⟩ := HX8.out.free6
        have HX9 := HX8.out.put6 (.int .u64 im8.now) (.int .u64 im8.ng) (.int .u64 im8.nt) (.slice F1 im8.ses.length d1) (.slice F2 im8.gs.length d2) (.slice F3 im8.built.length d3)
        have K89 := (Keep.refl (fun b => b = p) w5).put6 (b := p) (fun _ => rfl) (.int .u64 im8.now) (.int .u64 im8.ng) (.int .u64 im8.nt) (.slice F1 im8.ses.length d1) (.slice F2 im8.gs.length d2) (.slice F3 im8.built.length d3)
        have K9 := (K5.wide (S := fun b => b = p)).trans K89 (fun _ _ h => h)
        have HI9 := Lib.hid (HI8.out.keep K89 (fun i _ hd e => by omega))
        dsimp only [sixPut] at HX9 K9 HI9
        clear K89
        refine wpAnyH_ready (rs := [12]) (by kernel_rfl) (by simp) (AllReadyH.cons rfl (fun K hK => ?_) AllReadyH.nil)
        go_simp
        refine hK.out _ _ (K9) (fun hHeld => ?_)
        clear hK K
        try simp only [Act.put, zga, zgb, zgc, zgd, zge, zgf]
        refine wpAnyH_done (by kernel_rfl) ?_ _
        generalize ((((((w5.setCell ⟨p, 0, none⟩ (.int .u64 im8.now)).setCell ⟨p, 1, none⟩ (.int .u64 im8.ng)).setCell ⟨p, 2, none⟩ (.int .u64 im8.nt)).setCell ⟨p, 3, none⟩ (.slice F1 im8.ses.length d1)).setCell ⟨p, 4, none⟩ (.slice F2 im8.gs.length d2)).setCell ⟨p, 5, none⟩ (.slice F3 im8.built.length d3)) = w8 at *
        clear x0 x1 x2 x3 x4 x5 fx0 fx1 fx2 fx3 fx4 fx5
        go_wp2_with fail
        go_meet
        exact ⟨rfl, im8, F1, d1, F2, d2, F3, d3, K9, HX9, HP8.out.trans HST.out, HI9.out, HE8.out.1, HE8.out.2.1, HE8.out.2.2⟩
     case rest =>
      obtain ⟨rfl, im8, F1, d1, F2, d2, F3, d3, k8, hx8, hp8, hl8, e1, e2, e3⟩ := hcut
      have K78 := HK7.out.trans k8 (fun _ _ h => h)
      have HALL := Lib.hid (And.intro K78 (And.intro hx8 (And.intro hp8 (And.intro hl8 (And.intro e1 (And.intro e2 e3))))))
      clear K78 hx8 hp8 hl8 e1 e2 e3 k8
      go_wp2_with fail
      go_roundg g2
      case measure => omega
      case rel => exact ⟨k + 1, im8, F1, d1, F2, d2, F3, d3, by omega, by go_num, HALL.out⟩
 ·
  have hb7 : (c.kind == 7) = false := beq_eq_false_iff_ne.2 h7
  by_cases h1 : c.kind = 1
  ·
   have HRD : Hid (applyP im.plain c.plain = ({ im.plain with ses := openL im.ses c.ses }, .err (openE im.ses c.ses))) := Lib.hid (by
    unfold applyP
    rw [if_neg (show ¬ c.plain.kind = 7 from h7), if_pos (show c.plain.kind = 1 from h1)]
    rfl)
   have OP := Lib.hid (refOpen_any w1 _ _ im.ses c.ses HSS.out HI.out.sesFew)
   rw [h1] at m0 hb7
   have m1 := HC.out.cell 1
   have x3 := HX.out.cell 3
   clear h1 h7
   go_wp2_with fail
   refine OP.out.mono ?_
   rintro e w2 ⟨v', rfl, hv', k2⟩
   obtain ⟨A4, c4, rfl⟩ := hv'.shape
   obtain ⟨SL, hSL⟩ : ∃ SL, openL im.ses c.ses = SL := ⟨_, rfl⟩
   obtain ⟨E, hE⟩ : ∃ E, openE im.ses c.ses = E := ⟨_, rfl⟩
   rw [hSL] at hv' HRD ⊢
   rw [hE] at HRD ⊢
   have HV := Lib.hid hv'
   have HK2 := Lib.hid k2
   have HX2 := Lib.hid (HX.out.keep k2 (fun h => h))
   clear OP m0 m1 x3 hv' k2 hSL hE hb7
   have x3 := HX2.out.cell 3
   have f3 := HX2.out.free 3
   go_upto_region 13 with fail
   have HX3 := Lib.hid (HX2.out.put 3 (.slice A4 SL.length c4))
   have K23 := (Keep.refl (fun b => b = p) w2).setCell (p := ⟨p, 3, none⟩) (fun _ => rfl) (.slice A4 SL.length c4)
   have HK3 := Lib.hid ((HK2.out.wide (S := fun b => b = p)).trans K23 (fun _ _ h => h))
   have HV3 := Lib.hid (HV.out.keep K23 (fun i _ hd e => by have := HZ.out.lt; omega))
   clear x3 f3 HX2 HV K23
   generalize w2.setCell ⟨p, 3, none⟩ (.slice A4 SL.length c4) = w3 at *
   obtain ⟨x0, x1, x2, x3, x4, x5⟩ := HX3.out.six
   have HKW := Lib.hid (HKA.out.trans HK3.out (fun i hi e => by have := HPS.out; omega))
   have HPB : Hid (w.heap.size ≤ p + 1) := Lib.hid (by have := HPS.out; omega)
   have HYW := Lib.hid (HY.out.keep HK3.out (by omega))
   have HZW := Lib.hid (HZ.out.keep HK3.out (by omega))
   obtain ⟨y0, y1, y2, y3, y4, y5⟩ := HYW.out.six
   obtain ⟨fy0, fy1, fy2, fy3, fy4, fy5⟩ := HYW.out.free6
   obtain ⟨z0, z1, z2, z3, z4, z5⟩ := HZW.out.six
   obtain ⟨fz0, fz1, fz2, fz3, fz4, fz5⟩ := HZW.out.free6
   go_wp2
   have HY6 := HYW.out.put6 (.int .u64 im.now) (.int .u64 im.ng) (.int .u64 im.nt) (.slice A4 SL.length c4) (.slice A2 im.gs.length a2) (.slice A3 im.built.length a3)
   have HZ5 := HZW.out.far6 (b := (p + 1 + 1)) (by omega) (.int .u64 im.now) (.int .u64 im.ng) (.int .u64 im.nt) (.slice A4 SL.length c4) (.slice A2 im.gs.length a2) (.slice A3 im.built.length a3)
   have HZ6 := HZ5.put6 (.int .i64 E) (.int .u64 0) (.int .u64 0) (.int .u64 0) (.string ⟨#[]⟩) (.string ⟨#[]⟩)
   have HY7 := HY6.far6 (b := (p + 1 + 1 + 1)) (by omega) (.int .i64 E) (.int .u64 0) (.int .u64 0) (.int .u64 0) (.string ⟨#[]⟩) (.string ⟨#[]⟩)
   have KK : Keep noneOf w (sixPut (sixPut w3 (p + 1 + 1) (.int .u64 im.now) (.int .u64 im.ng) (.int .u64 im.nt) (.slice A4 SL.length c4) (.slice A2 im.gs.length a2) (.slice A3 im.built.length a3)) (p + 1 + 1 + 1) (.int .i64 E) (.int .u64 0) (.int .u64 0) (.int .u64 0) (.string ⟨#[]⟩) (.string ⟨#[]⟩)) := by
    have KW := HKW.out
    have hb := HPB.out
    exact (KW.put6 (b := (p + 1 + 1)) (fun h => absurd h (by omega)) (.int .u64 im.now) (.int .u64 im.ng) (.int .u64 im.nt) (.slice A4 SL.length c4) (.slice A2 im.gs.length a2) (.slice A3 im.built.length a3)).put6 (b := (p + 1 + 1 + 1)) (fun h => absurd h (by omega)) (.int .i64 E) (.int .u64 0) (.int .u64 0) (.int .u64 0) (.string ⟨#[]⟩) (.string ⟨#[]⟩)
   have HFIN : RefIm2 M (applyP im.plain c.plain) w (.returned (.tuple #[.agg #[.int .u64 im.now, .int .u64 im.ng, .int .u64 im.nt, .slice A4 SL.length c4, .slice A2 im.gs.length a2, .slice A3 im.built.length a3], .agg #[.int .i64 E, .int .u64 0, .int .u64 0, .int .u64 0, .string ⟨#[]⟩, .string ⟨#[]⟩]])) (sixPut (sixPut w3 (p + 1 + 1) (.int .u64 im.now) (.int .u64 im.ng) (.int .u64 im.nt) (.slice A4 SL.length c4) (.slice A2 im.gs.length a2) (.slice A3 im.built.length a3)) (p + 1 + 1 + 1) (.int .i64 E) (.int .u64 0) (.int .u64 0) (.int .u64 0) (.string ⟨#[]⟩) (.string ⟨#[]⟩)) := by 
    rw [HRD.out]
    have KF := ((Keep.refl (fun b => b = p + 1 + 1 ∨ b = p + 1 + 1 + 1) w3).put6 (b := p + 1 + 1) (fun _ => .inl rfl) (.int .u64 im.now) (.int .u64 im.ng) (.int .u64 im.nt) (.slice A4 SL.length c4) (.slice A2 im.gs.length a2) (.slice A3 im.built.length a3)).put6 (b := p + 1 + 1 + 1) (fun _ => .inr rfl) (.int .i64 E) (.int .u64 0) (.int .u64 0) (.int .u64 0) (.string ⟨#[]⟩) (.string ⟨#[]⟩)
    have hl := HL.out.keep KK (fun _ _ _ h => h)
    refine ⟨{ im with sv := .slice A4 SL.length c4, ses := SL }, ?_, rfl, ⟨?_, hl.gs, hl.built⟩, KK⟩
    ·
     unfold Im.agg An.agg
     dsimp only
     rw [HE.out.2.1, HE.out.2.2]
     rfl
    ·
     exact (HV3.out.keep KF (fun i _ hd e => by have := HZ.out.lt; omega)).mono (fun i _ hd => hd.elim (fun h => h.2) (fun h => HMN.out i (by have := HPS.out; have := HZ.out.lt; omega)))
   dsimp only [sixPut] at HZ6 HY7 HFIN
   obtain ⟨r0, r1, r2, r3, r4, r5⟩ := HY7.six
   obtain ⟨s0, s1, s2, s3, s4, s5⟩ := HZ6.six
   exact bodyPost_ret (v := .tuple #[.agg #[.int .u64 im.now, .int .u64 im.ng, .int .u64 im.nt, .slice A4 SL.length c4, .slice A2 im.gs.length a2, .slice A3 im.built.length a3], .agg #[.int .i64 E, .int .u64 0, .int .u64 0, .int .u64 0, .string ⟨#[]⟩, .string ⟨#[]⟩]]) (by simp [results, Tryz.results10, go_sem, r0, r1, r2, r3, r4, r5, s0, s1, s2, s3, s4, s5]) rfl HFIN
  ·
   have hb1 : (c.kind == 1) = false := beq_eq_false_iff_ne.2 h1
   by_cases hlo : c.kind < 2
   ·
    have HRD : Hid (applyP im.plain c.plain = (im.plain, .err 1)) := Lib.hid (by
     unfold applyP
     rw [if_neg (show ¬ c.plain.kind = 7 from h7), if_neg (show ¬ c.plain.kind = 1 from h1), if_pos (show c.plain.kind < 2 ∨ 6 < c.plain.kind from .inl hlo)])
    obtain ⟨x0, x1, x2, x3, x4, x5⟩ := HX.out.six
    have HKW := Lib.hid (HKA.out)
    have HPB : Hid (w.heap.size ≤ p + 1) := Lib.hid (by have := HPS.out; omega)
    have HYW := Lib.hid HY.out
    have HZW := Lib.hid HZ.out
    obtain ⟨y0, y1, y2, y3, y4, y5⟩ := HYW.out.six
    obtain ⟨fy0, fy1, fy2, fy3, fy4, fy5⟩ := HYW.out.free6
    obtain ⟨z0, z1, z2, z3, z4, z5⟩ := HZW.out.six
    obtain ⟨fz0, fz1, fz2, fz3, fz4, fz5⟩ := HZW.out.free6
    go_wp2
    have HY6 := HYW.out.put6 (.int .u64 im.now) (.int .u64 im.ng) (.int .u64 im.nt) (.slice A1 im.ses.length a1) (.slice A2 im.gs.length a2) (.slice A3 im.built.length a3)
    have HZ5 := HZW.out.far6 (b := (p + 1 + 1)) (by omega) (.int .u64 im.now) (.int .u64 im.ng) (.int .u64 im.nt) (.slice A1 im.ses.length a1) (.slice A2 im.gs.length a2) (.slice A3 im.built.length a3)
    have HZ6 := HZ5.put6 (.int .i64 1) (.int .u64 0) (.int .u64 0) (.int .u64 0) (.string ⟨#[]⟩) (.string ⟨#[]⟩)
    have HY7 := HY6.far6 (b := (p + 1 + 1 + 1)) (by omega) (.int .i64 1) (.int .u64 0) (.int .u64 0) (.int .u64 0) (.string ⟨#[]⟩) (.string ⟨#[]⟩)
    have KK : Keep noneOf w (sixPut (sixPut w1 (p + 1 + 1) (.int .u64 im.now) (.int .u64 im.ng) (.int .u64 im.nt) (.slice A1 im.ses.length a1) (.slice A2 im.gs.length a2) (.slice A3 im.built.length a3)) (p + 1 + 1 + 1) (.int .i64 1) (.int .u64 0) (.int .u64 0) (.int .u64 0) (.string ⟨#[]⟩) (.string ⟨#[]⟩)) := by
     have KW := HKW.out
     have hb := HPB.out
     exact (KW.put6 (b := (p + 1 + 1)) (fun h => absurd h (by omega)) (.int .u64 im.now) (.int .u64 im.ng) (.int .u64 im.nt) (.slice A1 im.ses.length a1) (.slice A2 im.gs.length a2) (.slice A3 im.built.length a3)).put6 (b := (p + 1 + 1 + 1)) (fun h => absurd h (by omega)) (.int .i64 1) (.int .u64 0) (.int .u64 0) (.int .u64 0) (.string ⟨#[]⟩) (.string ⟨#[]⟩)
    have HFIN : RefIm2 M (applyP im.plain c.plain) w (.returned (.tuple #[.agg #[.int .u64 im.now, .int .u64 im.ng, .int .u64 im.nt, .slice A1 im.ses.length a1, .slice A2 im.gs.length a2, .slice A3 im.built.length a3], .agg #[.int .i64 1, .int .u64 0, .int .u64 0, .int .u64 0, .string ⟨#[]⟩, .string ⟨#[]⟩]])) (sixPut (sixPut w1 (p + 1 + 1) (.int .u64 im.now) (.int .u64 im.ng) (.int .u64 im.nt) (.slice A1 im.ses.length a1) (.slice A2 im.gs.length a2) (.slice A3 im.built.length a3)) (p + 1 + 1 + 1) (.int .i64 1) (.int .u64 0) (.int .u64 0) (.int .u64 0) (.string ⟨#[]⟩) (.string ⟨#[]⟩)) := by rw [HRD.out, ← HAGG.out]; exact refim2_ret rfl (HL.out.keep KK (fun _ _ _ h => h)) KK
    dsimp only [sixPut] at HZ6 HY7 HFIN
    obtain ⟨r0, r1, r2, r3, r4, r5⟩ := HY7.six
    obtain ⟨s0, s1, s2, s3, s4, s5⟩ := HZ6.six
    exact bodyPost_ret (v := .tuple #[.agg #[.int .u64 im.now, .int .u64 im.ng, .int .u64 im.nt, .slice A1 im.ses.length a1, .slice A2 im.gs.length a2, .slice A3 im.built.length a3], .agg #[.int .i64 1, .int .u64 0, .int .u64 0, .int .u64 0, .string ⟨#[]⟩, .string ⟨#[]⟩]]) (by simp [results, Tryz.results10, go_sem, r0, r1, r2, r3, r4, r5, s0, s1, s2, s3, s4, s5]) rfl HFIN
   ·
    by_cases hhi : 6 < c.kind
    ·
     have HRD : Hid (applyP im.plain c.plain = (im.plain, .err 1)) := Lib.hid (by
      unfold applyP
      rw [if_neg (show ¬ c.plain.kind = 7 from h7), if_neg (show ¬ c.plain.kind = 1 from h1), if_pos (show c.plain.kind < 2 ∨ 6 < c.plain.kind from .inr hhi)])
     obtain ⟨x0, x1, x2, x3, x4, x5⟩ := HX.out.six
     have HKW := Lib.hid (HKA.out)
     have HPB : Hid (w.heap.size ≤ p + 1) := Lib.hid (by have := HPS.out; omega)
     have HYW := Lib.hid HY.out
     have HZW := Lib.hid HZ.out
     obtain ⟨y0, y1, y2, y3, y4, y5⟩ := HYW.out.six
     obtain ⟨fy0, fy1, fy2, fy3, fy4, fy5⟩ := HYW.out.free6
     obtain ⟨z0, z1, z2, z3, z4, z5⟩ := HZW.out.six
     obtain ⟨fz0, fz1, fz2, fz3, fz4, fz5⟩ := HZW.out.free6
     go_wp2
     have HY6 := HYW.out.put6 (.int .u64 im.now) (.int .u64 im.ng) (.int .u64 im.nt) (.slice A1 im.ses.length a1) (.slice A2 im.gs.length a2) (.slice A3 im.built.length a3)
     have HZ5 := HZW.out.far6 (b := (p + 1 + 1)) (by omega) (.int .u64 im.now) (.int .u64 im.ng) (.int .u64 im.nt) (.slice A1 im.ses.length a1) (.slice A2 im.gs.length a2) (.slice A3 im.built.length a3)
     have HZ6 := HZ5.put6 (.int .i64 1) (.int .u64 0) (.int .u64 0) (.int .u64 0) (.string ⟨#[]⟩) (.string ⟨#[]⟩)
     have HY7 := HY6.far6 (b := (p + 1 + 1 + 1)) (by omega) (.int .i64 1) (.int .u64 0) (.int .u64 0) (.int .u64 0) (.string ⟨#[]⟩) (.string ⟨#[]⟩)
     have KK : Keep noneOf w (sixPut (sixPut w1 (p + 1 + 1) (.int .u64 im.now) (.int .u64 im.ng) (.int .u64 im.nt) (.slice A1 im.ses.length a1) (.slice A2 im.gs.length a2) (.slice A3 im.built.length a3)) (p + 1 + 1 + 1) (.int .i64 1) (.int .u64 0) (.int .u64 0) (.int .u64 0) (.string ⟨#[]⟩) (.string ⟨#[]⟩)) := by
      have KW := HKW.out
      have hb := HPB.out
      exact (KW.put6 (b := (p + 1 + 1)) (fun h => absurd h (by omega)) (.int .u64 im.now) (.int .u64 im.ng) (.int .u64 im.nt) (.slice A1 im.ses.length a1) (.slice A2 im.gs.length a2) (.slice A3 im.built.length a3)).put6 (b := (p + 1 + 1 + 1)) (fun h => absurd h (by omega)) (.int .i64 1) (.int .u64 0) (.int .u64 0) (.int .u64 0) (.string ⟨#[]⟩) (.string ⟨#[]⟩)
     have HFIN : RefIm2 M (applyP im.plain c.plain) w (.returned (.tuple #[.agg #[.int .u64 im.now, .int .u64 im.ng, .int .u64 im.nt, .slice A1 im.ses.length a1, .slice A2 im.gs.length a2, .slice A3 im.built.length a3], .agg #[.int .i64 1, .int .u64 0, .int .u64 0, .int .u64 0, .string ⟨#[]⟩, .string ⟨#[]⟩]])) (sixPut (sixPut w1 (p + 1 + 1) (.int .u64 im.now) (.int .u64 im.ng) (.int .u64 im.nt) (.slice A1 im.ses.length a1) (.slice A2 im.gs.length a2) (.slice A3 im.built.length a3)) (p + 1 + 1 + 1) (.int .i64 1) (.int .u64 0) (.int .u64 0) (.int .u64 0) (.string ⟨#[]⟩) (.string ⟨#[]⟩)) := by rw [HRD.out, ← HAGG.out]; exact refim2_ret rfl (HL.out.keep KK (fun _ _ _ h => h)) KK
     dsimp only [sixPut] at HZ6 HY7 HFIN
     obtain ⟨r0, r1, r2, r3, r4, r5⟩ := HY7.six
     obtain ⟨s0, s1, s2, s3, s4, s5⟩ := HZ6.six
     exact bodyPost_ret (v := .tuple #[.agg #[.int .u64 im.now, .int .u64 im.ng, .int .u64 im.nt, .slice A1 im.ses.length a1, .slice A2 im.gs.length a2, .slice A3 im.built.length a3], .agg #[.int .i64 1, .int .u64 0, .int .u64 0, .int .u64 0, .string ⟨#[]⟩, .string ⟨#[]⟩]]) (by simp [results, Tryz.results10, go_sem, r0, r1, r2, r3, r4, r5, s0, s1, s2, s3, s4, s5]) rfl HFIN
    ·
     have LK := refLook_any w1 _ _ im.ses c.ses c.seq HSS.out
     obtain ⟨L, hL⟩ : ∃ L, lookA im.ses c.ses c.seq = L := ⟨_, rfl⟩
     obtain ⟨B, hB⟩ : ∃ B, lookB im.ses c.ses c.seq = B := ⟨_, rfl⟩
     obtain ⟨E, hE⟩ : ∃ E, lookE im.ses c.ses c.seq = E := ⟨_, rfl⟩
     have HRD : Hid (applyP im.plain c.plain = if E ≠ 0 then (im.plain, .err E) else if B = true then (im.plain, L) else ({ (doneP im.plain c.plain).1 with ses := keepL im.ses c.ses c.seq (doneP im.plain c.plain).2 }, (doneP im.plain c.plain).2)) := Lib.hid (by
      unfold applyP
      rw [if_neg (show ¬ c.plain.kind = 7 from h7), if_neg (show ¬ c.plain.kind = 1 from h1), if_neg (show ¬ (c.plain.kind < 2 ∨ 6 < c.plain.kind) from fun h => h.elim hlo hhi), ← hL, ← hB, ← hE]
      rfl)
     rw [hL, hB, hE] at LK
     obtain ⟨y0, y1, y2, y3, y4, y5⟩ := L
     unfold An.agg at LK
     dsimp only at LK
     replace LK := Lib.hid LK
     have HKD := Lib.hid (And.intro hlo hhi)
     have m1 := HC.out.cell 1
     have m2 := HC.out.cell 2
     have x3 := HX.out.cell 3
     clear hL hB hE
     go_wp2_with fail
     refine LK.out.mono ?_
     rintro e w2 ⟨rfl, k2⟩
     have HBL := Lib.hid (Box.new w2 40 #[.int .i64 y0, .int .u64 y1, .int .u64 y2, .int .u64 y3, .string y4, .string y5])
     have k3 := k2.alloc (.cells #[.int .i64 y0, .int .u64 y1, .int .u64 y2, .int .u64 y3, .string y4, .string y5] 40)
     have HK3 := Lib.hid k3
     have HPA : Hid (p + 1 + 1 + 1 < w2.heap.size) := Lib.hid (by have h1 := HZ.out.lt; have h2 := k2.size; omega)
     clear LK m1 m2 x3 k2 k3 m0 h7 h1 hlo hhi hb7 hb1
     go_upto_region 17 with fail
     generalize hw : w2.alloc (.cells #[.int .i64 y0, .int .u64 y1, .int .u64 y2, .int .u64 y3, .string y4, .string y5] 40) = w3 at *
     generalize hz : w2.heap.size = pa at *
     clear hw hz
     have HKW := Lib.hid (HKA.out.trans HK3.out (fun _ _ h => h))
     have HX3 := Lib.hid (HX.out.keep HK3.out (fun h => h))
     by_cases hE : E = 0
     case neg =>
      rw [if_pos hE] at HRD
      have hEb : (E == 0) = false := beq_eq_false_iff_ne.2 hE
      obtain ⟨x0, x1, x2, x3, x4, x5⟩ := HX3.out.six
      have HPB : Hid (w.heap.size ≤ p + 1) := Lib.hid (by have := HPS.out; omega)
      have HYW := Lib.hid (HY.out.keep HK3.out (fun h => h))
      have HZW := Lib.hid (HZ.out.keep HK3.out (fun h => h))
      obtain ⟨y0, y1, y2, y3, y4, y5⟩ := HYW.out.six
      obtain ⟨fy0, fy1, fy2, fy3, fy4, fy5⟩ := HYW.out.free6
      obtain ⟨z0, z1, z2, z3, z4, z5⟩ := HZW.out.six
      obtain ⟨fz0, fz1, fz2, fz3, fz4, fz5⟩ := HZW.out.free6
      go_wp2
      have HY6 := HYW.out.put6 (.int .u64 im.now) (.int .u64 im.ng) (.int .u64 im.nt) (.slice A1 im.ses.length a1) (.slice A2 im.gs.length a2) (.slice A3 im.built.length a3)
      have HZ5 := HZW.out.far6 (b := (p + 1 + 1)) (by omega) (.int .u64 im.now) (.int .u64 im.ng) (.int .u64 im.nt) (.slice A1 im.ses.length a1) (.slice A2 im.gs.length a2) (.slice A3 im.built.length a3)
      have HZ6 := HZ5.put6 (.int .i64 E) (.int .u64 0) (.int .u64 0) (.int .u64 0) (.string ⟨#[]⟩) (.string ⟨#[]⟩)
      have HY7 := HY6.far6 (b := (p + 1 + 1 + 1)) (by omega) (.int .i64 E) (.int .u64 0) (.int .u64 0) (.int .u64 0) (.string ⟨#[]⟩) (.string ⟨#[]⟩)
      have KK : Keep noneOf w (sixPut (sixPut w3 (p + 1 + 1) (.int .u64 im.now) (.int .u64 im.ng) (.int .u64 im.nt) (.slice A1 im.ses.length a1) (.slice A2 im.gs.length a2) (.slice A3 im.built.length a3)) (p + 1 + 1 + 1) (.int .i64 E) (.int .u64 0) (.int .u64 0) (.int .u64 0) (.string ⟨#[]⟩) (.string ⟨#[]⟩)) := by
       have KW := HKW.out
       have hb := HPB.out
       exact (KW.put6 (b := (p + 1 + 1)) (fun h => absurd h (by omega)) (.int .u64 im.now) (.int .u64 im.ng) (.int .u64 im.nt) (.slice A1 im.ses.length a1) (.slice A2 im.gs.length a2) (.slice A3 im.built.length a3)).put6 (b := (p + 1 + 1 + 1)) (fun h => absurd h (by omega)) (.int .i64 E) (.int .u64 0) (.int .u64 0) (.int .u64 0) (.string ⟨#[]⟩) (.string ⟨#[]⟩)
      have HFIN : RefIm2 M (applyP im.plain c.plain) w (.returned (.tuple #[.agg #[.int .u64 im.now, .int .u64 im.ng, .int .u64 im.nt, .slice A1 im.ses.length a1, .slice A2 im.gs.length a2, .slice A3 im.built.length a3], .agg #[.int .i64 E, .int .u64 0, .int .u64 0, .int .u64 0, .string ⟨#[]⟩, .string ⟨#[]⟩]])) (sixPut (sixPut w3 (p + 1 + 1) (.int .u64 im.now) (.int .u64 im.ng) (.int .u64 im.nt) (.slice A1 im.ses.length a1) (.slice A2 im.gs.length a2) (.slice A3 im.built.length a3)) (p + 1 + 1 + 1) (.int .i64 E) (.int .u64 0) (.int .u64 0) (.int .u64 0) (.string ⟨#[]⟩) (.string ⟨#[]⟩)) := by rw [HRD.out, ← HAGG.out]; exact refim2_ret rfl (HL.out.keep KK (fun _ _ _ h => h)) KK
      dsimp only [sixPut] at HZ6 HY7 HFIN
      obtain ⟨r0, r1, r2, r3, r4, r5⟩ := HY7.six
      obtain ⟨s0, s1, s2, s3, s4, s5⟩ := HZ6.six
      exact bodyPost_ret (v := .tuple #[.agg #[.int .u64 im.now, .int .u64 im.ng, .int .u64 im.nt, .slice A1 im.ses.length a1, .slice A2 im.gs.length a2, .slice A3 im.built.length a3], .agg #[.int .i64 E, .int .u64 0, .int .u64 0, .int .u64 0, .string ⟨#[]⟩, .string ⟨#[]⟩]]) (by simp [results, Tryz.results10, go_sem, r0, r1, r2, r3, r4, r5, s0, s1, s2, s3, s4, s5]) rfl HFIN
     subst hE
     rw [if_neg (by decide)] at HRD
     cases B with
     | true =>
      rw [if_pos rfl] at HRD
      have HYW := Lib.hid (HY.out.keep HK3.out (fun h => h))
      have HZW := Lib.hid (HZ.out.keep HK3.out (fun h => h))
      have MC : Hid (∀ w', Keep (fun b => b = p + 1 + 1 ∨ b = p + 1 + 1 + 1) w3 w' → (w'.cell? ⟨p, 0, none⟩ = some (.int .u64 im.now) ∧ w'.cell? ⟨p, 1, none⟩ = some (.int .u64 im.ng) ∧ w'.cell? ⟨p, 2, none⟩ = some (.int .u64 im.nt) ∧ w'.cell? ⟨p, 3, none⟩ = some (.slice A1 im.ses.length a1) ∧ w'.cell? ⟨p, 4, none⟩ = some (.slice A2 im.gs.length a2) ∧ w'.cell? ⟨p, 5, none⟩ = some (.slice A3 im.built.length a3)) ∧
        (w'.cell? ⟨pa, 0, none⟩ = some (.int .i64 y0) ∧ w'.cell? ⟨pa, 1, none⟩ = some (.int .u64 y1) ∧ w'.cell? ⟨pa, 2, none⟩ = some (.int .u64 y2) ∧ w'.cell? ⟨pa, 3, none⟩ = some (.int .u64 y3) ∧ w'.cell? ⟨pa, 4, none⟩ = some (.string y4) ∧ w'.cell? ⟨pa, 5, none⟩ = some (.string y5))) := Lib.hid fun w' k' =>
       ⟨(HX3.out.keep k' (by omega)).six, (HBL.out.keep k' (by have := HPA.out; omega)).six⟩
      have KZ9 := (Keep.refl (fun b => b = p + 1 + 1 ∨ b = p + 1 + 1 + 1) w3).drew
      have KN9 := (Keep.refl noneOf w3).drew
      go_upto_region 20 with fail
      refine wp_region_held_drew (S := fun w' => Keep (fun b => b = p + 1 + 1 ∨ b = p + 1 + 1 + 1) w3 w') (by kernel_rfl) (KZ9) (fun hHeld => ?_)
      refine' ztk 0 _ rfl (.inl ⟨by kernel_rfl, ?hy0⟩) ?_
      case hy0 => intro w' hSw; obtain ⟨⟨_, _, _, _, _, _⟩, ⟨_, _, _, _, _, _⟩⟩ := MC.out w' hSw; go_simp; try with_reducible rfl
      simp only [Act.put, zga, zgb, zgc, zgd, zge, zgf]
      refine' ztk 1 _ rfl (.inl ⟨by kernel_rfl, ?hy1⟩) ?_
      case hy1 => intro w' hSw; obtain ⟨⟨_, _, _, _, _, _⟩, ⟨_, _, _, _, _, _⟩⟩ := MC.out w' hSw; go_simp; try with_reducible rfl
      simp only [Act.put, zga, zgb, zgc, zgd, zge, zgf]
      generalize w3.drew = wz at *
      have HYD := Lib.hid (HYW.out.keep KN9 (fun h => h))
      have HZD := Lib.hid (HZW.out.keep KN9 (fun h => h))
      obtain ⟨y0, y1, y2, y3, y4, y5⟩ := HYD.out.six
      obtain ⟨fy0, fy1, fy2, fy3, fy4, fy5⟩ := HYD.out.free6
      have HYV := Lib.hid (HYD.out.put6 (.int .u64 im.now) (.int .u64 im.ng) (.int .u64 im.nt) (.slice A1 im.ses.length a1) (.slice A2 im.gs.length a2) (.slice A3 im.built.length a3))
      have HZV := Lib.hid (HZD.out.far6 (b := p + 1 + 1) (by omega) (.int .u64 im.now) (.int .u64 im.ng) (.int .u64 im.nt) (.slice A1 im.ses.length a1) (.slice A2 im.gs.length a2) (.slice A3 im.built.length a3))
      have KY7 := (Keep.refl (fun b => b = p + 1 + 1 ∨ b = p + 1 + 1 + 1) wz).put6 (b := p + 1 + 1) (fun _ => .inl rfl) (.int .u64 im.now) (.int .u64 im.ng) (.int .u64 im.nt) (.slice A1 im.ses.length a1) (.slice A2 im.gs.length a2) (.slice A3 im.built.length a3)
      have KY := (KZ9).trans KY7 (fun _ _ h => h)
      dsimp only [sixPut] at HYV HZV KY KY7
      refine wpAnyH_ready (rs := [2]) (by kernel_rfl) (by simp) (AllReadyH.cons rfl (fun K hK => ?_) AllReadyH.nil)
      go_simp
      refine hK.out _ _ (KY) (fun hHeld => ?_)
      clear hK K
      try simp only [Act.put, zga, zgb, zgc, zgd, zge, zgf]
      generalize ((((((wz.setCell ⟨p + 1 + 1, 0, none⟩ (.int .u64 im.now)).setCell ⟨p + 1 + 1, 1, none⟩ (.int .u64 im.ng)).setCell ⟨p + 1 + 1, 2, none⟩ (.int .u64 im.nt)).setCell ⟨p + 1 + 1, 3, none⟩ (.slice A1 im.ses.length a1)).setCell ⟨p + 1 + 1, 4, none⟩ (.slice A2 im.gs.length a2)).setCell ⟨p + 1 + 1, 5, none⟩ (.slice A3 im.built.length a3)) = wy at *
      clear y0 y1 y2 y3 y4 y5 fy0 fy1 fy2 fy3 fy4 fy5 HYD HZD
      obtain ⟨z0, z1, z2, z3, z4, z5⟩ := HZV.out.six
      obtain ⟨fz0, fz1, fz2, fz3, fz4, fz5⟩ := HZV.out.free6
      have HZA := Lib.hid (HZV.out.put6 (.int .i64 y0) (.int .u64 y1) (.int .u64 y2) (.int .u64 y3) (.string y4) (.string y5))
      have HYA := Lib.hid (HYV.out.far6 (b := p + 1 + 1 + 1) (by omega) (.int .i64 y0) (.int .u64 y1) (.int .u64 y2) (.int .u64 y3) (.string y4) (.string y5))
      have KA7 := KY7.put6 (b := p + 1 + 1 + 1) (fun _ => .inr rfl) (.int .i64 y0) (.int .u64 y1) (.int .u64 y2) (.int .u64 y3) (.string y4) (.string y5)
      have KA := KY.put6 (b := p + 1 + 1 + 1) (fun _ => .inr rfl) (.int .i64 y0) (.int .u64 y1) (.int .u64 y2) (.int .u64 y3) (.string y4) (.string y5)
      dsimp only [sixPut] at HZA HYA KA KA7
      refine wpAnyH_ready (rs := [3]) (by kernel_rfl) (by simp) (AllReadyH.cons rfl (fun K hK => ?_) AllReadyH.nil)
      go_simp
      refine hK.out _ _ (KA) (fun hHeld => ?_)
      clear hK K
      try simp only [Act.put, zga, zgb, zgc, zgd, zge, zgf]
      refine wpAnyH_done (by kernel_rfl) ?_ _
      generalize ((((((wy.setCell ⟨p + 1 + 1 + 1, 0, none⟩ (.int .i64 y0)).setCell ⟨p + 1 + 1 + 1, 1, none⟩ (.int .u64 y1)).setCell ⟨p + 1 + 1 + 1, 2, none⟩ (.int .u64 y2)).setCell ⟨p + 1 + 1 + 1, 3, none⟩ (.int .u64 y3)).setCell ⟨p + 1 + 1 + 1, 4, none⟩ (.string y4)).setCell ⟨p + 1 + 1 + 1, 5, none⟩ (.string y5)) = wf at *
      clear z0 z1 z2 z3 z4 z5 fz0 fz1 fz2 fz3 fz4 fz5 HYV HZV KY KY7 MC HYW HZW
      have HFIN : Hid (RefIm2 M (applyP im.plain c.plain) w (.returned (.tuple #[.agg #[.int .u64 im.now, .int .u64 im.ng, .int .u64 im.nt, .slice A1 im.ses.length a1, .slice A2 im.gs.length a2, .slice A3 im.built.length a3], .agg #[.int .i64 y0, .int .u64 y1, .int .u64 y2, .int .u64 y3, .string y4, .string y5]])) wf) := Lib.hid (by
       have kk : Keep noneOf w wf := HKW.out.trans KA (fun i hi e => by have := HPS.out; omega)
       rw [HRD.out, ← HAGG.out]
       exact refim2_ret (R := (im.plain, ⟨y0, y1, y2, y3, y4, y5⟩)) rfl (HL.out.keep kk (fun _ _ _ h => h)) kk)
      clear KA KA7
      go_wp2
      obtain ⟨r0, r1, r2, r3, r4, r5⟩ := HYA.out.six
      obtain ⟨s0, s1, s2, s3, s4, s5⟩ := HZA.out.six
      exact bodyPost_ret (v := .tuple #[.agg #[.int .u64 im.now, .int .u64 im.ng, .int .u64 im.nt, .slice A1 im.ses.length a1, .slice A2 im.gs.length a2, .slice A3 im.built.length a3], .agg #[.int .i64 y0, .int .u64 y1, .int .u64 y2, .int .u64 y3, .string y4, .string y5]]) (by simp [results, Tryz.results10, go_sem, r0, r1, r2, r3, r4, r5, s0, s1, s2, s3, s4, s5]) rfl HFIN.out
     | false =>
      rw [if_neg (by decide)] at HRD
      have HSAME : Hid ((doneP im.plain c.plain).1.ses = im.ses) := Lib.hid (done_same im.plain c.plain).2.1
      have HIM3 : Hid (im.lies w3 (fun i => (i < p ∧ M i) ∨ pa < i)) := Lib.hid ((HL.out.mono (fun i hi hm => .inl ⟨by have := HPS.out; omega, hm⟩)).keep HKW.out (fun _ _ _ h => h))
      have HCL3 : Hid (c.lies w3 (fun i => (i < p ∧ M i) ∨ pa < i)) := Lib.hid ((HCL.out.monoR (fun i hi hm => .inl ⟨by have := HPS.out; omega, hm⟩)).keep HKW.out (fun _ _ _ h => h))
      have HM3 : Hid (∀ i, w3.heap.size ≤ i → (i < p ∧ M i) ∨ pa < i) := Lib.hid fun i hi => .inr (by have := HBL.out.lt; omega)
      have HC3 := Lib.hid (HC.out.keep HK3.out (fun h => h))
      have HYW := Lib.hid (HY.out.keep HK3.out (fun h => h))
      have HZW := Lib.hid (HZ.out.keep HK3.out (fun h => h))
      obtain ⟨R, hR⟩ : ∃ R, doneP im.plain c.plain = R := ⟨_, rfl⟩
      rw [hR] at HRD HSAME
      have HR := Lib.hid hR
      clear hR
      obtain ⟨Q, n0, n1, n2, n3, n4, n5⟩ := R
      dsimp only at HRD HSAME
      obtain ⟨KL, hKL⟩ : ∃ KL, keepL im.ses c.ses c.seq ⟨n0, n1, n2, n3, n4, n5⟩ = KL := ⟨_, rfl⟩
      rw [hKL] at HRD
      have HKL := Lib.hid hKL
      clear hKL
      have m0 := HC3.out.cell 0
      go_upto_block 2 with fail
      go_cut [10] (fun s wx => s = .bool false ∧ ∃ (im4 : Im) (F1 : Option Addr) (d1 : Nat) (F2 : Option Addr) (d2 : Nat) (F3 : Option Addr) (d3 : Nat), Keep (fun b => b = p ∨ b = pa) w3 wx ∧ Box wx p 30 #[.int .u64 im4.now, .int .u64 im4.ng, .int .u64 im4.nt, .slice F1 im.ses.length d1, .slice F2 im4.gs.length d2, .slice F3 im4.built.length d3] ∧ Box wx pa 40 #[.int .i64 n0, .int .u64 n1, .int .u64 n2, .int .u64 n3, .string n4, .string n5] ∧ im4.plain = Q ∧ im4.lies wx (fun i => (i < p ∧ M i) ∨ pa < i) ∧ im4.sv = .slice F1 im.ses.length d1 ∧ im4.gv = .slice F2 im4.gs.length d2 ∧ im4.bv = .slice F3 im4.built.length d3)
      case first =>
       have hk26 : c.kind = 2 ∨ c.kind = 3 ∨ c.kind = 4 ∨ c.kind = 5 ∨ c.kind = 6 := by have := HKD.out; omega
       rcases hk26 with hk | hk | hk | hk | hk
       ·
        have hd : doneP im.plain c.plain = submitP im.plain c.plain := by
         unfold doneP
         rw [if_pos (show c.plain.kind = 2 from hk)]
        have CALL : Hid (Calls Tryz.prog 30 #[.agg #[.int .u64 im.now, .int .u64 im.ng, .int .u64 im.nt, .slice A1 im.ses.length a1, .slice A2 im.gs.length a2, .slice A3 im.built.length a3], .agg #[.int .i64 c.kind, .int .u64 c.ses, .int .u64 c.seq, .slice Ag c.ts.length cg, .int .u64 c.id, .int .u64 c.tok, .bool c.good, .int .u64 c.time]] w3 (RefIm2 (fun i => (i < p ∧ M i) ∨ pa < i) (Q, ⟨n0, n1, n2, n3, n4, n5⟩) w3)) := Lib.hid (by
         have h := rsubmit_any w3 _ HM3.out im HIM3.out HI.out c Ag cg HEG.out HCL3.out
         rw [← hd, HR.out, HAGG.out, HCA.out] at h
         exact h)
        have hb2 : (c.kind == 2) = true := beq_iff_eq.2 hk
        clear hd hk m0
        obtain ⟨x0, x1, x2, x3, x4, x5⟩ := HX3.out.six
        have m0 := HC3.out.cell 0
        have m1 := HC3.out.cell 1
        have m2 := HC3.out.cell 2
        have m3 := HC3.out.cell 3
        have m4 := HC3.out.cell 4
        have m5 := HC3.out.cell 5
        have m6 := HC3.out.cell 6
        have m7 := HC3.out.cell 7
        go_wp2_with fail
        refine CALL.out.mono ?_
        rintro e w4 ⟨im4, rfl, hp4, hl4, k4⟩
        obtain ⟨F1, d1, F2, d2, F3, d3, e1, e2, e3⟩ := hl4.shapes
        have hs4 : im4.ses = im.ses := (congrArg Qp.ses hp4).trans HSAME.out
        rw [hs4] at e1
        unfold Im.agg An.agg
        rw [e1, e2, e3]
        dsimp only
        have HP4 := Lib.hid hp4
        have HI4 := Lib.hid hl4
        have HE4 := Lib.hid (And.intro e1 (And.intro e2 e3))
        have HX4 := Lib.hid (HX3.out.keep k4 (fun h => h))
        have HB4 := Lib.hid (HBL.out.keep k4 (fun h => h))
        have HK4 := Lib.hid k4
        clear CALL m0 x0 x1 x2 x3 x4 x5 m1 m2 m3 m4 m5 m6 m7 k4 hp4 hl4 e1 e2 e3 hs4
        obtain ⟨x0, x1, x2, x3, x4, x5⟩ := HX4.out.six
        obtain ⟨fx0, fx1, fx2, fx3, fx4, fx5⟩ := HX4.out.free6
        obtain ⟨a0, a1', a2', a3', a4, a5⟩ := HB4.out.six
        obtain ⟨fa0, fa1, fa2, fa3, fa4, fa5⟩ := HB4.out.free6
        have hne1 : p ≠ pa := by have := HPA.out; omega
        have hne2 : pa ≠ p := fun e => hne1 e.symm
        go_wp2_with fail
        have HX5 := HX4.out.put6 (.int .u64 im4.now) (.int .u64 im4.ng) (.int .u64 im4.nt) (.slice F1 im.ses.length d1) (.slice F2 im4.gs.length d2) (.slice F3 im4.built.length d3)
        have HB5 := HB4.out.far6 (b := p) (by have := HPA.out; omega) (.int .u64 im4.now) (.int .u64 im4.ng) (.int .u64 im4.nt) (.slice F1 im.ses.length d1) (.slice F2 im4.gs.length d2) (.slice F3 im4.built.length d3)
        have HB6 := HB5.put6 (.int .i64 n0) (.int .u64 n1) (.int .u64 n2) (.int .u64 n3) (.string n4) (.string n5)
        have HX6 := HX5.far6 (b := pa) (by have := HPA.out; omega) (.int .i64 n0) (.int .u64 n1) (.int .u64 n2) (.int .u64 n3) (.string n4) (.string n5)
        have K45 := ((Keep.refl (fun b => b = p ∨ b = pa) w4).put6 (b := p) (fun _ => .inl rfl) (.int .u64 im4.now) (.int .u64 im4.ng) (.int .u64 im4.nt) (.slice F1 im.ses.length d1) (.slice F2 im4.gs.length d2) (.slice F3 im4.built.length d3)).put6 (b := pa) (fun _ => .inr rfl) (.int .i64 n0) (.int .u64 n1) (.int .u64 n2) (.int .u64 n3) (.string n4) (.string n5)
        have K5 := (HK4.out.wide (S := fun b => b = p ∨ b = pa)).trans K45 (fun _ _ h => h)
        have HI5 := HI4.out.keep K45 (fun i _ hd e => by have := HPA.out; omega)
        dsimp only [sixPut] at HX6 HB6 K5 HI5
        clear HX5 HB5 K45
        go_meet
        exact ⟨rfl, im4, F1, d1, F2, d2, F3, d3, K5, HX6, HB6, HP4.out, HI5, HE4.out.1, HE4.out.2.1, HE4.out.2.2⟩
       ·
        have hd : doneP im.plain c.plain = claimP im.plain := by
         unfold doneP
         rw [if_neg (show ¬ c.plain.kind = 2 from by have : c.plain.kind = c.kind := rfl; omega), if_pos (show c.plain.kind = 3 from hk)]
        have CALL : Hid (Calls Tryz.prog 31 #[.agg #[.int .u64 im.now, .int .u64 im.ng, .int .u64 im.nt, .slice A1 im.ses.length a1, .slice A2 im.gs.length a2, .slice A3 im.built.length a3]] w3 (RefIm2 (fun i => (i < p ∧ M i) ∨ pa < i) (Q, ⟨n0, n1, n2, n3, n4, n5⟩) w3)) := Lib.hid (by
         have h := rclaim_any w3 _ HM3.out im HIM3.out HI.out 
         rw [← hd, HR.out, HAGG.out] at h
         exact h)
        have hb2 : (c.kind == 2) = false := beq_eq_false_iff_ne.2 (by omega)
        have hb3 : (c.kind == 3) = true := beq_iff_eq.2 hk
        clear hd hk m0
        obtain ⟨x0, x1, x2, x3, x4, x5⟩ := HX3.out.six
        have m0 := HC3.out.cell 0
        have m1 := HC3.out.cell 1
        have m2 := HC3.out.cell 2
        have m3 := HC3.out.cell 3
        have m4 := HC3.out.cell 4
        have m5 := HC3.out.cell 5
        have m6 := HC3.out.cell 6
        have m7 := HC3.out.cell 7
        go_wp2_with fail
        refine CALL.out.mono ?_
        rintro e w4 ⟨im4, rfl, hp4, hl4, k4⟩
        obtain ⟨F1, d1, F2, d2, F3, d3, e1, e2, e3⟩ := hl4.shapes
        have hs4 : im4.ses = im.ses := (congrArg Qp.ses hp4).trans HSAME.out
        rw [hs4] at e1
        unfold Im.agg An.agg
        rw [e1, e2, e3]
        dsimp only
        have HP4 := Lib.hid hp4
        have HI4 := Lib.hid hl4
        have HE4 := Lib.hid (And.intro e1 (And.intro e2 e3))
        have HX4 := Lib.hid (HX3.out.keep k4 (fun h => h))
        have HB4 := Lib.hid (HBL.out.keep k4 (fun h => h))
        have HK4 := Lib.hid k4
        clear CALL m0 x0 x1 x2 x3 x4 x5 m1 m2 m3 m4 m5 m6 m7 k4 hp4 hl4 e1 e2 e3 hs4
        obtain ⟨x0, x1, x2, x3, x4, x5⟩ := HX4.out.six
        obtain ⟨fx0, fx1, fx2, fx3, fx4, fx5⟩ := HX4.out.free6
        obtain ⟨a0, a1', a2', a3', a4, a5⟩ := HB4.out.six
        obtain ⟨fa0, fa1, fa2, fa3, fa4, fa5⟩ := HB4.out.free6
        have hne1 : p ≠ pa := by have := HPA.out; omega
        have hne2 : pa ≠ p := fun e => hne1 e.symm
        go_wp2_with fail
        have HX5 := HX4.out.put6 (.int .u64 im4.now) (.int .u64 im4.ng) (.int .u64 im4.nt) (.slice F1 im.ses.length d1) (.slice F2 im4.gs.length d2) (.slice F3 im4.built.length d3)
        have HB5 := HB4.out.far6 (b := p) (by have := HPA.out; omega) (.int .u64 im4.now) (.int .u64 im4.ng) (.int .u64 im4.nt) (.slice F1 im.ses.length d1) (.slice F2 im4.gs.length d2) (.slice F3 im4.built.length d3)
        have HB6 := HB5.put6 (.int .i64 n0) (.int .u64 n1) (.int .u64 n2) (.int .u64 n3) (.string n4) (.string n5)
        have HX6 := HX5.far6 (b := pa) (by have := HPA.out; omega) (.int .i64 n0) (.int .u64 n1) (.int .u64 n2) (.int .u64 n3) (.string n4) (.string n5)
        have K45 := ((Keep.refl (fun b => b = p ∨ b = pa) w4).put6 (b := p) (fun _ => .inl rfl) (.int .u64 im4.now) (.int .u64 im4.ng) (.int .u64 im4.nt) (.slice F1 im.ses.length d1) (.slice F2 im4.gs.length d2) (.slice F3 im4.built.length d3)).put6 (b := pa) (fun _ => .inr rfl) (.int .i64 n0) (.int .u64 n1) (.int .u64 n2) (.int .u64 n3) (.string n4) (.string n5)
        have K5 := (HK4.out.wide (S := fun b => b = p ∨ b = pa)).trans K45 (fun _ _ h => h)
        have HI5 := HI4.out.keep K45 (fun i _ hd e => by have := HPA.out; omega)
        dsimp only [sixPut] at HX6 HB6 K5 HI5
        clear HX5 HB5 K45
        go_meet
        exact ⟨rfl, im4, F1, d1, F2, d2, F3, d3, K5, HX6, HB6, HP4.out, HI5, HE4.out.1, HE4.out.2.1, HE4.out.2.2⟩
       ·
        have hd : doneP im.plain c.plain = renewP im.plain c.plain := by
         unfold doneP
         rw [if_neg (show ¬ c.plain.kind = 2 from by have : c.plain.kind = c.kind := rfl; omega), if_neg (show ¬ c.plain.kind = 3 from by have : c.plain.kind = c.kind := rfl; omega), if_pos (show c.plain.kind = 4 from hk)]
        have CALL : Hid (Calls Tryz.prog 32 #[.agg #[.int .u64 im.now, .int .u64 im.ng, .int .u64 im.nt, .slice A1 im.ses.length a1, .slice A2 im.gs.length a2, .slice A3 im.built.length a3], .agg #[.int .i64 c.kind, .int .u64 c.ses, .int .u64 c.seq, .slice Ag c.ts.length cg, .int .u64 c.id, .int .u64 c.tok, .bool c.good, .int .u64 c.time]] w3 (RefIm2 (fun i => (i < p ∧ M i) ∨ pa < i) (Q, ⟨n0, n1, n2, n3, n4, n5⟩) w3)) := Lib.hid (by
         have h := rrenew_any w3 _ HM3.out im HIM3.out HI.out c Ag cg HEG.out HTK.out
         rw [← hd, HR.out, HAGG.out, HCA.out] at h
         exact h)
        have hb2 : (c.kind == 2) = false := beq_eq_false_iff_ne.2 (by omega)
        have hb3 : (c.kind == 3) = false := beq_eq_false_iff_ne.2 (by omega)
        have hb4 : (c.kind == 4) = true := beq_iff_eq.2 hk
        clear hd hk m0
        obtain ⟨x0, x1, x2, x3, x4, x5⟩ := HX3.out.six
        have m0 := HC3.out.cell 0
        have m1 := HC3.out.cell 1
        have m2 := HC3.out.cell 2
        have m3 := HC3.out.cell 3
        have m4 := HC3.out.cell 4
        have m5 := HC3.out.cell 5
        have m6 := HC3.out.cell 6
        have m7 := HC3.out.cell 7
        go_wp2_with fail
        refine CALL.out.mono ?_
        rintro e w4 ⟨im4, rfl, hp4, hl4, k4⟩
        obtain ⟨F1, d1, F2, d2, F3, d3, e1, e2, e3⟩ := hl4.shapes
        have hs4 : im4.ses = im.ses := (congrArg Qp.ses hp4).trans HSAME.out
        rw [hs4] at e1
        unfold Im.agg An.agg
        rw [e1, e2, e3]
        dsimp only
        have HP4 := Lib.hid hp4
        have HI4 := Lib.hid hl4
        have HE4 := Lib.hid (And.intro e1 (And.intro e2 e3))
        have HX4 := Lib.hid (HX3.out.keep k4 (fun h => h))
        have HB4 := Lib.hid (HBL.out.keep k4 (fun h => h))
        have HK4 := Lib.hid k4
        clear CALL m0 x0 x1 x2 x3 x4 x5 m1 m2 m3 m4 m5 m6 m7 k4 hp4 hl4 e1 e2 e3 hs4
        obtain ⟨x0, x1, x2, x3, x4, x5⟩ := HX4.out.six
        obtain ⟨fx0, fx1, fx2, fx3, fx4, fx5⟩ := HX4.out.free6
        obtain ⟨a0, a1', a2', a3', a4, a5⟩ := HB4.out.six
        obtain ⟨fa0, fa1, fa2, fa3, fa4, fa5⟩ := HB4.out.free6
        have hne1 : p ≠ pa := by have := HPA.out; omega
        have hne2 : pa ≠ p := fun e => hne1 e.symm
        go_wp2_with fail
        have HX5 := HX4.out.put6 (.int .u64 im4.now) (.int .u64 im4.ng) (.int .u64 im4.nt) (.slice F1 im.ses.length d1) (.slice F2 im4.gs.length d2) (.slice F3 im4.built.length d3)
        have HB5 := HB4.out.far6 (b := p) (by have := HPA.out; omega) (.int .u64 im4.now) (.int .u64 im4.ng) (.int .u64 im4.nt) (.slice F1 im.ses.length d1) (.slice F2 im4.gs.length d2) (.slice F3 im4.built.length d3)
        have HB6 := HB5.put6 (.int .i64 n0) (.int .u64 n1) (.int .u64 n2) (.int .u64 n3) (.string n4) (.string n5)
        have HX6 := HX5.far6 (b := pa) (by have := HPA.out; omega) (.int .i64 n0) (.int .u64 n1) (.int .u64 n2) (.int .u64 n3) (.string n4) (.string n5)
        have K45 := ((Keep.refl (fun b => b = p ∨ b = pa) w4).put6 (b := p) (fun _ => .inl rfl) (.int .u64 im4.now) (.int .u64 im4.ng) (.int .u64 im4.nt) (.slice F1 im.ses.length d1) (.slice F2 im4.gs.length d2) (.slice F3 im4.built.length d3)).put6 (b := pa) (fun _ => .inr rfl) (.int .i64 n0) (.int .u64 n1) (.int .u64 n2) (.int .u64 n3) (.string n4) (.string n5)
        have K5 := (HK4.out.wide (S := fun b => b = p ∨ b = pa)).trans K45 (fun _ _ h => h)
        have HI5 := HI4.out.keep K45 (fun i _ hd e => by have := HPA.out; omega)
        dsimp only [sixPut] at HX6 HB6 K5 HI5
        clear HX5 HB5 K45
        go_meet
        exact ⟨rfl, im4, F1, d1, F2, d2, F3, d3, K5, HX6, HB6, HP4.out, HI5, HE4.out.1, HE4.out.2.1, HE4.out.2.2⟩
       ·
        have hd : doneP im.plain c.plain = reportP im.plain c.plain := by
         unfold doneP
         rw [if_neg (show ¬ c.plain.kind = 2 from by have : c.plain.kind = c.kind := rfl; omega), if_neg (show ¬ c.plain.kind = 3 from by have : c.plain.kind = c.kind := rfl; omega), if_neg (show ¬ c.plain.kind = 4 from by have : c.plain.kind = c.kind := rfl; omega), if_pos (show c.plain.kind = 5 from hk)]
        have CALL : Hid (Calls Tryz.prog 33 #[.agg #[.int .u64 im.now, .int .u64 im.ng, .int .u64 im.nt, .slice A1 im.ses.length a1, .slice A2 im.gs.length a2, .slice A3 im.built.length a3], .agg #[.int .i64 c.kind, .int .u64 c.ses, .int .u64 c.seq, .slice Ag c.ts.length cg, .int .u64 c.id, .int .u64 c.tok, .bool c.good, .int .u64 c.time]] w3 (RefIm2 (fun i => (i < p ∧ M i) ∨ pa < i) (Q, ⟨n0, n1, n2, n3, n4, n5⟩) w3)) := Lib.hid (by
         have h := rreport_any w3 _ HM3.out im HIM3.out HI.out c Ag cg HEG.out HTK.out
         rw [← hd, HR.out, HAGG.out, HCA.out] at h
         exact h)
        have hb2 : (c.kind == 2) = false := beq_eq_false_iff_ne.2 (by omega)
        have hb3 : (c.kind == 3) = false := beq_eq_false_iff_ne.2 (by omega)
        have hb4 : (c.kind == 4) = false := beq_eq_false_iff_ne.2 (by omega)
        have hb5 : (c.kind == 5) = true := beq_iff_eq.2 hk
        clear hd hk m0
        obtain ⟨x0, x1, x2, x3, x4, x5⟩ := HX3.out.six
        have m0 := HC3.out.cell 0
        have m1 := HC3.out.cell 1
        have m2 := HC3.out.cell 2
        have m3 := HC3.out.cell 3
        have m4 := HC3.out.cell 4
        have m5 := HC3.out.cell 5
        have m6 := HC3.out.cell 6
        have m7 := HC3.out.cell 7
        go_wp2_with fail
        refine CALL.out.mono ?_
        rintro e w4 ⟨im4, rfl, hp4, hl4, k4⟩
        obtain ⟨F1, d1, F2, d2, F3, d3, e1, e2, e3⟩ := hl4.shapes
        have hs4 : im4.ses = im.ses := (congrArg Qp.ses hp4).trans HSAME.out
        rw [hs4] at e1
        unfold Im.agg An.agg
        rw [e1, e2, e3]
        dsimp only
        have HP4 := Lib.hid hp4
        have HI4 := Lib.hid hl4
        have HE4 := Lib.hid (And.intro e1 (And.intro e2 e3))
        have HX4 := Lib.hid (HX3.out.keep k4 (fun h => h))
        have HB4 := Lib.hid (HBL.out.keep k4 (fun h => h))
        have HK4 := Lib.hid k4
        clear CALL m0 x0 x1 x2 x3 x4 x5 m1 m2 m3 m4 m5 m6 m7 k4 hp4 hl4 e1 e2 e3 hs4
        obtain ⟨x0, x1, x2, x3, x4, x5⟩ := HX4.out.six
        obtain ⟨fx0, fx1, fx2, fx3, fx4, fx5⟩ := HX4.out.free6
        obtain ⟨a0, a1', a2', a3', a4, a5⟩ := HB4.out.six
        obtain ⟨fa0, fa1, fa2, fa3, fa4, fa5⟩ := HB4.out.free6
        have hne1 : p ≠ pa := by have := HPA.out; omega
        have hne2 : pa ≠ p := fun e => hne1 e.symm
        go_wp2_with fail
        have HX5 := HX4.out.put6 (.int .u64 im4.now) (.int .u64 im4.ng) (.int .u64 im4.nt) (.slice F1 im.ses.length d1) (.slice F2 im4.gs.length d2) (.slice F3 im4.built.length d3)
        have HB5 := HB4.out.far6 (b := p) (by have := HPA.out; omega) (.int .u64 im4.now) (.int .u64 im4.ng) (.int .u64 im4.nt) (.slice F1 im.ses.length d1) (.slice F2 im4.gs.length d2) (.slice F3 im4.built.length d3)
        have HB6 := HB5.put6 (.int .i64 n0) (.int .u64 n1) (.int .u64 n2) (.int .u64 n3) (.string n4) (.string n5)
        have HX6 := HX5.far6 (b := pa) (by have := HPA.out; omega) (.int .i64 n0) (.int .u64 n1) (.int .u64 n2) (.int .u64 n3) (.string n4) (.string n5)
        have K45 := ((Keep.refl (fun b => b = p ∨ b = pa) w4).put6 (b := p) (fun _ => .inl rfl) (.int .u64 im4.now) (.int .u64 im4.ng) (.int .u64 im4.nt) (.slice F1 im.ses.length d1) (.slice F2 im4.gs.length d2) (.slice F3 im4.built.length d3)).put6 (b := pa) (fun _ => .inr rfl) (.int .i64 n0) (.int .u64 n1) (.int .u64 n2) (.int .u64 n3) (.string n4) (.string n5)
        have K5 := (HK4.out.wide (S := fun b => b = p ∨ b = pa)).trans K45 (fun _ _ h => h)
        have HI5 := HI4.out.keep K45 (fun i _ hd e => by have := HPA.out; omega)
        dsimp only [sixPut] at HX6 HB6 K5 HI5
        clear HX5 HB5 K45
        go_meet
        exact ⟨rfl, im4, F1, d1, F2, d2, F3, d3, K5, HX6, HB6, HP4.out, HI5, HE4.out.1, HE4.out.2.1, HE4.out.2.2⟩
       ·
        have hd : doneP im.plain c.plain = cancelP im.plain c.plain := by
         unfold doneP
         rw [if_neg (show ¬ c.plain.kind = 2 from by have : c.plain.kind = c.kind := rfl; omega), if_neg (show ¬ c.plain.kind = 3 from by have : c.plain.kind = c.kind := rfl; omega), if_neg (show ¬ c.plain.kind = 4 from by have : c.plain.kind = c.kind := rfl; omega), if_neg (show ¬ c.plain.kind = 5 from by have : c.plain.kind = c.kind := rfl; omega)]
        have CALL : Hid (Calls Tryz.prog 34 #[.agg #[.int .u64 im.now, .int .u64 im.ng, .int .u64 im.nt, .slice A1 im.ses.length a1, .slice A2 im.gs.length a2, .slice A3 im.built.length a3], .agg #[.int .i64 c.kind, .int .u64 c.ses, .int .u64 c.seq, .slice Ag c.ts.length cg, .int .u64 c.id, .int .u64 c.tok, .bool c.good, .int .u64 c.time]] w3 (RefIm2 (fun i => (i < p ∧ M i) ∨ pa < i) (Q, ⟨n0, n1, n2, n3, n4, n5⟩) w3)) := Lib.hid (by
         have h := rcancel_any w3 _ HM3.out im HIM3.out HI.out c Ag cg HEG.out
         rw [← hd, HR.out, HAGG.out, HCA.out] at h
         exact h)
        have hb2 : (c.kind == 2) = false := beq_eq_false_iff_ne.2 (by omega)
        have hb3 : (c.kind == 3) = false := beq_eq_false_iff_ne.2 (by omega)
        have hb4 : (c.kind == 4) = false := beq_eq_false_iff_ne.2 (by omega)
        have hb5 : (c.kind == 5) = false := beq_eq_false_iff_ne.2 (by omega)
        clear hd hk m0
        obtain ⟨x0, x1, x2, x3, x4, x5⟩ := HX3.out.six
        have m0 := HC3.out.cell 0
        have m1 := HC3.out.cell 1
        have m2 := HC3.out.cell 2
        have m3 := HC3.out.cell 3
        have m4 := HC3.out.cell 4
        have m5 := HC3.out.cell 5
        have m6 := HC3.out.cell 6
        have m7 := HC3.out.cell 7
        go_wp2_with fail
        refine CALL.out.mono ?_
        rintro e w4 ⟨im4, rfl, hp4, hl4, k4⟩
        obtain ⟨F1, d1, F2, d2, F3, d3, e1, e2, e3⟩ := hl4.shapes
        have hs4 : im4.ses = im.ses := (congrArg Qp.ses hp4).trans HSAME.out
        rw [hs4] at e1
        unfold Im.agg An.agg
        rw [e1, e2, e3]
        dsimp only
        have HP4 := Lib.hid hp4
        have HI4 := Lib.hid hl4
        have HE4 := Lib.hid (And.intro e1 (And.intro e2 e3))
        have HX4 := Lib.hid (HX3.out.keep k4 (fun h => h))
        have HB4 := Lib.hid (HBL.out.keep k4 (fun h => h))
        have HK4 := Lib.hid k4
        clear CALL m0 x0 x1 x2 x3 x4 x5 m1 m2 m3 m4 m5 m6 m7 k4 hp4 hl4 e1 e2 e3 hs4
        obtain ⟨x0, x1, x2, x3, x4, x5⟩ := HX4.out.six
        obtain ⟨fx0, fx1, fx2, fx3, fx4, fx5⟩ := HX4.out.free6
        obtain ⟨a0, a1', a2', a3', a4, a5⟩ := HB4.out.six
        obtain ⟨fa0, fa1, fa2, fa3, fa4, fa5⟩ := HB4.out.free6
        have hne1 : p ≠ pa := by have := HPA.out; omega
        have hne2 : pa ≠ p := fun e => hne1 e.symm
        go_wp2_with fail
        have HX5 := HX4.out.put6 (.int .u64 im4.now) (.int .u64 im4.ng) (.int .u64 im4.nt) (.slice F1 im.ses.length d1) (.slice F2 im4.gs.length d2) (.slice F3 im4.built.length d3)
        have HB5 := HB4.out.far6 (b := p) (by have := HPA.out; omega) (.int .u64 im4.now) (.int .u64 im4.ng) (.int .u64 im4.nt) (.slice F1 im.ses.length d1) (.slice F2 im4.gs.length d2) (.slice F3 im4.built.length d3)
        have HB6 := HB5.put6 (.int .i64 n0) (.int .u64 n1) (.int .u64 n2) (.int .u64 n3) (.string n4) (.string n5)
        have HX6 := HX5.far6 (b := pa) (by have := HPA.out; omega) (.int .i64 n0) (.int .u64 n1) (.int .u64 n2) (.int .u64 n3) (.string n4) (.string n5)
        have K45 := ((Keep.refl (fun b => b = p ∨ b = pa) w4).put6 (b := p) (fun _ => .inl rfl) (.int .u64 im4.now) (.int .u64 im4.ng) (.int .u64 im4.nt) (.slice F1 im.ses.length d1) (.slice F2 im4.gs.length d2) (.slice F3 im4.built.length d3)).put6 (b := pa) (fun _ => .inr rfl) (.int .i64 n0) (.int .u64 n1) (.int .u64 n2) (.int .u64 n3) (.string n4) (.string n5)
        have K5 := (HK4.out.wide (S := fun b => b = p ∨ b = pa)).trans K45 (fun _ _ h => h)
        have HI5 := HI4.out.keep K45 (fun i _ hd e => by have := HPA.out; omega)
        dsimp only [sixPut] at HX6 HB6 K5 HI5
        clear HX5 HB5 K45
        go_meet
        exact ⟨rfl, im4, F1, d1, F2, d2, F3, d3, K5, HX6, HB6, HP4.out, HI5, HE4.out.1, HE4.out.2.1, HE4.out.2.2⟩
      case rest =>
       obtain ⟨rfl, im4, F1, d1, F2, d2, F3, d3, k5, hx5, hb5, hp4, hl5, e1, e2, e3⟩ := hcut
       have hs4 : im4.ses = im.ses := (congrArg Qp.ses hp4).trans HSAME.out
       have HX5 := Lib.hid hx5
       have HB5 := Lib.hid hb5
       have HK5 := Lib.hid k5
       have HP4 := Lib.hid hp4
       have HI5 := Lib.hid hl5
       have HE4 := Lib.hid (And.intro e2 e3)
       have KP0 := refKeep_any wc _ _ im.ses c.ses c.seq ⟨n0, n1, n2, n3, n4, n5⟩ (by have h := hl5.ses; rw [e1, hs4] at h; exact h) HI.out.sesUp HI.out.sesFew
       rw [HKL.out] at KP0
       unfold An.agg at KP0
       dsimp only at KP0
       have KP := Lib.hid KP0
       have HS5 : Hid (pa < wc.heap.size) := Lib.hid hb5.lt
       obtain ⟨KE, hKE⟩ : ∃ KE, keepE im.ses c.ses c.seq = KE := ⟨_, rfl⟩
       rw [hKE] at KP
       have x3 := hx5.cell 3
       have HC5 := HC3.out.keep k5 (by have := HPA.out; omega)
       have m1 := HC5.cell 1
       have m2 := HC5.cell 2
       obtain ⟨a0, a1', a2', a3', a4, a5⟩ := hb5.six
       clear hx5 hb5 k5 hp4 hl5 e1 e2 e3 hs4 KP0 HC5 hKE
       go_wp2_with fail
       refine KP.out.mono ?_
       rintro e w6 ⟨v', rfl, hv', k6⟩
       obtain ⟨G1, g1, rfl⟩ := hv'.shape
       have HV6 := Lib.hid hv'
       have HX6 := Lib.hid (HX5.out.keep k6 (fun h => h))
       have HK6 := Lib.hid (HK5.out.trans (k6.wide (S := fun b => b = p ∨ b = pa)) (fun _ _ h => h))
       have HB6 := Lib.hid (HB5.out.keep k6 (fun h => h))
       have HI6 := Lib.hid (HI5.out.keep k6 (fun _ _ _ h => h))
       clear KP x3 m1 m2 a0 a1' a2' a3' a4 a5 hv' k6
       have x3 := HX6.out.cell 3
       have f3 := HX6.out.free 3
       go_upto_region 33 with fail
       have HX7 := Lib.hid (HX6.out.put 3 (.slice G1 KL.length g1))
       have k67 := (Keep.refl (fun b => b = p) w6).setCell (p := ⟨p, 3, none⟩) (fun _ => rfl) (.slice G1 KL.length g1)
       have HK7 := Lib.hid (HK6.out.trans (k67.mono (T := fun b => b = p ∨ b = pa) (fun _ _ h => .inl h)) (fun _ _ h => h))
       have HB7 := Lib.hid (HB6.out.keep k67 (by have := HPA.out; omega))
       have HI7 := Lib.hid (HI6.out.keep k67 (fun i _ hd e => by have := HPA.out; omega))
       have HV7 := Lib.hid (HV6.out.keep k67 (fun i _ hd e => by have := HPA.out; have := HS5.out; omega))
       clear x3 f3 k67 HX6 HB6
       generalize w6.setCell ⟨p, 3, none⟩ (.slice G1 KL.length g1) = w7 at *
       have HYW := Lib.hid (HYW.out.keep HK7.out (by have := HPA.out; omega))
       have HZW := Lib.hid (HZW.out.keep HK7.out (by have := HPA.out; omega))
       have MC : Hid (∀ w', Keep (fun b => b = p + 1 + 1 ∨ b = p + 1 + 1 + 1) w7 w' → (w'.cell? ⟨p, 0, none⟩ = some (.int .u64 im4.now) ∧ w'.cell? ⟨p, 1, none⟩ = some (.int .u64 im4.ng) ∧ w'.cell? ⟨p, 2, none⟩ = some (.int .u64 im4.nt) ∧ w'.cell? ⟨p, 3, none⟩ = some (.slice G1 KL.length g1) ∧ w'.cell? ⟨p, 4, none⟩ = some (.slice F2 im4.gs.length d2) ∧ w'.cell? ⟨p, 5, none⟩ = some (.slice F3 im4.built.length d3)) ∧ (w'.cell? ⟨pa, 0, none⟩ = some (.int .i64 n0) ∧ w'.cell? ⟨pa, 1, none⟩ = some (.int .u64 n1) ∧ w'.cell? ⟨pa, 2, none⟩ = some (.int .u64 n2) ∧ w'.cell? ⟨pa, 3, none⟩ = some (.int .u64 n3) ∧ w'.cell? ⟨pa, 4, none⟩ = some (.string n4) ∧ w'.cell? ⟨pa, 5, none⟩ = some (.string n5))) := Lib.hid fun w' k' =>
        ⟨(HX7.out.keep k' (by omega)).six, (HB7.out.keep k' (by have := HPA.out; omega)).six⟩
       have KZ9 := (Keep.refl (fun b => b = p + 1 + 1 ∨ b = p + 1 + 1 + 1) w7).drew
       have KN9 := (Keep.refl noneOf w7).drew
       refine wp_region_held_drew (S := fun w' => Keep (fun b => b = p + 1 + 1 ∨ b = p + 1 + 1 + 1) w7 w') (by kernel_rfl) (KZ9) (fun hHeld => ?_)
       refine' ztk 0 _ rfl (.inl ⟨by kernel_rfl, ?hy0⟩) ?_
       case hy0 => intro w' hSw; obtain ⟨⟨_, _, _, _, _, _⟩, ⟨_, _, _, _, _, _⟩⟩ := MC.out w' hSw; go_simp; try with_reducible rfl
       simp only [Act.put, zga, zgb, zgc, zgd, zge, zgf]
       refine' ztk 1 _ rfl (.inl ⟨by kernel_rfl, ?hy1⟩) ?_
       case hy1 => intro w' hSw; obtain ⟨⟨_, _, _, _, _, _⟩, ⟨_, _, _, _, _, _⟩⟩ := MC.out w' hSw; go_simp; try with_reducible rfl
       simp only [Act.put, zga, zgb, zgc, zgd, zge, zgf]
       generalize w7.drew = wz at *
       have HYD := Lib.hid (HYW.out.keep KN9 (fun h => h))
       have HZD := Lib.hid (HZW.out.keep KN9 (fun h => h))
       obtain ⟨y0, y1, y2, y3, y4, y5⟩ := HYD.out.six
       obtain ⟨fy0, fy1, fy2, fy3, fy4, fy5⟩ := HYD.out.free6
       have HYV := Lib.hid (HYD.out.put6 (.int .u64 im4.now) (.int .u64 im4.ng) (.int .u64 im4.nt) (.slice G1 KL.length g1) (.slice F2 im4.gs.length d2) (.slice F3 im4.built.length d3))
       have HZV := Lib.hid (HZD.out.far6 (b := p + 1 + 1) (by omega) (.int .u64 im4.now) (.int .u64 im4.ng) (.int .u64 im4.nt) (.slice G1 KL.length g1) (.slice F2 im4.gs.length d2) (.slice F3 im4.built.length d3))
       have KY7 := (Keep.refl (fun b => b = p + 1 + 1 ∨ b = p + 1 + 1 + 1) wz).put6 (b := p + 1 + 1) (fun _ => .inl rfl) (.int .u64 im4.now) (.int .u64 im4.ng) (.int .u64 im4.nt) (.slice G1 KL.length g1) (.slice F2 im4.gs.length d2) (.slice F3 im4.built.length d3)
       have KY := (KZ9).trans KY7 (fun _ _ h => h)
       dsimp only [sixPut] at HYV HZV KY KY7
       refine wpAnyH_ready (rs := [2]) (by kernel_rfl) (by simp) (AllReadyH.cons rfl (fun K hK => ?_) AllReadyH.nil)
       go_simp
       refine hK.out _ _ (KY) (fun hHeld => ?_)
       clear hK K
       try simp only [Act.put, zga, zgb, zgc, zgd, zge, zgf]
       generalize ((((((wz.setCell ⟨p + 1 + 1, 0, none⟩ (.int .u64 im4.now)).setCell ⟨p + 1 + 1, 1, none⟩ (.int .u64 im4.ng)).setCell ⟨p + 1 + 1, 2, none⟩ (.int .u64 im4.nt)).setCell ⟨p + 1 + 1, 3, none⟩ (.slice G1 KL.length g1)).setCell ⟨p + 1 + 1, 4, none⟩ (.slice F2 im4.gs.length d2)).setCell ⟨p + 1 + 1, 5, none⟩ (.slice F3 im4.built.length d3)) = wy at *
       clear y0 y1 y2 y3 y4 y5 fy0 fy1 fy2 fy3 fy4 fy5 HYD HZD
       obtain ⟨z0, z1, z2, z3, z4, z5⟩ := HZV.out.six
       obtain ⟨fz0, fz1, fz2, fz3, fz4, fz5⟩ := HZV.out.free6
       have HZA := Lib.hid (HZV.out.put6 (.int .i64 n0) (.int .u64 n1) (.int .u64 n2) (.int .u64 n3) (.string n4) (.string n5))
       have HYA := Lib.hid (HYV.out.far6 (b := p + 1 + 1 + 1) (by omega) (.int .i64 n0) (.int .u64 n1) (.int .u64 n2) (.int .u64 n3) (.string n4) (.string n5))
       have KA7 := KY7.put6 (b := p + 1 + 1 + 1) (fun _ => .inr rfl) (.int .i64 n0) (.int .u64 n1) (.int .u64 n2) (.int .u64 n3) (.string n4) (.string n5)
       have KA := KY.put6 (b := p + 1 + 1 + 1) (fun _ => .inr rfl) (.int .i64 n0) (.int .u64 n1) (.int .u64 n2) (.int .u64 n3) (.string n4) (.string n5)
       dsimp only [sixPut] at HZA HYA KA KA7
       refine wpAnyH_ready (rs := [3]) (by kernel_rfl) (by simp) (AllReadyH.cons rfl (fun K hK => ?_) AllReadyH.nil)
       go_simp
       refine hK.out _ _ (KA) (fun hHeld => ?_)
       clear hK K
       try simp only [Act.put, zga, zgb, zgc, zgd, zge, zgf]
       refine wpAnyH_done (by kernel_rfl) ?_ _
       generalize ((((((wy.setCell ⟨p + 1 + 1 + 1, 0, none⟩ (.int .i64 n0)).setCell ⟨p + 1 + 1 + 1, 1, none⟩ (.int .u64 n1)).setCell ⟨p + 1 + 1 + 1, 2, none⟩ (.int .u64 n2)).setCell ⟨p + 1 + 1 + 1, 3, none⟩ (.int .u64 n3)).setCell ⟨p + 1 + 1 + 1, 4, none⟩ (.string n4)).setCell ⟨p + 1 + 1 + 1, 5, none⟩ (.string n5)) = wf at *
       clear z0 z1 z2 z3 z4 z5 fz0 fz1 fz2 fz3 fz4 fz5 HYV HZV KY KY7 MC HYW HZW
       have HFIN : Hid (RefIm2 M (applyP im.plain c.plain) w (.returned (.tuple #[.agg #[.int .u64 im4.now, .int .u64 im4.ng, .int .u64 im4.nt, .slice G1 KL.length g1, .slice F2 im4.gs.length d2, .slice F3 im4.built.length d3], .agg #[.int .i64 n0, .int .u64 n1, .int .u64 n2, .int .u64 n3, .string n4, .string n5]])) wf) := Lib.hid (by
        have kk : Keep noneOf w wf := (HKW.out.trans HK7.out (fun i hi e => by have := HPS.out; have := HPA.out; omega)).trans KA (fun i hi e => by have := HPS.out; omega)
        rw [HRD.out]
        refine ⟨{ im4 with sv := .slice G1 KL.length g1, ses := KL }, ?_, ?_, ⟨?_, ?_, ?_⟩, kk⟩
        ·
         unfold Im.agg An.agg
         dsimp only
         rw [HE4.out.1, HE4.out.2]
        ·
         show Qp.mk im4.plain.now im4.plain.ng im4.plain.nt KL im4.plain.gs im4.plain.built = _
         rw [HP4.out]
        ·
         exact (HV7.out.keep KA (fun i _ hd e => by have := HPA.out; have := HS5.out; omega)).mono (fun i _ hd => hd.elim (fun h => h.elim (fun h => h.2) (fun h => HMN.out i (by have := HPA.out; omega))) (fun h => HMN.out i (by have := HPA.out; have := HS5.out; omega)))
        ·
         exact (HI7.out.keep KA (fun i _ hd e => by have := HPA.out; omega)).gs.mono (fun i _ hd => hd.elim (fun h => h.2) (fun h => HMN.out i (by have := HPA.out; omega)))
        ·
         exact ((HI7.out.keep KA (fun i _ hd e => by have := HPA.out; omega)).mono (D' := M) (fun i _ hd => hd.elim (fun h => h.2) (fun h => HMN.out i (by have := HPA.out; omega)))).built)
       clear KA KA7
       go_wp2
       obtain ⟨r0, r1, r2, r3, r4, r5⟩ := HYA.out.six
       obtain ⟨s0, s1, s2, s3, s4, s5⟩ := HZA.out.six
       exact bodyPost_ret (v := .tuple #[.agg #[.int .u64 im4.now, .int .u64 im4.ng, .int .u64 im4.nt, .slice G1 KL.length g1, .slice F2 im4.gs.length d2, .slice F3 im4.built.length d3], .agg #[.int .i64 n0, .int .u64 n1, .int .u64 n2, .int .u64 n3, .string n4, .string n5]]) (by simp [results, Tryz.results10, go_sem, r0, r1, r2, r3, r4, r5, s0, s1, s2, s3, s4, s5]) rfl HFIN.out
end Go.Proofs.YtffoeodjbbkdjaaGreat
