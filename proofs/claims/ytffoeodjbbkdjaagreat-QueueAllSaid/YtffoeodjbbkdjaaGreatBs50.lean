/-
  QueueAll: every command, and every query behind it, is answered as the document says; behind all of them the queue is what the document says. No conditions.
-/
import Derived.BigQuiet
import Derived.Deep.QuietTactic
import Derived.Shelf.RegionOpen
import Derived.Test.YtffoeodjbbkdjaaGreatBs01
import Derived.Test.YtffoeodjbbkdjaaGreatBs41
import Derived.Test.YtffoeodjbbkdjaaGreatBs49
namespace Go.Proofs.YtffoeodjbbkdjaaGreat
open Go.RowKit Go.ChangeShapes Go.WideShapes Go.Deep
set_option maxRecDepth 100000 in
theorem rnew_any (w : World) : Calls Tryz.prog 7 #[] w fun e w' => e = .returned (.agg #[.int .u64 0, .int .u64 1, .int .u64 1, .slice none 0 0, .slice none 0 0, .slice none 0 0]) ∧ Keep noneOf w w' := by
 go_enter Tryz.func7, Tryz.ntmps7
 go_wp2
 refine bodyPost_ret (v := .agg #[.int .u64 0, .int .u64 1, .int .u64 1, .slice none 0 0, .slice none 0 0, .slice none 0 0]) (by simp [results, Tryz.results7, go_sem]) rfl ⟨rfl, ?_⟩
 exact (Keep.refl noneOf w).alloc _
theorem Own.stayS {w v u : World} {D S : Nat → Prop} {p : Nat} {q : Qm} (h : Own w v D p q) (k : Keep S v u) (hs : ∀ i, D i → ¬ S i) (ho : ∀ i, i < w.heap.size → ¬ S i) : Own w u D p q :=
 ⟨⟨h.mine.at_.keep k hs, h.mine.keep.trans k (fun i hi hS => (ho i hi hS).elim), h.mine.new⟩, h.at_, h.inv, h.keys⟩
theorem kys_nil9 (w : World) (D : Nat → Prop) : Kys w D (.slice none 0 0) [] :=
 ⟨⟨none, 0, rfl, Nat.le_refl _, Nat.zero_le _, fun _ => rfl, rfl, fun h => absurd h (by simp)⟩, fun k hk => by cases hk⟩
theorem Cms.old {w : World} {v : Value} {l : List Cm} (h : Cms w (fun _ => True) v l) : Cms w (fun i => i < w.heap.size) v l := ⟨h.1.mono (fun _ hi _ => hi), fun c hc => (h.2 c hc).monoR (fun _ hi _ => hi)⟩
set_option maxRecDepth 100000 in
set_option maxHeartbeats 8000000 in
set_option linter.unusedSimpArgs false in
theorem all_walk (w : World) (A : Option Addr) (cap : Nat) (cs : List Cm) (id0 : Int) (h : Cms w (fun _ => True) (.slice A cs.length cap) cs) :
  Calls Tryz.prog 3 #[.slice A cs.length cap, .int .u64 id0] w (TellsB true w) := by
 have HC := Lib.hid h.old
 have hfew := h.1.few
 unfold maxLen at hfew
 have NW := Lib.hid (qnew_any w)
 clear h
 go_enter Tryz.func3, Tryz.ntmps3
 go_wp2_with fail
 refine NW.out.mono ?_
 rintro e w1 ⟨q, D, rfl, hq, hpl, k1, hD⟩
 have HQ1 := Lib.hid (Own.ofNew hq hpl k1 hD)
 have HQN := Lib.hid hpl
 have RN := Lib.hid (rnew_any w1)
 generalize q.p = p at *
 clear NW hq hpl k1 hD
 go_wp2_with fail
 refine RN.out.mono ?_
 rintro e w2 ⟨rfl, k2⟩
 have KB := (Keep.refl noneOf w2).alloc (.cells #[.int .u64 0, .int .u64 1, .int .u64 1, .slice none 0 0, .slice none 0 0, .slice none 0 0] 30)
 have HBR1 := Lib.hid (Box.new w2 30 #[.int .u64 0, .int .u64 1, .int .u64 1, .slice none 0 0, .slice none 0 0, .slice none 0 0])
 have HQ2 := Lib.hid ((HQ1.out.stay k2).stay KB)
 have HWP : Hid (w.heap.size ≤ w2.heap.size ∧ ¬ D w2.heap.size) := Lib.hid ⟨by have h1 := HQ1.out.keep.size; have h2 := k2.size; omega, fun hd => by have h1 := (HQ1.out.stay k2).mine.at_.lt _ hd; omega⟩
 clear RN k2 HQ1 KB
 go_upto_region 3 with fail
 generalize w2.alloc (.cells #[.int .u64 0, .int .u64 1, .int .u64 1, .slice none 0 0, .slice none 0 0, .slice none 0 0] 30) = w3 at *
 generalize w2.heap.size = pr at *
 have AL := Lib.hid (alive_any w3)
 go_wp2_with fail
 refine AL.out.mono ?_
 rintro e w4 ⟨rfl, k4⟩
 have HQ4 := Lib.hid (HQ2.out.stay k4)
 have HBR2 := Lib.hid (HBR1.out.keep k4 id)
 clear AL k4 HQ2 HBR1
 go_wp2
 go_loopw [22] (fun i wr => ∃ (k : Nat) (s : Qm) (D : Nat → Prop) (im : Im) (A1 : Option Addr) (a1 : Nat) (A2 : Option Addr) (a2 : Nat) (A3 : Option Addr) (a3 : Nat), k ≤ cs.length ∧ i = .int .i64 k ∧ Own w wr D p s ∧ ¬ D pr ∧ im.plain = s.plain ∧ im.lies wr (fun i => ¬ D i ∧ i ≠ pr) ∧ Box wr pr 30 #[.int .u64 im.now, .int .u64 im.ng, .int .u64 im.nt, .slice A1 im.ses.length a1, .slice A2 im.gs.length a2, .slice A3 im.built.length a3] ∧ im.sv = .slice A1 im.ses.length a1 ∧ im.gv = .slice A2 im.gs.length a2 ∧ im.bv = .slice A3 im.built.length a3) (fun i _ => cs.length - (intOf i).toNat)
 case atStart => exact ⟨0, q, D, ⟨0, 1, 1, .slice none 0 0, .slice none 0 0, .slice none 0 0, [], [], []⟩, none, 0, none, 0, none, 0, Nat.zero_le _, rfl, HQ4.out, HWP.out.2, by rw [HQN.out]; rfl, ⟨Many.nil _ _ _ _, Gms.nil _ _, kys_nil9 _ _⟩, HBR2.out, rfl, rfl, rfl⟩
 case round =>
  obtain ⟨k, s, D, im, A1, a1, A2, a2, A3, a3, hk, rfl, hown, hnd, hpi, hil, hbr, e1, e2, e3⟩ := hrel
  have HOW := Lib.hid hown
  have HND := Lib.hid hnd
  have HPI := Lib.hid hpi
  have HIL := Lib.hid hil
  have HBR := Lib.hid hbr
  have HEE := Lib.hid (And.intro e1 (And.intro e2 e3))
  clear hown hnd hpi hil hbr e1 e2 e3 HQ4 HBR2
  by_cases hlt : k < cs.length
  ·
   have hx : cs[k]? = some cs[k] := List.getElem?_eq_getElem hlt
   have hCo := HC.out.keep HOW.out.keep (fun _ _ _ => id)
   obtain ⟨b, o, rfl, hblk, _, hcell⟩ := hCo.1.cell (fun _ => rfl) hx
   have hcl := hCo.2 _ (List.mem_of_getElem? hx)
   generalize cs[k] = c at *
   obtain ⟨c0, c1, c2, c3, c4, c5, c6, c7⟩ := cm_at b o k _ _ hcell
   obtain ⟨Ag, cg, eg⟩ := hcl.shape
   rw [eg] at c3
   have q0 : (0 : Int) ≤ (k : Int) := by omega
   have q1 : (k : Int) < (cs.length : Int) := by omega
   have KA0 := (Keep.refl noneOf wr).alloc (.cells #[.int .i64 c.kind, .int .u64 c.ses, .int .u64 c.seq, .slice Ag c.ts.length cg, .int .u64 c.id, .int .u64 c.tok, .bool c.good, .int .u64 c.time] 37)
   have HBC := Lib.hid (Box.new wr 37 #[.int .i64 c.kind, .int .u64 c.ses, .int .u64 c.seq, .slice Ag c.ts.length cg, .int .u64 c.id, .int .u64 c.tok, .bool c.good, .int .u64 c.time])
   have HO1 := Lib.hid (HOW.out.stay KA0)
   have HCL := Lib.hid (hcl.keep KA0 (fun _ _ _ => id))
   have HBR1 := Lib.hid (HBR.out.keep KA0 id)
   have HIL1 := Lib.hid (HIL.out.keep KA0 (fun _ _ _ => id))
   have HEG := Lib.hid eg
   have HFR0 : Hid (∀ i, D i → w.heap.size ≤ i ∧ i < wr.heap.size ∧ i ≠ pr) := Lib.hid fun i hi => ⟨HOW.out.mine.new i hi, HOW.out.mine.at_.lt i hi, fun e => HND.out (e ▸ hi)⟩
   have AP := own_apply HO1.out c HCL.out
   unfold Cm.agg at AP
   rw [HEG.out] at AP
   replace AP := Lib.hid AP
   have HWS : Hid (wr.heap.size < (wr.alloc (.cells #[.int .i64 c.kind, .int .u64 c.ses, .int .u64 c.seq, .slice Ag c.ts.length cg, .int .u64 c.id, .int .u64 c.tok, .bool c.good, .int .u64 c.time] 37)).heap.size ∧ pr < wr.heap.size) := Lib.hid ⟨by simp, HBR.out.lt⟩
   clear hx hCo hcell hcl hblk KA0 HOW eg HBR HIL HND
   go_upto_region 8 with fail
   generalize wr.alloc (.cells #[.int .i64 c.kind, .int .u64 c.ses, .int .u64 c.seq, .slice Ag c.ts.length cg, .int .u64 c.id, .int .u64 c.tok, .bool c.good, .int .u64 c.time] 37) = w3 at *
   generalize wr.heap.size = pc at *
   clear c0 c1 c2 c3 c4 c5 c6 c7
   obtain ⟨c0, c1, c2, c3, c4, c5, c6, c7⟩ := And.intro (HBC.out.cell 0) (And.intro (HBC.out.cell 1) (And.intro (HBC.out.cell 2) (And.intro (HBC.out.cell 3) (And.intro (HBC.out.cell 4) (And.intro (HBC.out.cell 5) (And.intro (HBC.out.cell 6) (HBC.out.cell 7)))))))
   go_wp2_with fail
   refine AP.out.mono ?_
   rintro e w4 ⟨s2, rfl, ho4, hpl4, kD⟩
   obtain ⟨a, ha⟩ : ∃ a, (applyP s.plain c.plain).2 = a := ⟨_, rfl⟩
   rw [ha]
   obtain ⟨code, aid, atok, aunt, atgt, acmd⟩ := a
   unfold An.agg
   dsimp only
   have KC := (Keep.refl noneOf w4).alloc (.cells #[.int .i64 code, .int .u64 aid, .int .u64 atok, .int .u64 aunt, .string atgt, .string acmd] 40)
   have HBA := Lib.hid (Box.new w4 40 #[.int .i64 code, .int .u64 aid, .int .u64 atok, .int .u64 aunt, .string atgt, .string acmd])
   have HO4 := Lib.hid (ho4.stay KC)
   have HBC4 := Lib.hid ((HBC.out.keep kD (fun hd => by have := (HFR0.out _ hd).2.1; omega)).keep KC id)
   have HBR4 := Lib.hid ((HBR1.out.keep kD (fun hd => (HFR0.out _ hd).2.2 rfl)).keep KC id)
   have hs34 := kD.size
   have HPRA : Hid (pr < w4.heap.size) := Lib.hid (by have := HWS.out; omega)
   have HIL4 : Hid (im.lies (w4.alloc (.cells #[.int .i64 code, .int .u64 aid, .int .u64 atok, .int .u64 aunt, .string atgt, .string acmd] 40)) (fun i => ¬ (grown w3 w4 D i) ∧ i ≠ pr)) := Lib.hid (by
    have h := (HIL1.out.mono (D' := fun i => i < w3.heap.size ∧ ¬ D i ∧ i ≠ pr) (fun i hi hd => ⟨hi, hd⟩)).keep kD (fun i _ hd => hd.2.1)
    exact (h.mono (fun i _ hd => ⟨fun hg => hg.elim hd.2.1 (fun h => by have := hd.1; omega), hd.2.2⟩)).keep KC (fun _ _ _ => id))
   have HCL4 : Hid (c.lies (w4.alloc (.cells #[.int .i64 code, .int .u64 aid, .int .u64 atok, .int .u64 aunt, .string atgt, .string acmd] 40)) (fun i => ¬ (grown w3 w4 D i) ∧ i ≠ pr)) := Lib.hid (by
    have h := HCL.out.keep kD (fun i _ hd hD => by have := (HFR0.out i hD).1; omega)
    refine (h.monoR (fun i _ hd => ⟨fun hg => hg.elim (fun h => by have := (HFR0.out i h).1; omega) (fun h => by have h1 := HWS.out; have h2 := HWP.out; have := h.1; omega), ?_⟩)).keep KC (fun _ _ _ => id)
    rintro rfl
    have := HWP.out
    omega)
   have HND4 : Hid (∀ i, grown w3 w4 D i → i < w4.heap.size ∧ i ≠ pc ∧ i ≠ pr) := Lib.hid fun i hg => by
    refine ⟨ho4.mine.at_.lt i hg, ?_, ?_⟩
    ·
     rintro rfl; exact hg.elim (fun h => by have := (HFR0.out _ h).2.1; omega) (fun h => by have := HWS.out; omega)
    ·
     rintro rfl; exact hg.elim (fun h => (HFR0.out _ h).2.2 rfl) (fun h => by have := HWS.out; omega)
   have HPL := Lib.hid hpl4
   have HA := Lib.hid ha
   have HIK : Hid (Inv s.plain) := Lib.hid HO1.out.inv
   clear AP HBC HBR1 HIL1 HCL HO1 kD ho4 hpl4 ha c0 c1 c2 c3 c4 c5 c6 c7 KC HFR0 hs34
   go_upto_region 9 with fail
   have HSZ4 : Hid (w4.heap.size < (w4.alloc (.cells #[.int .i64 code, .int .u64 aid, .int .u64 atok, .int .u64 aunt, .string atgt, .string acmd] 40)).heap.size) := Lib.hid (by simp)
   generalize grown w3 w4 D = G at *
   generalize w4.alloc (.cells #[.int .i64 code, .int .u64 aid, .int .u64 atok, .int .u64 aunt, .string atgt, .string acmd] 40) = w5 at *
   generalize w4.heap.size = pa at *
   have RA := rapply_any w5 (fun i => ¬ G i ∧ i ≠ pr) (fun i hi => ⟨fun hg => by have := (HND4.out i hg).1; have := HSZ4.out; omega, by have := HBR4.out.lt; omega⟩) im HIL4.out (by rw [HPI.out]; exact HIK.out) c HCL4.out.tok.1 HCL4.out Ag cg HEG.out
   rw [HPI.out] at RA
   unfold Im.agg Cm.agg at RA
   rw [HEE.out.1, HEE.out.2.1, HEE.out.2.2, HEG.out] at RA
   replace RA := Lib.hid RA
   obtain ⟨c0, c1, c2, c3, c4, c5, c6, c7⟩ := And.intro (HBC4.out.cell 0) (And.intro (HBC4.out.cell 1) (And.intro (HBC4.out.cell 2) (And.intro (HBC4.out.cell 3) (And.intro (HBC4.out.cell 4) (And.intro (HBC4.out.cell 5) (And.intro (HBC4.out.cell 6) (HBC4.out.cell 7)))))))
   obtain ⟨x0, x1, x2, x3, x4, x5⟩ := HBR4.out.six
   go_wp2_with fail
   refine RA.out.mono ?_
   rintro e w6 ⟨im2, rfl, hp2, hl2, k6⟩
   obtain ⟨E1, e1, E2, e2, E3, e3, f1, f2, f3⟩ := hl2.shapes
   rw [HA.out]
   unfold Im.agg An.agg
   rw [f1, f2, f3]
   dsimp only
   obtain ⟨KE, HBI0, HBB0⟩ := two_new w6 #[.int .u64 im2.now, .int .u64 im2.ng, .int .u64 im2.nt, .slice E1 im2.ses.length e1, .slice E2 im2.gs.length e2, .slice E3 im2.built.length e3] #[.int .i64 code, .int .u64 aid, .int .u64 atok, .int .u64 aunt, .string atgt, .string acmd] 30 40
   have HBI6 := Lib.hid HBI0
   have HBB6 := Lib.hid HBB0
   have HO6 := Lib.hid ((HO4.out.stay k6).stay KE)
   have HBC6 := Lib.hid ((HBC4.out.keep k6 id).keep KE id)
   have HBR6 := Lib.hid ((HBR4.out.keep k6 id).keep KE id)
   have HBA6 := Lib.hid ((HBA.out.keep k6 id).keep KE id)
   have HIL6 := Lib.hid (hl2.keep KE (fun _ _ _ => id))
   have HP2 := Lib.hid hp2
   have HE2 := Lib.hid (And.intro f1 (And.intro f2 f3))
   have HPS : Hid (pa < w6.heap.size ∧ pr < w6.heap.size ∧ pc < w6.heap.size ∧ pc ≠ pr ∧ pa ≠ pr) := Lib.hid ⟨by have := k6.size; have := HSZ4.out; omega, by have := HBR4.out.lt; have := k6.size; omega, by have := HBC4.out.lt; have := k6.size; omega, by have := HWS.out; omega, by have := HPRA.out; omega⟩
   clear RA HBC4 HBR4 HBA HIL4 HCL4 HO4 k6 hp2 hl2 f1 f2 f3 KE HBI0 HBB0 c0 c1 c2 c3 c4 c5 c6 c7 x0 x1 x2 x3 x4 x5
   go_upto_region 10 with fail
   generalize ((w6.alloc (.cells #[.int .u64 im2.now, .int .u64 im2.ng, .int .u64 im2.nt, .slice E1 im2.ses.length e1, .slice E2 im2.gs.length e2, .slice E3 im2.built.length e3] 30)).alloc (.cells #[.int .i64 code, .int .u64 aid, .int .u64 atok, .int .u64 aunt, .string atgt, .string acmd] 40)) = w7 at *
   generalize w6.heap.size = pb at *
   obtain ⟨x0, x1, x2, x3, x4, x5⟩ := HBI6.out.six
   obtain ⟨y0, y1, y2, y3, y4, y5⟩ := HBR6.out.six
   obtain ⟨g0, g1, g2, g3, g4, g5⟩ := HBR6.out.free6
   go_upto_region 11 with fail
   have HBR8 := HBR6.out.put6 (.int .u64 im2.now) (.int .u64 im2.ng) (.int .u64 im2.nt) (.slice E1 im2.ses.length e1) (.slice E2 im2.gs.length e2) (.slice E3 im2.built.length e3)
   have K78 := (Keep.refl (fun b => b = pr) w7).put6 (b := pr) (fun _ => rfl) (.int .u64 im2.now) (.int .u64 im2.ng) (.int .u64 im2.nt) (.slice E1 im2.ses.length e1) (.slice E2 im2.gs.length e2) (.slice E3 im2.built.length e3)
   have HO8 := HO6.out.stayS K78 (fun i hi => (HND4.out i hi).2.2) (fun i hi => by have := HWP.out; omega)
   have HIL8 := HIL6.out.keep K78 (fun i _ hd => hd.2)
   have HBC8 := HBC6.out.keep K78 HPS.out.2.2.2.1
   have HBA8 := HBA6.out.keep K78 HPS.out.2.2.2.2
   have HBB8 := HBB6.out.keep K78 (by have := HPS.out; omega)
   dsimp only [sixPut] at HBR8 HO8 HIL8 HBC8 HBA8 HBB8
   replace HBR8 := Lib.hid HBR8
   replace HO8 := Lib.hid HO8
   replace HIL8 := Lib.hid HIL8
   replace HBC8 := Lib.hid HBC8
   replace HBA8 := Lib.hid HBA8
   replace HBB8 := Lib.hid HBB8
   clear K78 x0 x1 x2 x3 x4 x5 y0 y1 y2 y3 y4 y5 g0 g1 g2 g3 g4 g5 HBI6 HBR6 HO6 HIL6 HBC6 HBA6 HBB6
   generalize ((((((w7.setCell ⟨pr, 0, none⟩ (.int .u64 im2.now)).setCell ⟨pr, 1, none⟩ (.int .u64 im2.ng)).setCell ⟨pr, 2, none⟩ (.int .u64 im2.nt)).setCell ⟨pr, 3, none⟩ (.slice E1 im2.ses.length e1)).setCell ⟨pr, 4, none⟩ (.slice E2 im2.gs.length e2)).setCell ⟨pr, 5, none⟩ (.slice E3 im2.built.length e3)) = w8 at *
   have hp8 : s2.plain = im2.plain := HPL.out.trans HP2.out.symm
   have HP8 := Lib.hid hp8
   have VW : Hid (∀ w', Keep noneOf w8 w' → Calls Tryz.prog 12 #[.pointer (some ⟨p, 0, none⟩), .int .u64 c.id] w' (ViewTold (viewP s2.plain c.id) w')) := Lib.hid fun w' k' => by
    have h := view_any w' _ _ (HO8.out.stay k').mine.at_ HO8.out.inv c.id
    rw [HO8.out.at_] at h
    exact h
   have RV : Hid (∀ w', Keep noneOf w8 w' → Calls Tryz.prog 13 #[.agg #[.int .u64 im2.now, .int .u64 im2.ng, .int .u64 im2.nt, .slice E1 im2.ses.length e1, .slice E2 im2.gs.length e2, .slice E3 im2.built.length e3], .int .u64 c.id] w' (RefView (fun _ => True) (viewP im2.plain c.id) w')) := Lib.hid fun w' k' => by
    have h := rview_any w' _ im2 ((HIL8.out.keep k' (fun _ _ _ h => h)).mono (D' := fun _ => True) (fun _ _ _ => trivial)) c.id
    unfold Im.agg at h
    rw [HE2.out.1, HE2.out.2.1, HE2.out.2.2] at h
    exact h
   obtain ⟨vp, hvp⟩ : ∃ vp, viewP im2.plain c.id = vp := ⟨_, rfl⟩
   rw [hp8, hvp] at VW
   rw [hvp] at RV
   have SV : Hid (∀ w' (B1 : Option Addr) (b1 : Nat) (B2 : Option Addr) (b2 : Nat), Keep noneOf w8 w' → Sts w' (fun _ => True) (.slice B1 (vp).2.2.length b1) (vp).2.2 → Sts w' (fun _ => True) (.slice B2 (vp).2.2.length b2) (vp).2.2 → Calls Tryz.prog 11 #[.agg #[.int .i64 (vp).1, .int .u64 (vp).2.1, .slice B1 (vp).2.2.length b1], .agg #[.int .i64 (vp).1, .int .u64 (vp).2.1, .slice B2 (vp).2.2.length b2]] w' (TellsB true w')) := Lib.hid fun w' B1 b1 B2 b2 k' h1 h2 => by
    have h := rsameView_any w' _ _ (vp) (vp) B1 B2 b1 b2 h1 h2
    rw [decide_eq_true rfl] at h
    exact h
   have hneq : ∀ w', (binOp .neq 40 (An.agg ⟨code, aid, atok, aunt, atgt, acmd⟩) (An.agg ⟨code, aid, atok, aunt, atgt, acmd⟩)).run Tryz.prog w' = .ok (.bool false) w' := fun w' => by
    have h := run_neqA w' ⟨code, aid, atok, aunt, atgt, acmd⟩ ⟨code, aid, atok, aunt, atgt, acmd⟩
    rw [decide_eq_true rfl] at h
    exact h
   unfold An.agg at hneq
   dsimp only at hneq
   have MC : Hid (∀ w', Keep noneOf w8 w' → (w'.cell? ⟨pa, 0, none⟩ = some (.int .i64 code) ∧ w'.cell? ⟨pa, 1, none⟩ = some (.int .u64 aid) ∧ w'.cell? ⟨pa, 2, none⟩ = some (.int .u64 atok) ∧ w'.cell? ⟨pa, 3, none⟩ = some (.int .u64 aunt) ∧ w'.cell? ⟨pa, 4, none⟩ = some (.string atgt) ∧ w'.cell? ⟨pa, 5, none⟩ = some (.string acmd)) ∧ (w'.cell? ⟨pb + 1, 0, none⟩ = some (.int .i64 code) ∧ w'.cell? ⟨pb + 1, 1, none⟩ = some (.int .u64 aid) ∧ w'.cell? ⟨pb + 1, 2, none⟩ = some (.int .u64 atok) ∧ w'.cell? ⟨pb + 1, 3, none⟩ = some (.int .u64 aunt) ∧ w'.cell? ⟨pb + 1, 4, none⟩ = some (.string atgt) ∧ w'.cell? ⟨pb + 1, 5, none⟩ = some (.string acmd)) ∧ w'.cell? ⟨pc, 4, none⟩ = some (.int .u64 c.id) ∧ (w'.cell? ⟨pr, 0, none⟩ = some (.int .u64 im2.now) ∧ w'.cell? ⟨pr, 1, none⟩ = some (.int .u64 im2.ng) ∧ w'.cell? ⟨pr, 2, none⟩ = some (.int .u64 im2.nt) ∧ w'.cell? ⟨pr, 3, none⟩ = some (.slice E1 im2.ses.length e1) ∧ w'.cell? ⟨pr, 4, none⟩ = some (.slice E2 im2.gs.length e2) ∧ w'.cell? ⟨pr, 5, none⟩ = some (.slice E3 im2.built.length e3))) := Lib.hid fun w' k' =>
    ⟨(HBA8.out.keep k' id).six, (HBB8.out.keep k' id).six, (HBC8.out.keep k' id).cell 4, (HBR8.out.keep k' id).six⟩
   have K0 := (Keep.refl noneOf w8).drew
   clear hp8 hvp
   go_upto_region 11 with fail
   refine wp_region_held_drew (S := fun w' => Keep noneOf w8 w') (by kernel_rfl) (K0) (fun hHeld => ?_)
   refine' ztk 0 _ rfl (.inl ⟨by kernel_rfl, ?hy0⟩) ?_
   case hy0 => intro w' hSw; obtain ⟨⟨_, _, _, _, _, _⟩, ⟨_, _, _, _, _, _⟩, _, ⟨_, _, _, _, _, _⟩⟩ := MC.out w' hSw; go_simp; try with_reducible rfl
   simp only [Act.put, zga, zgb, zgc, zgd, zge, zgf]
   refine' ztk 1 _ rfl (.inl ⟨by kernel_rfl, ?hy1⟩) ?_
   case hy1 => intro w' hSw; obtain ⟨⟨_, _, _, _, _, _⟩, ⟨_, _, _, _, _, _⟩, _, ⟨_, _, _, _, _, _⟩⟩ := MC.out w' hSw; go_simp; try with_reducible rfl
   simp only [Act.put, zga, zgb, zgc, zgd, zge, zgf]
   refine' ztk 2 (.bool false) rfl (.inl ⟨by kernel_rfl, ?hy2⟩) ?_
   case hy2 => intro w' hSw; go_simp
   simp only [Act.put, zga, zgb, zgc, zgd, zge, zgf]
   refine' ztk 3 _ rfl (.inl ⟨by kernel_rfl, ?hy3⟩) ?_
   case hy3 => intro w' hSw; obtain ⟨⟨_, _, _, _, _, _⟩, ⟨_, _, _, _, _, _⟩, _, ⟨_, _, _, _, _, _⟩⟩ := MC.out w' hSw; go_simp; try with_reducible rfl
   simp only [Act.put, zga, zgb, zgc, zgd, zge, zgf]
   refine' ztk 4 _ rfl (.inl ⟨by kernel_rfl, ?hy4⟩) ?_
   case hy4 => intro w' hSw; obtain ⟨⟨_, _, _, _, _, _⟩, ⟨_, _, _, _, _, _⟩, _, ⟨_, _, _, _, _, _⟩⟩ := MC.out w' hSw; go_simp; try with_reducible rfl
   simp only [Act.put, zga, zgb, zgc, zgd, zge, zgf]
   refine' ztk 5 _ rfl (.inl ⟨by kernel_rfl, ?hy5⟩) ?_
   case hy5 => intro w' hSw; obtain ⟨⟨_, _, _, _, _, _⟩, ⟨_, _, _, _, _, _⟩, _, ⟨_, _, _, _, _, _⟩⟩ := MC.out w' hSw; go_simp; try with_reducible rfl
   simp only [Act.put, zga, zgb, zgc, zgd, zge, zgf]
   refine' ztk 6 _ rfl (.inl ⟨by kernel_rfl, ?hy6⟩) ?_
   case hy6 => intro w' hSw; obtain ⟨⟨_, _, _, _, _, _⟩, ⟨_, _, _, _, _, _⟩, _, ⟨_, _, _, _, _, _⟩⟩ := MC.out w' hSw; go_simp; try with_reducible rfl
   simp only [Act.put, zga, zgb, zgc, zgd, zge, zgf]
   refine' ztk 8 _ rfl (.inl ⟨by kernel_rfl, ?hy8⟩) ?_
   case hy8 => intro w' hSw; obtain ⟨⟨_, _, _, _, _, _⟩, ⟨_, _, _, _, _, _⟩, _, ⟨_, _, _, _, _, _⟩⟩ := MC.out w' hSw; go_simp; try with_reducible rfl
   simp only [Act.put, zga, zgb, zgc, zgd, zge, zgf]
   refine' ztk 9 _ rfl (.inl ⟨by kernel_rfl, ?hy9⟩) ?_
   case hy9 => intro w' hSw; obtain ⟨⟨_, _, _, _, _, _⟩, ⟨_, _, _, _, _, _⟩, _, ⟨_, _, _, _, _, _⟩⟩ := MC.out w' hSw; go_simp; try with_reducible rfl
   simp only [Act.put, zga, zgb, zgc, zgd, zge, zgf]
   refine' ztk 10 _ rfl (.inl ⟨by kernel_rfl, ?hy10⟩) ?_
   case hy10 => intro w' hSw; obtain ⟨⟨_, _, _, _, _, _⟩, ⟨_, _, _, _, _, _⟩, _, ⟨_, _, _, _, _, _⟩⟩ := MC.out w' hSw; go_simp; try with_reducible rfl
   simp only [Act.put, zga, zgb, zgc, zgd, zge, zgf]
   refine wpAnyH_ready (rs := [7]) (by kernel_rfl) (by simp) (AllReadyH.cons rfl (fun K hK => ?_) AllReadyH.nil)
   go_simp
   go_at_call 12
   refine (VW.out _ K0).mono ?_
   rintro e wa ⟨B1, b1, rfl, hsq, kq⟩
   have KA : Keep noneOf w8 wa := K0.trans kq (fun _ _ h => h)
   have HSQ := Lib.hid (hsq.mono (D' := fun _ => True) (fun _ _ _ => trivial))
   clear kq hsq
   go_wp2_with fail
   refine hK.out _ _ (KA) (fun hHeld => ?_)
   clear hK K
   try simp only [Act.put, zga, zgb, zgc, zgd, zge, zgf]
   refine wpAnyH_ready (rs := [11]) (by kernel_rfl) (by simp) (AllReadyH.cons rfl (fun K hK => ?_) AllReadyH.nil)
   go_simp
   go_at_call 13
   refine (RV.out _ KA).mono ?_
   rintro e wb ⟨B2, b2, rfl, hsr, kr⟩
   have KB : Keep noneOf w8 wb := KA.trans kr (fun _ _ h => h)
   have HSQ := Lib.hid (HSQ.out.keep kr (fun _ _ _ h => h))
   have HSR := Lib.hid (hsr.mono (D' := fun _ => True) (fun _ _ _ => trivial))
   clear kr hsr
   go_wp2_with fail
   refine hK.out _ _ (KB) (fun hHeld => ?_)
   clear hK K
   try simp only [Act.put, zga, zgb, zgc, zgd, zge, zgf]
   refine wpAnyH_ready (rs := [12]) (by kernel_rfl) (by simp) (AllReadyH.cons rfl (fun K hK => ?_) AllReadyH.nil)
   go_simp
   go_at_call 11
   refine (SV.out _ _ _ _ _ KB HSQ.out HSR.out).mono ?_
   rintro e w9 ⟨rfl, k9⟩
   have K9 : Keep noneOf w8 w9 := KB.trans k9 (fun _ _ h => h)
   go_wp2_with fail
   refine hK.out _ _ (K9) (fun hHeld => ?_)
   clear hK K
   try simp only [Act.put, zga, zgb, zgc, zgd, zge, zgf]
   refine' ztk 13 (.bool false) rfl (.inl ⟨by kernel_rfl, ?hy13⟩) ?_
   case hy13 => intro w' hSw; rfl
   simp only [Act.put, zga, zgb, zgc, zgd, zge, zgf]
   refine' ztk 14 (.bool false) rfl (.inl ⟨by kernel_rfl, ?hy14⟩) ?_
   case hy14 => intro w' hSw; rfl
   simp only [Act.put, zga, zgb, zgc, zgd, zge, zgf]
   refine wpAnyH_done (by kernel_rfl) ?_ _
   have HO9 := Lib.hid (HO8.out.stay K9)
   have HBR9 := Lib.hid (HBR8.out.keep K9 id)
   have HIL9 := Lib.hid (HIL8.out.keep K9 (fun _ _ _ => id))
   clear MC K0 K9 k9 hHeld hneq HBR8 HIL8 HO8 HBA8 HBB8 HBC8 VW RV SV HSQ HSR
   go_wp2
   go_roundw
   case rel => exact ⟨k + 1, s2, _, im2, E1, e1, E2, e2, E3, e3, by omega, by go_num, HO9.out, fun h => (HND4.out _ h).2.2 rfl, HP8.out.symm, HIL9.out, HBR9.out, HE2.out.1, HE2.out.2.1, HE2.out.2.2⟩
   case measure => simp only [intOf]; omega
  ·
   have hkn : ¬ ((k : Int) < (cs.length : Int)) := by omega
   clear hlt
   have HNOW : Hid (s.now = im.now) := Lib.hid (congrArg Qp.now HPI.out).symm
   have NW2 : Hid (∀ w', Keep noneOf wr w' → Calls Tryz.prog 16 #[.pointer (some ⟨p, 0, none⟩)] w' fun e w'' => e = .returned (.int .u64 im.now) ∧ w'' = w') := Lib.hid fun w' k' => by
    have h := now_any w' _ _ (HOW.out.stay k').mine.at_
    rw [HOW.out.at_, HNOW.out] at h
    exact h
   have DU : Hid (∀ w', Keep noneOf wr w' → Calls Tryz.prog 15 #[.pointer (some ⟨p, 0, none⟩)] w' (OwnTold s w')) := Lib.hid fun w' k' => own_dump (HOW.out.stay k')
   have SM : Hid (∀ w' im2, Keep noneOf wr w' → im2.lies w' (fun _ => True) → Calls Tryz.prog 14 #[im2.agg, .agg #[.int .u64 im.now, .int .u64 im.ng, .int .u64 im.nt, .slice A1 im.ses.length a1, .slice A2 im.gs.length a2, .slice A3 im.built.length a3]] w' (SameTold im2 im w')) := Lib.hid fun w' im2 k' h2 => by
    have h := qsame_any w' _ _ im2 im h2 (HIL.out.keep k' (fun _ _ _ => id))
    have e : im.agg = .agg #[.int .u64 im.now, .int .u64 im.ng, .int .u64 im.nt, .slice A1 im.ses.length a1, .slice A2 im.gs.length a2, .slice A3 im.built.length a3] := by unfold Im.agg; rw [HEE.out.1, HEE.out.2.1, HEE.out.2.2]
    rw [e] at h
    exact h
   have VW : Hid (∀ w', Keep noneOf wr w' → Calls Tryz.prog 12 #[.pointer (some ⟨p, 0, none⟩), .int .u64 id0] w' (ViewTold (viewP s.plain id0) w')) := Lib.hid fun w' k' => by
    have h := view_any w' _ _ (HOW.out.stay k').mine.at_ HOW.out.inv id0
    rw [HOW.out.at_] at h
    exact h
   have RV : Hid (∀ w', Keep noneOf wr w' → Calls Tryz.prog 13 #[.agg #[.int .u64 im.now, .int .u64 im.ng, .int .u64 im.nt, .slice A1 im.ses.length a1, .slice A2 im.gs.length a2, .slice A3 im.built.length a3], .int .u64 id0] w' (RefView (fun _ => True) (viewP im.plain id0) w')) := Lib.hid fun w' k' => by
    have h := rview_any w' _ im ((HIL.out.keep k' (fun _ _ _ h => h)).mono (D' := fun _ => True) (fun _ _ _ => trivial)) id0
    unfold Im.agg at h
    rw [HEE.out.1, HEE.out.2.1, HEE.out.2.2] at h
    exact h
   obtain ⟨vp, hvp⟩ : ∃ vp, viewP im.plain id0 = vp := ⟨_, rfl⟩
   rw [← HPI.out, hvp] at VW
   rw [hvp] at RV
   have SV : Hid (∀ w' (B1 : Option Addr) (b1 : Nat) (B2 : Option Addr) (b2 : Nat), Keep noneOf wr w' → Sts w' (fun _ => True) (.slice B1 (vp).2.2.length b1) (vp).2.2 → Sts w' (fun _ => True) (.slice B2 (vp).2.2.length b2) (vp).2.2 → Calls Tryz.prog 11 #[.agg #[.int .i64 (vp).1, .int .u64 (vp).2.1, .slice B1 (vp).2.2.length b1], .agg #[.int .i64 (vp).1, .int .u64 (vp).2.1, .slice B2 (vp).2.2.length b2]] w' (TellsB true w')) := Lib.hid fun w' B1 b1 B2 b2 k' h1 h2 => by
    have h := rsameView_any w' _ _ (vp) (vp) B1 B2 b1 b2 h1 h2
    rw [decide_eq_true rfl] at h
    exact h
   have MC : Hid (∀ w', Keep noneOf wr w' → (w'.cell? ⟨pr, 0, none⟩ = some (.int .u64 im.now) ∧ w'.cell? ⟨pr, 1, none⟩ = some (.int .u64 im.ng) ∧ w'.cell? ⟨pr, 2, none⟩ = some (.int .u64 im.nt) ∧ w'.cell? ⟨pr, 3, none⟩ = some (.slice A1 im.ses.length a1) ∧ w'.cell? ⟨pr, 4, none⟩ = some (.slice A2 im.gs.length a2) ∧ w'.cell? ⟨pr, 5, none⟩ = some (.slice A3 im.built.length a3))) := Lib.hid fun w' k' => (HBR.out.keep k' id).six
   have K0 := (Keep.refl noneOf wr).drew
   clear hvp
   go_upto_region 14 with fail
   refine wp_region_held_drew (S := fun w' => Keep noneOf wr w') (by kernel_rfl) (K0) (fun hHeld => ?_)
   refine' ztk 0 _ rfl (.inl ⟨by kernel_rfl, ?hy0⟩) ?_
   case hy0 => intro w' hSw; obtain ⟨_, _, _, _, _, _⟩ := MC.out w' hSw; go_simp; try with_reducible rfl
   simp only [Act.put, zga, zgb, zgc, zgd, zge, zgf]
   refine' ztk 2 _ rfl (.inl ⟨by kernel_rfl, ?hy2⟩) ?_
   case hy2 => intro w' hSw; obtain ⟨_, _, _, _, _, _⟩ := MC.out w' hSw; go_simp; try with_reducible rfl
   simp only [Act.put, zga, zgb, zgc, zgd, zge, zgf]
   refine wpAnyH_ready (rs := [1]) (by kernel_rfl) (by simp) (AllReadyH.cons rfl (fun K hK => ?_) AllReadyH.nil)
   go_simp
   go_at_call 15
   refine (DU.out _ K0).mono ?_
   rintro e w5 ⟨im2, rfl, him2, hil2, k5⟩
   have K5 : Keep noneOf wr w5 := K0.trans k5 (fun _ _ h => h)
   have SM2 := Lib.hid (SM.out w5 im2 K5 (hil2.mono (fun _ _ _ => trivial)))
   have HY : Hid (im2.plain = im.plain) := Lib.hid (by rw [him2, HPI.out])
   clear him2 hil2 DU SM
   go_wp2_with fail
   refine hK.out _ _ (K5) (fun hHeld => ?_)
   clear hK K
   try simp only [Act.put, zga, zgb, zgc, zgd, zge, zgf]
   refine wpAnyH_ready (rs := [3]) (by kernel_rfl) (by simp) (AllReadyH.cons rfl (fun K hK => ?_) AllReadyH.nil)
   go_simp
   go_at_call 14
   refine SM2.out.mono ?_
   rintro e w6 ⟨r, rfl, hr, k6⟩
   obtain rfl : r = true := hr.2 HY.out
   have K6 : Keep noneOf wr w6 := K5.trans k6 (fun _ _ h => h)
   clear SM2 HY k5 k6 hr K0
   go_wp2_with fail
   refine hK.out _ _ (K6) (fun hHeld => ?_)
   clear hK K
   try simp only [Act.put, zga, zgb, zgc, zgd, zge, zgf]
   refine' ztk 4 (.bool true) rfl (.inl ⟨by kernel_rfl, ?hy4⟩) ?_
   case hy4 => intro w' hSw; rfl
   simp only [Act.put, zga, zgb, zgc, zgd, zge, zgf]
   refine' ztk 5 _ rfl (.inl ⟨by kernel_rfl, ?hy5⟩) ?_
   case hy5 => intro w' hSw; obtain ⟨_, _, _, _, _, _⟩ := MC.out w' hSw; go_simp; try with_reducible rfl
   simp only [Act.put, zga, zgb, zgc, zgd, zge, zgf]
   refine' ztk 7 _ rfl (.inl ⟨by kernel_rfl, ?hy7⟩) ?_
   case hy7 => intro w' hSw; obtain ⟨_, _, _, _, _, _⟩ := MC.out w' hSw; go_simp; try with_reducible rfl
   simp only [Act.put, zga, zgb, zgc, zgd, zge, zgf]
   refine' ztk 8 _ rfl (.inl ⟨by kernel_rfl, ?hy8⟩) ?_
   case hy8 => intro w' hSw; obtain ⟨_, _, _, _, _, _⟩ := MC.out w' hSw; go_simp; try with_reducible rfl
   simp only [Act.put, zga, zgb, zgc, zgd, zge, zgf]
   refine wpAnyH_ready (rs := [6]) (by kernel_rfl) (by simp) (AllReadyH.cons rfl (fun K hK => ?_) AllReadyH.nil)
   go_simp
   go_at_call 16
   refine (NW2.out _ K6).mono ?_
   rintro e w7 ⟨rfl, rfl⟩
   go_wp2_with fail
   refine hK.out _ _ (K6) (fun hHeld => ?_)
   clear hK K
   try simp only [Act.put, zga, zgb, zgc, zgd, zge, zgf]
   refine' ztk 9 (.bool true) rfl (.inl ⟨by kernel_rfl, ?hy9⟩) ?_
   case hy9 => intro w' hSw; simp [go_sem]
   simp only [Act.put, zga, zgb, zgc, zgd, zge, zgf]
   refine' ztk 10 (.bool true) rfl (.inl ⟨by kernel_rfl, ?hy10⟩) ?_
   case hy10 => intro w' hSw; rfl
   simp only [Act.put, zga, zgb, zgc, zgd, zge, zgf]
   refine' ztk 11 (.bool true) rfl (.inl ⟨by kernel_rfl, ?hy11⟩) ?_
   case hy11 => intro w' hSw; rfl
   simp only [Act.put, zga, zgb, zgc, zgd, zge, zgf]
   refine' ztk 12 _ rfl (.inl ⟨by kernel_rfl, ?hy12⟩) ?_
   case hy12 => intro w' hSw; obtain ⟨_, _, _, _, _, _⟩ := MC.out w' hSw; go_simp; try with_reducible rfl
   simp only [Act.put, zga, zgb, zgc, zgd, zge, zgf]
   refine' ztk 13 _ rfl (.inl ⟨by kernel_rfl, ?hy13⟩) ?_
   case hy13 => intro w' hSw; obtain ⟨_, _, _, _, _, _⟩ := MC.out w' hSw; go_simp; try with_reducible rfl
   simp only [Act.put, zga, zgb, zgc, zgd, zge, zgf]
   refine' ztk 15 _ rfl (.inl ⟨by kernel_rfl, ?hy15⟩) ?_
   case hy15 => intro w' hSw; obtain ⟨_, _, _, _, _, _⟩ := MC.out w' hSw; go_simp; try with_reducible rfl
   simp only [Act.put, zga, zgb, zgc, zgd, zge, zgf]
   refine' ztk 16 _ rfl (.inl ⟨by kernel_rfl, ?hy16⟩) ?_
   case hy16 => intro w' hSw; obtain ⟨_, _, _, _, _, _⟩ := MC.out w' hSw; go_simp; try with_reducible rfl
   simp only [Act.put, zga, zgb, zgc, zgd, zge, zgf]
   have K0 := K6
   clear K6
   refine wpAnyH_ready (rs := [14]) (by kernel_rfl) (by simp) (AllReadyH.cons rfl (fun K hK => ?_) AllReadyH.nil)
   go_simp
   go_at_call 12
   refine (VW.out _ K0).mono ?_
   rintro e wa ⟨B1, b1, rfl, hsq, kq⟩
   have KA : Keep noneOf wr wa := K0.trans kq (fun _ _ h => h)
   have HSQ := Lib.hid (hsq.mono (D' := fun _ => True) (fun _ _ _ => trivial))
   clear kq hsq
   go_wp2_with fail
   refine hK.out _ _ (KA) (fun hHeld => ?_)
   clear hK K
   try simp only [Act.put, zga, zgb, zgc, zgd, zge, zgf]
   refine wpAnyH_ready (rs := [17]) (by kernel_rfl) (by simp) (AllReadyH.cons rfl (fun K hK => ?_) AllReadyH.nil)
   go_simp
   go_at_call 13
   refine (RV.out _ KA).mono ?_
   rintro e wb ⟨B2, b2, rfl, hsr, kr⟩
   have KB : Keep noneOf wr wb := KA.trans kr (fun _ _ h => h)
   have HSQ := Lib.hid (HSQ.out.keep kr (fun _ _ _ h => h))
   have HSR := Lib.hid (hsr.mono (D' := fun _ => True) (fun _ _ _ => trivial))
   clear kr hsr
   go_wp2_with fail
   refine hK.out _ _ (KB) (fun hHeld => ?_)
   clear hK K
   try simp only [Act.put, zga, zgb, zgc, zgd, zge, zgf]
   refine wpAnyH_ready (rs := [18]) (by kernel_rfl) (by simp) (AllReadyH.cons rfl (fun K hK => ?_) AllReadyH.nil)
   go_simp
   go_at_call 11
   refine (SV.out _ _ _ _ _ KB HSQ.out HSR.out).mono ?_
   rintro e w9 ⟨rfl, k9⟩
   have K9 : Keep noneOf wr w9 := KB.trans k9 (fun _ _ h => h)
   go_wp2_with fail
   refine hK.out _ _ (K9) (fun hHeld => ?_)
   clear hK K
   try simp only [Act.put, zga, zgb, zgc, zgd, zge, zgf]
   refine' ztk 19 (.bool true) rfl (.inl ⟨by kernel_rfl, ?hy19⟩) ?_
   case hy19 => intro w' hSw; rfl
   simp only [Act.put, zga, zgb, zgc, zgd, zge, zgf]
   refine' ztk 20 (.bool true) rfl (.inl ⟨by kernel_rfl, ?hy20⟩) ?_
   case hy20 => intro w' hSw; rfl
   simp only [Act.put, zga, zgb, zgc, zgd, zge, zgf]
   refine wpAnyH_done (by kernel_rfl) ?_ _
   clear MC K0 hHeld k9 VW RV SV HSQ HSR
   go_wp2
   go_ret
   exact ⟨rfl, HOW.out.keep.trans K9 (fun _ _ h => h)⟩
namespace QueueAll
set_option maxRecDepth 100000 in
theorem lifted (os : Os) (started : os.Started) (H : Type) (enc : TypeId × Value → H) :
  ReturnsInHanded {} Tryz.checked os 3 .any (Rows.queueAllSpec.pre6 enc Tryz.prog Tryz.f3 Rows.queueAllRow.domain false) (Rows.queueAllSpec.post enc Tryz.prog Tryz.f3 false true false false) := by
 refine returnsInHanded_of_change_sized (C := Tryz.checked) own started (by kernel_rfl) Tryz.func3
  (ChangeSpec.witness6 (enc := enc) (C := Tryz.checked) false ⟨#[], #[.slice none 0 0, .int .u64 0], []⟩ 8 (by kernel_rfl) (by kernel_rfl) (by kernel_rfl) (by kernel_rfl)) ?_
 intro W base args ds gs before hval0 hW hcnd hsz _
 have hval : ∀ (j : Nat) t v, Tryz.f3.params[j]? = some t → args[j]? = some v → Value.okWide Tryz.prog W .any base t v := hval0
 have hW' := hW
 obtain ⟨p, q, hA0, hV, rfl, hfz, hnd⟩ := hW
 have hA : DataW.TrodAll enc Tryz.prog W 0 (fun _ => true) true Tryz.f3.params.toList args.toList ds p := hA0
 rw [Tryz.params3] at hA hval
 obtain ⟨v0, vs0, d0, ds0, p0, q0, hargs, rfl, rfl, h0, r0⟩ := trodAll_cons hA
 obtain ⟨v1, vs1, d1, ds1, p1, q1, rfl, rfl, rfl, h1, r1⟩ := trodAll_cons r0
 obtain ⟨rfl, rfl, rfl⟩ := trodAll_nil r1
 obtain rfl : args = #[v0, v1] := by cases args; simp_all
 obtain ⟨rfl, rfl⟩ := trodVars_none hV
 have k0 := h0
 have lt0 : ∀ x ∈ p0, x.block < W.heap.size := by obtain ⟨m, hm⟩ := k0; exact DataW.trod_lt m _ _ _ hm
 obtain ⟨A0, c0, l0, rfl, hl0⟩ := open_arg_cms (hval 0 22 v0 rfl rfl) h0 (light_arg hsz (j := 0) rfl rfl)
 obtain ⟨a1, rfl, rfl, rfl, w1⟩ := open_int Tryz.underlying23 (hval 1 23 v1 rfl rfl) h1
 clear hA0 hval0
 refine (all_walk W A0 c0 l0 a1 hl0).mono fun e W' ⟨he, bel0⟩ => ?_
 subst he
 have bel := bel0.all
 exact ⟨_, rfl, _, _, _, [], _, [], hW', trodAll_mk1 (shut_bool Tryz.underlying4 _), (trodAll_cons_mk (Below.trod laidOut (by kernel_rfl) (of_decide_eq_true (by kernel_rfl)) k0 bel lt0) (trodAll_cons_mk (shut_int Tryz.underlying23 w1) trodAll_mk0)), rfl, bel.frame _, fun h => by cases h⟩
theorem over : Rows.queueAllRow.holds Tryz.pinned (OpenSpec.ofChange Rows.queueAllSpec) :=
 OpenClaim.holds_of_wide 3 Tryz.f3 rfl rfl rfl rfl rfl rfl rfl ⟨rfl, rfl, rfl, rfl, rfl⟩ rfl rfl rfl rfl rfl (by kernel_rfl) Tryz.func3 (by kernel_rfl)
  (of_decide_eq_true (by kernel_rfl)) (by unfold Func.isWrapper; first | (rw [if_pos (by decide +kernel)]; kernel_rfl) | (rw [if_neg (by decide +kernel)]; exact ⟨rfl, rfl⟩))
  (fun os started H enc _ => lifted os started H enc)
theorem proved : Rows.QueueAllSaid := over
end QueueAll
end Go.Proofs.YtffoeodjbbkdjaaGreat
