import Derived.Test.YtknpklilgdegnaaGreatRows
import Derived.BigQuiet
import Derived.Deep.QuietTactic
import Derived.Shelf.RegionOpen
import Derived.Test.YtknpklilgdegnaaGreatBs01
import Derived.Test.YtknpklilgdegnaaGreatBs02
import Derived.Test.YtknpklilgdegnaaGreatBs03
import Derived.Test.YtknpklilgdegnaaGreatBs04
import Derived.Test.YtknpklilgdegnaaGreatBs05
import Derived.Test.YtknpklilgdegnaaGreatBs06
import Derived.Test.YtknpklilgdegnaaGreatBs07
import Derived.Test.YtknpklilgdegnaaGreatBs08
import Derived.Test.YtknpklilgdegnaaGreatBs09
import Derived.Test.YtknpklilgdegnaaGreatBs10
import Derived.Test.YtknpklilgdegnaaGreatBs11
import Derived.Test.YtknpklilgdegnaaGreatBs12
import Derived.Test.YtknpklilgdegnaaGreatBs13
import Derived.Test.YtknpklilgdegnaaGreatBs14
import Derived.Test.YtknpklilgdegnaaGreatBs15
import Derived.Test.YtknpklilgdegnaaGreatBs16
import Derived.Test.YtknpklilgdegnaaGreatBs17
import Derived.Test.YtknpklilgdegnaaGreatBs18
import Derived.Test.YtknpklilgdegnaaGreatBs19
import Derived.Test.YtknpklilgdegnaaGreatBs20
import Derived.Test.YtknpklilgdegnaaGreatBs21
import Derived.Test.YtknpklilgdegnaaGreatBs22
import Derived.Test.YtknpklilgdegnaaGreatBs23
import Derived.Test.YtknpklilgdegnaaGreatBs24
import Derived.Test.YtknpklilgdegnaaGreatBs25
import Derived.Test.YtknpklilgdegnaaGreatBs26
import Derived.Test.YtknpklilgdegnaaGreatBs27
import Derived.Test.YtknpklilgdegnaaGreatBs28
import Derived.Test.YtknpklilgdegnaaGreatBs29
import Derived.Test.YtknpklilgdegnaaGreatBs30
import Derived.Test.YtknpklilgdegnaaGreatBs31
import Derived.Test.YtknpklilgdegnaaGreatBs32
import Derived.Test.YtknpklilgdegnaaGreatBs33
import Derived.Test.YtknpklilgdegnaaGreatBs34
import Derived.Test.YtknpklilgdegnaaGreatBs35
import Derived.Test.YtknpklilgdegnaaGreatBs36
import Derived.Test.YtknpklilgdegnaaGreatBs37
import Derived.Test.YtknpklilgdegnaaGreatBs38
import Derived.Test.YtknpklilgdegnaaGreatBs39
import Derived.Test.YtknpklilgdegnaaGreatBs40
import Derived.Test.YtknpklilgdegnaaGreatBs41
import Derived.Test.YtknpklilgdegnaaGreatBs42
import Derived.Test.YtknpklilgdegnaaGreatBs43
import Derived.Test.YtknpklilgdegnaaGreatBs44
import Derived.Test.YtknpklilgdegnaaGreatBs45
import Derived.Test.YtknpklilgdegnaaGreatBs46
import Derived.Test.YtknpklilgdegnaaGreatBs47
import Derived.Test.YtknpklilgdegnaaGreatBs48
import Derived.Test.YtknpklilgdegnaaGreatBs49
namespace Go.Proofs.YtknpklilgdegnaaGreat
open Go.RowKit
theorem run_neqA (w : World) (x y : An) : (binOp .neq 40 x.agg y.agg).run Tryz.prog w = .ok (.bool (!decide (x = y))) w := by
  show (binOp .neq 40 (.agg _) (.agg _)).run Tryz.prog w = _
  rw [run_neq_struct]
  have := run_equalA 9998 w x y
  unfold An.agg at this
  rw [this]
  rfl
end Go.Proofs.YtknpklilgdegnaaGreat
namespace Go.Proofs.YtknpklilgdegnaaGreat
open Go.RowKit
theorem find_ins (r : Ro) : ∀ (l : List Ro), (∀ g ∈ l, g.id ≠ r.id) → findR (insR r l) r.id = some r
  | [], _ => by unfold insR findR; simp
  | g :: l, h => by
    unfold insR
    split
    · unfold findR; simp
    · unfold findR
      rw [List.find?_cons_of_neg (by simpa using h g (List.mem_cons_self ..))]
      exact find_ins r l (fun x hx => h x (List.mem_cons_of_mem _ hx))
theorem find_put (l : List Ro) (r : Ro) : findR (putR l r) r.id = some r := by
  unfold putR
  refine find_ins r _ (fun g hg => ?_)
  unfold delR at hg
  simpa using (List.mem_filter.1 hg).2
end Go.Proofs.YtknpklilgdegnaaGreat
namespace Go.Proofs.YtknpklilgdegnaaGreat
theorem put_row' (l : List Ro) (x s : Int) (a : An) : (lookA (putR l ⟨x, s, a⟩) x s = if s = s ∧ s ≠ 0 then a else .zero) ∧ (lookB (putR l ⟨x, s, a⟩) x s = decide (s = s ∧ s ≠ 0)) ∧ (lookE (putR l ⟨x, s, a⟩) x s = if s < s ∨ s = 0 then 111 else 0) :=
  look_at (find_put l ⟨x, s, a⟩)
theorem apply_again (q : Qp) (c : Cq) : applyP (applyP q c).1 c = ((applyP q c).1, (applyP q c).2) ∨ (c.kind = 7 ∧ (applyP (applyP q c).1 c).1 = (applyP q c).1) := by
  by_cases h7 : c.kind = 7
  · right
    refine ⟨h7, ?_⟩
    unfold applyP
    rw [if_pos h7, if_pos h7]
    by_cases ht : c.time ≤ q.now
    · rw [if_pos ht, if_pos ht]
    · rw [if_neg ht, if_pos (Int.le_refl _)]
  · left
    by_cases h1 : c.kind = 1
    · unfold applyP
      rw [if_neg h7, if_neg h7, if_pos h1, if_pos h1]
      simp only
      have : openL (openL q.ses c.ses) c.ses = openL q.ses c.ses ∧ openE (openL q.ses c.ses) c.ses = openE q.ses c.ses := by
        by_cases h0 : c.ses = 0
        · unfold openL openE
          simp [h0]
        · cases hq : findR q.ses c.ses with
          | some r =>
            have e : openL q.ses c.ses = q.ses := by unfold openL; rw [if_neg h0, hq]; rfl
            rw [e]
            exact ⟨e, rfl⟩
          | none =>
            by_cases hf : 16 ≤ q.ses.length
            · have e : openL q.ses c.ses = q.ses := by unfold openL; rw [if_neg h0, hq, if_neg (by simp), if_pos hf]
              rw [e]
              exact ⟨e, rfl⟩
            · have e : openL q.ses c.ses = insR ⟨c.ses, 0, .zero⟩ q.ses := by unfold openL; rw [if_neg h0, hq, if_neg (by simp), if_neg hf]
              have e2 : openE q.ses c.ses = 0 := by unfold openE; rw [if_neg h0, hq, if_neg (by simp), if_neg hf]
              have hfi : findR (insR ⟨c.ses, 0, .zero⟩ q.ses) c.ses = some ⟨c.ses, 0, .zero⟩ := find_ins ⟨c.ses, 0, .zero⟩ q.ses (no_find hq)
              rw [e, e2]
              unfold openL openE
              rw [if_neg h0, if_neg h0, hfi]
              exact ⟨rfl, rfl⟩
      rw [this.1, this.2]
    · by_cases hk : c.kind < 2 ∨ 6 < c.kind
      · unfold applyP
        simp only [if_neg h7, if_neg h1, if_pos hk]
      · by_cases he : lookE q.ses c.ses c.seq = 0
        · by_cases hb : lookB q.ses c.ses c.seq = true
          · have e : applyP q c = (q, lookA q.ses c.ses c.seq) := by unfold applyP; rw [if_neg h7, if_neg h1, if_neg hk, if_neg (fun e => e he), if_pos hb]
            rw [e]
            exact e
          · have e : applyP q c = ({ (doneP q c).1 with ses := keepL q.ses c.ses c.seq (doneP q c).2 }, (doneP q c).2) := by unfold applyP; rw [if_neg h7, if_neg h1, if_neg hk, if_neg (fun e => e he), if_neg hb]
            have hke : keepE q.ses c.ses c.seq = 0 := by unfold keepE; rw [if_neg (fun e => e he), if_neg hb]
            obtain ⟨_, _, _, hs0⟩ := keep_ok hke
            have hkl : keepL q.ses c.ses c.seq (doneP q c).2 = putR q.ses ⟨c.ses, c.seq, (doneP q c).2⟩ := by unfold keepL; rw [if_pos hke]
            obtain ⟨p1, p2, p3⟩ := put_row' q.ses c.ses c.seq (doneP q c).2
            rw [if_pos ⟨rfl, hs0⟩] at p1
            rw [decide_eq_true ⟨rfl, hs0⟩] at p2
            rw [if_neg (by omega)] at p3
            rw [e, hkl]
            simp only
            unfold applyP
            simp only [if_neg h7, if_neg h1, if_neg hk, p3, p2, p1, ne_eq, not_true_eq_false, if_false, if_true]
        · have e : applyP q c = (q, .err (lookE q.ses c.ses c.seq)) := by unfold applyP; rw [if_neg h7, if_neg h1, if_neg hk, if_pos he]
          rw [e]
          exact e
end Go.Proofs.YtknpklilgdegnaaGreat
namespace Go.Proofs.YtknpklilgdegnaaGreat
open Go.RowKit Go.ChangeShapes Go.WideShapes Go.Deep
theorem cms_low {w : World} {v : Value} {l : List Cm} (h : Cms w (fun _ => True) v l) : Cms w (fun i => i < w.heap.size) v l :=
  ⟨h.1.mono (fun _ hi _ => hi), fun c hc => let x := h.2 c hc; ⟨x.tgs.monoQ (fun _ hi _ => hi), x.few, x.needs, x.ses, x.seq, x.id, x.tok, x.time⟩⟩
theorem again_same (q : Qp) (c : Cq) : (applyP (applyP q c).1 c).1 = (applyP q c).1 := by
  rcases apply_again q c with h | h
  · rw [h]
  · exact h.2
theorem again_told {q : Qp} {c : Cq} (h : c.kind ≠ 7) : (applyP (applyP q c).1 c).2 = (applyP q c).2 := by
  rcases apply_again q c with h1 | h1
  · rw [h1]
  · exact absurd h1.1 h
set_option maxRecDepth 100000 in
set_option maxHeartbeats 8000000 in
set_option linter.unusedSimpArgs false in
theorem again_walk (w : World) (A : Option Addr) (cap : Nat) (cs : List Cm) (h : Cms w (fun _ => True) (.slice A cs.length cap) cs) :
    Calls Tryz.prog 7 #[.slice A cs.length cap] w (TellsB true w) := by
  have HC := Lib.hid (cms_low h)
  have hfew := h.1.few
  unfold maxLen at hfew
  have NW := Lib.hid (qnew_any w)
  clear h
  go_enter Tryz.func7, Tryz.ntmps7
  go_wp2_with fail
  refine NW.out.mono ?_
  rintro e w1 ⟨q, D, rfl, hq, hpl, k1, hD⟩
  have HQ1 := Lib.hid (Own.ofNew hq hpl k1 hD)
  have AL := Lib.hid (alive_any w1)
  generalize q.p = p at *
  clear NW hq hpl k1 hD
  go_wp2_with fail
  refine AL.out.mono ?_
  rintro e w2 ⟨rfl, k2⟩
  have HQ2 := Lib.hid (HQ1.out.stay k2)
  clear AL k2 HQ1
  go_wp2
  go_loopw [18] (fun i wr => ∃ (k : Nat) (s : Qm) (D : Nat → Prop), k ≤ cs.length ∧ i = .int .i64 k ∧ Own w wr D p s) (fun i _ => cs.length - (intOf i).toNat)
  case atStart => exact ⟨0, q, D, Nat.zero_le _, rfl, HQ2.out⟩
  case round =>
    obtain ⟨k, s, D, hk, rfl, hown⟩ := hrel
    have HOW := Lib.hid hown
    clear hown HQ2
    by_cases hlt : k < cs.length
    · have hx : cs[k]? = some cs[k] := List.getElem?_eq_getElem hlt
      have hC := HC.out.keep HOW.out.keep (fun _ _ _ => id)
      obtain ⟨b, o, rfl, hblk, _, hcell⟩ := hC.1.cell (fun _ => rfl) hx
      have hcl := hC.2 _ (List.mem_of_getElem? hx)
      generalize cs[k] = c at *
      obtain ⟨c0, c1, c2, c3, c4, c5, c6, c7⟩ := cm_at b o k _ _ hcell
      obtain ⟨Ag, cg, eg⟩ := hcl.shape
      rw [eg] at c3
      have q0 : (0 : Int) ≤ (k : Int) := by omega
      have q1 : (k : Int) < (cs.length : Int) := by omega
      have KA := (Keep.refl noneOf wr).alloc (.cells #[.int .i64 c.kind, .int .u64 c.ses, .int .u64 c.seq, .slice Ag c.ts.length cg, .int .u64 c.id, .int .u64 c.tok, .bool c.good, .int .u64 c.time] 37)
      have HBC := Lib.hid (Box.new wr 37 #[.int .i64 c.kind, .int .u64 c.ses, .int .u64 c.seq, .slice Ag c.ts.length cg, .int .u64 c.id, .int .u64 c.tok, .bool c.good, .int .u64 c.time])
      have HO1 := Lib.hid (HOW.out.stay KA)
      have HCL := Lib.hid (hcl.keep KA (fun _ _ _ => id))
      have HEG := Lib.hid eg
      have HFR0 : Hid (∀ i, D i → i < wr.heap.size) := Lib.hid HOW.out.mine.at_.lt
      have HNW : Hid (∀ i, D i → w.heap.size ≤ i) := Lib.hid HOW.out.mine.new
      have AP := own_apply HO1.out c HCL.out
      unfold Cm.agg at AP
      rw [HEG.out] at AP
      replace AP := Lib.hid AP
      have HSZ : Hid ((wr.alloc (.cells #[.int .i64 c.kind, .int .u64 c.ses, .int .u64 c.seq, .slice Ag c.ts.length cg, .int .u64 c.id, .int .u64 c.tok, .bool c.good, .int .u64 c.time] 37)).heap.size = wr.heap.size + 1) := Lib.hid (by simp)
      obtain ⟨c0, c1, c2, c3, c4, c5, c6, c7⟩ := And.intro (HBC.out.cell 0) (And.intro (HBC.out.cell 1) (And.intro (HBC.out.cell 2) (And.intro (HBC.out.cell 3) (And.intro (HBC.out.cell 4) (And.intro (HBC.out.cell 5) (And.intro (HBC.out.cell 6) (HBC.out.cell 7)))))))
      clear hx hC hcell hcl hblk KA HOW eg
      go_wp2_with fail
      refine AP.out.mono ?_
      rintro e w4 ⟨s2, rfl, ho4, hpl4, kD⟩
      obtain ⟨a, ha⟩ : ∃ a, (applyP s.plain c.plain).2 = a := ⟨_, rfl⟩
      rw [ha]
      obtain ⟨xc, xi, xt, xu, xg, xm⟩ := a
      unfold An.agg
      dsimp only
      have HFRC : Hid (¬ D wr.heap.size) := Lib.hid (fun hd => by have := HFR0.out _ hd; omega)
      have HFRG : Hid (¬ grown (wr.alloc (.cells #[.int .i64 c.kind, .int .u64 c.ses, .int .u64 c.seq, .slice Ag c.ts.length cg, .int .u64 c.id, .int .u64 c.tok, .bool c.good, .int .u64 c.time] 37)) w4 D wr.heap.size) := Lib.hid (by
        rintro (h | ⟨h, _⟩)
        · exact HFRC.out h
        · rw [HSZ.out] at h; omega)
      have KC := (Keep.refl noneOf w4).alloc (.cells #[.int .i64 xc, .int .u64 xi, .int .u64 xt, .int .u64 xu, .string xg, .string xm] 40)
      have HBA := Lib.hid (Box.new w4 40 #[.int .i64 xc, .int .u64 xi, .int .u64 xt, .int .u64 xu, .string xg, .string xm])
      have HBC2 := Lib.hid ((HBC.out.keep kD HFRC.out).keep KC id)
      have HCL2 := Lib.hid ((HCL.out.keep kD (fun i _ hi hd => by have := HNW.out i hd; omega)).keep KC (fun _ _ _ => id))
      have HLT4 : Hid (∀ i, grown (wr.alloc (.cells #[.int .i64 c.kind, .int .u64 c.ses, .int .u64 c.seq, .slice Ag c.ts.length cg, .int .u64 c.id, .int .u64 c.tok, .bool c.good, .int .u64 c.time] 37)) w4 D i → i < w4.heap.size) := Lib.hid ho4.mine.at_.lt
      have HO2 := Lib.hid (ho4.stay KC)
      have HPL := Lib.hid hpl4
      have HA := Lib.hid ha
      have DU := Lib.hid (own_dump HO2.out)
      have HS4 : Hid ((w4.alloc (.cells #[.int .i64 xc, .int .u64 xi, .int .u64 xt, .int .u64 xu, .string xg, .string xm] 40)).heap.size = w4.heap.size + 1) := Lib.hid (by simp)
      clear AP HO1 HCL kD ho4 hpl4 ha KC HBC HFRC c0 c1 c2 c3 c4 c5 c6 c7
      go_wp2_with fail
      refine DU.out.mono ?_
      rintro e w5 ⟨im, rfl, him, hil, k5⟩
      obtain ⟨A1, a1, A2, a2, A3, a3, e1, e2, e3⟩ := hil.shapes
      have KB := (Keep.refl noneOf w5).alloc (.cells #[.int .u64 im.now, .int .u64 im.ng, .int .u64 im.nt, .slice A1 im.ses.length a1, .slice A2 im.gs.length a2, .slice A3 im.built.length a3] 30)
      have HBI := Lib.hid (Box.new w5 30 #[.int .u64 im.now, .int .u64 im.ng, .int .u64 im.nt, .slice A1 im.ses.length a1, .slice A2 im.gs.length a2, .slice A3 im.built.length a3])
      have HBC3 := Lib.hid ((HBC2.out.keep k5 id).keep KB id)
      have HBA3 := Lib.hid ((HBA.out.keep k5 id).keep KB id)
      have HO3 := Lib.hid ((HO2.out.stay k5).stay KB)
      have HCL3 := ((HCL2.out.keep k5 (fun _ _ _ => id)).keep KB (fun _ _ _ => id))
      have HIL := Lib.hid ((hil.keep KB (fun _ _ _ => id)))
      have HIM := Lib.hid him
      have HE := Lib.hid (And.intro e1 (And.intro e2 e3))
      have HFA : Hid (¬ grown (wr.alloc (.cells #[.int .i64 c.kind, .int .u64 c.ses, .int .u64 c.seq, .slice Ag c.ts.length cg, .int .u64 c.id, .int .u64 c.tok, .bool c.good, .int .u64 c.time] 37)) w4 D w4.heap.size ∧ ¬ grown (wr.alloc (.cells #[.int .i64 c.kind, .int .u64 c.ses, .int .u64 c.seq, .slice Ag c.ts.length cg, .int .u64 c.id, .int .u64 c.tok, .bool c.good, .int .u64 c.time] 37)) w4 D w5.heap.size) := Lib.hid ⟨fun h => by have := HLT4.out _ h; omega, fun h => by
        have := HLT4.out _ h
        have := k5.size
        rw [HS4.out] at this
        omega⟩
      have AP := own_apply HO3.out c HCL3
      unfold Cm.agg at AP
      rw [HEG.out] at AP
      replace AP := Lib.hid AP
      unfold Im.agg
      rw [e1, e2, e3]
      obtain ⟨c0, c1, c2, c3, c4, c5, c6, c7⟩ := And.intro (HBC3.out.cell 0) (And.intro (HBC3.out.cell 1) (And.intro (HBC3.out.cell 2) (And.intro (HBC3.out.cell 3) (And.intro (HBC3.out.cell 4) (And.intro (HBC3.out.cell 5) (And.intro (HBC3.out.cell 6) (HBC3.out.cell 7)))))))
      clear DU HO2 HCL2 k5 KB him hil e1 e2 e3 HCL3 HBC2 HBA
      go_wp2_with fail
      refine AP.out.mono ?_
      rintro e w6 ⟨s3, rfl, ho6, hpl6, kD⟩
      obtain ⟨y, hy⟩ : ∃ y, (applyP s2.plain c.plain).2 = y := ⟨_, rfl⟩
      rw [hy]
      obtain ⟨yc, yi, yt, yu, yg, ym⟩ := y
      unfold An.agg
      dsimp only
      have KC := (Keep.refl noneOf w6).alloc (.cells #[.int .i64 yc, .int .u64 yi, .int .u64 yt, .int .u64 yu, .string yg, .string ym] 40)
      have HBB := Lib.hid (Box.new w6 40 #[.int .i64 yc, .int .u64 yi, .int .u64 yt, .int .u64 yu, .string yg, .string ym])
      have HBI3 := Lib.hid ((HBI.out.keep kD HFA.out.2).keep KC id)
      have HBA4 := Lib.hid ((HBA3.out.keep kD HFA.out.1).keep KC id)
      have HBC4 := Lib.hid ((HBC3.out.keep kD HFRG.out).keep KC id)
      have HIL3 := Lib.hid ((HIL.out.keep kD (fun i _ hi hd => by have := HLT4.out i hd; rw [HS4.out] at hi; omega)).keep KC (fun _ _ _ => id))
      have HO4 := Lib.hid (ho6.stay KC)
      have HSM : Hid (s3.plain = im.plain) := Lib.hid (by rw [hpl6, HIM.out, HPL.out]; exact again_same _ _)
      have HTD : Hid (c.kind ≠ 7 → (An.mk yc yi yt yu yg ym) = ⟨xc, xi, xt, xu, xg, xm⟩) := Lib.hid (fun h => by rw [← HA.out, ← hy, HPL.out]; exact again_told h)
      clear AP HBI HIL HO3 HBC3 HBA3 kD ho6 hpl6 hy c0 c1 c2 c3 c4 c5 c6 c7 KC HPL HA
      go_upto_region 10 with fail
      obtain ⟨c0, c1, c2, c3, c4, c5⟩ := And.intro (HBA4.out.cell 0) (And.intro (HBA4.out.cell 1) (And.intro (HBA4.out.cell 2) (And.intro (HBA4.out.cell 3) (And.intro (HBA4.out.cell 4) (HBA4.out.cell 5)))))
      obtain ⟨f0, f1, f2, f3, f4, f5⟩ := And.intro (HBB.out.cell 0) (And.intro (HBB.out.cell 1) (And.intro (HBB.out.cell 2) (And.intro (HBB.out.cell 3) (And.intro (HBB.out.cell 4) (HBB.out.cell 5)))))
      have g0 := HBC4.out.cell 0
      generalize w6.alloc (.cells #[.int .i64 yc, .int .u64 yi, .int .u64 yt, .int .u64 yu, .string yg, .string ym] 40) = w7 at *
      generalize w6.heap.size = pb at *
      generalize w5.heap.size = pi at *
      generalize w4.heap.size = pa at *
      generalize wr.heap.size = pc at *
      have hneq : ∀ w', (binOp .neq 40 (An.agg ⟨xc, xi, xt, xu, xg, xm⟩) (An.agg ⟨yc, yi, yt, yu, yg, ym⟩)).run Tryz.prog w' = .ok (.bool (!decide ((An.mk xc xi xt xu xg xm) = ⟨yc, yi, yt, yu, yg, ym⟩))) w' := fun w' => run_neqA w' _ _
      unfold An.agg at hneq
      dsimp only at hneq
      obtain ⟨nq, hnq⟩ : ∃ nq, (!decide ((An.mk xc xi xt xu xg xm) = ⟨yc, yi, yt, yu, yg, ym⟩)) = nq := ⟨_, rfl⟩
      rw [hnq] at hneq
      have HNQ := Lib.hid hnq
      have MC : Hid (∀ w', Keep noneOf w7 w' → w'.cell? ⟨pi, 0, none⟩ = some (.int .u64 im.now) ∧ w'.cell? ⟨pi, 1, none⟩ = some (.int .u64 im.ng) ∧ w'.cell? ⟨pi, 2, none⟩ = some (.int .u64 im.nt) ∧ w'.cell? ⟨pi, 3, none⟩ = some (.slice A1 im.ses.length a1) ∧ w'.cell? ⟨pi, 4, none⟩ = some (.slice A2 im.gs.length a2) ∧ w'.cell? ⟨pi, 5, none⟩ = some (.slice A3 im.built.length a3)) := Lib.hid fun w' k' =>
        ⟨(HBI3.out.keep k' id).cell 0, (HBI3.out.keep k' id).cell 1, (HBI3.out.keep k' id).cell 2, (HBI3.out.keep k' id).cell 3, (HBI3.out.keep k' id).cell 4, (HBI3.out.keep k' id).cell 5⟩
      have DU2 : Hid (∀ w', Keep noneOf w7 w' → Calls Tryz.prog 23 #[.pointer (some ⟨p, 0, none⟩)] w' (OwnTold s3 w')) := Lib.hid fun w' k' => own_dump (HO4.out.stay k')
      have SM : Hid (∀ w' im2, Keep noneOf w7 w' → im2.lies w' (fun _ => True) → Calls Tryz.prog 22 #[.agg #[.int .u64 im.now, .int .u64 im.ng, .int .u64 im.nt, .slice A1 im.ses.length a1, .slice A2 im.gs.length a2, .slice A3 im.built.length a3], im2.agg] w' (SameTold im im2 w')) := Lib.hid fun w' im2 k' h2 => by
        have := qsame_any w' _ _ im im2 (HIL3.out.keep k' (fun _ _ _ => id)) h2
        unfold Im.agg at this ⊢
        rw [HE.out.1, HE.out.2.1, HE.out.2.2] at this
        exact this
      have K0 := (Keep.refl noneOf w7).drew
      clear hnq
      cases nq with
      | false =>
        go_upto_region 12 with fail
        refine wp_region_held_drew (S := fun w' => Keep noneOf w7 w') (by kernel_rfl) (K0) (fun hHeld => ?_)
        refine' wpAnyH_take (i := 0) (v := _) rfl (by kernel_rfl) (by kernel_rfl) (by kernel_rfl) (fun _ _ _ h => h) (Or.inl ⟨by kernel_rfl, ?hy0⟩) (by assumption) ?_
        case hy0 => intro w' hSw; obtain ⟨_, _, _, _, _, _⟩ := MC.out w' hSw; go_simp; try with_reducible rfl
        simp only [Act.put, List.getElem_toArray, List.getElem_cons_zero, List.getElem_cons_succ, List.setIfInBounds_toArray, List.set_cons_zero, List.set_cons_succ]
        refine' wpAnyH_take (i := 1) (v := _) rfl (by kernel_rfl) (by kernel_rfl) (by kernel_rfl) (fun _ _ _ h => h) (Or.inl ⟨by kernel_rfl, ?hy1⟩) (by assumption) ?_
        case hy1 => intro w' hSw; obtain ⟨_, _, _, _, _, _⟩ := MC.out w' hSw; go_simp; try with_reducible rfl
        simp only [Act.put, List.getElem_toArray, List.getElem_cons_zero, List.getElem_cons_succ, List.setIfInBounds_toArray, List.set_cons_zero, List.set_cons_succ]
        refine wpAnyH_ready (rs := [2]) (by kernel_rfl) (by simp) (AllReadyH.cons rfl (fun K hK => ?_) AllReadyH.nil)
        go_simp
        go_at_call 23
        refine (DU2.out _ K0).mono ?_
        rintro e w8 ⟨im2, rfl, him2, hil2, k8⟩
        have K8 : Keep noneOf w7 w8 := K0.trans k8 (fun _ _ h => h)
        have SM2 := Lib.hid (SM.out w8 im2 K8 (hil2.mono (fun _ _ _ => trivial)))
        have HY : Hid (im.plain = im2.plain) := Lib.hid (by rw [him2, HSM.out])
        clear him2 hil2 DU2 SM
        go_wp2_with fail
        refine hK.out _ _ (K8) (fun hHeld => ?_)
        clear hK K
        try simp only [Act.put, List.getElem_toArray, List.getElem_cons_zero, List.getElem_cons_succ, List.setIfInBounds_toArray, List.set_cons_zero, List.set_cons_succ]
        refine wpAnyH_ready (rs := [3]) (by kernel_rfl) (by simp) (AllReadyH.cons rfl (fun K hK => ?_) AllReadyH.nil)
        go_simp
        go_at_call 22
        refine SM2.out.mono ?_
        rintro e w9 ⟨r, rfl, hr, k9⟩
        obtain rfl : r = true := hr.2 HY.out
        have K9 : Keep noneOf w7 w9 := K8.trans k9 (fun _ _ h => h)
        go_wp2_with fail
        refine hK.out _ _ (K9) (fun hHeld => ?_)
        clear hK K
        try simp only [Act.put, List.getElem_toArray, List.getElem_cons_zero, List.getElem_cons_succ, List.setIfInBounds_toArray, List.set_cons_zero, List.set_cons_succ]
        refine' wpAnyH_take (i := 4) (v := .bool false) rfl (by kernel_rfl) (by kernel_rfl) (by kernel_rfl) (fun _ _ _ h => h) (Or.inl ⟨by kernel_rfl, ?hy4⟩) (by assumption) ?_
        case hy4 => intro w' hSw; rfl
        simp only [Act.put, List.getElem_toArray, List.getElem_cons_zero, List.getElem_cons_succ, List.setIfInBounds_toArray, List.set_cons_zero, List.set_cons_succ]
        refine wpAnyH_done (by kernel_rfl) ?_ _
        have HO5 := Lib.hid (HO4.out.stay K9)
        clear MC SM2 K0 K8 K9 k8 k9 hr hHeld hneq g0 c0 c1 c2 c3 c4 c5 f0 f1 f2 f3 f4 f5
        go_wp2
        go_roundw
        case rel => exact ⟨k + 1, s3, _, by omega, by go_num, HO5.out⟩
        case measure => simp only [intOf]; omega
      | true =>
        have h7 : c.kind = 7 := Classical.byContradiction (fun h => by
          have h1 := HNQ.out
          rw [HTD.out h, decide_eq_true rfl] at h1
          cases h1)
        rw [h7] at g0
        go_upto_region 12 with fail
        refine wp_region_held_drew (S := fun w' => Keep noneOf w7 w') (by kernel_rfl) (K0) (fun hHeld => ?_)
        refine' wpAnyH_take (i := 0) (v := _) rfl (by kernel_rfl) (by kernel_rfl) (by kernel_rfl) (fun _ _ _ h => h) (Or.inl ⟨by kernel_rfl, ?hy0⟩) (by assumption) ?_
        case hy0 => intro w' hSw; obtain ⟨_, _, _, _, _, _⟩ := MC.out w' hSw; go_simp; try with_reducible rfl
        simp only [Act.put, List.getElem_toArray, List.getElem_cons_zero, List.getElem_cons_succ, List.setIfInBounds_toArray, List.set_cons_zero, List.set_cons_succ]
        refine' wpAnyH_take (i := 1) (v := _) rfl (by kernel_rfl) (by kernel_rfl) (by kernel_rfl) (fun _ _ _ h => h) (Or.inl ⟨by kernel_rfl, ?hy1⟩) (by assumption) ?_
        case hy1 => intro w' hSw; obtain ⟨_, _, _, _, _, _⟩ := MC.out w' hSw; go_simp; try with_reducible rfl
        simp only [Act.put, List.getElem_toArray, List.getElem_cons_zero, List.getElem_cons_succ, List.setIfInBounds_toArray, List.set_cons_zero, List.set_cons_succ]
        refine wpAnyH_ready (rs := [2]) (by kernel_rfl) (by simp) (AllReadyH.cons rfl (fun K hK => ?_) AllReadyH.nil)
        go_simp
        go_at_call 23
        refine (DU2.out _ K0).mono ?_
        rintro e w8 ⟨im2, rfl, him2, hil2, k8⟩
        have K8 : Keep noneOf w7 w8 := K0.trans k8 (fun _ _ h => h)
        have SM2 := Lib.hid (SM.out w8 im2 K8 (hil2.mono (fun _ _ _ => trivial)))
        have HY : Hid (im.plain = im2.plain) := Lib.hid (by rw [him2, HSM.out])
        clear him2 hil2 DU2 SM
        go_wp2_with fail
        refine hK.out _ _ (K8) (fun hHeld => ?_)
        clear hK K
        try simp only [Act.put, List.getElem_toArray, List.getElem_cons_zero, List.getElem_cons_succ, List.setIfInBounds_toArray, List.set_cons_zero, List.set_cons_succ]
        refine wpAnyH_ready (rs := [3]) (by kernel_rfl) (by simp) (AllReadyH.cons rfl (fun K hK => ?_) AllReadyH.nil)
        go_simp
        go_at_call 22
        refine SM2.out.mono ?_
        rintro e w9 ⟨r, rfl, hr, k9⟩
        obtain rfl : r = true := hr.2 HY.out
        have K9 : Keep noneOf w7 w9 := K8.trans k9 (fun _ _ h => h)
        go_wp2_with fail
        refine hK.out _ _ (K9) (fun hHeld => ?_)
        clear hK K
        try simp only [Act.put, List.getElem_toArray, List.getElem_cons_zero, List.getElem_cons_succ, List.setIfInBounds_toArray, List.set_cons_zero, List.set_cons_succ]
        refine' wpAnyH_take (i := 4) (v := .bool false) rfl (by kernel_rfl) (by kernel_rfl) (by kernel_rfl) (fun _ _ _ h => h) (Or.inl ⟨by kernel_rfl, ?hy4⟩) (by assumption) ?_
        case hy4 => intro w' hSw; rfl
        simp only [Act.put, List.getElem_toArray, List.getElem_cons_zero, List.getElem_cons_succ, List.setIfInBounds_toArray, List.set_cons_zero, List.set_cons_succ]
        refine wpAnyH_done (by kernel_rfl) ?_ _
        have HO5 := Lib.hid (HO4.out.stay K9)
        clear MC SM2 K0 K8 K9 k8 k9 hr hHeld hneq g0 c0 c1 c2 c3 c4 c5 f0 f1 f2 f3 f4 f5
        go_wp2
        go_roundw
        case rel => exact ⟨k + 1, s3, _, by omega, by go_num, HO5.out⟩
        case measure => simp only [intOf]; omega
    · have hkn : ¬ ((k : Int) < (cs.length : Int)) := by omega
      clear hlt
      go_wp2
      go_ret
      exact ⟨rfl, HOW.out.keep⟩
namespace QueueAgain
set_option maxRecDepth 100000 in
theorem lifted (os : Os) (started : os.Started) (H : Type) (enc : TypeId × Value → H) :
    ReturnsInHanded {} Tryz.checked os 7 .any (Rows.queueAgainSpec.pre6 enc Tryz.prog Tryz.f7 Rows.queueAgainRow.domain false) (Rows.queueAgainSpec.post enc Tryz.prog Tryz.f7 false true false false) := by
  refine returnsInHanded_of_change_sized (C := Tryz.checked) own started (by kernel_rfl) Tryz.func7
    (ChangeSpec.witness6 (enc := enc) (C := Tryz.checked) false ⟨#[], #[.slice none 0 0], []⟩ 8 (by kernel_rfl) (by kernel_rfl) (by kernel_rfl) (by kernel_rfl)) ?_
  intro W base args ds gs before hval0 hW hcnd hsz _
  have hval : ∀ (j : Nat) t v, Tryz.f7.params[j]? = some t → args[j]? = some v → Value.okWide Tryz.prog W .any base t v := hval0
  have hW' := hW
  obtain ⟨p, q, hA0, hV, rfl, hfz, hnd⟩ := hW
  have hA : DataW.TrodAll enc Tryz.prog W 0 (fun _ => true) true Tryz.f7.params.toList args.toList ds p := hA0
  rw [Tryz.params7] at hA hval
  obtain ⟨v0, vs0, d0, ds0, p0, q0, hargs, rfl, rfl, h0, r0⟩ := trodAll_cons hA
  obtain ⟨rfl, rfl, rfl⟩ := trodAll_nil r0
  obtain rfl : args = #[v0] := by cases args; simp_all
  obtain ⟨rfl, rfl⟩ := trodVars_none hV
  have k0 := h0
  have lt0 : ∀ x ∈ p0, x.block < W.heap.size := by obtain ⟨m, hm⟩ := k0; exact DataW.trod_lt m _ _ _ hm
  obtain ⟨A0, c0, l0, rfl, hl0⟩ := open_arg_cms (hval 0 22 v0 rfl rfl) h0 (light_arg hsz (j := 0) rfl rfl)
  clear hA0 hval0
  refine (again_walk W A0 c0 l0 hl0).mono fun e W' ⟨he, bel0⟩ => ?_
  subst he
  have bel := bel0.all
  exact ⟨_, rfl, _, _, _, [], _, [], hW', trodAll_mk1 (shut_bool Tryz.underlying4 _), (trodAll_cons_mk (Below.trod laidOut (by kernel_rfl) (of_decide_eq_true (by kernel_rfl)) k0 bel lt0) trodAll_mk0), rfl, bel.frame _, fun h => by cases h⟩
theorem over : Rows.queueAgainRow.holds Tryz.pinned (OpenSpec.ofChange Rows.queueAgainSpec) :=
  OpenClaim.holds_of_wide 7 Tryz.f7 rfl rfl rfl rfl rfl rfl rfl ⟨rfl, rfl, rfl, rfl, rfl⟩ rfl rfl rfl rfl rfl (by kernel_rfl) Tryz.func7 (by kernel_rfl)
    (of_decide_eq_true (by kernel_rfl)) (by unfold Func.isWrapper; first | (rw [if_pos (by decide +kernel)]; kernel_rfl) | (rw [if_neg (by decide +kernel)]; exact ⟨rfl, rfl⟩))
    (fun os started H enc _ => lifted os started H enc)
theorem proved : Rows.QueueAgainSaid := over
end QueueAgain
end Go.Proofs.YtknpklilgdegnaaGreat
