import Derived.Test.YtknpklilgdegnaaGreatRows
import Derived.BigQuiet
import Derived.Deep.QuietTactic
import Derived.Shelf.RegionOpen
import Derived.Test.YtknpklilgdegnaaGreatBs01
import Derived.Test.YtknpklilgdegnaaGreatBs02
import Derived.Test.YtknpklilgdegnaaGreatBs03
import Derived.Test.YtknpklilgdegnaaGreatBs04
import Derived.Test.YtknpklilgdegnaaGreatBs05
import Derived.Test.YtknpklilgdegnaaGreatBs06
import Derived.Test.YtknpklilgdegnaaGreatBs07
import Derived.Test.YtknpklilgdegnaaGreatBs08
import Derived.Test.YtknpklilgdegnaaGreatBs09
import Derived.Test.YtknpklilgdegnaaGreatBs10
import Derived.Test.YtknpklilgdegnaaGreatBs11
import Derived.Test.YtknpklilgdegnaaGreatBs12
import Derived.Test.YtknpklilgdegnaaGreatBs13
import Derived.Test.YtknpklilgdegnaaGreatBs14
import Derived.Test.YtknpklilgdegnaaGreatBs15
import Derived.Test.YtknpklilgdegnaaGreatBs16
import Derived.Test.YtknpklilgdegnaaGreatBs17
import Derived.Test.YtknpklilgdegnaaGreatBs18
import Derived.Test.YtknpklilgdegnaaGreatBs19
import Derived.Test.YtknpklilgdegnaaGreatBs20
import Derived.Test.YtknpklilgdegnaaGreatBs21
import Derived.Test.YtknpklilgdegnaaGreatBs22
import Derived.Test.YtknpklilgdegnaaGreatBs23
import Derived.Test.YtknpklilgdegnaaGreatBs24
import Derived.Test.YtknpklilgdegnaaGreatBs25
import Derived.Test.YtknpklilgdegnaaGreatBs26
import Derived.Test.YtknpklilgdegnaaGreatBs27
import Derived.Test.YtknpklilgdegnaaGreatBs28
import Derived.Test.YtknpklilgdegnaaGreatBs29
import Derived.Test.YtknpklilgdegnaaGreatBs30
import Derived.Test.YtknpklilgdegnaaGreatBs31
import Derived.Test.YtknpklilgdegnaaGreatBs32
import Derived.Test.YtknpklilgdegnaaGreatBs33
import Derived.Test.YtknpklilgdegnaaGreatBs34
import Derived.Test.YtknpklilgdegnaaGreatBs35
import Derived.Test.YtknpklilgdegnaaGreatBs36
import Derived.Test.YtknpklilgdegnaaGreatBs37
import Derived.Test.YtknpklilgdegnaaGreatBs38
import Derived.Test.YtknpklilgdegnaaGreatBs39
import Derived.Test.YtknpklilgdegnaaGreatBs40
import Derived.Test.YtknpklilgdegnaaGreatBs41
import Derived.Test.YtknpklilgdegnaaGreatBs42
import Derived.Test.YtknpklilgdegnaaGreatBs43
import Derived.Test.YtknpklilgdegnaaGreatBs44
import Derived.Test.YtknpklilgdegnaaGreatBs45
import Derived.Test.YtknpklilgdegnaaGreatBs46
import Derived.Test.YtknpklilgdegnaaGreatBs47
import Derived.Test.YtknpklilgdegnaaGreatBs48
import Derived.Test.YtknpklilgdegnaaGreatBs49
namespace Go.Proofs.YtknpklilgdegnaaGreat
theorem apply_nt (q : Qp) (c : Cq) : q.nt ≤ (applyP q c).1.nt := by
  unfold applyP
  split
  · split <;> exact Int.le_refl _
  · split
    · exact Int.le_refl _
    · split
      · exact Int.le_refl _
      · split
        · exact Int.le_refl _
        · split
          · exact Int.le_refl _
          · exact (done_same q c).2.2
theorem claim_token {q : Qp} {c : Cq} (hk : c.kind = 3) (h0 : (applyP q c).2.code = 0) (hch : (applyP q c).1 ≠ q) : (applyP q c).2.tok = q.nt ∧ (applyP q c).1.nt = q.nt + 1 := by
  unfold applyP at h0 hch ⊢
  rw [if_neg (by omega), if_neg (by omega), if_neg (by omega)] at h0 hch ⊢
  by_cases h1 : lookE q.ses c.ses c.seq = 0
  · rw [if_neg (fun e => e h1)] at h0 hch ⊢
    by_cases h2 : lookB q.ses c.ses c.seq = true
    · rw [if_pos h2] at hch
      exact absurd rfl hch
    · rw [if_neg h2] at h0 hch ⊢
      have hd : doneP q c = claimP q := by unfold doneP; rw [if_neg (by omega), if_pos hk]
      rw [hd] at h0 hch ⊢
      simp only at h0 ⊢
      unfold claimP at h0 ⊢
      cases hr : readyAt q with
      | none => rw [hr] at h0; exact absurd h0 (show ¬ (122 : Int) = 0 by decide)
      | some p =>
        obtain ⟨i, n⟩ := p
        rw [hr] at h0
        simp only at h0 ⊢
        by_cases hb : q.nt = top ∨ late < q.now
        · have : granted q.nt q.now = (q.nt, Pst.zero, 101) := by unfold granted; rw [if_pos hb]
          rw [this, if_pos (show (101 : Int) ≠ 0 by decide)] at h0
          exact absurd h0 (show ¬ (101 : Int) = 0 by decide)
        · have : granted q.nt q.now = (q.nt + 1, ⟨2, q.nt, q.now + 8⟩, 0) := by unfold granted; rw [if_neg hb]
          rw [this, if_neg (show ¬ (0 : Int) ≠ 0 by decide)]
          exact ⟨rfl, rfl⟩
  · rw [if_pos h1] at hch
    exact absurd rfl hch
end Go.Proofs.YtknpklilgdegnaaGreat
namespace Go.Proofs.YtknpklilgdegnaaGreat
open Go.RowKit Go.ChangeShapes Go.WideShapes Go.Deep
set_option maxRecDepth 100000 in
set_option maxHeartbeats 8000000 in
set_option linter.unusedSimpArgs false in
theorem tok_walk (w : World) (A : Option Addr) (cap : Nat) (cs : List Cm) (h : Cms w (fun _ => True) (.slice A cs.length cap) cs) :
    Calls Tryz.prog 5 #[.slice A cs.length cap] w (TellsB true w) := by
  have HC := Lib.hid h
  have hfew := h.1.few
  unfold maxLen at hfew
  have NW := Lib.hid (qnew_any w)
  clear h
  go_enter Tryz.func5, Tryz.ntmps5
  go_wp2_with fail
  refine NW.out.mono ?_
  rintro e w1 ⟨q, D, rfl, hq, hpl, k1, hD⟩
  have HQ1 := Lib.hid (Own.ofNew hq hpl k1 hD)
  have AL := Lib.hid (alive_any w1)
  generalize q.p = p at *
  clear NW hq hpl k1 hD
  go_wp2_with fail
  refine AL.out.mono ?_
  rintro e w2 ⟨rfl, k2⟩
  have HQ2 := Lib.hid (HQ1.out.stay k2)
  clear AL k2 HQ1
  go_wp2
  go_loopw [4, 18] (fun t i wr => ∃ (k : Nat) (s : Qm) (D : Nat → Prop) (last : Int), k ≤ cs.length ∧ i = .int .i64 k ∧ t = .int .u64 last ∧ last < s.plain.nt ∧ Own w wr D p s) (fun _ i _ => cs.length - (intOf i).toNat)
  case atStart => exact ⟨0, q, D, 0, Nat.zero_le _, rfl, rfl, by have := HQ2.out.inv.nt; omega, HQ2.out⟩
  case round =>
    obtain ⟨k, s, D, last, hk, rfl, rfl, hlast, hown⟩ := hrel
    have HLA := Lib.hid hlast
    clear hlast
    have HOW := Lib.hid hown
    clear hown HQ2
    by_cases hlt : k < cs.length
    · have hx : cs[k]? = some cs[k] := List.getElem?_eq_getElem hlt
      have hC := HC.out.keep HOW.out.keep (fun _ _ _ => id)
      obtain ⟨b, o, rfl, hblk, _, hcell⟩ := hC.1.cell (fun _ => rfl) hx
      have hcl := hC.2 _ (List.mem_of_getElem? hx)
      generalize cs[k] = c at *
      obtain ⟨c0, c1, c2, c3, c4, c5, c6, c7⟩ := cm_at b o k _ _ hcell
      obtain ⟨Ag, cg, eg⟩ := hcl.shape
      rw [eg] at c3
      have q0 : (0 : Int) ≤ (k : Int) := by omega
      have q1 : (k : Int) < (cs.length : Int) := by omega
      have KA := (Keep.refl noneOf wr).alloc (.cells #[.int .i64 c.kind, .int .u64 c.ses, .int .u64 c.seq, .slice Ag c.ts.length cg, .int .u64 c.id, .int .u64 c.tok, .bool c.good, .int .u64 c.time] 37)
      have HBC := Lib.hid (Box.new wr 37 #[.int .i64 c.kind, .int .u64 c.ses, .int .u64 c.seq, .slice Ag c.ts.length cg, .int .u64 c.id, .int .u64 c.tok, .bool c.good, .int .u64 c.time])
      have HO1 := Lib.hid (HOW.out.stay KA)
      have HCL := Lib.hid (hcl.keep KA (fun _ _ _ => id))
      have DU := Lib.hid (own_dump HO1.out)
      have HEG := Lib.hid eg
      have HFR0 : Hid (∀ i, D i → i < wr.heap.size) := Lib.hid HOW.out.mine.at_.lt
      clear hx hC hcell hcl hblk KA HOW eg
      go_wp2_with fail
      refine DU.out.mono ?_
      rintro e w4 ⟨im, rfl, him, hil, k4⟩
      obtain ⟨A1, a1, A2, a2, A3, a3, e1, e2, e3⟩ := hil.shapes
      have HFR : Hid (¬ D wr.heap.size ∧ ¬ D w4.heap.size) := Lib.hid (by
        have h1 : wr.heap.size + 1 ≤ w4.heap.size := by have := k4.size; simpa using this
        constructor
        · intro hd
          have := HFR0.out _ hd
          omega
        · intro hd
          have := HFR0.out _ hd
          omega)
      have HSZ : Hid (wr.heap.size < (wr.alloc (.cells #[.int .i64 c.kind, .int .u64 c.ses, .int .u64 c.seq, .slice Ag c.ts.length cg, .int .u64 c.id, .int .u64 c.tok, .bool c.good, .int .u64 c.time] 37)).heap.size) := Lib.hid (by simp)
      have KB := (Keep.refl noneOf w4).alloc (.cells #[.int .u64 im.now, .int .u64 im.ng, .int .u64 im.nt, .slice A1 im.ses.length a1, .slice A2 im.gs.length a2, .slice A3 im.built.length a3] 30)
      have HBI := Lib.hid (Box.new w4 30 #[.int .u64 im.now, .int .u64 im.ng, .int .u64 im.nt, .slice A1 im.ses.length a1, .slice A2 im.gs.length a2, .slice A3 im.built.length a3])
      have HBC2 := Lib.hid ((HBC.out.keep k4 id).keep KB id)
      have HO2 := Lib.hid ((HO1.out.stay k4).stay KB)
      have HCL2 := ((HCL.out.keep k4 (fun _ _ _ => id)).keep KB (fun _ _ _ => id))
      have HIL := Lib.hid ((hil.keep KB (fun _ _ _ => id)))
      have AP := own_apply HO2.out c HCL2
      have HIM := Lib.hid him
      have HE := Lib.hid (And.intro e1 (And.intro e2 e3))
      unfold Cm.agg at AP
      rw [HEG.out] at AP
      replace AP := Lib.hid AP
      unfold Im.agg
      rw [e1, e2, e3]
      obtain ⟨c0, c1, c2, c3, c4, c5, c6, c7⟩ := And.intro (HBC2.out.cell 0) (And.intro (HBC2.out.cell 1) (And.intro (HBC2.out.cell 2) (And.intro (HBC2.out.cell 3) (And.intro (HBC2.out.cell 4) (And.intro (HBC2.out.cell 5) (And.intro (HBC2.out.cell 6) (HBC2.out.cell 7)))))))
      clear DU HO1 HCL k4 KB him hil e1 e2 e3 HCL2 HBC
      go_wp2_with fail
      refine AP.out.mono ?_
      rintro e w6 ⟨s2, rfl, ho6, hpl6, kD⟩
      obtain ⟨a, ha⟩ : ∃ a, (applyP s.plain c.plain).2 = a := ⟨_, rfl⟩
      rw [ha]
      obtain ⟨code, aid, atok, aunt, atgt, acmd⟩ := a
      unfold An.agg
      dsimp only
      have KC := (Keep.refl noneOf w6).alloc (.cells #[.int .i64 code, .int .u64 aid, .int .u64 atok, .int .u64 aunt, .string atgt, .string acmd] 40)
      have HBA := Lib.hid (Box.new w6 40 #[.int .i64 code, .int .u64 aid, .int .u64 atok, .int .u64 aunt, .string atgt, .string acmd])
      have HBI3 := Lib.hid ((HBI.out.keep kD HFR.out.2).keep KC id)
      have HIL3 := Lib.hid ((HIL.out.keep kD (fun i _ hi hd => by have := HFR0.out i hd; have := HSZ.out; omega)).keep KC (fun _ _ _ => id))
      have HO3 := Lib.hid (ho6.stay KC)
      have HPL := Lib.hid hpl6
      have HA := Lib.hid ha
      have HBC3 := Lib.hid ((HBC2.out.keep kD HFR.out.1).keep KC id)
      clear AP HBI HIL HO2 HBC2 kD ho6 hpl6 ha c0 c1 c2 c3 c4 c5 c6 c7 KC
      go_wp2
      generalize w6.alloc (.cells #[.int .i64 code, .int .u64 aid, .int .u64 atok, .int .u64 aunt, .string atgt, .string acmd] 40) = w7 at *
      generalize w6.heap.size = pa at *
      generalize w4.heap.size = pi at *
      generalize wr.heap.size = pc at *
      obtain ⟨kd, hkd⟩ : ∃ kd, c.kind = kd := ⟨_, rfl⟩
      rw [hkd] at HBC3
      have HKD := Lib.hid hkd
      clear hkd
      by_cases hc : kd = 3
      · by_cases hc0 : code = 0
        · subst hc hc0
          have MC : Hid (∀ w', Keep noneOf w7 w' → w'.cell? ⟨pa, 0, none⟩ = some (.int .i64 0) ∧ w'.cell? ⟨pc, 0, none⟩ = some (.int .i64 3) ∧ w'.cell? ⟨pi, 0, none⟩ = some (.int .u64 im.now) ∧ w'.cell? ⟨pi, 1, none⟩ = some (.int .u64 im.ng) ∧ w'.cell? ⟨pi, 2, none⟩ = some (.int .u64 im.nt) ∧ w'.cell? ⟨pi, 3, none⟩ = some (.slice A1 im.ses.length a1) ∧ w'.cell? ⟨pi, 4, none⟩ = some (.slice A2 im.gs.length a2) ∧ w'.cell? ⟨pi, 5, none⟩ = some (.slice A3 im.built.length a3)) := Lib.hid fun w' k' =>
            ⟨(HBA.out.keep k' id).cell 0, (HBC3.out.keep k' id).cell 0, (HBI3.out.keep k' id).cell 0, (HBI3.out.keep k' id).cell 1, (HBI3.out.keep k' id).cell 2, (HBI3.out.keep k' id).cell 3, (HBI3.out.keep k' id).cell 4, (HBI3.out.keep k' id).cell 5⟩
          have DU2 : Hid (∀ w', Keep noneOf w7 w' → Calls Tryz.prog 23 #[.pointer (some ⟨p, 0, none⟩)] w' (OwnTold s2 w')) := Lib.hid fun w' k' => own_dump (HO3.out.stay k')
          have SM : Hid (∀ w' im2, Keep noneOf w7 w' → im2.lies w' (fun _ => True) → Calls Tryz.prog 22 #[.agg #[.int .u64 im.now, .int .u64 im.ng, .int .u64 im.nt, .slice A1 im.ses.length a1, .slice A2 im.gs.length a2, .slice A3 im.built.length a3], im2.agg] w' (SameTold im im2 w')) := Lib.hid fun w' im2 k' h2 => by
            have := qsame_any w' _ _ im im2 (HIL3.out.keep k' (fun _ _ _ => id)) h2
            unfold Im.agg at this ⊢
            rw [HE.out.1, HE.out.2.1, HE.out.2.2] at this
            exact this
          have K0 := (Keep.refl noneOf w7).drew
          go_upto_region 10 with fail
          refine wp_region_held_drew (S := fun w' => Keep noneOf w7 w') (by kernel_rfl) (K0) (fun hHeld => ?_)
          refine' wpAnyH_take (i := 0) (v := _) rfl (by kernel_rfl) (by kernel_rfl) (by kernel_rfl) (fun _ _ _ h => h) (Or.inl ⟨by kernel_rfl, ?hy0⟩) (by assumption) ?_
          case hy0 => intro w' hSw; obtain ⟨_, _, _, _, _, _, _, _⟩ := MC.out w' hSw; go_simp; try with_reducible rfl
          simp only [Act.put, List.getElem_toArray, List.getElem_cons_zero, List.getElem_cons_succ, List.setIfInBounds_toArray, List.set_cons_zero, List.set_cons_succ]
          refine' wpAnyH_take (i := 1) (v := _) rfl (by kernel_rfl) (by kernel_rfl) (by kernel_rfl) (fun _ _ _ h => h) (Or.inl ⟨by kernel_rfl, ?hy1⟩) (by assumption) ?_
          case hy1 => intro w' hSw; obtain ⟨_, _, _, _, _, _, _, _⟩ := MC.out w' hSw; go_simp; try with_reducible rfl
          simp only [Act.put, List.getElem_toArray, List.getElem_cons_zero, List.getElem_cons_succ, List.setIfInBounds_toArray, List.set_cons_zero, List.set_cons_succ]
          refine' wpAnyH_take (i := 2) (v := _) rfl (by kernel_rfl) (by kernel_rfl) (by kernel_rfl) (fun _ _ _ h => h) (Or.inl ⟨by kernel_rfl, ?hy2⟩) (by assumption) ?_
          case hy2 => intro w' hSw; obtain ⟨_, _, _, _, _, _, _, _⟩ := MC.out w' hSw; go_simp; try with_reducible rfl
          simp only [Act.put, List.getElem_toArray, List.getElem_cons_zero, List.getElem_cons_succ, List.setIfInBounds_toArray, List.set_cons_zero, List.set_cons_succ]
          refine' wpAnyH_take (i := 3) (v := _) rfl (by kernel_rfl) (by kernel_rfl) (by kernel_rfl) (fun _ _ _ h => h) (Or.inl ⟨by kernel_rfl, ?hy3⟩) (by assumption) ?_
          case hy3 => intro w' hSw; obtain ⟨_, _, _, _, _, _, _, _⟩ := MC.out w' hSw; go_simp; try with_reducible rfl
          simp only [Act.put, List.getElem_toArray, List.getElem_cons_zero, List.getElem_cons_succ, List.setIfInBounds_toArray, List.set_cons_zero, List.set_cons_succ]
          refine' wpAnyH_take (i := 4) (v := _) rfl (by kernel_rfl) (by kernel_rfl) (by kernel_rfl) (fun _ _ _ h => h) (Or.inl ⟨by kernel_rfl, ?hy4⟩) (by assumption) ?_
          case hy4 => intro w' hSw; obtain ⟨_, _, _, _, _, _, _, _⟩ := MC.out w' hSw; go_simp; try with_reducible rfl
          simp only [Act.put, List.getElem_toArray, List.getElem_cons_zero, List.getElem_cons_succ, List.setIfInBounds_toArray, List.set_cons_zero, List.set_cons_succ]
          refine' wpAnyH_take (i := 5) (v := _) rfl (by kernel_rfl) (by kernel_rfl) (by kernel_rfl) (fun _ _ _ h => h) (Or.inl ⟨by kernel_rfl, ?hy5⟩) (by assumption) ?_
          case hy5 => intro w' hSw; obtain ⟨_, _, _, _, _, _, _, _⟩ := MC.out w' hSw; go_simp; try with_reducible rfl
          simp only [Act.put, List.getElem_toArray, List.getElem_cons_zero, List.getElem_cons_succ, List.setIfInBounds_toArray, List.set_cons_zero, List.set_cons_succ]
          refine' wpAnyH_take (i := 6) (v := _) rfl (by kernel_rfl) (by kernel_rfl) (by kernel_rfl) (fun _ _ _ h => h) (Or.inl ⟨by kernel_rfl, ?hy6⟩) (by assumption) ?_
          case hy6 => intro w' hSw; obtain ⟨_, _, _, _, _, _, _, _⟩ := MC.out w' hSw; go_simp; try with_reducible rfl
          simp only [Act.put, List.getElem_toArray, List.getElem_cons_zero, List.getElem_cons_succ, List.setIfInBounds_toArray, List.set_cons_zero, List.set_cons_succ]
          refine' wpAnyH_take (i := 7) (v := _) rfl (by kernel_rfl) (by kernel_rfl) (by kernel_rfl) (fun _ _ _ h => h) (Or.inl ⟨by kernel_rfl, ?hy7⟩) (by assumption) ?_
          case hy7 => intro w' hSw; obtain ⟨_, _, _, _, _, _, _, _⟩ := MC.out w' hSw; go_simp; try with_reducible rfl
          simp only [Act.put, List.getElem_toArray, List.getElem_cons_zero, List.getElem_cons_succ, List.setIfInBounds_toArray, List.set_cons_zero, List.set_cons_succ]
          refine' wpAnyH_take (i := 8) (v := _) rfl (by kernel_rfl) (by kernel_rfl) (by kernel_rfl) (fun _ _ _ h => h) (Or.inl ⟨by kernel_rfl, ?hy8⟩) (by assumption) ?_
          case hy8 => intro w' hSw; obtain ⟨_, _, _, _, _, _, _, _⟩ := MC.out w' hSw; go_simp; try with_reducible rfl
          simp only [Act.put, List.getElem_toArray, List.getElem_cons_zero, List.getElem_cons_succ, List.setIfInBounds_toArray, List.set_cons_zero, List.set_cons_succ]
          refine' wpAnyH_take (i := 9) (v := _) rfl (by kernel_rfl) (by kernel_rfl) (by kernel_rfl) (fun _ _ _ h => h) (Or.inl ⟨by kernel_rfl, ?hy9⟩) (by assumption) ?_
          case hy9 => intro w' hSw; obtain ⟨_, _, _, _, _, _, _, _⟩ := MC.out w' hSw; go_simp; try with_reducible rfl
          simp only [Act.put, List.getElem_toArray, List.getElem_cons_zero, List.getElem_cons_succ, List.setIfInBounds_toArray, List.set_cons_zero, List.set_cons_succ]
          refine' wpAnyH_take (i := 10) (v := _) rfl (by kernel_rfl) (by kernel_rfl) (by kernel_rfl) (fun _ _ _ h => h) (Or.inl ⟨by kernel_rfl, ?hy10⟩) (by assumption) ?_
          case hy10 => intro w' hSw; obtain ⟨_, _, _, _, _, _, _, _⟩ := MC.out w' hSw; go_simp; try with_reducible rfl
          simp only [Act.put, List.getElem_toArray, List.getElem_cons_zero, List.getElem_cons_succ, List.setIfInBounds_toArray, List.set_cons_zero, List.set_cons_succ]
          refine wpAnyH_ready (rs := [11]) (by kernel_rfl) (by simp) (AllReadyH.cons rfl (fun K hK => ?_) AllReadyH.nil)
          go_simp
          go_at_call 23
          refine (DU2.out _ K0).mono ?_
          rintro e w8 ⟨im2, rfl, him2, hil2, k8⟩
          have K8 : Keep noneOf w7 w8 := K0.trans k8 (fun _ _ h => h)
          have SM2 := Lib.hid (SM.out w8 im2 K8 (hil2.mono (fun _ _ _ => trivial)))
          have HY : Hid (im2.plain = s2.plain) := Lib.hid him2
          clear him2 hil2 DU2 SM
          go_wp2_with fail
          refine hK.out _ _ (K8) (fun hHeld => ?_)
          clear hK K
          try simp only [Act.put, List.getElem_toArray, List.getElem_cons_zero, List.getElem_cons_succ, List.setIfInBounds_toArray, List.set_cons_zero, List.set_cons_succ]
          refine wpAnyH_ready (rs := [12]) (by kernel_rfl) (by simp) (AllReadyH.cons rfl (fun K hK => ?_) AllReadyH.nil)
          go_simp
          go_at_call 22
          refine SM2.out.mono ?_
          rintro e w9 ⟨r, rfl, hr, k9⟩
          have HR := Lib.hid hr
          have K9 : Keep noneOf w7 w9 := K8.trans k9 (fun _ _ h => h)
          go_wp2_with fail
          refine hK.out _ _ (K9) (fun hHeld => ?_)
          clear hK K
          try simp only [Act.put, List.getElem_toArray, List.getElem_cons_zero, List.getElem_cons_succ, List.setIfInBounds_toArray, List.set_cons_zero, List.set_cons_succ]
          refine' wpAnyH_take (i := 13) (v := .bool r) rfl (by kernel_rfl) (by kernel_rfl) (by kernel_rfl) (fun _ _ _ h => h) (Or.inl ⟨by kernel_rfl, ?hy13⟩) (by assumption) ?_
          case hy13 => intro w' hSw; rfl
          simp only [Act.put, List.getElem_toArray, List.getElem_cons_zero, List.getElem_cons_succ, List.setIfInBounds_toArray, List.set_cons_zero, List.set_cons_succ]
          refine wpAnyH_done (by kernel_rfl) ?_ _
          have HO4 := Lib.hid (HO3.out.stay K9)
          have t2 := (HBA.out.keep K9 id).cell 2
          have HNT : Hid (s.plain.nt ≤ s2.plain.nt) := Lib.hid (by rw [HPL.out]; exact apply_nt _ _)
          have HTK : Hid (r = false → atok = s.plain.nt ∧ s2.plain.nt = s.plain.nt + 1) := Lib.hid (fun hf => by
            have := claim_token (q := s.plain) (c := c.plain) HKD.out (by rw [HA.out]) (fun e => by
              have h1 := HR.out.2 (by rw [HY.out, HPL.out, e, HIM.out])
              rw [hf] at h1
              cases h1)
            rw [HA.out, ← HPL.out] at this
            exact this)
          clear MC SM2 K0 K8 K9 k8 k9 hr hHeld
          cases r with
          | true =>
            clear t2
            go_wp2
            go_roundw
            case rel => exact ⟨k + 1, s2, _, last, by omega, by go_num, by trivial, by have := HLA.out; have := HNT.out; omega, HO4.out⟩
            case measure => simp only [intOf]; omega
          | false =>
            have hle : ¬ (atok ≤ last) := by have := HLA.out; have := (HTK.out rfl).1; omega
            go_wp2
            go_roundw
            case rel => exact ⟨k + 1, s2, _, atok, by omega, by go_num, by trivial, by have := (HTK.out rfl); omega, HO4.out⟩
            case measure => simp only [intOf]; omega
        · subst hc
          have g1 : (code != 0) = true := bne_iff_ne.2 hc0
          have d0 := HBA.out.cell 0
          have f0 := HBC3.out.cell 0
          have HNT : Hid (s.plain.nt ≤ s2.plain.nt) := Lib.hid (by rw [HPL.out]; exact apply_nt _ _)
          clear hc0
          go_wp2
          go_quiet (fail)
          go_wp2
          go_roundw
          case rel => exact ⟨k + 1, s2, _, last, by omega, by go_num, by trivial, by have := HLA.out; have := HNT.out; omega, HO3.out.stay ((Keep.refl noneOf w7).drewN _)⟩
          case measure => simp only [intOf]; omega
      · have g1 : (kd != 3) = true := bne_iff_ne.2 hc
        have f0 := HBC3.out.cell 0
        have HNT : Hid (s.plain.nt ≤ s2.plain.nt) := Lib.hid (by rw [HPL.out]; exact apply_nt _ _)
        clear hc
        go_wp2
        go_quiet (fail)
        go_wp2
        go_roundw
        case rel => exact ⟨k + 1, s2, _, last, by omega, by go_num, by trivial, by have := HLA.out; have := HNT.out; omega, HO3.out.stay ((Keep.refl noneOf w7).drewN _)⟩
        case measure => simp only [intOf]; omega
    · have hkn : ¬ ((k : Int) < (cs.length : Int)) := by omega
      clear hlt
      go_wp2
      go_ret
      exact ⟨rfl, HOW.out.keep⟩
namespace QueueTokens
set_option maxRecDepth 100000 in
theorem lifted (os : Os) (started : os.Started) (H : Type) (enc : TypeId × Value → H) :
    ReturnsInHanded {} Tryz.checked os 5 .any (Rows.queueTokensSpec.pre6 enc Tryz.prog Tryz.f5 Rows.queueTokensRow.domain false) (Rows.queueTokensSpec.post enc Tryz.prog Tryz.f5 false true false false) := by
  refine returnsInHanded_of_change_sized (C := Tryz.checked) own started (by kernel_rfl) Tryz.func5
    (ChangeSpec.witness6 (enc := enc) (C := Tryz.checked) false ⟨#[], #[.slice none 0 0], []⟩ 8 (by kernel_rfl) (by kernel_rfl) (by kernel_rfl) (by kernel_rfl)) ?_
  intro W base args ds gs before hval0 hW hcnd hsz _
  have hval : ∀ (j : Nat) t v, Tryz.f5.params[j]? = some t → args[j]? = some v → Value.okWide Tryz.prog W .any base t v := hval0
  have hW' := hW
  obtain ⟨p, q, hA0, hV, rfl, hfz, hnd⟩ := hW
  have hA : DataW.TrodAll enc Tryz.prog W 0 (fun _ => true) true Tryz.f5.params.toList args.toList ds p := hA0
  rw [Tryz.params5] at hA hval
  obtain ⟨v0, vs0, d0, ds0, p0, q0, hargs, rfl, rfl, h0, r0⟩ := trodAll_cons hA
  obtain ⟨rfl, rfl, rfl⟩ := trodAll_nil r0
  obtain rfl : args = #[v0] := by cases args; simp_all
  obtain ⟨rfl, rfl⟩ := trodVars_none hV
  have k0 := h0
  have lt0 : ∀ x ∈ p0, x.block < W.heap.size := by obtain ⟨m, hm⟩ := k0; exact DataW.trod_lt m _ _ _ hm
  obtain ⟨A0, c0, l0, rfl, hl0⟩ := open_arg_cms (hval 0 22 v0 rfl rfl) h0 (light_arg hsz (j := 0) rfl rfl)
  clear hA0 hval0
  refine (tok_walk W A0 c0 l0 hl0).mono fun e W' ⟨he, bel0⟩ => ?_
  subst he
  have bel := bel0.all
  exact ⟨_, rfl, _, _, _, [], _, [], hW', trodAll_mk1 (shut_bool Tryz.underlying4 _), (trodAll_cons_mk (Below.trod laidOut (by kernel_rfl) (of_decide_eq_true (by kernel_rfl)) k0 bel lt0) trodAll_mk0), rfl, bel.frame _, fun h => by cases h⟩
theorem over : Rows.queueTokensRow.holds Tryz.pinned (OpenSpec.ofChange Rows.queueTokensSpec) :=
  OpenClaim.holds_of_wide 5 Tryz.f5 rfl rfl rfl rfl rfl rfl rfl ⟨rfl, rfl, rfl, rfl, rfl⟩ rfl rfl rfl rfl rfl (by kernel_rfl) Tryz.func5 (by kernel_rfl)
    (of_decide_eq_true (by kernel_rfl)) (by unfold Func.isWrapper; first | (rw [if_pos (by decide +kernel)]; kernel_rfl) | (rw [if_neg (by decide +kernel)]; exact ⟨rfl, rfl⟩))
    (fun os started H enc _ => lifted os started H enc)
theorem proved : Rows.QueueTokensSaid := over
end QueueTokens
end Go.Proofs.YtknpklilgdegnaaGreat
