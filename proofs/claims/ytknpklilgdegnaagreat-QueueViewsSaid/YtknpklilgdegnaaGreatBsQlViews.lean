import Derived.Test.YtknpklilgdegnaaGreatRows
import Derived.BigQuiet
import Derived.Deep.QuietTactic
import Derived.Shelf.RegionOpen
import Derived.Test.YtknpklilgdegnaaGreatBs01
import Derived.Test.YtknpklilgdegnaaGreatBs02
import Derived.Test.YtknpklilgdegnaaGreatBs03
import Derived.Test.YtknpklilgdegnaaGreatBs04
import Derived.Test.YtknpklilgdegnaaGreatBs05
import Derived.Test.YtknpklilgdegnaaGreatBs06
import Derived.Test.YtknpklilgdegnaaGreatBs07
import Derived.Test.YtknpklilgdegnaaGreatBs08
import Derived.Test.YtknpklilgdegnaaGreatBs09
import Derived.Test.YtknpklilgdegnaaGreatBs10
import Derived.Test.YtknpklilgdegnaaGreatBs11
import Derived.Test.YtknpklilgdegnaaGreatBs12
import Derived.Test.YtknpklilgdegnaaGreatBs13
import Derived.Test.YtknpklilgdegnaaGreatBs14
import Derived.Test.YtknpklilgdegnaaGreatBs15
import Derived.Test.YtknpklilgdegnaaGreatBs16
import Derived.Test.YtknpklilgdegnaaGreatBs17
import Derived.Test.YtknpklilgdegnaaGreatBs18
import Derived.Test.YtknpklilgdegnaaGreatBs19
import Derived.Test.YtknpklilgdegnaaGreatBs20
import Derived.Test.YtknpklilgdegnaaGreatBs21
import Derived.Test.YtknpklilgdegnaaGreatBs22
import Derived.Test.YtknpklilgdegnaaGreatBs23
import Derived.Test.YtknpklilgdegnaaGreatBs24
import Derived.Test.YtknpklilgdegnaaGreatBs25
import Derived.Test.YtknpklilgdegnaaGreatBs26
import Derived.Test.YtknpklilgdegnaaGreatBs27
import Derived.Test.YtknpklilgdegnaaGreatBs28
import Derived.Test.YtknpklilgdegnaaGreatBs29
import Derived.Test.YtknpklilgdegnaaGreatBs30
import Derived.Test.YtknpklilgdegnaaGreatBs31
import Derived.Test.YtknpklilgdegnaaGreatBs32
import Derived.Test.YtknpklilgdegnaaGreatBs33
import Derived.Test.YtknpklilgdegnaaGreatBs34
import Derived.Test.YtknpklilgdegnaaGreatBs35
import Derived.Test.YtknpklilgdegnaaGreatBs36
import Derived.Test.YtknpklilgdegnaaGreatBs37
import Derived.Test.YtknpklilgdegnaaGreatBs38
import Derived.Test.YtknpklilgdegnaaGreatBs39
import Derived.Test.YtknpklilgdegnaaGreatBs40
import Derived.Test.YtknpklilgdegnaaGreatBs41
import Derived.Test.YtknpklilgdegnaaGreatBs42
import Derived.Test.YtknpklilgdegnaaGreatBs43
import Derived.Test.YtknpklilgdegnaaGreatBs44
import Derived.Test.YtknpklilgdegnaaGreatBs45
import Derived.Test.YtknpklilgdegnaaGreatBs46
import Derived.Test.YtknpklilgdegnaaGreatBs47
import Derived.Test.YtknpklilgdegnaaGreatBs48
import Derived.Test.YtknpklilgdegnaaGreatBs49
namespace Go.Proofs.YtknpklilgdegnaaGreat
noncomputable def ranP (q : Qp) (l : List Cq) : Qp := l.foldl (fun q c => (applyP q c).1) q
end Go.Proofs.YtknpklilgdegnaaGreat
namespace Go.Proofs.YtknpklilgdegnaaGreat
open Go.RowKit
theorem findG_some {q : Qp} {id : Int} {i : Nat} {g : Gq} (hg : q.gs[i]? = some g) (h : g.id = id) (hno : ∀ (j : Nat) (b : Gq), j < i → q.gs[j]? = some b → b.id ≠ id) : findG q id = some i := by
  unfold findG
  rw [List.findIdx?_eq_some_iff_getElem]
  obtain ⟨hi, he⟩ := List.getElem?_eq_some_iff.1 hg
  refine ⟨hi, by rw [he]; simpa using h, fun j hj => ?_⟩
  have hjl : j < q.gs.length := by omega
  simpa using hno j _ hj (List.getElem?_eq_getElem hjl)
theorem findG_none {q : Qp} {id : Int} (hno : ∀ (j : Nat) (b : Gq), q.gs[j]? = some b → b.id ≠ id) : findG q id = none := by
  unfold findG
  rw [List.findIdx?_eq_none_iff]
  intro g hg
  obtain ⟨j, hj⟩ := List.getElem?_of_mem hg
  simpa using hno j g hj
end Go.Proofs.YtknpklilgdegnaaGreat
namespace Go.Proofs.YtknpklilgdegnaaGreat
theorem ran_next (q : Qp) (l : List Cq) (c : Cq) : ranP q (l ++ [c]) = (applyP (ranP q l) c).1 := by unfold ranP; rw [List.foldl_append]; rfl
end Go.Proofs.YtknpklilgdegnaaGreat
namespace Go.Proofs.YtknpklilgdegnaaGreat
open Go.RowKit Go.ChangeShapes Go.WideShapes Go.Deep
def Ran (l : List Cm) (w : World) (e : Ending) (w' : World) : Prop := ∃ q D, e = .returned (.pointer (some ⟨q.p, 0, none⟩)) ∧ Own w w' D q.p q ∧ q.plain = ranP Qp.new (l.map Cm.plain)
set_option maxRecDepth 100000 in
set_option maxHeartbeats 8000000 in
set_option linter.unusedSimpArgs false in
theorem ran_any (w : World) (A : Option Addr) (cap : Nat) (cs : List Cm) (h : Cms w (fun _ => True) (.slice A cs.length cap) cs) :
    Calls Tryz.prog 30 #[.slice A cs.length cap] w (Ran cs w) := by
  have HC := Lib.hid h
  have hfew := h.1.few
  unfold maxLen at hfew
  have NW := Lib.hid (qnew_any w)
  clear h
  go_enter Tryz.func30, Tryz.ntmps30
  go_wp2_with fail
  refine NW.out.mono ?_
  rintro e w1 ⟨q, D, rfl, hq, hpl, k1, hD⟩
  have HQ1 := Lib.hid (Own.ofNew hq hpl k1 hD)
  have HQP := Lib.hid hpl
  generalize q.p = p at *
  clear NW hq hpl k1 hD
  go_wp2
  go_loopw [9] (fun i wr => ∃ (k : Nat) (s : Qm) (D : Nat → Prop), k ≤ cs.length ∧ i = .int .i64 k ∧ s.plain = ranP Qp.new ((cs.take k).map Cm.plain) ∧ Own w wr D p s) (fun i _ => cs.length - (intOf i).toNat)
  case atStart => exact ⟨0, q, D, Nat.zero_le _, rfl, HQP.out, HQ1.out⟩
  case round =>
    obtain ⟨k, s, D, hk, rfl, hsp, hown⟩ := hrel
    have HOW := Lib.hid hown
    have HSP := Lib.hid hsp
    clear hown HQ1 hsp HQP
    by_cases hlt : k < cs.length
    · have hx : cs[k]? = some cs[k] := List.getElem?_eq_getElem hlt
      have HTK : Hid (cs.take (k + 1) = cs.take k ++ [cs[k]]) := Lib.hid (by rw [List.take_add_one, hx]; rfl)
      have hC := HC.out.keep HOW.out.keep (fun _ _ _ => id)
      obtain ⟨b, o, rfl, hblk, _, hcell⟩ := hC.1.cell (fun _ => rfl) hx
      have hcl := hC.2 _ (List.mem_of_getElem? hx)
      generalize cs[k] = c at *
      obtain ⟨c0, c1, c2, c3, c4, c5, c6, c7⟩ := cm_at b o k _ _ hcell
      obtain ⟨Ag, cg, eg⟩ := hcl.shape
      rw [eg] at c3
      have q0 : (0 : Int) ≤ (k : Int) := by omega
      have q1 : (k : Int) < (cs.length : Int) := by omega
      have KA := (Keep.refl noneOf wr).alloc (.cells #[.int .i64 c.kind, .int .u64 c.ses, .int .u64 c.seq, .slice Ag c.ts.length cg, .int .u64 c.id, .int .u64 c.tok, .bool c.good, .int .u64 c.time] 37)
      have HBC := Lib.hid (Box.new wr 37 #[.int .i64 c.kind, .int .u64 c.ses, .int .u64 c.seq, .slice Ag c.ts.length cg, .int .u64 c.id, .int .u64 c.tok, .bool c.good, .int .u64 c.time])
      have HO1 := Lib.hid (HOW.out.stay KA)
      have HCL := Lib.hid (hcl.keep KA (fun _ _ _ => id))
      have AP := own_apply HO1.out c HCL.out
      unfold Cm.agg at AP
      rw [eg] at AP
      replace AP := Lib.hid AP
      obtain ⟨c0, c1, c2, c3, c4, c5, c6, c7⟩ := And.intro c0 (And.intro c1 (And.intro c2 (And.intro c3 (And.intro c4 (And.intro c5 (And.intro c6 c7))))))
      obtain ⟨f0, f1, f2, f3, f4, f5, f6, f7⟩ := And.intro (HBC.out.cell 0) (And.intro (HBC.out.cell 1) (And.intro (HBC.out.cell 2) (And.intro (HBC.out.cell 3) (And.intro (HBC.out.cell 4) (And.intro (HBC.out.cell 5) (And.intro (HBC.out.cell 6) (HBC.out.cell 7)))))))
      clear hx hC hcell hcl hblk KA HOW eg
      go_wp2_with fail
      refine AP.out.mono ?_
      rintro e w6 ⟨s2, rfl, ho6, hpl6, kD⟩
      obtain ⟨a, ha⟩ : ∃ a, (applyP s.plain c.plain).2 = a := ⟨_, rfl⟩
      rw [ha]
      obtain ⟨code, aid, atok, aunt, atgt, acmd⟩ := a
      unfold An.agg
      dsimp only
      have HO3 := Lib.hid ho6
      have HPL : Hid (s2.plain = ranP Qp.new ((cs.take (k + 1)).map Cm.plain)) := Lib.hid (by rw [HTK.out, List.map_append, List.map_cons, List.map_nil, ran_next, ← HSP.out]; exact hpl6)
      clear AP HO1 HCL ho6 hpl6 ha kD c0 c1 c2 c3 c4 c5 c6 c7 f0 f1 f2 f3 f4 f5 f6 f7
      go_wp2
      go_roundw
      case rel => exact ⟨k + 1, s2, _, by omega, by go_num, HPL.out, HO3.out⟩
      case measure => simp only [intOf]; omega
    · have hke : k = cs.length := by omega
      subst hke
      have hkn : ¬ ((cs.length : Int) < (cs.length : Int)) := by omega
      have HF : Hid (Ran cs w (.returned (.pointer (some ⟨p, 0, none⟩))) wr) := Lib.hid ⟨s, D, by rw [HOW.out.at_], by rw [HOW.out.at_]; exact HOW.out, by rw [HSP.out, List.take_length]⟩
      clear hlt
      go_wp2
      go_ret
      exact HF.out
end Go.Proofs.YtknpklilgdegnaaGreat
namespace Go.Proofs.YtknpklilgdegnaaGreat
open Go.RowKit
def foundI (r : Option Nat) : Int := match r with
  | none => -1
  | some i => (i : Int)
def TellsI (n : Int) (w : World) (e : Ending) (w' : World) : Prop := e = .returned (.int .i64 n) ∧ Keep noneOf w w'
theorem tells_i {n m : Int} {w w' : World} (h : m = n) (k : Keep noneOf w w') : TellsI n w (.returned (.int .i64 m)) w' := ⟨by rw [h], k⟩
set_option maxRecDepth 100000 in
set_option maxHeartbeats 8000000 in
set_option linter.unusedSimpArgs false in
theorem rfind_any (w : World) (D : Nat → Prop) (a : Im) (ha : a.lies w D) (id : Int) :
    Calls Tryz.prog 27 #[a.agg, .int .u64 id] w (TellsI (foundI (findG a.plain id)) w) := by
  obtain ⟨A1, c1, e1⟩ := ha.ses.shape
  obtain ⟨A3, c3, e3⟩ := ha.gs.1.shape
  obtain ⟨A5, c5, e5, _⟩ := ha.built.1
  have hf3 := ha.gs.1.few
  have hg1 := ha.gs
  rw [e3] at hg1
  unfold maxLen at hf3
  unfold Im.agg
  rw [e1, e3, e5]
  clear ha e1 e3 e5
  have HKA := Lib.hid ((Keep.refl noneOf w).alloc (.cells #[.int .u64 a.now, .int .u64 a.ng, .int .u64 a.nt, .slice A1 a.ses.length c1, .slice A3 a.gs.length c3, .slice A5 a.built.length c5] 30))
  have HX := Lib.hid (Box.new w 30 #[.int .u64 a.now, .int .u64 a.ng, .int .u64 a.nt, .slice A1 a.ses.length c1, .slice A3 a.gs.length c3, .slice A5 a.built.length c5])
  have HG1 := Lib.hid hg1
  clear hg1
  go_enter Tryz.func27, Tryz.ntmps27
  go_upto_region 1 with fail
  generalize w.alloc (.cells #[.int .u64 a.now, .int .u64 a.ng, .int .u64 a.nt, .slice A1 a.ses.length c1, .slice A3 a.gs.length c3, .slice A5 a.built.length c5] 30) = w1 at *
  generalize hpa : w.heap.size = pa at *
  clear hpa
  go_wp2
  go_loopw [5] (fun i wr => ∃ (k : Nat), k ≤ a.gs.length ∧ i = .int .i64 k ∧ Keep noneOf w1 wr ∧ ∀ (j : Nat) (g : Gm), j < k → a.gs[j]? = some g → g.id ≠ id) (fun i _ => a.gs.length - (intOf i).toNat)
  case atStart => exact ⟨0, Nat.zero_le _, rfl, Keep.refl _ _, fun j _ hj => absurd hj (Nat.not_lt_zero _)⟩
  case round =>
    obtain ⟨k, hk, rfl, hkeep, hall⟩ := hrel
    have HA := Lib.hid hall
    have HKP := Lib.hid hkeep
    have x4 := (HX.out.keep hkeep (fun h => h)).cell 4
    clear hall
    by_cases hlt : k < a.gs.length
    · have hx : a.gs[k]? = some a.gs[k] := List.getElem?_eq_getElem hlt
      have hG := HG1.out.keep (HKA.out.trans hkeep (fun _ _ h => h)) (fun _ _ _ h => h)
      generalize a.gs[k] = g at *
      obtain ⟨tb, o, rfl, hblk, _, hcell⟩ := hG.1.cell (fun _ => rfl) hx
      have d0 : wr.cell? ⟨tb, o + k * 3, none⟩ = some (.int .u64 g.id) := hcell 0 (by decide)
      have q0 : (0 : Int) ≤ (k : Int) := by omega
      have q1 : (k : Int) < (a.gs.length : Int) := by omega
      have HX1 := Lib.hid hx
      clear hG hx hcell hkeep hblk
      rcases hni : (g.id == id) with _ | _
      case true =>
        have HF : Hid (TellsI (foundI (findG a.plain id)) w (.returned (.int .i64 k)) wr) := Lib.hid (tells_i (by
          have h1 := findG_some (q := a.plain) (gm_at HX1.out) (beq_iff_eq.1 hni) (fun j b hj hb e => by
            obtain ⟨gj, hgj, rfl⟩ := gm_of hb
            exact HA.out j gj hj hgj e)
          rw [h1]
          rfl) (HKA.out.trans HKP.out (fun _ _ h => h)))
        go_wp2
        go_ret
        exact HF.out
      case false =>
        have HE : Hid (g.id ≠ id) := Lib.hid (beq_eq_false_iff_ne.1 hni)
        go_wp2
        go_roundw
        case rel =>
          refine ⟨k + 1, by omega, by go_num, HKP.out, fun j b hj h1 => ?_⟩
          rcases Nat.lt_or_ge j k with h3 | h3
          · exact HA.out j b h3 h1
          · obtain rfl : j = k := by omega
            rw [HX1.out] at h1
            injection h1 with h1
            rw [← h1]
            exact HE.out
        case measure => simp only [intOf]; omega
    · have hke : k = a.gs.length := by omega
      subst hke
      have hkn : ¬ ((a.gs.length : Int) < (a.gs.length : Int)) := by omega
      have HF : Hid (TellsI (foundI (findG a.plain id)) w (.returned (.int .i64 (-1))) wr) := Lib.hid (tells_i (by
        have h1 := findG_none (q := a.plain) (id := id) (fun j b hb e => by
          obtain ⟨gj, hgj, rfl⟩ := gm_of hb
          exact HA.out j gj (List.getElem?_eq_some_iff.1 hgj).1 hgj e)
        rw [h1]
        rfl) (HKA.out.trans HKP.out (fun _ _ h => h)))
      clear HA hlt hkeep
      go_wp2
      go_ret
      exact HF.out
end Go.Proofs.YtknpklilgdegnaaGreat
namespace Go.Proofs.YtknpklilgdegnaaGreat
open Go.RowKit Go.ChangeShapes Go.WideShapes Go.Deep
theorem own_view {w v : World} {D : Nat → Prop} {p : Nat} {q : Qm} (h : Own w v D p q) (id : Int) :
    Calls Tryz.prog 20 #[.pointer (some ⟨p, 0, none⟩), .int .u64 id] v (ViewTold (viewP q.plain id) v) := by
  have := view_any v D q h.mine.at_ h.inv id
  rw [h.at_] at this
  exact this
theorem view_now (q : Qp) (id : Int) : (viewP q id).2.1 = q.now := by unfold viewP; split <;> rfl
theorem findG_lt {q : Qp} {id : Int} {i : Nat} (h : findG q id = some i) : i < q.gs.length := (List.findIdx?_eq_some_iff_findIdx_eq.1 h).1
set_option maxRecDepth 100000 in
set_option maxHeartbeats 8000000 in
set_option linter.unusedSimpArgs false in
theorem views_walk (w : World) (A : Option Addr) (cap : Nat) (cs : List Cm) (id : Int) (h : Cms w (fun _ => True) (.slice A cs.length cap) cs) :
    Calls Tryz.prog 11 #[.slice A cs.length cap, .int .u64 id] w (TellsB true w) := by
  have RN := Lib.hid (ran_any w A cap cs h)
  clear h
  go_enter Tryz.func11, Tryz.ntmps11
  go_wp2_with fail
  refine RN.out.mono ?_
  rintro e w1 ⟨q, D, rfl, hq, hpl⟩
  have HQ1 := Lib.hid hq
  have AL := Lib.hid (alive_any w1)
  generalize q.p = p at *
  clear RN hq hpl
  go_wp2_with fail
  refine AL.out.mono ?_
  rintro e w2 ⟨rfl, k2⟩
  have HQ2 := Lib.hid (HQ1.out.stay k2)
  have DU := Lib.hid (own_dump HQ2.out)
  clear AL k2 HQ1
  go_wp2_with fail
  refine DU.out.mono ?_
  rintro e w3 ⟨im, rfl, him, hil, k3⟩
  obtain ⟨A1, a1, A2, a2, A3, a3, e1, e2, e3⟩ := hil.shapes
  have KB := (Keep.refl noneOf w3).alloc (.cells #[.int .u64 im.now, .int .u64 im.ng, .int .u64 im.nt, .slice A1 im.ses.length a1, .slice A2 im.gs.length a2, .slice A3 im.built.length a3] 30)
  have HBI := Lib.hid (Box.new w3 30 #[.int .u64 im.now, .int .u64 im.ng, .int .u64 im.nt, .slice A1 im.ses.length a1, .slice A2 im.gs.length a2, .slice A3 im.built.length a3])
  have HO3 := Lib.hid ((HQ2.out.stay k3).stay KB)
  have HIL := Lib.hid ((hil.keep KB (fun _ _ _ h => h)).mono (D' := fun _ => True) (fun _ _ _ => trivial))
  have HIM := Lib.hid him
  have HE := Lib.hid (And.intro e1 (And.intro e2 e3))
  have VW := Lib.hid (own_view HO3.out id)
  unfold Im.agg
  rw [e1, e2, e3]
  clear DU HQ2 k3 KB him hil e1 e2 e3
  go_wp2_with fail
  refine VW.out.mono ?_
  rintro e w5 ⟨A5, c5, rfl, hst, k5⟩
  obtain ⟨V, hV⟩ : ∃ V, viewP q.plain id = V := ⟨_, rfl⟩
  rw [hV] at hst ⊢
  obtain ⟨vc, vn, vs⟩ := V
  dsimp only at hst ⊢
  have hvn : vn = im.now := by
    have h1 := view_now q.plain id
    rw [hV, ← HIM.out] at h1
    exact h1
  subst hvn
  have KC := (Keep.refl noneOf w5).alloc (.cells #[.int .i64 vc, .int .u64 im.now, .slice A5 vs.length c5] 47)
  have HBV := Lib.hid (Box.new w5 47 #[.int .i64 vc, .int .u64 im.now, .slice A5 vs.length c5])
  have HBI2 := Lib.hid ((HBI.out.keep k5 (fun h => h)).keep KC (fun h => h))
  have HO5 := Lib.hid ((HO3.out.stay k5).stay KC)
  have HIL2 := Lib.hid ((HIL.out.keep k5 (fun _ _ _ h => h)).keep KC (fun _ _ _ h => h))
  have HST := Lib.hid ((hst.keep KC (fun _ _ _ h => h)).mono (D' := fun _ => True) (fun _ _ _ => trivial))
  have HV := Lib.hid hV
  have FI := rfind_any _ _ im HIL2.out id
  unfold Im.agg at FI
  rw [HE.out.1, HE.out.2.1, HE.out.2.2] at FI
  replace FI := Lib.hid FI
  have x0 := HBI2.out.cell 0
  have x1 := HBI2.out.cell 1
  have x2 := HBI2.out.cell 2
  have x3 := HBI2.out.cell 3
  have x4 := HBI2.out.cell 4
  have x5 := HBI2.out.cell 5
  clear VW HBI HO3 HIL k5 KC hst hV
  go_wp2_with fail
  refine FI.out.mono ?_
  obtain ⟨n, hn⟩ : ∃ n, foundI (findG im.plain id) = n := ⟨_, rfl⟩
  rw [hn]
  rintro e w7 ⟨rfl, k7⟩
  have HN := Lib.hid hn
  have HBI3 := Lib.hid (HBI2.out.keep k7 (fun h => h))
  have HBV3 := Lib.hid (HBV.out.keep k7 (fun h => h))
  have HO7 := Lib.hid (HO5.out.stay k7)
  have HIL3 := Lib.hid (HIL2.out.keep k7 (fun _ _ _ h => h))
  have HST3 := Lib.hid (HST.out.keep k7 (fun _ _ _ h => h))
  generalize w5.heap.size = pv at *
  generalize w3.heap.size = pi at *
  clear FI HBI2 HBV HO5 HIL2 HST hn x0 x1 x2 x3 x4 x5 k7
  have MC : Hid (∀ w', Keep noneOf w7 w' → w'.cell? ⟨pv, 0, none⟩ = some (.int .i64 vc) ∧ w'.cell? ⟨pv, 1, none⟩ = some (.int .u64 im.now) ∧ w'.cell? ⟨pv, 2, none⟩ = some (.slice A5 vs.length c5) ∧ w'.cell? ⟨pi, 0, none⟩ = some (.int .u64 im.now) ∧ w'.cell? ⟨pi, 1, none⟩ = some (.int .u64 im.ng) ∧ w'.cell? ⟨pi, 2, none⟩ = some (.int .u64 im.nt) ∧ w'.cell? ⟨pi, 3, none⟩ = some (.slice A1 im.ses.length a1) ∧ w'.cell? ⟨pi, 4, none⟩ = some (.slice A2 im.gs.length a2) ∧ w'.cell? ⟨pi, 5, none⟩ = some (.slice A3 im.built.length a3)) := Lib.hid fun w' k' =>
    ⟨(HBV3.out.keep k' (fun h => h)).cell 0, (HBV3.out.keep k' (fun h => h)).cell 1, (HBV3.out.keep k' (fun h => h)).cell 2, (HBI3.out.keep k' (fun h => h)).cell 0, (HBI3.out.keep k' (fun h => h)).cell 1, (HBI3.out.keep k' (fun h => h)).cell 2, (HBI3.out.keep k' (fun h => h)).cell 3, (HBI3.out.keep k' (fun h => h)).cell 4, (HBI3.out.keep k' (fun h => h)).cell 5⟩
  have DU2 : Hid (∀ w', Keep noneOf w7 w' → Calls Tryz.prog 23 #[.pointer (some ⟨p, 0, none⟩)] w' (OwnTold q w')) := Lib.hid fun w' k' => own_dump (HO7.out.stay k')
  have SM : Hid (∀ w' im2, Keep noneOf w7 w' → im2.lies w' (fun _ => True) → Calls Tryz.prog 22 #[.agg #[.int .u64 im.now, .int .u64 im.ng, .int .u64 im.nt, .slice A1 im.ses.length a1, .slice A2 im.gs.length a2, .slice A3 im.built.length a3], im2.agg] w' (SameTold im im2 w')) := Lib.hid fun w' im2 k' h2 => by
    have := qsame_any w' _ _ im im2 (HIL3.out.keep k' (fun _ _ _ h => h)) h2
    unfold Im.agg at this ⊢
    rw [HE.out.1, HE.out.2.1, HE.out.2.2] at this
    exact this
  have K0 := (Keep.refl noneOf w7).drew
  go_upto_region 7 with fail
  refine wp_region_held_drew (S := fun w' => Keep noneOf w7 w') (by kernel_rfl) (K0) (fun hHeld => ?_)
  refine' wpAnyH_take (i := 0) (v := _) rfl (by kernel_rfl) (by kernel_rfl) (by kernel_rfl) (fun _ _ _ h => h) (Or.inl ⟨by kernel_rfl, ?hy0⟩) (by assumption) ?_
  case hy0 => intro w' hSw; obtain ⟨_, _, _, _, _, _, _, _, _⟩ := MC.out w' hSw; go_simp; try with_reducible rfl
  simp only [Act.put, List.getElem_toArray, List.getElem_cons_zero, List.getElem_cons_succ, List.setIfInBounds_toArray, List.set_cons_zero, List.set_cons_succ]
  refine' wpAnyH_take (i := 1) (v := _) rfl (by kernel_rfl) (by kernel_rfl) (by kernel_rfl) (fun _ _ _ h => h) (Or.inl ⟨by kernel_rfl, ?hy1⟩) (by assumption) ?_
  case hy1 => intro w' hSw; obtain ⟨_, _, _, _, _, _, _, _, _⟩ := MC.out w' hSw; go_simp; try with_reducible rfl
  simp only [Act.put, List.getElem_toArray, List.getElem_cons_zero, List.getElem_cons_succ, List.setIfInBounds_toArray, List.set_cons_zero, List.set_cons_succ]
  refine wpAnyH_ready (rs := [2]) (by kernel_rfl) (by simp) (AllReadyH.cons rfl (fun K hK => ?_) AllReadyH.nil)
  go_simp
  go_at_call 23
  refine (DU2.out _ K0).mono ?_
  rintro e w8 ⟨im2, rfl, him2, hil2, k8⟩
  have K8 : Keep noneOf w7 w8 := K0.trans k8 (fun _ _ h => h)
  have SM2 := Lib.hid (SM.out w8 im2 K8 (hil2.mono (fun _ _ _ => trivial)))
  have HY : Hid (im.plain = im2.plain) := Lib.hid (by rw [him2, HIM.out])
  clear him2 hil2 DU2 SM
  go_wp2_with fail
  refine hK.out _ _ (K8) (fun hHeld => ?_)
  clear hK K
  try simp only [Act.put, List.getElem_toArray, List.getElem_cons_zero, List.getElem_cons_succ, List.setIfInBounds_toArray, List.set_cons_zero, List.set_cons_succ]
  refine wpAnyH_ready (rs := [3]) (by kernel_rfl) (by simp) (AllReadyH.cons rfl (fun K hK => ?_) AllReadyH.nil)
  go_simp
  go_at_call 22
  refine SM2.out.mono ?_
  rintro e w9 ⟨r, rfl, hr, k9⟩
  obtain rfl : r = true := hr.2 HY.out
  have K9 : Keep noneOf w7 w9 := K8.trans k9 (fun _ _ h => h)
  clear hr
  go_wp2_with fail
  refine hK.out _ _ (K9) (fun hHeld => ?_)
  clear hK K
  try simp only [Act.put, List.getElem_toArray, List.getElem_cons_zero, List.getElem_cons_succ, List.setIfInBounds_toArray, List.set_cons_zero, List.set_cons_succ]
  refine' wpAnyH_take (i := 4) (v := .bool false) rfl (by kernel_rfl) (by kernel_rfl) (by kernel_rfl) (fun _ _ _ h => h) (Or.inl ⟨by kernel_rfl, ?hy4⟩) (by assumption) ?_
  case hy4 => intro w' hSw; rfl
  simp only [Act.put, List.getElem_toArray, List.getElem_cons_zero, List.getElem_cons_succ, List.setIfInBounds_toArray, List.set_cons_zero, List.set_cons_succ]
  refine' wpAnyH_take (i := 5) (v := .bool false) rfl (by kernel_rfl) (by kernel_rfl) (by kernel_rfl) (fun _ _ _ h => h) (Or.inl ⟨by kernel_rfl, ?hy5⟩) (by assumption) ?_
  case hy5 => intro w' hSw; rfl
  simp only [Act.put, List.getElem_toArray, List.getElem_cons_zero, List.getElem_cons_succ, List.setIfInBounds_toArray, List.set_cons_zero, List.set_cons_succ]
  refine' wpAnyH_take (i := 6) (v := .pointer (some ⟨pv, 1, none⟩)) rfl (by kernel_rfl) (by kernel_rfl) (by kernel_rfl) (fun _ _ _ h => h) (Or.inl ⟨by kernel_rfl, ?hy6⟩) (by assumption) ?_
  case hy6 => intro w' hSw; obtain ⟨_, _, _, _, _, _, _, _, _⟩ := MC.out w' hSw; first | rfl | (go_simp; try simp only [List.getElem?_cons_zero, Option.getD_some]; try go_simp)
  simp only [Act.put, List.getElem_toArray, List.getElem_cons_zero, List.getElem_cons_succ, List.setIfInBounds_toArray, List.set_cons_zero, List.set_cons_succ]
  refine' wpAnyH_take (i := 7) (v := .int .u64 im.now) rfl (by kernel_rfl) (by kernel_rfl) (by kernel_rfl) (fun _ _ _ h => h) (Or.inl ⟨by kernel_rfl, ?hy7⟩) (by assumption) ?_
  case hy7 => intro w' hSw; obtain ⟨_, _, _, _, _, _, _, _, _⟩ := MC.out w' hSw; first | rfl | (go_simp; try simp only [List.getElem?_cons_zero, Option.getD_some]; try go_simp)
  simp only [Act.put, List.getElem_toArray, List.getElem_cons_zero, List.getElem_cons_succ, List.setIfInBounds_toArray, List.set_cons_zero, List.set_cons_succ]
  refine' wpAnyH_take (i := 8) (v := .pointer (some ⟨pi, 0, none⟩)) rfl (by kernel_rfl) (by kernel_rfl) (by kernel_rfl) (fun _ _ _ h => h) (Or.inl ⟨by kernel_rfl, ?hy8⟩) (by assumption) ?_
  case hy8 => intro w' hSw; obtain ⟨_, _, _, _, _, _, _, _, _⟩ := MC.out w' hSw; first | rfl | (go_simp; try simp only [List.getElem?_cons_zero, Option.getD_some]; try go_simp)
  simp only [Act.put, List.getElem_toArray, List.getElem_cons_zero, List.getElem_cons_succ, List.setIfInBounds_toArray, List.set_cons_zero, List.set_cons_succ]
  refine' wpAnyH_take (i := 9) (v := .int .u64 im.now) rfl (by kernel_rfl) (by kernel_rfl) (by kernel_rfl) (fun _ _ _ h => h) (Or.inl ⟨by kernel_rfl, ?hy9⟩) (by assumption) ?_
  case hy9 => intro w' hSw; obtain ⟨_, _, _, _, _, _, _, _, _⟩ := MC.out w' hSw; first | rfl | (go_simp; try simp only [List.getElem?_cons_zero, Option.getD_some]; try go_simp)
  simp only [Act.put, List.getElem_toArray, List.getElem_cons_zero, List.getElem_cons_succ, List.setIfInBounds_toArray, List.set_cons_zero, List.set_cons_succ]
  refine' wpAnyH_take (i := 10) (v := .bool false) rfl (by kernel_rfl) (by kernel_rfl) (by kernel_rfl) (fun _ _ _ h => h) (Or.inl ⟨by kernel_rfl, ?hy10⟩) (by assumption) ?_
  case hy10 => intro w' hSw; obtain ⟨_, _, _, _, _, _, _, _, _⟩ := MC.out w' hSw; first | rfl | (go_simp; try simp only [List.getElem?_cons_zero, Option.getD_some]; try go_simp)
  simp only [Act.put, List.getElem_toArray, List.getElem_cons_zero, List.getElem_cons_succ, List.setIfInBounds_toArray, List.set_cons_zero, List.set_cons_succ]
  refine' wpAnyH_take (i := 11) (v := .bool false) rfl (by kernel_rfl) (by kernel_rfl) (by kernel_rfl) (fun _ _ _ h => h) (Or.inl ⟨by kernel_rfl, ?hy11⟩) (by assumption) ?_
  case hy11 => intro w' hSw; obtain ⟨_, _, _, _, _, _, _, _, _⟩ := MC.out w' hSw; first | rfl | (go_simp; try simp only [List.getElem?_cons_zero, Option.getD_some]; try go_simp)
  simp only [Act.put, List.getElem_toArray, List.getElem_cons_zero, List.getElem_cons_succ, List.setIfInBounds_toArray, List.set_cons_zero, List.set_cons_succ]
  refine wpAnyH_done (by kernel_rfl) ?_ _
  have HO9 := Lib.hid (HO7.out.stay K9)
  have HIL9 := Lib.hid (HIL3.out.keep K9 (fun _ _ _ h => h))
  have HST9 := Lib.hid (HST3.out.keep K9 (fun _ _ _ h => h))
  have HBI9 := Lib.hid (HBI3.out.keep K9 (fun h => h))
  have HBV9 := Lib.hid (HBV3.out.keep K9 (fun h => h))
  clear MC SM2 K0 K8 K9 k8 k9 hHeld HO7 HIL3 HST3 HBI3 HBV3
  cases hf : findG im.plain id with
  | none =>
    have h1 := HN.out
    have h2 := HV.out
    rw [hf] at h1
    rw [← HIM.out] at h2
    unfold viewP at h2
    rw [hf] at h2
    unfold foundI at h1
    dsimp only at h1 h2
    injection h2 with h2 h3
    injection h3 with h3 h4
    subst h1 h2 h4
    have v0 := HBV9.out.cell 0
    have v2 := HBV9.out.cell 2
    rw [List.length_nil] at v2
    have HF := Lib.hid HO9.out.keep
    clear HN HV hf h3 HBV9 HBI9 HST9 HIL9
    go_wp2
    go_ret
    exact ⟨rfl, HF.out⟩
  | some i =>
    have h1 := HN.out
    have h2 := HV.out
    rw [hf] at h1
    rw [← HIM.out] at h2
    unfold viewP at h2
    rw [hf] at h2
    unfold foundI at h1
    dsimp only at h1 h2
    injection h2 with h2 h3
    injection h3 with h3 h4
    subst h1 h2
    have hlt := findG_lt hf
    obtain ⟨g, hg⟩ : ∃ g, im.gs[i]? = some g := by
      have : i < im.gs.length := by simpa [Im.plain] using hlt
      exact ⟨_, List.getElem?_eq_getElem this⟩
    have hgs : g.st = vs := by
      have h5 : im.plain.gs[i]? = some g.plain := gm_at hg
      rw [← h4, getD_some h5]
      rfl
    have hil := (List.getElem?_eq_some_iff.1 hg).1
    have hG := HIL9.out.gs
    rw [HE.out.2.1] at hG
    obtain ⟨tb, o, e9, hblk, _, hcell⟩ := hG.1.cell (fun _ => rfl) hg
    have d2 : w9.cell? ⟨tb, o + i * 3 + 2, none⟩ = some g.sv := hcell 2 (by decide)
    have hgl := (hG.2 g (List.mem_of_getElem? hg)).2
    have hST := HST9.out
    have SS : Hid (∀ w', Keep noneOf w9 w' → Calls Tryz.prog 32 #[.slice A5 vs.length c5, g.sv] w' (TellsB true w')) := Lib.hid fun w' k' => by
      have := same_any w' _ _ _ _ vs g.st (Sts.keep hST k' (fun _ _ _ h => h)) (Sts.keep hgl k' (fun _ _ _ h => h))
      rw [decide_eq_true hgs.symm] at this
      exact this
    have MC : Hid (∀ w', Keep noneOf w9 w' → w'.cell? ⟨pv, 0, none⟩ = some (.int .i64 0) ∧ w'.cell? ⟨pv, 2, none⟩ = some (.slice A5 vs.length c5) ∧ w'.cell? ⟨pi, 4, none⟩ = some (.slice (some ⟨tb, o, none⟩) im.gs.length a2) ∧ w'.cell? ⟨tb, o + i * 3 + 2, none⟩ = some g.sv) := Lib.hid fun w' k' =>
      ⟨(HBV9.out.keep k' (fun h => h)).cell 0, (HBV9.out.keep k' (fun h => h)).cell 2, by rw [← e9]; exact (HBI9.out.keep k' (fun h => h)).cell 4, (k'.cell (p := ⟨tb, o + i * 3 + 2, none⟩) hblk (fun h => h)).trans d2⟩
    have q0 : ¬ ((i : Int) < 0) := by omega
    have q2 : (0 : Int) ≤ (i : Int) := by omega
    have q1 : (i : Int) < (im.gs.length : Int) := by omega
    have K0 := (Keep.refl noneOf w9).drew
    have HK9 := Lib.hid HO9.out.keep
    clear HN HV hf h3 h4 hlt hg hgs hil hG hcell hblk d2 hgl hST e9 HBV9 HBI9 HST9 HIL9 HO9
    go_upto_region 11 with fail
    refine wp_region_held_drew (S := fun w' => Keep noneOf w9 w') (by kernel_rfl) (K0) (fun hHeld => ?_)
    refine' wpAnyH_take (i := 0) (v := _) rfl (by kernel_rfl) (by kernel_rfl) (by kernel_rfl) (fun _ _ _ h => h) (Or.inl ⟨by kernel_rfl, ?hy0⟩) (by assumption) ?_
    case hy0 => intro w' hSw; obtain ⟨_, _, _, _⟩ := MC.out w' hSw; go_simp; try with_reducible rfl
    simp only [Act.put, List.getElem_toArray, List.getElem_cons_zero, List.getElem_cons_succ, List.setIfInBounds_toArray, List.set_cons_zero, List.set_cons_succ]
    refine' wpAnyH_take (i := 1) (v := _) rfl (by kernel_rfl) (by kernel_rfl) (by kernel_rfl) (fun _ _ _ h => h) (Or.inl ⟨by kernel_rfl, ?hy1⟩) (by assumption) ?_
    case hy1 => intro w' hSw; obtain ⟨_, _, _, _⟩ := MC.out w' hSw; go_simp; try with_reducible rfl
    simp only [Act.put, List.getElem_toArray, List.getElem_cons_zero, List.getElem_cons_succ, List.setIfInBounds_toArray, List.set_cons_zero, List.set_cons_succ]
    refine' wpAnyH_take (i := 2) (v := _) rfl (by kernel_rfl) (by kernel_rfl) (by kernel_rfl) (fun _ _ _ h => h) (Or.inl ⟨by kernel_rfl, ?hy2⟩) (by assumption) ?_
    case hy2 => intro w' hSw; obtain ⟨_, _, _, _⟩ := MC.out w' hSw; go_simp; try with_reducible rfl
    simp only [Act.put, List.getElem_toArray, List.getElem_cons_zero, List.getElem_cons_succ, List.setIfInBounds_toArray, List.set_cons_zero, List.set_cons_succ]
    refine' wpAnyH_take (i := 3) (v := _) rfl (by kernel_rfl) (by kernel_rfl) (by kernel_rfl) (fun _ _ _ h => h) (Or.inl ⟨by kernel_rfl, ?hy3⟩) (by assumption) ?_
    case hy3 => intro w' hSw; obtain ⟨_, _, _, _⟩ := MC.out w' hSw; go_simp; try with_reducible rfl
    simp only [Act.put, List.getElem_toArray, List.getElem_cons_zero, List.getElem_cons_succ, List.setIfInBounds_toArray, List.set_cons_zero, List.set_cons_succ]
    refine' wpAnyH_take (i := 4) (v := _) rfl (by kernel_rfl) (by kernel_rfl) (by kernel_rfl) (fun _ _ _ h => h) (Or.inl ⟨by kernel_rfl, ?hy4⟩) (by assumption) ?_
    case hy4 => intro w' hSw; obtain ⟨_, _, _, _⟩ := MC.out w' hSw; go_simp; try with_reducible rfl
    simp only [Act.put, List.getElem_toArray, List.getElem_cons_zero, List.getElem_cons_succ, List.setIfInBounds_toArray, List.set_cons_zero, List.set_cons_succ]
    refine' wpAnyH_take (i := 5) (v := _) rfl (by kernel_rfl) (by kernel_rfl) (by kernel_rfl) (fun _ _ _ h => h) (Or.inl ⟨by kernel_rfl, ?hy5⟩) (by assumption) ?_
    case hy5 => intro w' hSw; obtain ⟨_, _, _, _⟩ := MC.out w' hSw; go_simp; try with_reducible rfl
    simp only [Act.put, List.getElem_toArray, List.getElem_cons_zero, List.getElem_cons_succ, List.setIfInBounds_toArray, List.set_cons_zero, List.set_cons_succ]
    refine' wpAnyH_take (i := 6) (v := _) rfl (by kernel_rfl) (by kernel_rfl) (by kernel_rfl) (fun _ _ _ h => h) (Or.inl ⟨by kernel_rfl, ?hy6⟩) (by assumption) ?_
    case hy6 => intro w' hSw; obtain ⟨_, _, _, _⟩ := MC.out w' hSw; go_simp; try with_reducible rfl
    simp only [Act.put, List.getElem_toArray, List.getElem_cons_zero, List.getElem_cons_succ, List.setIfInBounds_toArray, List.set_cons_zero, List.set_cons_succ]
    refine' wpAnyH_take (i := 7) (v := _) rfl (by kernel_rfl) (by kernel_rfl) (by kernel_rfl) (fun _ _ _ h => h) (Or.inl ⟨by kernel_rfl, ?hy7⟩) (by assumption) ?_
    case hy7 => intro w' hSw; obtain ⟨_, _, _, _⟩ := MC.out w' hSw; go_simp; try with_reducible rfl
    simp only [Act.put, List.getElem_toArray, List.getElem_cons_zero, List.getElem_cons_succ, List.setIfInBounds_toArray, List.set_cons_zero, List.set_cons_succ]
    refine' wpAnyH_take (i := 8) (v := _) rfl (by kernel_rfl) (by kernel_rfl) (by kernel_rfl) (fun _ _ _ h => h) (Or.inl ⟨by kernel_rfl, ?hy8⟩) (by assumption) ?_
    case hy8 => intro w' hSw; obtain ⟨_, _, _, _⟩ := MC.out w' hSw; go_simp; try with_reducible rfl
    simp only [Act.put, List.getElem_toArray, List.getElem_cons_zero, List.getElem_cons_succ, List.setIfInBounds_toArray, List.set_cons_zero, List.set_cons_succ]
    refine' wpAnyH_take (i := 9) (v := _) rfl (by kernel_rfl) (by kernel_rfl) (by kernel_rfl) (fun _ _ _ h => h) (Or.inl ⟨by kernel_rfl, ?hy9⟩) (by assumption) ?_
    case hy9 => intro w' hSw; obtain ⟨_, _, _, _⟩ := MC.out w' hSw; go_simp; try with_reducible rfl
    simp only [Act.put, List.getElem_toArray, List.getElem_cons_zero, List.getElem_cons_succ, List.setIfInBounds_toArray, List.set_cons_zero, List.set_cons_succ]
    refine' wpAnyH_take (i := 10) (v := _) rfl (by kernel_rfl) (by kernel_rfl) (by kernel_rfl) (fun _ _ _ h => h) (Or.inl ⟨by kernel_rfl, ?hy10⟩) (by assumption) ?_
    case hy10 => intro w' hSw; obtain ⟨_, _, _, _⟩ := MC.out w' hSw; go_simp; try with_reducible rfl
    simp only [Act.put, List.getElem_toArray, List.getElem_cons_zero, List.getElem_cons_succ, List.setIfInBounds_toArray, List.set_cons_zero, List.set_cons_succ]
    refine' wpAnyH_take (i := 11) (v := _) rfl (by kernel_rfl) (by kernel_rfl) (by kernel_rfl) (fun _ _ _ h => h) (Or.inl ⟨by kernel_rfl, ?hy11⟩) (by assumption) ?_
    case hy11 => intro w' hSw; obtain ⟨_, _, _, _⟩ := MC.out w' hSw; go_simp; try with_reducible rfl
    simp only [Act.put, List.getElem_toArray, List.getElem_cons_zero, List.getElem_cons_succ, List.setIfInBounds_toArray, List.set_cons_zero, List.set_cons_succ]
    refine wpAnyH_ready (rs := [12]) (by kernel_rfl) (by simp) (AllReadyH.cons rfl (fun K hK => ?_) AllReadyH.nil)
    go_simp
    go_at_call 32
    refine (SS.out _ K0).mono ?_
    rintro e w10 ⟨rfl, k10⟩
    have K10 : Keep noneOf w9 w10 := K0.trans k10 (fun _ _ h => h)
    go_wp2_with fail
    refine hK.out _ _ (K10) (fun hHeld => ?_)
    clear hK K
    try simp only [Act.put, List.getElem_toArray, List.getElem_cons_zero, List.getElem_cons_succ, List.setIfInBounds_toArray, List.set_cons_zero, List.set_cons_succ]
    refine' wpAnyH_take (i := 13) (v := .bool true) rfl (by kernel_rfl) (by kernel_rfl) (by kernel_rfl) (fun _ _ _ h => h) (Or.inl ⟨by kernel_rfl, ?hy13⟩) (by assumption) ?_
    case hy13 => intro w' hSw; obtain ⟨_, _, _, _⟩ := MC.out w' hSw; first | rfl | (go_simp; try simp only [List.getElem?_cons_zero, Option.getD_some]; try go_simp)
    simp only [Act.put, List.getElem_toArray, List.getElem_cons_zero, List.getElem_cons_succ, List.setIfInBounds_toArray, List.set_cons_zero, List.set_cons_succ]
    refine' wpAnyH_take (i := 14) (v := .bool true) rfl (by kernel_rfl) (by kernel_rfl) (by kernel_rfl) (fun _ _ _ h => h) (Or.inl ⟨by kernel_rfl, ?hy14⟩) (by assumption) ?_
    case hy14 => intro w' hSw; obtain ⟨_, _, _, _⟩ := MC.out w' hSw; first | rfl | (go_simp; try simp only [List.getElem?_cons_zero, Option.getD_some]; try go_simp)
    simp only [Act.put, List.getElem_toArray, List.getElem_cons_zero, List.getElem_cons_succ, List.setIfInBounds_toArray, List.set_cons_zero, List.set_cons_succ]
    refine wpAnyH_done (by kernel_rfl) ?_ _
    clear MC SS K0 k10 hHeld
    go_wp2
    go_ret
    exact ⟨rfl, HK9.out.trans K10 (fun _ _ h => h)⟩
namespace QueueViews
set_option maxRecDepth 100000 in
theorem lifted (os : Os) (started : os.Started) (H : Type) (enc : TypeId × Value → H) :
    ReturnsInHanded {} Tryz.checked os 11 .any (Rows.queueViewsSpec.pre6 enc Tryz.prog Tryz.f11 Rows.queueViewsRow.domain false) (Rows.queueViewsSpec.post enc Tryz.prog Tryz.f11 false true false false) := by
  refine returnsInHanded_of_change_sized (C := Tryz.checked) own started (by kernel_rfl) Tryz.func11
    (ChangeSpec.witness6 (enc := enc) (C := Tryz.checked) false ⟨#[], #[.slice none 0 0, .int .u64 0], []⟩ 8 (by kernel_rfl) (by kernel_rfl) (by kernel_rfl) (by kernel_rfl)) ?_
  intro W base args ds gs before hval0 hW hcnd hsz _
  have hval : ∀ (j : Nat) t v, Tryz.f11.params[j]? = some t → args[j]? = some v → Value.okWide Tryz.prog W .any base t v := hval0
  have hW' := hW
  obtain ⟨p, q, hA0, hV, rfl, hfz, hnd⟩ := hW
  have hA : DataW.TrodAll enc Tryz.prog W 0 (fun _ => true) true Tryz.f11.params.toList args.toList ds p := hA0
  rw [Tryz.params11] at hA hval
  obtain ⟨v0, vs0, d0, ds0, p0, q0, hargs, rfl, rfl, h0, r0⟩ := trodAll_cons hA
  obtain ⟨v1, vs1, d1, ds1, p1, q1, rfl, rfl, rfl, h1, r1⟩ := trodAll_cons r0
  obtain ⟨rfl, rfl, rfl⟩ := trodAll_nil r1
  obtain rfl : args = #[v0, v1] := by cases args; simp_all
  obtain ⟨rfl, rfl⟩ := trodVars_none hV
  have k0 := h0
  have lt0 : ∀ x ∈ p0, x.block < W.heap.size := by obtain ⟨m, hm⟩ := k0; exact DataW.trod_lt m _ _ _ hm
  obtain ⟨A0, c0, l0, rfl, hl0⟩ := open_arg_cms (hval 0 22 v0 rfl rfl) h0 (light_arg hsz (j := 0) rfl rfl)
  obtain ⟨a1, rfl, rfl, rfl, w1⟩ := open_int Tryz.underlying23 (hval 1 23 v1 rfl rfl) h1
  clear hA0 hval0
  refine (views_walk W A0 c0 l0 a1 hl0).mono fun e W' ⟨he, bel0⟩ => ?_
  subst he
  have bel := bel0.all
  exact ⟨_, rfl, _, _, _, [], _, [], hW', trodAll_mk1 (shut_bool Tryz.underlying4 _), (trodAll_cons_mk (Below.trod laidOut (by kernel_rfl) (of_decide_eq_true (by kernel_rfl)) k0 bel lt0) (trodAll_cons_mk (shut_int Tryz.underlying23 w1) trodAll_mk0)), rfl, bel.frame _, fun h => by cases h⟩
theorem over : Rows.queueViewsRow.holds Tryz.pinned (OpenSpec.ofChange Rows.queueViewsSpec) :=
  OpenClaim.holds_of_wide 11 Tryz.f11 rfl rfl rfl rfl rfl rfl rfl ⟨rfl, rfl, rfl, rfl, rfl⟩ rfl rfl rfl rfl rfl (by kernel_rfl) Tryz.func11 (by kernel_rfl)
    (of_decide_eq_true (by kernel_rfl)) (by unfold Func.isWrapper; first | (rw [if_pos (by decide +kernel)]; kernel_rfl) | (rw [if_neg (by decide +kernel)]; exact ⟨rfl, rfl⟩))
    (fun os started H enc _ => lifted os started H enc)
theorem proved : Rows.QueueViewsSaid := over
end QueueViews
end Go.Proofs.YtknpklilgdegnaaGreat
