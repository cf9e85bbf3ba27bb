import Derived.Test.YtffoeodjbbkdjaaGreatBs01
import Derived.Test.YtffoeodjbbkdjaaGreatBs28
import Derived.Test.YtffoeodjbbkdjaaGreatBs33
namespace Go.Proofs.YtffoeodjbbkdjaaGreat
open Go.RowKit
theorem Does.busy {w v : World} {D E : Nat → Prop} {q r : Qm} {a : Nat} {x : Qp × An} {e : Ending} {u : World} (h : Busy w v D E q r a) (hd : Does r E x v e u) : ∃ s, e = .returned x.2.agg ∧ Busy w u D (grown v u E) q s a ∧ s.plain = x.1 := by
 obtain ⟨s, he, ha, hp, hr, hk⟩ := hd
 exact ⟨s, he, h.turn hk (fun _ h => h) ha hp (fun i hi => .inl hi) (fun i hi => hi.imp_right (fun e => e.1)), hr⟩
set_option maxRecDepth 100000 in
set_option maxHeartbeats 4000000 in
set_option linter.unusedSimpArgs false in
theorem qclaim_any (w : World) (D : Nat → Prop) (q : Qm) (h : QAt w D q) (hi : Inv q.plain) (c : Cm) :
  Calls Tryz.prog 59 #[.pointer (some ⟨q.p, 0, none⟩), c.agg] w (Does q D (claimP q.plain) w) := by
 have HB := Lib.hid (busy_begin h c)
 have HI := Lib.hid hi
 unfold Cm.agg
 generalize hR : claimP q.plain = R
 have HR := Lib.hid hR
 clear h hi hR
 go_enter Tryz.func59, Tryz.ntmps59
 go_upto_region 1 with fail
 generalize (w.alloc (.cells #[.int .i64 c.kind, .int .u64 c.ses, .int .u64 c.seq, c.gv, .int .u64 c.id, .int .u64 c.tok, .bool c.good, .int .u64 c.time] 37)).alloc (.cells #[.int .i64 0, .int .u64 0, .int .u64 0, .int .u64 0, .string ⟨#[]⟩, .string ⟨#[]⟩] 40) = w1 at *
 generalize w.heap.size + 1 = a at *
 have B := HB.out.1
 obtain ⟨A, cap, hgv⟩ := B.at_.shape
 have HGV := Lib.hid hgv
 have hn := B.at_.few
 unfold maxLen at hn
 have p4 : w1.cell? ⟨q.p, 4, none⟩ = some (.slice A q.gs.length cap) := by rw [← hgv]; exact B.at_.box.cell 4
 clear B hgv
 go_wp2
 clear p4
 go_loopw [13] (fun i wr => ∃ k : Nat, k ≤ q.gs.length ∧ i = .int .i64 k ∧ Keep noneOf w1 wr ∧ ∀ j g, j < k → q.gs[j]? = some g → nextIx g.plain.st = none) (fun i _ => q.gs.length - (intOf i).toNat)
 case atStart => exact ⟨0, Nat.zero_le _, rfl, Keep.refl _ _, fun j _ hj => absurd hj (by omega)⟩
 case round =>
  obtain ⟨k, hk, rfl, hkeep, hall⟩ := hrel
  have HA := Lib.hid hall
  have HBR := Lib.hid (HB.out.1.stay hkeep)
  have HKP := Lib.hid hkeep
  clear hall
  have hQ := HBR.out.at_
  by_cases hlt : k < q.gs.length
  ·
   have hx : q.gs[k]? = some q.gs[k] := List.getElem?_eq_getElem hlt
   generalize q.gs[k] = g at *
   obtain ⟨g0, cap', hgv', hg0D, hg0lt, hg0p, d0, d1, d2, fr2⟩ := hQ.rows hx
   have hgv := HGV.out
   rw [hgv] at hgv'
   obtain ⟨rfl, rfl⟩ : A = some ⟨g0, 0, none⟩ ∧ cap = cap' := by simpa using hgv'
   have p4 : wr.cell? ⟨q.p, 4, none⟩ = some (.slice (some ⟨g0, 0, none⟩) q.gs.length cap) := by rw [← hgv]; exact hQ.box.cell 4
   have HS := Lib.hid (hQ.states (List.mem_of_getElem? hx))
   obtain ⟨As, cs, hsv⟩ := HS.out.shape
   have HSV := Lib.hid hsv
   have NX := Lib.hid (rnext_any wr _ _ g.st HS.out)
   rw [hsv] at d2 NX
   have HX := Lib.hid hx
   have q0 : (0 : Int) ≤ (k : Int) := by omega
   have q1 : (k : Int) < (q.gs.length : Int) := by omega
   clear hQ hgv' hgv hsv hx d0 d1 fr2 hkeep hg0lt hg0D hg0p
   go_wp2_with fail
   refine NX.out.mono ?_
   rintro e w2 ⟨rfl, k2⟩
   have HB2 := Lib.hid (HBR.out.stay k2)
   have HK2 := Lib.hid (HKP.out.trans k2 (fun _ _ h => h))
   clear NX k2 d2 p4 HBR HKP
   cases hnx : nextIx g.st with
   | none =>
    have HNX := Lib.hid hnx
    clear hnx
    simp only [Option.getD, Option.isSome]
    go_wp2
    go_roundw
    case rel =>
     refine ⟨k + 1, by omega, by go_num, HK2.out, fun j t hj e => ?_⟩
     rcases Nat.lt_or_ge j k with h | h
     ·
      exact HA.out j t h e
     ·
      have : j = k := by omega
      subst this
      rw [HX.out] at e
      injection e with e
      rw [← e]
      exact HNX.out
    case measure => simp only [intOf]; omega
   | some n =>
    obtain ⟨x, hx, _⟩ := findIdx_at hnx
    have HRQ : Hid (R = leasedP q.plain k n g.plain) := Lib.hid (by
     rw [← HR.out]
     unfold claimP
     have hra : readyAt q.plain = some (k, n) := by
      have := firstG_some (f := fun g => nextIx g.st) (i := 0) (gm_at HX.out) hnx (fun j b hj hb => by
       obtain ⟨gj, hgj, rfl⟩ := gm_of hb
       exact HA.out j gj hj hgj)
      rw [Nat.zero_add] at this
      exact this
     rw [hra]
     dsimp only
     rw [getD_some (show q.plain.gs[k]? = some g.plain from gm_at HX.out)]
     rfl)
    have B := HB2.out
    have p4 : w2.cell? ⟨q.p, 4, none⟩ = some (.slice (some ⟨g0, 0, none⟩) q.gs.length cap) := by rw [← HGV.out]; exact B.at_.box.cell 4
    have LS := Lib.hid (qlease_any w2 D q B.at_ HI.out HX.out hx HGV.out)
    clear hnx hx B HR
    generalize hrr : leasedP q.plain k n g.plain = rr at *
    obtain ⟨rq, ⟨x1, x2, x3, x4, x5, x6⟩⟩ := rr
    clear hrr
    simp only [Option.getD, Option.isSome]
    go_wp2_with fail
    refine LS.out.mono ?_
    rintro e w3 hd
    obtain ⟨s, rfl, hb3, hpl⟩ := Does.busy HB2.out hd
    have HB3 := Lib.hid hb3
    have HPL := Lib.hid hpl
    clear LS hd hb3 hpl p4
    unfold An.agg
    obtain ⟨c0, c1, c2, c3, c4, c5⟩ := HB3.out.an.six
    obtain ⟨f0, f1, f2, f3, f4, f5⟩ := HB3.out.an.free6
    dsimp only
    go_wp2
    have hbx := (HB3.out.box ⟨x1, x2, x3, x4, x5, x6⟩)
    have hd := (HB3.out.does ⟨x1, x2, x3, x4, x5, x6⟩)
    dsimp only [sixPut] at hbx hd
    generalize ((((((w3.setCell ⟨a, 0, none⟩ (.int .i64 (x1))).setCell ⟨a, 1, none⟩ (.int .u64 (x2))).setCell ⟨a, 2, none⟩ (.int .u64 (x3))).setCell ⟨a, 3, none⟩ (.int .u64 (x4))).setCell ⟨a, 4, none⟩ (.string x5)).setCell ⟨a, 5, none⟩ (.string x6)) = wf at hbx hd ⊢
    obtain ⟨r0, r1, r2, r3, r4, r5⟩ := hbx.six
    rw [HPL.out] at hd
    rw [HRQ.out]
    exact bodyPost_ret (v := An.agg ⟨x1, x2, x3, x4, x5, x6⟩) (by simp [results, Tryz.results59, go_sem, An.agg, r0, r1, r2, r3, r4, r5]) rfl hd
  ·
   have hkn : ¬ ((k : Int) < (q.gs.length : Int)) := by omega
   have hr : R = (q.plain, An.err 122) := by
    rw [← HR.out]
    unfold claimP
    have hra : readyAt q.plain = none := firstG_none (fun j b hb => by
     obtain ⟨gj, hgj, rfl⟩ := gm_of hb
     exact HA.out j gj (by have := (List.getElem?_eq_some_iff.1 hgj).1; omega) hgj)
    rw [hra]
   subst hr
   clear hkeep hQ HR
   have RF := Lib.hid (refusal_lit wr 122)
   go_wp2_with fail
   refine RF.out.mono ?_
   rintro e w8 ⟨rfl, k8⟩
   have HB8 := Lib.hid (HBR.out.stay k8)
   obtain ⟨c0, c1, c2, c3, c4, c5⟩ := HB8.out.an.six
   obtain ⟨f0, f1, f2, f3, f4, f5⟩ := HB8.out.an.free6
   clear RF k8
   go_wp2
   have hbx := (HB8.out.box ⟨122, 0, 0, 0, ⟨#[]⟩, ⟨#[]⟩⟩)
   have hd := (HB8.out.does ⟨122, 0, 0, 0, ⟨#[]⟩, ⟨#[]⟩⟩)
   dsimp only [sixPut] at hbx hd
   generalize ((((((w8.setCell ⟨a, 0, none⟩ (.int .i64 (122))).setCell ⟨a, 1, none⟩ (.int .u64 (0))).setCell ⟨a, 2, none⟩ (.int .u64 (0))).setCell ⟨a, 3, none⟩ (.int .u64 (0))).setCell ⟨a, 4, none⟩ (.string ⟨#[]⟩)).setCell ⟨a, 5, none⟩ (.string ⟨#[]⟩)) = wf at hbx hd ⊢
   obtain ⟨r0, r1, r2, r3, r4, r5⟩ := hbx.six
   exact bodyPost_ret (v := An.agg ⟨122, 0, 0, 0, ⟨#[]⟩, ⟨#[]⟩⟩) (by simp [results, Tryz.results59, go_sem, An.agg, r0, r1, r2, r3, r4, r5]) rfl hd
end Go.Proofs.YtffoeodjbbkdjaaGreat
namespace Go.Proofs.YtffoeodjbbkdjaaGreat
open Go.RowKit
set_option maxRecDepth 100000 in
set_option maxHeartbeats 8000000 in
set_option linter.unusedSimpArgs false in
theorem qreport_any (w : World) (D : Nat → Prop) (q : Qm) (h : QAt w D q) (hi : Inv q.plain) (c : Cm) (ht : 0 ≤ c.tok) :
  Calls Tryz.prog 61 #[.pointer (some ⟨q.p, 0, none⟩), c.agg] w (Does q D (reportP q.plain c.plain) w) := by
 have HB := Lib.hid (busy_begin h c)
 have HI := Lib.hid hi
 have HT := Lib.hid ht
 unfold Cm.agg
 generalize hR : reportP q.plain c.plain = R
 have HR := Lib.hid hR
 clear h hi hR ht
 go_enter Tryz.func61, Tryz.ntmps61
 go_upto_region 1 with fail
 generalize (w.alloc (.cells #[.int .i64 c.kind, .int .u64 c.ses, .int .u64 c.seq, c.gv, .int .u64 c.id, .int .u64 c.tok, .bool c.good, .int .u64 c.time] 37)).alloc (.cells #[.int .i64 0, .int .u64 0, .int .u64 0, .int .u64 0, .string ⟨#[]⟩, .string ⟨#[]⟩] 40) = w1 at *
 generalize w.heap.size + 1 = a at *
 generalize hcb : w.heap.size = cb at *
 have HCB := Lib.hid hcb
 clear hcb
 obtain ⟨B, M⟩ := HB.out
 have m5 : w1.cell? ⟨cb, 5, none⟩ = some (.int .u64 c.tok) := M.cm.cell 5
 have HD := Lib.hid (qheld_any w1 D q B.at_ c.tok HT.out)
 clear B M
 go_wp2_with fail
 refine HD.out.mono ?_
 rintro e w2 ⟨k2, hd⟩
 have HB2 := Lib.hid (HB.out.1.stay k2)
 have HM2 := Lib.hid (HB.out.2.stay k2)
 clear HD HB k2 m5
 rcases hd with ⟨hh, rfl⟩ | ⟨i, n, g0, cap, hh, hgv, rfl⟩
 ·
  have hr : R = (q.plain, An.err 100) := by
   rw [← HR.out]
   unfold reportP
   rw [show c.plain.tok = c.tok from rfl, hh]
  subst hr
  clear HR hh
  have RF := Lib.hid (refusal_lit w2 100)
  go_wp2_with fail
  refine RF.out.mono ?_
  rintro e w8 ⟨rfl, k8⟩
  have HB8 := Lib.hid (HB2.out.stay k8)
  obtain ⟨c0, c1, c2, c3, c4, c5⟩ := HB8.out.an.six
  obtain ⟨f0, f1, f2, f3, f4, f5⟩ := HB8.out.an.free6
  clear RF k8
  go_wp2
  have hbx := (HB8.out.box ⟨100, 0, 0, 0, ⟨#[]⟩, ⟨#[]⟩⟩)
  have hd := (HB8.out.does ⟨100, 0, 0, 0, ⟨#[]⟩, ⟨#[]⟩⟩)
  dsimp only [sixPut] at hbx hd
  generalize ((((((w8.setCell ⟨a, 0, none⟩ (.int .i64 (100))).setCell ⟨a, 1, none⟩ (.int .u64 (0))).setCell ⟨a, 2, none⟩ (.int .u64 (0))).setCell ⟨a, 3, none⟩ (.int .u64 (0))).setCell ⟨a, 4, none⟩ (.string ⟨#[]⟩)).setCell ⟨a, 5, none⟩ (.string ⟨#[]⟩)) = wf at hbx hd ⊢
  obtain ⟨r0, r1, r2, r3, r4, r5⟩ := hbx.six
  exact bodyPost_ret (v := An.agg ⟨100, 0, 0, 0, ⟨#[]⟩, ⟨#[]⟩⟩) (by simp [results, Tryz.results61, go_sem, An.agg, r0, r1, r2, r3, r4, r5]) rfl hd
 ·
  obtain ⟨gq, x, hgq, hx, hb⟩ := held_some hh
  obtain ⟨g, hg, rfl⟩ := gm_of hgq
  have hx' : g.st[n]? = some x := hx
  have HG := Lib.hid hg
  have HX := Lib.hid hx'
  have HGV := Lib.hid hgv
  generalize hbl : (if c.good = true then builtP q.built ((grKeys g.plain.ps).getD n 0) else q.built) = BL
  generalize hsv : (if c.good = true then (3 : Int) else 4) = sv
  have HRQ : Hid (R = ({ withG q.plain i (grSettle g.plain.ps (g.st.set n ⟨sv, 0, 0⟩)) with built := BL }, ⟨0, g.id, 0, 0, g.plain.name n, ⟨#[]⟩⟩)) := Lib.hid (by
   rw [← HR.out, ← hbl, ← hsv]
   unfold reportP
   rw [show c.plain.tok = c.tok from rfl, hh]
   dsimp only
   rw [getD_some hgq]
   cases hgd : c.good with
   | true => rw [show c.plain.good = true from hgd]; rfl
   | false => rw [show c.plain.good = false from hgd]; rfl)
  have HBL := Lib.hid hbl
  have HSV := Lib.hid hsv
  have hm : g ∈ q.gs := List.mem_of_getElem? hg
  obtain ⟨hf1, hf2, hf3, hf4⟩ := inv_few HI.out hm
  have HF4 := Lib.hid hf4
  have HF3 := Lib.hid hf3
  have hn3 := (List.getElem?_eq_some_iff.1 hx').1
  have KT := (Keep.refl noneOf w2).alloc (.cells #[.int .i64 4, .int .u64 0, .int .u64 0] 61)
  have HBT := Lib.hid (HB2.out.stay KT)
  have HMT := Lib.hid (HM2.out.stay KT)
  have HST := Lib.hid (Box.new w2 61 #[.int .i64 4, .int .u64 0, .int .u64 0])
  obtain ⟨gd, hgd⟩ : ∃ gd, c.good = gd := ⟨_, rfl⟩
  have m6 : (w2.alloc (.cells #[.int .i64 4, .int .u64 0, .int .u64 0] 61)).cell? ⟨cb, 6, none⟩ = some (.bool gd) := by rw [← hgd]; exact HMT.out.cm.cell 6
  have HGD := Lib.hid hgd
  have HNB : Hid (w2.heap.size ≠ a ∧ w2.heap.size ≠ cb ∧ ¬ D w2.heap.size ∧ cb ≤ w2.heap.size) := Lib.hid (by
   have h1 := HB2.out.an.lt
   have h2 := HM2.out.cm.lt
   exact ⟨by omega, by omega, fun e => by have := HB2.out.at_.lt _ e; omega, by omega⟩)
  clear HR hh hgq hx hb hbl hsv hf4 hf3 hg hx' hgv KT HB2 HM2 hgd
  go_upto_if 22 with fail
  generalize w2.alloc (.cells #[.int .i64 4, .int .u64 0, .int .u64 0] 61) = w3 at *
  generalize w2.heap.size = sb at *
  go_cut [8] (fun p wx => p = .pointer (some ⟨sb, 0, none⟩) ∧ ∃ bv E, Busy w wx D E q { q with bv := bv, built := BL } a ∧ CmAt w wx E a cb c ∧ Box wx sb 61 #[.int .i64 sv, .int .u64 0, .int .u64 0] ∧ ¬ E sb)
  case first =>
   cases gd with
   | false =>
    have hs4 : sv = 4 := by rw [← HSV.out, HGD.out]; rfl
    have hbq : BL = q.built := by rw [← HBL.out, HGD.out]; rfl
    have HFI : Hid (∃ bv E, Busy w w3 D E q { q with bv := bv, built := BL } a ∧ CmAt w w3 E a cb c ∧ Box w3 sb 61 #[.int .i64 sv, .int .u64 0, .int .u64 0] ∧ ¬ E sb) := Lib.hid (by
     rw [hs4, hbq]
     exact ⟨q.bv, D, HBT.out, HMT.out, HST.out, HNB.out.2.2.1⟩)
    clear hs4 hbq m6
    go_wp2_with fail
    go_meet
    exact ⟨rfl, HFI.out⟩
   | true =>
    have hs3 : sv = 3 := by rw [← HSV.out, HGD.out]; rfl
    have hbq : BL = builtP q.built ((grKeys g.plain.ps).getD n 0) := by rw [← HBL.out, HGD.out]; rfl
    have y0 := HST.out.cell 0
    have z0 := HST.out.free 0
    have K4 := (Keep.refl (fun b => b = sb) w3).setCell (p := ⟨sb, 0, none⟩) (fun _ => rfl) (.int .i64 3)
    have HB4 : Hid (Busy w (w3.setCell ⟨sb, 0, none⟩ (.int .i64 3)) D D q q a) := Lib.hid (HBT.out.keepNew K4 (fun j e => by subst e; have h1 := HNB.out; have h2 := HCB.out; exact ⟨by omega, h1.2.2.1, h1.1⟩))
    have HM4 : Hid (CmAt w (w3.setCell ⟨sb, 0, none⟩ (.int .i64 3)) D a cb c) := Lib.hid (HMT.out.keepNew K4 (fun j e => by subst e; exact HNB.out.2.1))
    have HS4 : Hid (Box (w3.setCell ⟨sb, 0, none⟩ (.int .i64 3)) sb 61 #[.int .i64 3, .int .u64 0, .int .u64 0]) := Lib.hid (HST.out.put 0 (.int .i64 3))
    have B := HB4.out
    obtain ⟨g9, cap9, e9, _, _, _, _, d1, _, _⟩ := B.at_.rows HG.out
    rw [HGV.out] at e9
    obtain ⟨rfl, rfl⟩ : g0 = g9 ∧ cap = cap9 := by simpa using e9
    obtain ⟨Ag, cg, hgs⟩ : ∃ Ag cg, g.gv = .slice Ag g.ts.length cg := by
     obtain ⟨Ag, cg, h1, _⟩ := (B.at_.tg g hm).1
     exact ⟨Ag, cg, h1⟩
    have KY := Lib.hid (keys_any _ _ _ g.ts (B.at_.tg g hm))
    rw [hgs] at d1 KY
    have hkl : (grKeys g.plain.ps).length = g.ts.length := by
     rw [grKeys_length]
     show (grOrder (g.ts.map Tg.plain)).length = _
     rw [order_len HF3.out, List.length_map]
    have HKB : Hid (∀ k ∈ grKeys g.plain.ps, (k : Int) < 18446744073709551616) := Lib.hid (keys_bound (g.ts.map Tg.plain) _ _)
    rw [show g.ts.map Tg.plain = g.plain.ps from rfl] at KY
    generalize grKeys g.plain.ps = ks at *
    have hnk : n < ks.length := by have := HF4.out; omega
    have q0 : (0 : Int) ≤ (n : Int) := by omega
    have q1 : (n : Int) < (ks.length : Int) := by omega
    have HBQ := Lib.hid hbq
    have HS3 := Lib.hid hs3
    clear hbq hs3 B K4 e9 hgs hkl
    go_wp2_with fail
    refine KY.out.mono ?_
    rintro e w5 ⟨A1, c1, rfl, hks, k5⟩
    have HB5 := Lib.hid (HB4.out.stay k5)
    have HM5 := Lib.hid (HM4.out.stay k5)
    have HS5 := Lib.hid (HS4.out.keep k5 id)
    obtain ⟨A2, c2, e2, _, _, _, _, hcell⟩ := hks.1
    obtain ⟨⟨b1, o1, sp⟩, hA, hsp, _, _, hcl⟩ := hcell (by omega)
    dsimp only at hsp hcl
    subst hsp
    obtain ⟨rfl, rfl⟩ : A1 = A2 ∧ c1 = c2 := by simpa using e2
    subst hA
    have y1 : w5.cell? ⟨b1, o1 + n, none⟩ = some (.int .u64 ((ks.getD n 0 : Nat) : Int)) := hcl n _ (by rw [List.getElem?_map, List.getElem?_eq_getElem hnk, List.getD_eq_getElem?_getD, List.getElem?_eq_getElem hnk]; rfl)
    have RM := Lib.hid (remember_any w5 D q HB5.out.at_ (ks.getD n 0) HI.out.bltFew)
    generalize ks.getD n 0 = kx at *
    clear KY k5 hks hcell hcl e2 HB4 HM4 HS4 y0 z0 d1 m6
    go_wp2_with fail
    refine RM.out.mono ?_
    rintro e w6 ⟨⟨v, rfl⟩, bv, hq6, hk6⟩
    have HFI : Hid (∃ bv E, Busy w w6 D E q { q with bv := bv, built := BL } a ∧ CmAt w w6 E a cb c ∧ Box w6 sb 61 #[.int .i64 sv, .int .u64 0, .int .u64 0] ∧ ¬ E sb) := Lib.hid (by
     rw [HS3.out, HBQ.out]
     exact ⟨bv, _, HB5.out.turn hk6 (fun _ h => h) hq6 rfl (fun _ h => .inl h) (fun _ h => h.imp_right (fun e => e.1)), HM5.out.turn hk6 (fun _ h => h) (fun _ h => h.imp_right (fun e => e.1)), HS5.out.keep hk6 HNB.out.2.2.1, fun e => e.elim HNB.out.2.2.1 (fun e => by have := HS5.out.lt; omega)⟩)
    clear RM hq6 hk6
    go_wp2_with fail
    go_meet
    exact ⟨rfl, HFI.out⟩
  case rest =>
   obtain ⟨rfl, bv, E, hB, hM, hS, hEs⟩ := hcut
   have HBC := Lib.hid hB
   have HBX := Lib.hid hS
   obtain ⟨sx, cs, hsv, hsxD, ⟨y0, y1, y2⟩, z0, z1, z2⟩ := hB.at_.state (g := g) hm HX.out
   have HSVX := Lib.hid hsv
   have hsxg : sx ≠ g0 := fun e => hB.at_.s_ne_g (g := g) hm sx (by rw [HSVX.out]; rfl) (by show q.gv.ownBlock = _; rw [HGV.out, e]; rfl)
   have hss : sb ≠ sx := fun e => hEs (e ▸ hsxD)
   have MC : Hid (∀ w', Keep (fun b => b = sx) wc w' → w'.cell? ⟨g0, i * 3 + 2, none⟩ = some (.slice (some ⟨sx, 0, none⟩) g.st.length cs) ∧ w'.cell? ⟨sb, 0, none⟩ = some (.int .i64 sv) ∧ w'.cell? ⟨sb, 1, none⟩ = some (.int .u64 0) ∧ w'.cell? ⟨sb, 2, none⟩ = some (.int .u64 0)) := Lib.hid fun w' k' => by
    obtain ⟨g9, cap9, e9, _, hlt, _, _, _, x2, _⟩ := hB.at_.rows (i := i) (g := g) HG.out
    have e10 : q.gv = .slice (some ⟨g9, 0, none⟩) q.gs.length cap9 := e9
    rw [HGV.out] at e10
    obtain ⟨rfl, rfl⟩ : g0 = g9 ∧ cap = cap9 := by simpa using e10
    rw [HSVX.out] at x2
    exact ⟨(k'.cell (p := ⟨g0, i * 3 + 2, none⟩) hlt (fun e => hsxg e.symm)).trans x2, (HBX.out.keep k' hss).three⟩
   have KP := keep_three wc sx (n * 3) (.int .i64 sv) (.int .u64 0) (.int .u64 0)
   have FIN : Hid (Busy w (threePut wc sx (n * 3) (.int .i64 sv) (.int .u64 0) (.int .u64 0)).drew D E q { q with bv := bv, built := BL, gs := q.gs.set i { g with st := g.st.set n ⟨sv, 0, 0⟩ } } a) := Lib.hid (by
    have hs : ∀ j, j = sx → E j := fun j e => e ▸ hsxD
    exact hB.turn KP.drew hs ((hB.at_.putState (i := i) (g := g) HG.out HSVX.out hn3 ⟨sv, 0, 0⟩).stay ((Keep.refl noneOf _).drew)) rfl (fun _ h => h) (fun _ h => .inl h))
   have KR := (Keep.refl (fun b => b = sx) wc).drew
   have q0 : (0 : Int) ≤ (n : Int) := by omega
   have q2 : (n : Int) < (g.st.length : Int) := by omega
   clear hB hM hS hsv
   go_upto_region 8 with fail
   refine wp_region_held_drew (S := fun w' => Keep (fun b => b = sx) wc w') (by kernel_rfl) (KR) (fun hHeld => ?_)
   refine' ztk 0 _ rfl (.inl ⟨by kernel_rfl, ?hy0⟩) ?_
   case hy0 => intro w' hSw; obtain ⟨_, _, _, _⟩ := MC.out w' hSw; go_simp; try with_reducible rfl
   simp only [Act.put, zga, zgb, zgc, zgd, zge, zgf]
   refine' ztk 1 _ rfl (.inl ⟨by kernel_rfl, ?hy1⟩) ?_
   case hy1 => intro w' hSw; obtain ⟨_, _, _, _⟩ := MC.out w' hSw; go_simp; try with_reducible rfl
   simp only [Act.put, zga, zgb, zgc, zgd, zge, zgf]
   refine' ztk 2 _ rfl (.inl ⟨by kernel_rfl, ?hy2⟩) ?_
   case hy2 => intro w' hSw; obtain ⟨_, _, _, _⟩ := MC.out w' hSw; go_simp; try with_reducible rfl
   simp only [Act.put, zga, zgb, zgc, zgd, zge, zgf]
   refine' ztk 3 _ rfl (.inl ⟨by kernel_rfl, ?hy3⟩) ?_
   case hy3 => intro w' hSw; obtain ⟨_, _, _, _⟩ := MC.out w' hSw; go_simp; try with_reducible rfl
   simp only [Act.put, zga, zgb, zgc, zgd, zge, zgf]
   refine' ztk 4 _ rfl (.inl ⟨by kernel_rfl, ?hy4⟩) ?_
   case hy4 => intro w' hSw; obtain ⟨_, _, _, _⟩ := MC.out w' hSw; go_simp; try with_reducible rfl
   simp only [Act.put, zga, zgb, zgc, zgd, zge, zgf]
   refine' ztk 5 _ rfl (.inl ⟨by kernel_rfl, ?hy5⟩) ?_
   case hy5 => intro w' hSw; obtain ⟨_, _, _, _⟩ := MC.out w' hSw; go_simp; try with_reducible rfl
   simp only [Act.put, zga, zgb, zgc, zgd, zge, zgf]
   refine' ztk 6 _ rfl (.inl ⟨by kernel_rfl, ?hy6⟩) ?_
   case hy6 => intro w' hSw; obtain ⟨_, _, _, _⟩ := MC.out w' hSw; go_simp; try with_reducible rfl
   simp only [Act.put, zga, zgb, zgc, zgd, zge, zgf]
   refine wpAnyH_ready (rs := [7]) (by kernel_rfl) (by simp) (AllReadyH.cons rfl (fun K hK => ?_) AllReadyH.nil)
   go_simp
   refine hK.out _ _ (KP.drew) (fun hHeld => ?_)
   clear hK K
   try simp only [Act.put, zga, zgb, zgc, zgd, zge, zgf]
   refine wpAnyH_done (by kernel_rfl) ?_ _
   have FO := FIN.out
   unfold threePut at FO
   generalize (((wc.setCell ⟨sx, n * 3, none⟩ (.int .i64 sv)).setCell ⟨sx, n * 3 + 1, none⟩ (.int .u64 0)).setCell ⟨sx, n * 3 + 2, none⟩ (.int .u64 0)).drew = wd at *
   have HBD := Lib.hid FO
   clear FIN FO KP KR y0 y1 y2 z0 z1 z2 MC
   have hB := HBD.out
   have hg' : ({ q with bv := bv, built := BL, gs := q.gs.set i { g with st := g.st.set n ⟨sv, 0, 0⟩ } } : Qm).gs[i]? = some { g with st := g.st.set n ⟨sv, 0, 0⟩ } := by
    show (q.gs.set i _)[i]? = _
    rw [List.getElem?_set_self (List.getElem?_eq_some_iff.1 HG.out).1]
   have HG' := Lib.hid hg'
   have hgv2 : ({ q with bv := bv, built := BL, gs := q.gs.set i { g with st := g.st.set n ⟨sv, 0, 0⟩ } } : Qm).gv = .slice (some ⟨g0, 0, none⟩) ({ q with bv := bv, built := BL, gs := q.gs.set i { g with st := g.st.set n ⟨sv, 0, 0⟩ } } : Qm).gs.length cap := by
    show q.gv = .slice _ (q.gs.set i _).length _
    rw [List.length_set]
    exact HGV.out
   have HGV2 := Lib.hid hgv2
   obtain ⟨g9, cap9, e9, hgD, hglt, _, d0, d1, d2, _⟩ := hB.at_.rows hg'
   rw [hgv2] at e9
   obtain ⟨rfl, rfl⟩ : g0 = g9 ∧ cap = cap9 := by simpa using e9
   have hmem := List.mem_of_getElem? hg'
   obtain ⟨Ag, cg, hgs⟩ : ∃ Ag cg, g.gv = .slice Ag g.ts.length cg := by
    obtain ⟨Ag, cg, h1, _⟩ := (hB.at_.tg _ hmem).1
    exact ⟨Ag, cg, h1⟩
   have hTG : Tgs wd (fun j => E j ∧ ¬ Qm.O { q with bv := bv, built := BL, gs := q.gs.set i { g with st := g.st.set n ⟨sv, 0, 0⟩ } } j) g.gv g.ts := hB.at_.tg { g with st := g.st.set n ⟨sv, 0, 0⟩ } hmem
   have hST : Sts wd _ g.sv (g.st.set n ⟨sv, 0, 0⟩) := hB.at_.states (g := { g with st := g.st.set n ⟨sv, 0, 0⟩ }) hmem
   have d1' : wd.cell? ⟨g0, i * 3 + 1, none⟩ = some g.gv := d1
   have d2' : wd.cell? ⟨g0, i * 3 + 2, none⟩ = some g.sv := d2
   have d0' : wd.cell? ⟨g0, i * 3, none⟩ = some (.int .u64 g.id) := d0
   rw [hgs] at d1' hTG
   rw [HSVX.out] at d2'
   have hST' : Sts wd (fun b => Qm.O { q with bv := bv, built := BL, gs := q.gs.set i { g with st := g.st.set n ⟨sv, 0, 0⟩ } } b) (.slice (some ⟨sx, 0, none⟩) g.st.length cs) (g.st.set n ⟨sv, 0, 0⟩) := by rw [← HSVX.out]; exact hST
   have SE : Hid (∀ w', Keep noneOf wd w' → Calls Tryz.prog 108 #[.agg #[.slice Ag g.ts.length cg], .slice (some ⟨sx, 0, none⟩) g.st.length cs] w' (ToldSts (grSettle g.plain.ps (g.st.set n ⟨sv, 0, 0⟩)) w')) := Lib.hid fun w' k' =>
    settle_any w' _ _ _ _ g.ts (g.st.set n ⟨sv, 0, 0⟩) (hTG.keep k' (fun _ _ _ => id)) (hST'.keep k' (fun _ _ _ => id)) (by rw [List.length_set, reach_is]; omega)
   generalize hSL : grSettle g.plain.ps (g.st.set n ⟨sv, 0, 0⟩) = SL at *
   have MC : Hid (∀ w', (Keep (fun b => b = g0) wd w' ∧ w'.cell? ⟨g0, i * 3 + 1, none⟩ = some (.slice Ag g.ts.length cg)) → w'.cell? ⟨g0, i * 3 + 1, none⟩ = some (.slice Ag g.ts.length cg) ∧ True) := Lib.hid fun _ h => ⟨h.2, trivial⟩
   have MS : Hid (∀ w', Keep noneOf wd w' → (w'.cell? ⟨g0, i * 3 + 2, none⟩ = some (.slice (some ⟨sx, 0, none⟩) g.st.length cs)) ∧ w'.frozen? ⟨g0, i * 3 + 2, none⟩ = false) := Lib.hid fun w' k' => by
    obtain ⟨g9, cap9, e9, _, _, _, _, _, y2, z2⟩ := (HBD.out.stay k').at_.rows HG'.out
    rw [HGV2.out] at e9
    obtain ⟨rfl, rfl⟩ : g0 = g9 ∧ cap = cap9 := by simpa using e9
    exact ⟨by rw [← HSVX.out]; exact y2, z2⟩
   have FIN : Hid (∀ w1' w2' A1 c1, Keep noneOf wd w1' → Keep noneOf w1' w2' → (((.slice A1 SL.length c1 : Value) = .slice none 0 0 ∧ SL = []) ∨ ∃ gb, (.slice A1 SL.length c1 : Value) = .slice (some ⟨gb, 0, none⟩) SL.length SL.length ∧ w1'.heap.size ≤ gb ∧ SL.length ≤ maxLen ∧ Box w2' gb 61 (svs SL)) →
     ∃ (E' : Nat → Prop) (r' : Qm), Busy w (w2'.setCell ⟨g0, i * 3 + 2, none⟩ (.slice A1 SL.length c1)) D E' q r' a ∧ r'.gs[i]? = some { g with sv := .slice A1 SL.length c1, st := SL } ∧ r'.gv = .slice (some ⟨g0, 0, none⟩) r'.gs.length cap ∧ r'.plain = { withG q.plain i SL with built := BL } ∧ (w2'.setCell ⟨g0, i * 3 + 2, none⟩ (.slice A1 SL.length c1)).cell? ⟨g0, i * 3 + 1, none⟩ = some (.slice Ag g.ts.length cg)) := Lib.hid fun w1' w2' A1 c1 k1 k2 htold => by
    have k12 := k1.trans k2 (fun _ _ h => h)
    obtain ⟨hown, hblk⟩ := told_own htold
    have B := HBD.out
    have q2 := B.at_.stay k12
    have q3 := q2.setSts HG'.out HGV2.out hown (D' := grown wd w2' E) (fun j hj => .inl hj) (grown_lt B.at_.lt k12.size) (fun b e => by
     have h1 := hblk b e
     have h2 := own_lt hown e
     have h3 := k1.size
     exact ⟨.inr ⟨by omega, h2⟩, fun e => by have := B.at_.lt _ e; omega⟩)
    have ks := ((Keep.wide k12).trans ((Keep.refl (fun j => j = g0) w2').setCell (p := ⟨g0, i * 3 + 2, none⟩) (fun _ => rfl) (.slice A1 SL.length c1)) (fun _ _ e => e))
    have hgg : ((q.gs.set i { g with st := g.st.set n ⟨sv, 0, 0⟩ }).set i { g with sv := .slice A1 SL.length c1, st := SL })[i]? = some { g with sv := .slice A1 SL.length c1, st := SL } := by
     rw [List.set_set, List.getElem?_set_self (List.getElem?_eq_some_iff.1 HG.out).1]
    refine ⟨_, _, B.turn ks (fun j e => e ▸ hgD) q3 rfl (fun j hj => .inl hj) (fun j hj => hj.imp_right (fun e => e.1)), hgg, ?_, ?_, ?_⟩
    ·
     show q.gv = .slice _ ((q.gs.set i _).set i _).length _
     rw [List.length_set, List.length_set]
     exact HGV.out
    ·
     show Qp.mk q.now q.ng q.nt q.ses (((q.gs.set i _).set i _).map Gm.plain) BL = _
     rw [List.set_set]
     rw [show ({ ({ g with st := g.st.set n ⟨sv, 0, 0⟩ } : Gm) with sv := .slice A1 SL.length c1, st := SL } : Gm) = { g with sv := .slice A1 SL.length c1, st := SL } from rfl, gm_set HG.out]
     rfl
    ·
     obtain ⟨g9, cap9, e9, _, _, _, _, y1, _, _⟩ := q3.rows hgg
     have hgv9 : q.gv = .slice (some ⟨g9, 0, none⟩) ((q.gs.set i { g with st := g.st.set n ⟨sv, 0, 0⟩ }).set i { g with sv := .slice A1 SL.length c1, st := SL }).length cap9 := e9
     have e10 := HGV2.out
     rw [show ({ q with bv := bv, built := BL, gs := q.gs.set i { g with st := g.st.set n ⟨sv, 0, 0⟩ } } : Qm).gv = q.gv from rfl, hgv9] at e10
     obtain ⟨rfl, _⟩ : g9 = g0 ∧ cap9 = cap := by simpa using e10
     rw [← hgs]
     exact y1
   have KS : Keep (fun b => b = g0) wd wd.drew ∧ wd.drew.cell? ⟨g0, i * 3 + 1, none⟩ = some (.slice Ag g.ts.length cg) := ⟨(Keep.refl (fun b => b = g0) wd).drew, d1'⟩
   have K0 := Keep.refl noneOf wd
   clear hB hg' hgv2 e9 hgD d0 d1 d2 hmem hTG hST hST' d0' hglt
   go_upto_region 9 with fail
   refine wp_region_held_drew (S := fun w' => Keep (fun b => b = g0) wd w' ∧ w'.cell? ⟨g0, i * 3 + 1, none⟩ = some (.slice Ag g.ts.length cg)) (by kernel_rfl) (KS) (fun hHeld => ?_)
   refine' ztk 0 _ rfl (.inl ⟨by kernel_rfl, ?hy0⟩) ?_
   case hy0 => intro w' hSw; obtain ⟨_, _⟩ := MC.out w' hSw; go_simp; try with_reducible rfl
   simp only [Act.put, zga, zgb, zgc, zgd, zge, zgf]
   refine' ztk 1 _ rfl (.inl ⟨by kernel_rfl, ?hy1⟩) ?_
   case hy1 => intro w' hSw; obtain ⟨_, _⟩ := MC.out w' hSw; go_simp; try with_reducible rfl
   simp only [Act.put, zga, zgb, zgc, zgd, zge, zgf]
   refine' ztk 2 _ rfl (.inl ⟨by kernel_rfl, ?hy2⟩) ?_
   case hy2 => intro w' hSw; obtain ⟨_, _⟩ := MC.out w' hSw; go_simp; try with_reducible rfl
   simp only [Act.put, zga, zgb, zgc, zgd, zge, zgf]
   refine' ztk 3 _ rfl (.inl ⟨by kernel_rfl, ?hy3⟩) ?_
   case hy3 => intro w' hSw; obtain ⟨_, _⟩ := MC.out w' hSw; go_simp; try with_reducible rfl
   simp only [Act.put, zga, zgb, zgc, zgd, zge, zgf]
   refine' ztk 4 _ rfl (.inl ⟨by kernel_rfl, ?hy4⟩) ?_
   case hy4 => intro w' hSw; obtain ⟨_, _⟩ := MC.out w' hSw; go_simp; try with_reducible rfl
   simp only [Act.put, zga, zgb, zgc, zgd, zge, zgf]
   refine' ztk 5 _ rfl (.inl ⟨by kernel_rfl, ?hy5⟩) ?_
   case hy5 => intro w' hSw; obtain ⟨_, _⟩ := MC.out w' hSw; go_simp; try with_reducible rfl
   simp only [Act.put, zga, zgb, zgc, zgd, zge, zgf]
   refine' ztk 6 _ rfl (.inl ⟨by kernel_rfl, ?hy6⟩) ?_
   case hy6 => intro w' hSw; obtain ⟨_, _⟩ := MC.out w' hSw; go_simp; try with_reducible rfl
   simp only [Act.put, zga, zgb, zgc, zgd, zge, zgf]
   refine' ztk 7 _ rfl (.inl ⟨by kernel_rfl, ?hy7⟩) ?_
   case hy7 => intro w' hSw; obtain ⟨_, _⟩ := MC.out w' hSw; go_simp; try with_reducible rfl
   simp only [Act.put, zga, zgb, zgc, zgd, zge, zgf]
   refine wpAnyH_ready (rs := [8]) (by kernel_rfl) (by simp) (AllReadyH.cons rfl (fun K hK => ?_) AllReadyH.nil)
   go_simp
   refine hK.out _ _ hHeld (fun hHeld => ?_)
   clear hK K
   try simp only [Act.put, zga, zgb, zgc, zgd, zge, zgf]
   refine wpAnyH_ready (rs := [9]) (by kernel_rfl) (by simp) (AllReadyH.cons rfl (fun K hK => ?_) AllReadyH.nil)
   go_simp
   go_at_call 108
   refine (SE.out _ K0.drew).mono ?_
   rintro e w5 ⟨v5, rfl, k5, htold⟩
   obtain ⟨A1, c1, rfl⟩ := (told_sts htold).shape
   obtain ⟨x2, z2⟩ := MS.out _ (K0.drew.trans k5 (fun _ _ h => h))
   obtain ⟨E', r', hB', hg', hgv', hpl', x1'⟩ := FIN.out _ _ _ _ K0.drew k5 htold
   have hKS5 : Keep (fun b => b = g0) wd w5 := KS.1.andNone k5
   have hc5 : w5.cell? ⟨g0, i * 3 + 1, none⟩ = some (.slice Ag g.ts.length cg) := (k5.cell (p := ⟨g0, i * 3 + 1, none⟩) (block_of_cell (w := wd) d1') id).trans d1'
   go_wp2_with fail
   refine hK.out _ _ (⟨hKS5, hc5⟩) (fun hHeld => ?_)
   clear hK K
   try simp only [Act.put, zga, zgb, zgc, zgd, zge, zgf]
   refine' ztk 10 _ rfl (.inl ⟨by kernel_rfl, ?hy10⟩) ?_
   case hy10 => intro w' hSw; obtain ⟨_, _⟩ := MC.out w' hSw; go_simp; try with_reducible rfl
   simp only [Act.put, zga, zgb, zgc, zgd, zge, zgf]
   refine' ztk 11 _ rfl (.inl ⟨by kernel_rfl, ?hy11⟩) ?_
   case hy11 => intro w' hSw; obtain ⟨_, _⟩ := MC.out w' hSw; go_simp; try with_reducible rfl
   simp only [Act.put, zga, zgb, zgc, zgd, zge, zgf]
   refine wpAnyH_ready (rs := [12]) (by kernel_rfl) (by simp) (AllReadyH.cons rfl (fun K hK => ?_) AllReadyH.nil)
   go_simp
   refine hK.out _ _ (⟨(hKS5.setCell (p := ⟨g0, i * 3 + 2, none⟩) (fun _ => rfl) _), x1'⟩) (fun hHeld => ?_)
   clear hK K
   try simp only [Act.put, zga, zgb, zgc, zgd, zge, zgf]
   refine wpAnyH_done (by kernel_rfl) ?_ _
   have HBE := Lib.hid hB'
   have HPL := Lib.hid hpl'
   clear FIN MS MC SE KS K0 k5 htold x2 z2 hpl' hKS5 hc5 d1' d2'
   generalize w5.setCell ⟨g0, i * 3 + 2, none⟩ (.slice A1 SL.length c1) = we at *
   have htn : n < g.ts.length := by have := HF4.out; omega
   obtain ⟨g9, cap9, e9, hgD, hglt, _, x0, _, _, _⟩ := hB'.at_.rows hg'
   rw [hgv'] at e9
   obtain ⟨rfl, rfl⟩ : g0 = g9 ∧ cap = cap9 := by simpa using e9
   have x0' : we.cell? ⟨g0, i * 3, none⟩ = some (.int .u64 g.id) := x0
   obtain ⟨t, tb, o, tc, ht, htv, htD, _, t0, _, _⟩ := hB'.at_.target (List.mem_of_getElem? hg') (n := n) htn
   have htv' : g.gv = .slice (some ⟨tb, o, none⟩) g.ts.length tc := htv
   rw [hgs] at htv'
   obtain ⟨rfl, rfl⟩ : Ag = some ⟨tb, o, none⟩ ∧ cg = tc := by simpa using htv'
   have HNM := Lib.hid (name_at (show g.ts[n]? = some t from ht))
   have hna := hB'.na.2
   have htb := block_of_cell t0
   have MC : Hid (∀ w', Keep (fun b => b = a) we w' → w'.cell? ⟨g0, i * 3, none⟩ = some (.int .u64 g.id) ∧ w'.cell? ⟨g0, i * 3 + 1, none⟩ = some (.slice (some ⟨tb, o, none⟩) g.ts.length cg) ∧ w'.cell? ⟨tb, o + n * 3, none⟩ = some (.string t.name)) := Lib.hid fun w' k' =>
    ⟨(k'.cell (p := ⟨g0, i * 3, none⟩) hglt (fun e => hna (e ▸ hgD))).trans x0', (k'.cell (p := ⟨g0, i * 3 + 1, none⟩) hglt (fun e => hna (e ▸ hgD))).trans x1', (k'.cell (p := ⟨tb, o + n * 3, none⟩) htb (fun e => hna (e ▸ htD))).trans t0⟩
   have KR2 := (Keep.refl (fun b => b = a) we).drew
   obtain ⟨c0, c1', c2, c3, c4, c5⟩ := hB'.an.six
   obtain ⟨f0, f1, f2, f3, f4, f5⟩ := hB'.an.free6
   have q3 : (n : Int) < (g.ts.length : Int) := by omega
   have KF := ((Keep.refl (fun b => b = a) we).put6 (b := a) (fun _ => rfl) (.int .i64 0) (.int .u64 g.id) (.int .u64 0) (.int .u64 0) (.string t.name) (.string ⟨#[]⟩)).drew
   clear hB' hg' hgv' e9 ht htv htv' x0 x0' x1' t0 hna htb hglt hgD htD htn hgs
   go_upto_region 10 with fail
   refine wp_region_held_drew (S := fun w' => Keep (fun b => b = a) we w') (by kernel_rfl) (KR2) (fun hHeld => ?_)
   refine' ztk 0 _ rfl (.inl ⟨by kernel_rfl, ?hy0⟩) ?_
   case hy0 => intro w' hSw; obtain ⟨_, _, _⟩ := MC.out w' hSw; go_simp; try with_reducible rfl
   simp only [Act.put, zga, zgb, zgc, zgd, zge, zgf]
   refine' ztk 1 _ rfl (.inl ⟨by kernel_rfl, ?hy1⟩) ?_
   case hy1 => intro w' hSw; obtain ⟨_, _, _⟩ := MC.out w' hSw; go_simp; try with_reducible rfl
   simp only [Act.put, zga, zgb, zgc, zgd, zge, zgf]
   refine' ztk 2 _ rfl (.inl ⟨by kernel_rfl, ?hy2⟩) ?_
   case hy2 => intro w' hSw; obtain ⟨_, _, _⟩ := MC.out w' hSw; go_simp; try with_reducible rfl
   simp only [Act.put, zga, zgb, zgc, zgd, zge, zgf]
   refine' ztk 3 _ rfl (.inl ⟨by kernel_rfl, ?hy3⟩) ?_
   case hy3 => intro w' hSw; obtain ⟨_, _, _⟩ := MC.out w' hSw; go_simp; try with_reducible rfl
   simp only [Act.put, zga, zgb, zgc, zgd, zge, zgf]
   refine' ztk 4 _ rfl (.inl ⟨by kernel_rfl, ?hy4⟩) ?_
   case hy4 => intro w' hSw; obtain ⟨_, _, _⟩ := MC.out w' hSw; go_simp; try with_reducible rfl
   simp only [Act.put, zga, zgb, zgc, zgd, zge, zgf]
   refine' ztk 5 _ rfl (.inl ⟨by kernel_rfl, ?hy5⟩) ?_
   case hy5 => intro w' hSw; obtain ⟨_, _, _⟩ := MC.out w' hSw; go_simp; try with_reducible rfl
   simp only [Act.put, zga, zgb, zgc, zgd, zge, zgf]
   refine' ztk 6 _ rfl (.inl ⟨by kernel_rfl, ?hy6⟩) ?_
   case hy6 => intro w' hSw; obtain ⟨_, _, _⟩ := MC.out w' hSw; go_simp; try with_reducible rfl
   simp only [Act.put, zga, zgb, zgc, zgd, zge, zgf]
   refine' ztk 7 _ rfl (.inl ⟨by kernel_rfl, ?hy7⟩) ?_
   case hy7 => intro w' hSw; obtain ⟨_, _, _⟩ := MC.out w' hSw; go_simp; try with_reducible rfl
   simp only [Act.put, zga, zgb, zgc, zgd, zge, zgf]
   refine' ztk 8 _ rfl (.inl ⟨by kernel_rfl, ?hy8⟩) ?_
   case hy8 => intro w' hSw; obtain ⟨_, _, _⟩ := MC.out w' hSw; go_simp; try with_reducible rfl
   simp only [Act.put, zga, zgb, zgc, zgd, zge, zgf]
   refine' ztk 9 _ rfl (.inl ⟨by kernel_rfl, ?hy9⟩) ?_
   case hy9 => intro w' hSw; obtain ⟨_, _, _⟩ := MC.out w' hSw; go_simp; try with_reducible rfl
   simp only [Act.put, zga, zgb, zgc, zgd, zge, zgf]
   refine' ztk 10 _ rfl (.inl ⟨by kernel_rfl, ?hy10⟩) ?_
   case hy10 => intro w' hSw; obtain ⟨_, _, _⟩ := MC.out w' hSw; go_simp; try with_reducible rfl
   simp only [Act.put, zga, zgb, zgc, zgd, zge, zgf]
   refine' ztk 11 _ rfl (.inl ⟨by kernel_rfl, ?hy11⟩) ?_
   case hy11 => intro w' hSw; obtain ⟨_, _, _⟩ := MC.out w' hSw; go_simp; try with_reducible rfl
   simp only [Act.put, zga, zgb, zgc, zgd, zge, zgf]
   refine' ztk 12 _ rfl (.inl ⟨by kernel_rfl, ?hy12⟩) ?_
   case hy12 => intro w' hSw; obtain ⟨_, _, _⟩ := MC.out w' hSw; go_simp; try with_reducible rfl
   simp only [Act.put, zga, zgb, zgc, zgd, zge, zgf]
   refine' ztk 13 _ rfl (.inl ⟨by kernel_rfl, ?hy13⟩) ?_
   case hy13 => intro w' hSw; obtain ⟨_, _, _⟩ := MC.out w' hSw; go_simp; try with_reducible rfl
   simp only [Act.put, zga, zgb, zgc, zgd, zge, zgf]
   refine wpAnyH_ready (rs := [14]) (by kernel_rfl) (by simp) (AllReadyH.cons rfl (fun K hK => ?_) AllReadyH.nil)
   go_simp
   refine hK.out _ _ (KF) (fun hHeld => ?_)
   clear hK K
   try simp only [Act.put, zga, zgb, zgc, zgd, zge, zgf]
   refine wpAnyH_done (by kernel_rfl) ?_ _
   clear KF KR2 MC c0 c1' c2 c3 c4 c5 f0 f1 f2 f3 f4 f5
   have hbx := (HBE.out.box ⟨0, g.id, 0, 0, t.name, ⟨#[]⟩⟩).drew
   have hd := (HBE.out.does ⟨0, g.id, 0, 0, t.name, ⟨#[]⟩⟩).drew
   dsimp only [sixPut] at hbx hd
   generalize ((((((we.setCell ⟨a, 0, none⟩ (.int .i64 (0))).setCell ⟨a, 1, none⟩ (.int .u64 (g.id))).setCell ⟨a, 2, none⟩ (.int .u64 (0))).setCell ⟨a, 3, none⟩ (.int .u64 (0))).setCell ⟨a, 4, none⟩ (.string t.name)).setCell ⟨a, 5, none⟩ (.string ⟨#[]⟩)).drew = wf at hbx hd ⊢
   obtain ⟨r0, r1, r2, r3, r4, r5⟩ := hbx.six
   rw [HPL.out] at hd
   go_wp2
   rw [HRQ.out, HNM.out]
   exact bodyPost_ret (v := An.agg ⟨0, g.id, 0, 0, t.name, ⟨#[]⟩⟩) (by simp [results, Tryz.results61, go_sem, An.agg, r0, r1, r2, r3, r4, r5]) rfl hd
end Go.Proofs.YtffoeodjbbkdjaaGreat
