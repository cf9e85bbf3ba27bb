import Derived.Test.YtkoikmdmejhhhaaGreatBs40
namespace Go.Proofs.YtkoikmdmejhhhaaGreat
open Go.RowKit
theorem Does.busy {w v : World} {D E : Nat → Prop} {q r : Qm} {a : Nat} {x : Qp × An} {e : Ending} {u : World} (h : Busy w v D E q r a) (hd : Does r E x v e u) : ∃ s, e = .returned x.2.agg ∧ Busy w u D (grown v u E) q s a ∧ s.plain = x.1 := by
  obtain ⟨s, he, ha, hp, hr, hk⟩ := hd
  exact ⟨s, he, h.turn hk (fun _ h => h) ha hp (fun i hi => .inl hi) (fun i hi => hi.imp_right (fun e => e.1)), hr⟩
set_option maxRecDepth 100000 in
set_option maxHeartbeats 4000000 in
set_option linter.unusedSimpArgs false in
theorem qclaim_any (w : World) (D : Nat → Prop) (q : Qm) (h : QAt w D q) (hi : Inv q.plain) (c : Cm) :
    Calls Tryz.prog 72 #[.pointer (some ⟨q.p, 0, none⟩), c.agg] w (Does q D (claimP q.plain) w) := by
  have HB := Lib.hid (busy_begin h c)
  have HI := Lib.hid hi
  unfold Cm.agg
  generalize hR : claimP q.plain = R
  have HR := Lib.hid hR
  clear h hi hR
  go_enter Tryz.func72, Tryz.ntmps72
  go_upto_region 1 with fail
  generalize (w.alloc (.cells #[.int .i64 c.kind, .int .u64 c.ses, .int .u64 c.seq, c.gv, .int .u64 c.id, .int .u64 c.tok, .bool c.good, .int .u64 c.time] 37)).alloc (.cells #[.int .i64 0, .int .u64 0, .int .u64 0, .int .u64 0, .string ⟨#[]⟩, .string ⟨#[]⟩] 40) = w1 at *
  generalize w.heap.size + 1 = a at *
  have B := HB.out.1
  obtain ⟨A, cap, hgv⟩ := B.at_.shape
  have HGV := Lib.hid hgv
  have hn := B.at_.few
  unfold maxLen at hn
  have p4 : w1.cell? ⟨q.p, 4, none⟩ = some (.slice A q.gs.length cap) := by rw [← hgv]; exact B.at_.box.cell 4
  clear B hgv
  go_wp2
  clear p4
  go_loopw [13] (fun i wr => ∃ k : Nat, k ≤ q.gs.length ∧ i = .int .i64 k ∧ Keep noneOf w1 wr ∧ ∀ j g, j < k → q.gs[j]? = some g → nextIx g.plain.st = none) (fun i _ => q.gs.length - (intOf i).toNat)
  case atStart => exact ⟨0, Nat.zero_le _, rfl, Keep.refl _ _, fun j _ hj => absurd hj (by omega)⟩
  case round =>
    obtain ⟨k, hk, rfl, hkeep, hall⟩ := hrel
    have HA := Lib.hid hall
    have HBR := Lib.hid (HB.out.1.stay hkeep)
    have HKP := Lib.hid hkeep
    clear hall
    have hQ := HBR.out.at_
    by_cases hlt : k < q.gs.length
    · have hx : q.gs[k]? = some q.gs[k] := List.getElem?_eq_getElem hlt
      generalize q.gs[k] = g at *
      obtain ⟨g0, cap', hgv', hg0D, hg0lt, hg0p, d0, d1, d2, fr2⟩ := hQ.rows hx
      have hgv := HGV.out
      rw [hgv] at hgv'
      obtain ⟨rfl, rfl⟩ : A = some ⟨g0, 0, none⟩ ∧ cap = cap' := by simpa using hgv'
      have p4 : wr.cell? ⟨q.p, 4, none⟩ = some (.slice (some ⟨g0, 0, none⟩) q.gs.length cap) := by rw [← hgv]; exact hQ.box.cell 4
      have HS := Lib.hid (hQ.states (List.mem_of_getElem? hx))
      obtain ⟨As, cs, hsv⟩ := HS.out.shape
      have HSV := Lib.hid hsv
      have NX := Lib.hid (rnext_any wr _ _ g.st HS.out)
      rw [hsv] at d2 NX
      have HX := Lib.hid hx
      have q0 : (0 : Int) ≤ (k : Int) := by omega
      have q1 : (k : Int) < (q.gs.length : Int) := by omega
      clear hQ hgv' hgv hsv hx d0 d1 fr2 hkeep hg0lt hg0D hg0p
      go_wp2_with fail
      refine NX.out.mono ?_
      rintro e w2 ⟨rfl, k2⟩
      have HB2 := Lib.hid (HBR.out.stay k2)
      have HK2 := Lib.hid (HKP.out.trans k2 (fun _ _ h => h))
      clear NX k2 d2 p4 HBR HKP
      cases hnx : nextIx g.st with
      | none =>
        have HNX := Lib.hid hnx
        clear hnx
        simp only [Option.getD, Option.isSome]
        go_wp2
        go_roundw
        case rel =>
          refine ⟨k + 1, by omega, by go_num, HK2.out, fun j t hj e => ?_⟩
          rcases Nat.lt_or_ge j k with h | h
          · exact HA.out j t h e
          · have : j = k := by omega
            subst this
            rw [HX.out] at e
            injection e with e
            rw [← e]
            exact HNX.out
        case measure => simp only [intOf]; omega
      | some n =>
        obtain ⟨x, hx, _⟩ := findIdx_at hnx
        have HRQ : Hid (R = leasedP q.plain k n g.plain) := Lib.hid (by
          rw [← HR.out]
          unfold claimP
          have hra : readyAt q.plain = some (k, n) := by
            have := firstG_some (f := fun g => nextIx g.st) (i := 0) (gm_at HX.out) hnx (fun j b hj hb => by
              obtain ⟨gj, hgj, rfl⟩ := gm_of hb
              exact HA.out j gj hj hgj)
            rw [Nat.zero_add] at this
            exact this
          rw [hra]
          dsimp only
          rw [getD_some (show q.plain.gs[k]? = some g.plain from gm_at HX.out)]
          rfl)
        have B := HB2.out
        have p4 : w2.cell? ⟨q.p, 4, none⟩ = some (.slice (some ⟨g0, 0, none⟩) q.gs.length cap) := by rw [← HGV.out]; exact B.at_.box.cell 4
        have LS := Lib.hid (qlease_any w2 D q B.at_ HI.out HX.out hx HGV.out)
        clear hnx hx B HR
        generalize hrr : leasedP q.plain k n g.plain = rr at *
        obtain ⟨rq, ⟨x1, x2, x3, x4, x5, x6⟩⟩ := rr
        clear hrr
        simp only [Option.getD, Option.isSome]
        go_wp2_with fail
        refine LS.out.mono ?_
        rintro e w3 hd
        obtain ⟨s, rfl, hb3, hpl⟩ := Does.busy HB2.out hd
        have HB3 := Lib.hid hb3
        have HPL := Lib.hid hpl
        clear LS hd hb3 hpl p4
        unfold An.agg
        obtain ⟨c0, c1, c2, c3, c4, c5⟩ := HB3.out.an.six
        obtain ⟨f0, f1, f2, f3, f4, f5⟩ := HB3.out.an.free6
        dsimp only
        go_wp2
        have hbx := (HB3.out.box ⟨x1, x2, x3, x4, x5, x6⟩)
        have hd := (HB3.out.does ⟨x1, x2, x3, x4, x5, x6⟩)
        dsimp only [sixPut] at hbx hd
        generalize ((((((w3.setCell ⟨a, 0, none⟩ (.int .i64 (x1))).setCell ⟨a, 1, none⟩ (.int .u64 (x2))).setCell ⟨a, 2, none⟩ (.int .u64 (x3))).setCell ⟨a, 3, none⟩ (.int .u64 (x4))).setCell ⟨a, 4, none⟩ (.string x5)).setCell ⟨a, 5, none⟩ (.string x6)) = wf at hbx hd ⊢
        obtain ⟨r0, r1, r2, r3, r4, r5⟩ := hbx.six
        rw [HPL.out] at hd
        rw [HRQ.out]
        exact bodyPost_ret (v := An.agg ⟨x1, x2, x3, x4, x5, x6⟩) (by simp [results, Tryz.results72, go_sem, An.agg, r0, r1, r2, r3, r4, r5]) rfl hd
    · have hkn : ¬ ((k : Int) < (q.gs.length : Int)) := by omega
      have hr : R = (q.plain, An.err 122) := by
        rw [← HR.out]
        unfold claimP
        have hra : readyAt q.plain = none := firstG_none (fun j b hb => by
          obtain ⟨gj, hgj, rfl⟩ := gm_of hb
          exact HA.out j gj (by have := (List.getElem?_eq_some_iff.1 hgj).1; omega) hgj)
        rw [hra]
      subst hr
      clear hkeep hQ HR
      have RF := Lib.hid (refusal_lit wr 122)
      go_wp2_with fail
      refine RF.out.mono ?_
      rintro e w8 ⟨rfl, k8⟩
      have HB8 := Lib.hid (HBR.out.stay k8)
      obtain ⟨c0, c1, c2, c3, c4, c5⟩ := HB8.out.an.six
      obtain ⟨f0, f1, f2, f3, f4, f5⟩ := HB8.out.an.free6
      clear RF k8
      go_wp2
      have hbx := (HB8.out.box ⟨122, 0, 0, 0, ⟨#[]⟩, ⟨#[]⟩⟩)
      have hd := (HB8.out.does ⟨122, 0, 0, 0, ⟨#[]⟩, ⟨#[]⟩⟩)
      dsimp only [sixPut] at hbx hd
      generalize ((((((w8.setCell ⟨a, 0, none⟩ (.int .i64 (122))).setCell ⟨a, 1, none⟩ (.int .u64 (0))).setCell ⟨a, 2, none⟩ (.int .u64 (0))).setCell ⟨a, 3, none⟩ (.int .u64 (0))).setCell ⟨a, 4, none⟩ (.string ⟨#[]⟩)).setCell ⟨a, 5, none⟩ (.string ⟨#[]⟩)) = wf at hbx hd ⊢
      obtain ⟨r0, r1, r2, r3, r4, r5⟩ := hbx.six
      exact bodyPost_ret (v := An.agg ⟨122, 0, 0, 0, ⟨#[]⟩, ⟨#[]⟩⟩) (by simp [results, Tryz.results72, go_sem, An.agg, r0, r1, r2, r3, r4, r5]) rfl hd
end Go.Proofs.YtkoikmdmejhhhaaGreat
