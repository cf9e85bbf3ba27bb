import Derived.Test.YtkoikmdmejhhhaaGreatBs29
import Derived.Test.YtkoikmdmejhhhaaGreatBs44
namespace Go.Proofs.YtkoikmdmejhhhaaGreat
open Go.RowKit
set_option maxRecDepth 100000 in
set_option maxHeartbeats 4000000 in
theorem norule_lit (w : World) (k : Int) (h : k < 1 ∨ 7 < k) : Calls Tryz.prog 37 #[.int .i64 k] w fun e w' => e = .returned (.tuple #[.agg #[.nilFunc, .bool false], .bool false]) ∧ Keep noneOf w w' := by
  by_cases h0 : k ≤ 0
  · clear h
    go_enter Tryz.func37, Tryz.ntmps37
    go_wp2
    refine bodyPost_ret (v := .tuple #[.agg #[.nilFunc, .bool false], .bool false]) (by simp [results, Tryz.results37, go_sem]) rfl ⟨rfl, ?_⟩
    exact ((Keep.refl noneOf w).alloc _).alloc _
  · have h8 : 8 ≤ k := by omega
    clear h
    go_enter Tryz.func37, Tryz.ntmps37
    go_wp2
    refine bodyPost_ret (v := .tuple #[.agg #[.nilFunc, .bool false], .bool false]) (by simp [results, Tryz.results37, go_sem]) rfl ⟨rfl, ?_⟩
    exact ((Keep.refl noneOf w).alloc _).alloc _
theorem cc_open : CanCall 70 := enters_of Tryz.func70 (by kernel_rfl) rfl
theorem cc_submit : CanCall 71 := enters_of Tryz.func71 (by kernel_rfl) rfl
theorem cc_claim : CanCall 72 := enters_of Tryz.func72 (by kernel_rfl) rfl
theorem cc_renew : CanCall 73 := enters_of Tryz.func73 (by kernel_rfl) rfl
theorem cc_report : CanCall 74 := enters_of Tryz.func74 (by kernel_rfl) rfl
theorem cc_cancel : CanCall 75 := enters_of Tryz.func75 (by kernel_rfl) rfl
theorem cc_advance : CanCall 76 := enters_of Tryz.func76 (by kernel_rfl) rfl
theorem eff_once {w : World} {D C : Nat → Prop} {q : Qm} (h : QAt w D q) (hi : Inv q.plain) {c : Cm} (hc : c.lies w C) (h2 : 2 ≤ c.kind) (h6 : c.kind ≤ 6) :
    CanCall (effF c.kind) ∧ ∀ W, Keep noneOf w W → Calls Tryz.prog (effF c.kind) #[.pointer (some ⟨q.p, 0, none⟩), c.agg] W (Does q D (doneP q.plain c.plain) W) := by
  have hk : c.kind = 2 ∨ c.kind = 3 ∨ c.kind = 4 ∨ c.kind = 5 ∨ c.kind = 6 := by omega
  have hd : ∀ k : Int, c.kind = k → doneP q.plain c.plain = if k = 2 then submitP q.plain c.plain else if k = 3 then claimP q.plain else if k = 4 then renewP q.plain c.plain else if k = 5 then reportP q.plain c.plain else cancelP q.plain c.plain := fun k e => by subst e; rfl
  rcases hk with hk | hk | hk | hk | hk
  · rw [hd 2 hk, hk, if_pos rfl]
    exact ⟨cc_submit, fun W k => qsubmit_any W D C q (h.stay k) hi c (hc.keep k (fun _ _ _ => id))⟩
  · rw [hd 3 hk, hk, if_neg (by decide), if_pos rfl]
    exact ⟨cc_claim, fun W k => qclaim_any W D q (h.stay k) hi c⟩
  · rw [hd 4 hk, hk, if_neg (by decide), if_neg (by decide), if_pos rfl]
    exact ⟨cc_renew, fun W k => qrenew_any W D q (h.stay k) hi c hc.tok.1⟩
  · rw [hd 5 hk, hk, if_neg (by decide), if_neg (by decide), if_neg (by decide), if_pos rfl]
    exact ⟨cc_report, fun W k => qreport_any W D q (h.stay k) hi c hc.tok.1⟩
  · rw [hd 6 hk, hk, if_neg (by decide), if_neg (by decide), if_neg (by decide), if_neg (by decide)]
    exact ⟨cc_cancel, fun W k => qcancel_any W D q (h.stay k) hi c⟩
set_option maxRecDepth 100000 in
set_option maxHeartbeats 8000000 in
set_option linter.unusedSimpArgs false in
theorem apply_any (w : World) (D C : Nat → Prop) (q : Qm) (h : QAt w D q) (hi : Inv q.plain) (c : Cm) (hc : c.lies w C) :
    Calls Tryz.prog 17 #[.pointer (some ⟨q.p, 0, none⟩), c.agg] w (Does q D (applyP q.plain c.plain) w) := by
  have HB := Lib.hid (busy_begin h c)
  have hkb : Keep noneOf w ((w.alloc (.cells #[.int .i64 c.kind, .int .u64 c.ses, .int .u64 c.seq, c.gv, .int .u64 c.id, .int .u64 c.tok, .bool c.good, .int .u64 c.time] 37)).alloc (.cells #[.int .i64 0, .int .u64 0, .int .u64 0, .int .u64 0, .string ⟨#[]⟩, .string ⟨#[]⟩] 40)) := ((Keep.refl noneOf w).alloc _).alloc _
  have HKB := Lib.hid hkb
  have HQ := Lib.hid h
  have HI := Lib.hid hi
  have HC := Lib.hid hc
  generalize hR : applyP q.plain c.plain = R
  have HR := Lib.hid hR
  have hag : c.agg = .agg #[.int .i64 c.kind, .int .u64 c.ses, .int .u64 c.seq, c.gv, .int .u64 c.id, .int .u64 c.tok, .bool c.good, .int .u64 c.time] := rfl
  have HAG := Lib.hid hag
  rw [hag]
  clear h hi hc hkb hR hag
  go_enter Tryz.func17, Tryz.ntmps17
  go_upto_region 1 with fail
  generalize (w.alloc (.cells #[.int .i64 c.kind, .int .u64 c.ses, .int .u64 c.seq, c.gv, .int .u64 c.id, .int .u64 c.tok, .bool c.good, .int .u64 c.time] 37)).alloc (.cells #[.int .i64 0, .int .u64 0, .int .u64 0, .int .u64 0, .string ⟨#[]⟩, .string ⟨#[]⟩] 40) = w1 at *
  generalize w.heap.size + 1 = a at *
  generalize hcb : w.heap.size = cb at *
  clear hcb
  have m0 : w1.cell? ⟨cb, 0, none⟩ = some (.int .i64 c.kind) := HB.out.2.cm.cell 0
  by_cases hk : c.kind < 1 ∨ 7 < c.kind
  · have NR := Lib.hid (norule_lit w1 c.kind hk)
    have hr : R = (q.plain, An.err 1) := by
      rw [← HR.out]
      unfold applyP
      rw [show c.plain.kind = c.kind from rfl, if_neg (by omega), if_neg (by omega), if_pos (by omega)]
    subst hr
    clear HR hk
    go_wp2_with fail
    refine NR.out.mono ?_
    rintro e w2 ⟨rfl, k2⟩
    have KA := (Keep.refl noneOf w2).alloc (.cells #[.nilFunc, .bool false] 89)
    have HBA := Lib.hid ((HB.out.1.stay k2).stay KA)
    clear NR k2 m0 HB KA
    go_upto_region 3 with fail
    generalize w2.alloc (.cells #[.nilFunc, .bool false] 89) = w3 at *
    have RF := Lib.hid (refusal_lit w3 1)
    go_wp2_with fail
    refine RF.out.mono ?_
    rintro e w8 ⟨rfl, k8⟩
    have HB8 := Lib.hid (HBA.out.stay k8)
    obtain ⟨c0, c1, c2, c3, c4, c5⟩ := HB8.out.an.six
    obtain ⟨f0, f1, f2, f3, f4, f5⟩ := HB8.out.an.free6
    clear RF k8
    go_wp2
    have hbx := (HB8.out.box ⟨1, 0, 0, 0, ⟨#[]⟩, ⟨#[]⟩⟩)
    have hd := (HB8.out.does ⟨1, 0, 0, 0, ⟨#[]⟩, ⟨#[]⟩⟩)
    dsimp only [sixPut] at hbx hd
    generalize ((((((w8.setCell ⟨a, 0, none⟩ (.int .i64 (1))).setCell ⟨a, 1, none⟩ (.int .u64 (0))).setCell ⟨a, 2, none⟩ (.int .u64 (0))).setCell ⟨a, 3, none⟩ (.int .u64 (0))).setCell ⟨a, 4, none⟩ (.string ⟨#[]⟩)).setCell ⟨a, 5, none⟩ (.string ⟨#[]⟩)) = wf at hbx hd ⊢
    obtain ⟨r0, r1, r2, r3, r4, r5⟩ := hbx.six
    exact bodyPost_ret (v := An.agg ⟨1, 0, 0, 0, ⟨#[]⟩, ⟨#[]⟩⟩) (by simp [results, Tryz.results17, go_sem, An.agg, r0, r1, r2, r3, r4, r5]) rfl hd
  · have RU := Lib.hid (rule_any w1 c.kind (by omega) (by omega))
    have HEF : Hid (CanCall (effF c.kind) ∧ (if (2 ≤ c.kind ∧ c.kind ≤ 6) then ∀ W, Keep noneOf w W → Calls Tryz.prog 39 #[.pointer (some ⟨q.p, 0, none⟩), c.agg, .func (.func (effF c.kind)) #[] #[]] W (Does q D R W) else ∀ W, Keep noneOf w W → Calls Tryz.prog (effF c.kind) #[.pointer (some ⟨q.p, 0, none⟩), c.agg] W (Does q D R W))) := Lib.hid (by
      by_cases hon : 2 ≤ c.kind ∧ c.kind ≤ 6
      · rw [if_pos hon]
        obtain ⟨h1, h2⟩ := eff_once HQ.out HI.out HC.out hon.1 hon.2
        refine ⟨h1, fun W k => ?_⟩
        have h3 := qonce_any W D q (HQ.out.stay k) HI.out c HC.out.ok _ h1 (fun W' k' => h2 W' (k.trans k' (fun _ _ h => h)))
        have e : onceP q.plain c.plain = R := by
          rw [← HR.out]
          unfold applyP onceP
          rw [show c.plain.kind = c.kind from rfl, if_neg (by omega : ¬ c.kind = 7), if_neg (by omega : ¬ c.kind = 1), if_neg (by omega : ¬ (c.kind < 2 ∨ 6 < c.kind))]
        rw [e] at h3
        exact h3
      · rw [if_neg hon]
        have hk2 : c.kind = 1 ∨ c.kind = 7 := by omega
        rcases hk2 with hk2 | hk2
        · rw [hk2]
          refine ⟨cc_open, fun W k => ?_⟩
          have h3 := qopen_any W D q (HQ.out.stay k) c HC.out.ses
          have e : ({ q.plain with ses := openL q.ses c.ses }, An.err (openE q.ses c.ses)) = R := by
            rw [← HR.out]
            unfold applyP
            rw [show c.plain.kind = c.kind from rfl, hk2, if_neg (by decide), if_pos rfl]
            rfl
          rw [e] at h3
          exact h3
        · rw [hk2]
          refine ⟨cc_advance, fun W k => ?_⟩
          have h3 := qadv_any W D q (HQ.out.stay k) HI.out c
          have e : (if c.time ≤ q.now then (q.plain, An.zero) else ({ q.plain with now := c.time, gs := q.plain.gs.map (expG c.time) }, An.zero)) = R := by
            rw [← HR.out]
            unfold applyP
            rw [show c.plain.kind = c.kind from rfl, hk2, if_pos rfl]
            rfl
          rw [e] at h3
          exact h3)
    rw [HAG.out] at HEF
    clear HR hk HQ HI
    unfold RuleIs at RU
    generalize hg : effF c.kind = g at *
    obtain ⟨rq, ⟨x0, x1, x2, x3, x4, x5⟩⟩ := R
    by_cases hon : 2 ≤ c.kind ∧ c.kind ≤ 6
    · have hb : decide (2 ≤ c.kind ∧ c.kind ≤ 6) = true := decide_eq_true hon
      rw [hb] at RU
      have hef := HEF.out.2
      rw [if_pos hon] at hef
      have HE := Lib.hid hef
      clear hb hef hon HEF hg
      go_wp2_with fail
      refine RU.out.mono ?_
      rintro e w2 ⟨rfl, k2⟩
      have KA := (Keep.refl noneOf w2).alloc (.cells #[.func (.func g) #[] #[], .bool true] 89)
      have HBA := Lib.hid ((HB.out.1.stay k2).stay KA)
      have HMA := Lib.hid ((HB.out.2.stay k2).stay KA)
      have HXA := Lib.hid (Box.new w2 89 #[.func (.func g) #[] #[], .bool true])
      have HKA := Lib.hid ((HKB.out.trans k2 (fun _ _ h => h)).trans KA (fun _ _ h => h))
      clear RU k2 m0 HB HKB KA
      go_upto_region 5 with fail
      generalize w2.alloc (.cells #[.func (.func g) #[] #[], .bool true] 89) = w3 at *
      generalize w2.heap.size = rb at *
      have r0 := HXA.out.cell 0
      have M0 := HMA.out.cm
      have m0 := M0.cell 0
      have m1 := M0.cell 1
      have m2 := M0.cell 2
      have m3 := M0.cell 3
      have m4 := M0.cell 4
      have m5 := M0.cell 5
      have m6 := M0.cell 6
      have m7 := M0.cell 7
      have HEW := Lib.hid (HE.out w3 HKA.out)
      clear M0
      go_wp2_with fail
      refine HEW.out.mono ?_
      intro e w5 hd
      obtain ⟨s, rfl, hb5, hpl⟩ := Does.busy HBA.out hd
      have HB5 := Lib.hid hb5
      have HPL := Lib.hid hpl
      clear hd hb5 hpl HEW HBA HMA HXA HKA HE m0 m1 m2 m3 m4 m5 m6 m7 r0
      unfold An.agg
      dsimp only
      obtain ⟨c0, c1, c2, c3, c4, c5⟩ := HB5.out.an.six
      obtain ⟨f0, f1, f2, f3, f4, f5⟩ := HB5.out.an.free6
      go_wp2
      have hbx := (HB5.out.box ⟨x0, x1, x2, x3, x4, x5⟩)
      have hd := (HB5.out.does ⟨x0, x1, x2, x3, x4, x5⟩)
      dsimp only [sixPut] at hbx hd
      generalize ((((((w5.setCell ⟨a, 0, none⟩ (.int .i64 (x0))).setCell ⟨a, 1, none⟩ (.int .u64 (x1))).setCell ⟨a, 2, none⟩ (.int .u64 (x2))).setCell ⟨a, 3, none⟩ (.int .u64 (x3))).setCell ⟨a, 4, none⟩ (.string x4)).setCell ⟨a, 5, none⟩ (.string x5)) = wf at hbx hd ⊢
      obtain ⟨r0, r1, r2, r3, r4, r5⟩ := hbx.six
      rw [HPL.out] at hd
      exact bodyPost_ret (v := An.agg ⟨x0, x1, x2, x3, x4, x5⟩) (by simp [results, Tryz.results17, go_sem, An.agg, r0, r1, r2, r3, r4, r5]) rfl hd
    · have hb : decide (2 ≤ c.kind ∧ c.kind ≤ 6) = false := decide_eq_false hon
      rw [hb] at RU
      have hef := HEF.out.2
      rw [if_neg hon] at hef
      have HE := Lib.hid hef
      have HEG := Lib.hid HEF.out.1
      clear hb hef hon HEF hg
      go_wp2_with fail
      refine RU.out.mono ?_
      rintro e w2 ⟨rfl, k2⟩
      have KA := (Keep.refl noneOf w2).alloc (.cells #[.func (.func g) #[] #[], .bool false] 89)
      have HBA := Lib.hid ((HB.out.1.stay k2).stay KA)
      have HMA := Lib.hid ((HB.out.2.stay k2).stay KA)
      have HXA := Lib.hid (Box.new w2 89 #[.func (.func g) #[] #[], .bool false])
      have HKA := Lib.hid ((HKB.out.trans k2 (fun _ _ h => h)).trans KA (fun _ _ h => h))
      clear RU k2 m0 HB HKB KA
      go_upto_region 6 with fail
      generalize w2.alloc (.cells #[.func (.func g) #[] #[], .bool false] 89) = w3 at *
      generalize w2.heap.size = rb at *
      have r0 := HXA.out.cell 0
      have M0 := HMA.out.cm
      have m0 := M0.cell 0
      have m1 := M0.cell 1
      have m2 := M0.cell 2
      have m3 := M0.cell 3
      have m4 := M0.cell 4
      have m5 := M0.cell 5
      have m6 := M0.cell 6
      have m7 := M0.cell 7
      have HEW := Lib.hid (HE.out w3 HKA.out)
      have eg := HEG.out
      unfold CanCall at eg
      clear M0
      go_wp2_with fail
      refine HEW.out.mono ?_
      intro e w5 hd
      obtain ⟨s, rfl, hb5, hpl⟩ := Does.busy HBA.out hd
      have HB5 := Lib.hid hb5
      have HPL := Lib.hid hpl
      clear hd hb5 hpl HEW HBA HMA HXA HKA HE m0 m1 m2 m3 m4 m5 m6 m7 r0 eg
      unfold An.agg
      dsimp only
      obtain ⟨c0, c1, c2, c3, c4, c5⟩ := HB5.out.an.six
      obtain ⟨f0, f1, f2, f3, f4, f5⟩ := HB5.out.an.free6
      go_wp2
      have hbx := (HB5.out.box ⟨x0, x1, x2, x3, x4, x5⟩)
      have hd := (HB5.out.does ⟨x0, x1, x2, x3, x4, x5⟩)
      dsimp only [sixPut] at hbx hd
      generalize ((((((w5.setCell ⟨a, 0, none⟩ (.int .i64 (x0))).setCell ⟨a, 1, none⟩ (.int .u64 (x1))).setCell ⟨a, 2, none⟩ (.int .u64 (x2))).setCell ⟨a, 3, none⟩ (.int .u64 (x3))).setCell ⟨a, 4, none⟩ (.string x4)).setCell ⟨a, 5, none⟩ (.string x5)) = wf at hbx hd ⊢
      obtain ⟨r0, r1, r2, r3, r4, r5⟩ := hbx.six
      rw [HPL.out] at hd
      exact bodyPost_ret (v := An.agg ⟨x0, x1, x2, x3, x4, x5⟩) (by simp [results, Tryz.results17, go_sem, An.agg, r0, r1, r2, r3, r4, r5]) rfl hd
end Go.Proofs.YtkoikmdmejhhhaaGreat
