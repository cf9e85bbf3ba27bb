import Derived.Test.YtffoeodjbbkdjaaGreatBs01
import Derived.Test.YtffoeodjbbkdjaaGreatBs19
import Derived.Test.YtffoeodjbbkdjaaGreatBs24
import Derived.Test.YtffoeodjbbkdjaaGreatBs29
import Derived.Test.YtffoeodjbbkdjaaGreatBs37
namespace Go.Proofs.YtffoeodjbbkdjaaGreat
open Go.RowKit
set_option maxRecDepth 100000 in
set_option maxHeartbeats 4000000 in
theorem norule_lit (w : World) (k : Int) (h : k < 1 ∨ 7 < k) : Calls Tryz.prog 23 #[.int .i64 k] w fun e w' => e = .returned (.tuple #[.agg #[.nilFunc, .bool false], .bool false]) ∧ Keep noneOf w w' := by
 by_cases h0 : k ≤ 0
 ·
  clear h
  go_enter Tryz.func23, Tryz.ntmps23
  go_wp2
  refine bodyPost_ret (v := .tuple #[.agg #[.nilFunc, .bool false], .bool false]) (by simp [results, Tryz.results23, go_sem]) rfl ⟨rfl, ?_⟩
  exact ((Keep.refl noneOf w).alloc _).alloc _
 ·
  have h8 : 8 ≤ k := by omega
  clear h
  go_enter Tryz.func23, Tryz.ntmps23
  go_wp2
  refine bodyPost_ret (v := .tuple #[.agg #[.nilFunc, .bool false], .bool false]) (by simp [results, Tryz.results23, go_sem]) rfl ⟨rfl, ?_⟩
  exact ((Keep.refl noneOf w).alloc _).alloc _
theorem cc_open : CanCall 57 := enters_of Tryz.func57 (by kernel_rfl) rfl
theorem cc_submit : CanCall 58 := enters_of Tryz.func58 (by kernel_rfl) rfl
theorem cc_claim : CanCall 59 := enters_of Tryz.func59 (by kernel_rfl) rfl
theorem cc_renew : CanCall 60 := enters_of Tryz.func60 (by kernel_rfl) rfl
theorem cc_report : CanCall 61 := enters_of Tryz.func61 (by kernel_rfl) rfl
theorem cc_cancel : CanCall 62 := enters_of Tryz.func62 (by kernel_rfl) rfl
theorem cc_advance : CanCall 63 := enters_of Tryz.func63 (by kernel_rfl) rfl
theorem eff_once {w : World} {D C : Nat → Prop} {q : Qm} (h : QAt w D q) (hi : Inv q.plain) {c : Cm} (hc : c.lies w C) (h2 : 2 ≤ c.kind) (h6 : c.kind ≤ 6) :
  CanCall (effF c.kind) ∧ ∀ W, Keep noneOf w W → Calls Tryz.prog (effF c.kind) #[.pointer (some ⟨q.p, 0, none⟩), c.agg] W (Does q D (doneP q.plain c.plain) W) := by
 have hk : c.kind = 2 ∨ c.kind = 3 ∨ c.kind = 4 ∨ c.kind = 5 ∨ c.kind = 6 := by omega
 have hd : ∀ k : Int, c.kind = k → doneP q.plain c.plain = if k = 2 then submitP q.plain c.plain else if k = 3 then claimP q.plain else if k = 4 then renewP q.plain c.plain else if k = 5 then reportP q.plain c.plain else cancelP q.plain c.plain := fun k e => by subst e; rfl
 rcases hk with hk | hk | hk | hk | hk
 ·
  rw [hd 2 hk, hk, if_pos rfl]
  exact ⟨cc_submit, fun W k => qsubmit_any W D C q (h.stay k) hi c (hc.keep k (fun _ _ _ => id))⟩
 ·
  rw [hd 3 hk, hk, if_neg (by decide), if_pos rfl]
  exact ⟨cc_claim, fun W k => qclaim_any W D q (h.stay k) hi c⟩
 ·
  rw [hd 4 hk, hk, if_neg (by decide), if_neg (by decide), if_pos rfl]
  exact ⟨cc_renew, fun W k => qrenew_any W D q (h.stay k) hi c hc.tok.1⟩
 ·
  rw [hd 5 hk, hk, if_neg (by decide), if_neg (by decide), if_neg (by decide), if_pos rfl]
  exact ⟨cc_report, fun W k => qreport_any W D q (h.stay k) hi c hc.tok.1⟩
 ·
  rw [hd 6 hk, hk, if_neg (by decide), if_neg (by decide), if_neg (by decide), if_neg (by decide)]
  exact ⟨cc_cancel, fun W k => qcancel_any W D q (h.stay k) hi c⟩
set_option maxRecDepth 100000 in
set_option maxHeartbeats 8000000 in
set_option linter.unusedSimpArgs false in
theorem apply_any (w : World) (D C : Nat → Prop) (q : Qm) (h : QAt w D q) (hi : Inv q.plain) (c : Cm) (hc : c.lies w C) :
  Calls Tryz.prog 9 #[.pointer (some ⟨q.p, 0, none⟩), c.agg] w (Does q D (applyP q.plain c.plain) w) := by
 have HB := Lib.hid (busy_begin h c)
 have hkb : Keep noneOf w ((w.alloc (.cells #[.int .i64 c.kind, .int .u64 c.ses, .int .u64 c.seq, c.gv, .int .u64 c.id, .int .u64 c.tok, .bool c.good, .int .u64 c.time] 37)).alloc (.cells #[.int .i64 0, .int .u64 0, .int .u64 0, .int .u64 0, .string ⟨#[]⟩, .string ⟨#[]⟩] 40)) := ((Keep.refl noneOf w).alloc _).alloc _
 have HKB := Lib.hid hkb
 have HQ := Lib.hid h
 have HI := Lib.hid hi
 have HC := Lib.hid hc
 generalize hR : applyP q.plain c.plain = R
 have HR := Lib.hid hR
 have hag : c.agg = .agg #[.int .i64 c.kind, .int .u64 c.ses, .int .u64 c.seq, c.gv, .int .u64 c.id, .int .u64 c.tok, .bool c.good, .int .u64 c.time] := rfl
 have HAG := Lib.hid hag
 rw [hag]
 clear h hi hc hkb hR hag
 go_enter Tryz.func9, Tryz.ntmps9
 go_upto_region 1 with fail
 generalize (w.alloc (.cells #[.int .i64 c.kind, .int .u64 c.ses, .int .u64 c.seq, c.gv, .int .u64 c.id, .int .u64 c.tok, .bool c.good, .int .u64 c.time] 37)).alloc (.cells #[.int .i64 0, .int .u64 0, .int .u64 0, .int .u64 0, .string ⟨#[]⟩, .string ⟨#[]⟩] 40) = w1 at *
 generalize w.heap.size + 1 = a at *
 generalize hcb : w.heap.size = cb at *
 clear hcb
 have m0 : w1.cell? ⟨cb, 0, none⟩ = some (.int .i64 c.kind) := HB.out.2.cm.cell 0
 by_cases hk : c.kind < 1 ∨ 7 < c.kind
 ·
  have NR := Lib.hid (norule_lit w1 c.kind hk)
  have hr : R = (q.plain, An.err 1) := by
   rw [← HR.out]
   unfold applyP
   rw [show c.plain.kind = c.kind from rfl, if_neg (by omega), if_neg (by omega), if_pos (by omega)]
  subst hr
  clear HR hk
  go_wp2_with fail
  refine NR.out.mono ?_
  rintro e w2 ⟨rfl, k2⟩
  have KA := (Keep.refl noneOf w2).alloc (.cells #[.nilFunc, .bool false] 76)
  have HBA := Lib.hid ((HB.out.1.stay k2).stay KA)
  clear NR k2 m0 HB KA
  go_upto_region 3 with fail
  generalize w2.alloc (.cells #[.nilFunc, .bool false] 76) = w3 at *
  have RF := Lib.hid (refusal_lit w3 1)
  go_wp2_with fail
  refine RF.out.mono ?_
  rintro e w8 ⟨rfl, k8⟩
  have HB8 := Lib.hid (HBA.out.stay k8)
  obtain ⟨c0, c1, c2, c3, c4, c5⟩ := HB8.out.an.six
  obtain ⟨f0, f1, f2, f3, f4, f5⟩ := HB8.out.an.free6
  clear RF k8
  go_wp2
  have hbx := (HB8.out.box ⟨1, 0, 0, 0, ⟨#[]⟩, ⟨#[]⟩⟩)
  have hd := (HB8.out.does ⟨1, 0, 0, 0, ⟨#[]⟩, ⟨#[]⟩⟩)
  dsimp only [sixPut] at hbx hd
  generalize ((((((w8.setCell ⟨a, 0, none⟩ (.int .i64 (1))).setCell ⟨a, 1, none⟩ (.int .u64 (0))).setCell ⟨a, 2, none⟩ (.int .u64 (0))).setCell ⟨a, 3, none⟩ (.int .u64 (0))).setCell ⟨a, 4, none⟩ (.string ⟨#[]⟩)).setCell ⟨a, 5, none⟩ (.string ⟨#[]⟩)) = wf at hbx hd ⊢
  obtain ⟨r0, r1, r2, r3, r4, r5⟩ := hbx.six
  exact bodyPost_ret (v := An.agg ⟨1, 0, 0, 0, ⟨#[]⟩, ⟨#[]⟩⟩) (by simp [results, Tryz.results9, go_sem, An.agg, r0, r1, r2, r3, r4, r5]) rfl hd
 ·
  have RU := Lib.hid (rule_any w1 c.kind (by omega) (by omega))
  have HEF : Hid (CanCall (effF c.kind) ∧ (if (2 ≤ c.kind ∧ c.kind ≤ 6) then ∀ W, Keep noneOf w W → Calls Tryz.prog 25 #[.pointer (some ⟨q.p, 0, none⟩), c.agg, .func (.func (effF c.kind)) #[] #[]] W (Does q D R W) else ∀ W, Keep noneOf w W → Calls Tryz.prog (effF c.kind) #[.pointer (some ⟨q.p, 0, none⟩), c.agg] W (Does q D R W))) := Lib.hid (by
   by_cases hon : 2 ≤ c.kind ∧ c.kind ≤ 6
   ·
    rw [if_pos hon]
    obtain ⟨h1, h2⟩ := eff_once HQ.out HI.out HC.out hon.1 hon.2
    refine ⟨h1, fun W k => ?_⟩
    have h3 := qonce_any W D q (HQ.out.stay k) HI.out c HC.out.ok _ h1 (fun W' k' => h2 W' (k.trans k' (fun _ _ h => h)))
    have e : onceP q.plain c.plain = R := by
     rw [← HR.out]
     unfold applyP onceP
     rw [show c.plain.kind = c.kind from rfl, if_neg (by omega : ¬ c.kind = 7), if_neg (by omega : ¬ c.kind = 1), if_neg (by omega : ¬ (c.kind < 2 ∨ 6 < c.kind))]
    rw [e] at h3
    exact h3
   ·
    rw [if_neg hon]
    have hk2 : c.kind = 1 ∨ c.kind = 7 := by omega
    rcases hk2 with hk2 | hk2
    ·
     rw [hk2]
     refine ⟨cc_open, fun W k => ?_⟩
     have h3 := qopen_any W D q (HQ.out.stay k) c HC.out.ses
     have e : ({ q.plain with ses := openL q.ses c.ses }, An.err (openE q.ses c.ses)) = R := by
      rw [← HR.out]
      unfold applyP
      rw [show c.plain.kind = c.kind from rfl, hk2, if_neg (by decide), if_pos rfl]
      rfl
     rw [e] at h3
     exact h3
    ·
     rw [hk2]
     refine ⟨cc_advance, fun W k => ?_⟩
     have h3 := qadv_any W D q (HQ.out.stay k) HI.out c
     have e : (if c.time ≤ q.now then (q.plain, An.zero) else ({ q.plain with now := c.time, gs := q.plain.gs.map (expG c.time) }, An.zero)) = R := by
      rw [← HR.out]
      unfold applyP
      rw [show c.plain.kind = c.kind from rfl, hk2, if_pos rfl]
      rfl
     rw [e] at h3
     exact h3)
  rw [HAG.out] at HEF
  clear HR hk HQ HI
  unfold RuleIs at RU
  generalize hg : effF c.kind = g at *
  obtain ⟨rq, ⟨x0, x1, x2, x3, x4, x5⟩⟩ := R
  by_cases hon : 2 ≤ c.kind ∧ c.kind ≤ 6
  ·
   have hb : decide (2 ≤ c.kind ∧ c.kind ≤ 6) = true := decide_eq_true hon
   rw [hb] at RU
   have hef := HEF.out.2
   rw [if_pos hon] at hef
   have HE := Lib.hid hef
   clear hb hef hon HEF hg
   go_wp2_with fail
   refine RU.out.mono ?_
   rintro e w2 ⟨rfl, k2⟩
   have KA := (Keep.refl noneOf w2).alloc (.cells #[.func (.func g) #[] #[], .bool true] 76)
   have HBA := Lib.hid ((HB.out.1.stay k2).stay KA)
   have HMA := Lib.hid ((HB.out.2.stay k2).stay KA)
   have HXA := Lib.hid (Box.new w2 76 #[.func (.func g) #[] #[], .bool true])
   have HKA := Lib.hid ((HKB.out.trans k2 (fun _ _ h => h)).trans KA (fun _ _ h => h))
   clear RU k2 m0 HB HKB KA
   go_upto_region 5 with fail
   generalize w2.alloc (.cells #[.func (.func g) #[] #[], .bool true] 76) = w3 at *
   generalize w2.heap.size = rb at *
   have r0 := HXA.out.cell 0
   have M0 := HMA.out.cm
   have m0 := M0.cell 0
   have m1 := M0.cell 1
   have m2 := M0.cell 2
   have m3 := M0.cell 3
   have m4 := M0.cell 4
   have m5 := M0.cell 5
   have m6 := M0.cell 6
   have m7 := M0.cell 7
   have HEW := Lib.hid (HE.out w3 HKA.out)
   clear M0
   go_wp2_with fail
   refine HEW.out.mono ?_
   intro e w5 hd
   obtain ⟨s, rfl, hb5, hpl⟩ := Does.busy HBA.out hd
   have HB5 := Lib.hid hb5
   have HPL := Lib.hid hpl
   clear hd hb5 hpl HEW HBA HMA HXA HKA HE m0 m1 m2 m3 m4 m5 m6 m7 r0
   unfold An.agg
   dsimp only
   obtain ⟨c0, c1, c2, c3, c4, c5⟩ := HB5.out.an.six
   obtain ⟨f0, f1, f2, f3, f4, f5⟩ := HB5.out.an.free6
   go_wp2
   have hbx := (HB5.out.box ⟨x0, x1, x2, x3, x4, x5⟩)
   have hd := (HB5.out.does ⟨x0, x1, x2, x3, x4, x5⟩)
   dsimp only [sixPut] at hbx hd
   generalize ((((((w5.setCell ⟨a, 0, none⟩ (.int .i64 (x0))).setCell ⟨a, 1, none⟩ (.int .u64 (x1))).setCell ⟨a, 2, none⟩ (.int .u64 (x2))).setCell ⟨a, 3, none⟩ (.int .u64 (x3))).setCell ⟨a, 4, none⟩ (.string x4)).setCell ⟨a, 5, none⟩ (.string x5)) = wf at hbx hd ⊢
   obtain ⟨r0, r1, r2, r3, r4, r5⟩ := hbx.six
   rw [HPL.out] at hd
   exact bodyPost_ret (v := An.agg ⟨x0, x1, x2, x3, x4, x5⟩) (by simp [results, Tryz.results9, go_sem, An.agg, r0, r1, r2, r3, r4, r5]) rfl hd
  ·
   have hb : decide (2 ≤ c.kind ∧ c.kind ≤ 6) = false := decide_eq_false hon
   rw [hb] at RU
   have hef := HEF.out.2
   rw [if_neg hon] at hef
   have HE := Lib.hid hef
   have HEG := Lib.hid HEF.out.1
   clear hb hef hon HEF hg
   go_wp2_with fail
   refine RU.out.mono ?_
   rintro e w2 ⟨rfl, k2⟩
   have KA := (Keep.refl noneOf w2).alloc (.cells #[.func (.func g) #[] #[], .bool false] 76)
   have HBA := Lib.hid ((HB.out.1.stay k2).stay KA)
   have HMA := Lib.hid ((HB.out.2.stay k2).stay KA)
   have HXA := Lib.hid (Box.new w2 76 #[.func (.func g) #[] #[], .bool false])
   have HKA := Lib.hid ((HKB.out.trans k2 (fun _ _ h => h)).trans KA (fun _ _ h => h))
   clear RU k2 m0 HB HKB KA
   go_upto_region 6 with fail
   generalize w2.alloc (.cells #[.func (.func g) #[] #[], .bool false] 76) = w3 at *
   generalize w2.heap.size = rb at *
   have r0 := HXA.out.cell 0
   have M0 := HMA.out.cm
   have m0 := M0.cell 0
   have m1 := M0.cell 1
   have m2 := M0.cell 2
   have m3 := M0.cell 3
   have m4 := M0.cell 4
   have m5 := M0.cell 5
   have m6 := M0.cell 6
   have m7 := M0.cell 7
   have HEW := Lib.hid (HE.out w3 HKA.out)
   have eg := HEG.out
   unfold CanCall at eg
   clear M0
   go_wp2_with fail
   refine HEW.out.mono ?_
   intro e w5 hd
   obtain ⟨s, rfl, hb5, hpl⟩ := Does.busy HBA.out hd
   have HB5 := Lib.hid hb5
   have HPL := Lib.hid hpl
   clear hd hb5 hpl HEW HBA HMA HXA HKA HE m0 m1 m2 m3 m4 m5 m6 m7 r0 eg
   unfold An.agg
   dsimp only
   obtain ⟨c0, c1, c2, c3, c4, c5⟩ := HB5.out.an.six
   obtain ⟨f0, f1, f2, f3, f4, f5⟩ := HB5.out.an.free6
   go_wp2
   have hbx := (HB5.out.box ⟨x0, x1, x2, x3, x4, x5⟩)
   have hd := (HB5.out.does ⟨x0, x1, x2, x3, x4, x5⟩)
   dsimp only [sixPut] at hbx hd
   generalize ((((((w5.setCell ⟨a, 0, none⟩ (.int .i64 (x0))).setCell ⟨a, 1, none⟩ (.int .u64 (x1))).setCell ⟨a, 2, none⟩ (.int .u64 (x2))).setCell ⟨a, 3, none⟩ (.int .u64 (x3))).setCell ⟨a, 4, none⟩ (.string x4)).setCell ⟨a, 5, none⟩ (.string x5)) = wf at hbx hd ⊢
   obtain ⟨r0, r1, r2, r3, r4, r5⟩ := hbx.six
   rw [HPL.out] at hd
   exact bodyPost_ret (v := An.agg ⟨x0, x1, x2, x3, x4, x5⟩) (by simp [results, Tryz.results9, go_sem, An.agg, r0, r1, r2, r3, r4, r5]) rfl hd
end Go.Proofs.YtffoeodjbbkdjaaGreat
namespace Go.Proofs.YtffoeodjbbkdjaaGreat
open Go.RowKit
set_option maxRecDepth 100000 in
theorem now_any (w : World) (D : Nat → Prop) (q : Qm) (h : QAt w D q) : Calls Tryz.prog 16 #[.pointer (some ⟨q.p, 0, none⟩)] w fun e w' => e = .returned (.int .u64 q.now) ∧ w' = w := by
 have p0 : w.cell? ⟨q.p, 0, none⟩ = some (.int .u64 q.now) := h.box.cell 0
 clear h
 go_enter Tryz.func16, Tryz.ntmps16
 go_wp2
 go_ret
 exact ⟨rfl, rfl⟩
theorem inv_small {q : Qm} (hi : Inv q.plain) {g : Gm} (hg : g ∈ q.gs) : Small g := by
 obtain ⟨h1, h2, h3, _⟩ := inv_few hi hg
 have hf := (check_fits h3).1
 unfold grFits at hf
 rw [Bool.and_eq_true, List.all_eq_true] at hf
 refine ⟨by rw [reach_is]; omega, fun t ht => ?_, by rw [reach_is]; omega⟩
 have := hf.2 t.plain (List.mem_map.2 ⟨t, ht, rfl⟩)
 unfold ptFits at this
 simp at this
 have h4 : t.plain.needs.length = t.needs.length := rfl
 rw [reach_is]
 omega
theorem QAt.gms {w : World} {D : Nat → Prop} {q : Qm} (h : QAt w D q) : Gms w (fun i => D i) q.gv q.gs :=
 ⟨own_row_in h.gr (fun b e => h.inD b (.inr (.inr (.inr (.inl e))))), fun g hg => ⟨Tgs.monoQ (h.tg g hg) (fun _ _ hi => hi.1), (h.states hg).mono (fun i _ hi => h.inD i hi)⟩⟩
def DumpTold (q : Qm) (w : World) (e : Ending) (w' : World) : Prop := ∃ im : Im, e = .returned im.agg ∧ im.plain = q.plain ∧ im.lies w' (fun i => w.heap.size ≤ i) ∧ Keep noneOf w w'
set_option maxRecDepth 100000 in
set_option maxHeartbeats 8000000 in
set_option linter.unusedSimpArgs false in
theorem dump_any (w : World) (D : Nat → Prop) (q : Qm) (h : QAt w D q) (hi : Inv q.plain) (hk : ∀ k ∈ q.built, (k : Int) < 18446744073709551616) :
  Calls Tryz.prog 15 #[.pointer (some ⟨q.p, 0, none⟩)] w (DumpTold q w) := by
 have ka := (Keep.refl noneOf w).alloc (.cells #[.int .u64 0, .int .u64 0, .int .u64 0, .slice none 0 0, .slice none 0 0, .slice none 0 0] 30)
 have HA := Lib.hid (Box.new w 30 #[.int .u64 0, .int .u64 0, .int .u64 0, .slice none 0 0, .slice none 0 0, .slice none 0 0])
 have HKA := Lib.hid ka
 have HQ := Lib.hid (h.stay ka)
 have HI := Lib.hid hi
 have HK := Lib.hid hk
 have hpl : q.p < w.heap.size := h.box.lt
 obtain ⟨Ag, cg, hgv⟩ := h.shape
 obtain ⟨Ab, cb, hbv⟩ := own_shape h.bl
 have HGV := Lib.hid hgv
 have HBV := Lib.hid hbv
 clear h hi hk ka hgv hbv
 go_enter Tryz.func15, Tryz.ntmps15
 go_upto_region 1 with fail
 generalize w.alloc (.cells #[.int .u64 0, .int .u64 0, .int .u64 0, .slice none 0 0, .slice none 0 0, .slice none 0 0] 30) = w1 at *
 generalize ha : w.heap.size = a at *
 have HAE := Lib.hid ha
 clear ha
 have hpa : q.p ≠ a := by omega
 have MC : Hid (∀ w', Keep (fun b => b = a) w1 w' → w'.cell? ⟨q.p, 0, none⟩ = some (.int .u64 q.now) ∧ w'.cell? ⟨q.p, 1, none⟩ = some (.int .u64 q.ng) ∧ w'.cell? ⟨q.p, 2, none⟩ = some (.int .u64 q.nt) ∧ w'.cell? ⟨q.p, 3, none⟩ = some (.pointer (some ⟨q.tp, 0, none⟩)) ∧ w'.cell? ⟨q.p, 4, none⟩ = some (.slice Ag q.gs.length cg) ∧ w'.cell? ⟨q.p, 5, none⟩ = some (.slice Ab q.built.length cb)) := Lib.hid fun w' k' => by
  have b := HQ.out.box.keep k' hpa
  unfold Qm.cells at b
  rw [HGV.out, HBV.out] at b
  exact b.six
 have K0 := Keep.refl noneOf w1
 have KS := (Keep.refl (fun b => b = a) w1).drew
 have NX := Lib.hid (fun w' => next_any_L w' q.nt)
 refine wp_region_held_drew (S := fun w' => Keep (fun b => b = a) w1 w') (by kernel_rfl) (KS) (fun hHeld => ?_)
 refine' ztk 0 _ rfl (.inl ⟨by kernel_rfl, ?hy0⟩) ?_
 case hy0 => intro w' hSw; obtain ⟨_, _, _, _, _, _⟩ := MC.out w' hSw; go_simp; try with_reducible rfl
 simp only [Act.put, zga, zgb, zgc, zgd, zge, zgf]
 refine' ztk 1 _ rfl (.inl ⟨by kernel_rfl, ?hy1⟩) ?_
 case hy1 => intro w' hSw; obtain ⟨_, _, _, _, _, _⟩ := MC.out w' hSw; go_simp; try with_reducible rfl
 simp only [Act.put, zga, zgb, zgc, zgd, zge, zgf]
 refine' ztk 2 _ rfl (.inl ⟨by kernel_rfl, ?hy2⟩) ?_
 case hy2 => intro w' hSw; obtain ⟨_, _, _, _, _, _⟩ := MC.out w' hSw; go_simp; try with_reducible rfl
 simp only [Act.put, zga, zgb, zgc, zgd, zge, zgf]
 refine' ztk 3 _ rfl (.inl ⟨by kernel_rfl, ?hy3⟩) ?_
 case hy3 => intro w' hSw; obtain ⟨_, _, _, _, _, _⟩ := MC.out w' hSw; go_simp; try with_reducible rfl
 simp only [Act.put, zga, zgb, zgc, zgd, zge, zgf]
 refine' ztk 4 _ rfl (.inl ⟨by kernel_rfl, ?hy4⟩) ?_
 case hy4 => intro w' hSw; obtain ⟨_, _, _, _, _, _⟩ := MC.out w' hSw; go_simp; try with_reducible rfl
 simp only [Act.put, zga, zgb, zgc, zgd, zge, zgf]
 refine' ztk 5 _ rfl (.inl ⟨by kernel_rfl, ?hy5⟩) ?_
 case hy5 => intro w' hSw; obtain ⟨_, _, _, _, _, _⟩ := MC.out w' hSw; go_simp; try with_reducible rfl
 simp only [Act.put, zga, zgb, zgc, zgd, zge, zgf]
 refine' ztk 6 _ rfl (.inl ⟨by kernel_rfl, ?hy6⟩) ?_
 case hy6 => intro w' hSw; obtain ⟨_, _, _, _, _, _⟩ := MC.out w' hSw; go_simp; try with_reducible rfl
 simp only [Act.put, zga, zgb, zgc, zgd, zge, zgf]
 refine' ztk 7 _ rfl (.inl ⟨by kernel_rfl, ?hy7⟩) ?_
 case hy7 => intro w' hSw; obtain ⟨_, _, _, _, _, _⟩ := MC.out w' hSw; go_simp; try with_reducible rfl
 simp only [Act.put, zga, zgb, zgc, zgd, zge, zgf]
 refine' ztk 8 _ rfl (.inl ⟨by kernel_rfl, ?hy8⟩) ?_
 case hy8 => intro w' hSw; obtain ⟨_, _, _, _, _, _⟩ := MC.out w' hSw; go_simp; try with_reducible rfl
 simp only [Act.put, zga, zgb, zgc, zgd, zge, zgf]
 refine' ztk 9 _ rfl (.inl ⟨by kernel_rfl, ?hy9⟩) ?_
 case hy9 => intro w' hSw; obtain ⟨_, _, _, _, _, _⟩ := MC.out w' hSw; go_simp; try with_reducible rfl
 simp only [Act.put, zga, zgb, zgc, zgd, zge, zgf]
 refine' ztk 10 _ rfl (.inl ⟨by kernel_rfl, ?hy10⟩) ?_
 case hy10 => intro w' hSw; obtain ⟨_, _, _, _, _, _⟩ := MC.out w' hSw; go_simp; try with_reducible rfl
 simp only [Act.put, zga, zgb, zgc, zgd, zge, zgf]
 refine' ztk 11 _ rfl (.inl ⟨by kernel_rfl, ?hy11⟩) ?_
 case hy11 => intro w' hSw; obtain ⟨_, _, _, _, _, _⟩ := MC.out w' hSw; go_simp; try with_reducible rfl
 simp only [Act.put, zga, zgb, zgc, zgd, zge, zgf]
 refine' ztk 13 _ rfl (.inl ⟨by kernel_rfl, ?hy13⟩) ?_
 case hy13 => intro w' hSw; obtain ⟨_, _, _, _, _, _⟩ := MC.out w' hSw; go_simp; try with_reducible rfl
 simp only [Act.put, zga, zgb, zgc, zgd, zge, zgf]
 refine' ztk 14 _ rfl (.inl ⟨by kernel_rfl, ?hy14⟩) ?_
 case hy14 => intro w' hSw; obtain ⟨_, _, _, _, _, _⟩ := MC.out w' hSw; go_simp; try with_reducible rfl
 simp only [Act.put, zga, zgb, zgc, zgd, zge, zgf]
 refine' ztk 15 _ rfl (.inl ⟨by kernel_rfl, ?hy15⟩) ?_
 case hy15 => intro w' hSw; obtain ⟨_, _, _, _, _, _⟩ := MC.out w' hSw; go_simp; try with_reducible rfl
 simp only [Act.put, zga, zgb, zgc, zgd, zge, zgf]
 refine' ztk 16 _ rfl (.inl ⟨by kernel_rfl, ?hy16⟩) ?_
 case hy16 => intro w' hSw; obtain ⟨_, _, _, _, _, _⟩ := MC.out w' hSw; go_simp; try with_reducible rfl
 simp only [Act.put, zga, zgb, zgc, zgd, zge, zgf]
 refine' ztk 18 _ rfl (.inl ⟨by kernel_rfl, ?hy18⟩) ?_
 case hy18 => intro w' hSw; obtain ⟨_, _, _, _, _, _⟩ := MC.out w' hSw; go_simp; try with_reducible rfl
 simp only [Act.put, zga, zgb, zgc, zgd, zge, zgf]
 refine' ztk 19 _ rfl (.inl ⟨by kernel_rfl, ?hy19⟩) ?_
 case hy19 => intro w' hSw; obtain ⟨_, _, _, _, _, _⟩ := MC.out w' hSw; go_simp; try with_reducible rfl
 simp only [Act.put, zga, zgb, zgc, zgd, zge, zgf]
 refine' ztk 20 _ rfl (.inl ⟨by kernel_rfl, ?hy20⟩) ?_
 case hy20 => intro w' hSw; obtain ⟨_, _, _, _, _, _⟩ := MC.out w' hSw; go_simp; try with_reducible rfl
 simp only [Act.put, zga, zgb, zgc, zgd, zge, zgf]
 refine' ztk 21 _ rfl (.inl ⟨by kernel_rfl, ?hy21⟩) ?_
 case hy21 => intro w' hSw; obtain ⟨_, _, _, _, _, _⟩ := MC.out w' hSw; go_simp; try with_reducible rfl
 simp only [Act.put, zga, zgb, zgc, zgd, zge, zgf]
 refine' ztk 23 _ rfl (.inl ⟨by kernel_rfl, ?hy23⟩) ?_
 case hy23 => intro w' hSw; obtain ⟨_, _, _, _, _, _⟩ := MC.out w' hSw; go_simp; try with_reducible rfl
 simp only [Act.put, zga, zgb, zgc, zgd, zge, zgf]
 refine' ztk 24 _ rfl (.inl ⟨by kernel_rfl, ?hy24⟩) ?_
 case hy24 => intro w' hSw; obtain ⟨_, _, _, _, _, _⟩ := MC.out w' hSw; go_simp; try with_reducible rfl
 simp only [Act.put, zga, zgb, zgc, zgd, zge, zgf]
 refine' ztk 25 _ rfl (.inl ⟨by kernel_rfl, ?hy25⟩) ?_
 case hy25 => intro w' hSw; obtain ⟨_, _, _, _, _, _⟩ := MC.out w' hSw; go_simp; try with_reducible rfl
 simp only [Act.put, zga, zgb, zgc, zgd, zge, zgf]
 refine' ztk 26 _ rfl (.inl ⟨by kernel_rfl, ?hy26⟩) ?_
 case hy26 => intro w' hSw; obtain ⟨_, _, _, _, _, _⟩ := MC.out w' hSw; go_simp; try with_reducible rfl
 simp only [Act.put, zga, zgb, zgc, zgd, zge, zgf]
 refine wpAnyH_ready (rs := [12]) (by kernel_rfl) (by simp) (AllReadyH.cons rfl (fun K hK => ?_) AllReadyH.nil)
 go_simp
 go_at_call 42
 refine (NX.out _).mono ?_
 rintro e w2 ⟨rfl, k2⟩
 have K2 : Keep noneOf w1 w2 := K0.drew.trans k2 (fun _ _ h => h)
 go_wp2_with fail
 refine hK.out _ _ (Keep.wide K2) (fun hHeld => ?_)
 clear hK K
 try simp only [Act.put, zga, zgb, zgc, zgd, zge, zgf]
 have RW := Lib.hid (rows_any w2 q.tp q.m q.ses (HQ.out.stay K2).tab HI.out.sesFew)
 refine wpAnyH_ready (rs := [17]) (by kernel_rfl) (by simp) (AllReadyH.cons rfl (fun K hK => ?_) AllReadyH.nil)
 go_simp
 go_at_call 43
 refine RW.out.mono ?_
 rintro e w3 ⟨v3, rfl, hses, k3⟩
 have K3 : Keep noneOf w1 w3 := K2.trans k3 (fun _ _ h => h)
 obtain ⟨A3, c3, rfl⟩ := hses.shape
 go_wp2_with fail
 refine hK.out _ _ (Keep.wide K3) (fun hHeld => ?_)
 clear hK K
 try simp only [Act.put, zga, zgb, zgc, zgd, zge, zgf]
 have CR : Hid (Calls Tryz.prog 44 #[.slice Ag q.gs.length cg] w3 (CopiesR q.gs w3)) := Lib.hid (by
  have := copiedRows_any w3 _ _ q.gs (HQ.out.stay K3).gms (by rw [reach_is]; have h1 := HI.out.gsFew; have h2 : q.plain.gs.length = q.gs.length := List.length_map ..; omega) (fun g hg => inv_small HI.out hg)
  rw [HGV.out] at this
  exact this)
 refine wpAnyH_ready (rs := [22]) (by kernel_rfl) (by simp) (AllReadyH.cons rfl (fun K hK => ?_) AllReadyH.nil)
 go_simp
 go_at_call 44
 refine CR.out.mono ?_
 rintro e w4 ⟨v4, us, rfl, hup, hgm, k4⟩
 have K4 : Keep noneOf w1 w4 := K3.trans k4 (fun _ _ h => h)
 obtain ⟨A4, c4, rfl⟩ := hgm.1.shape
 go_wp2_with fail
 refine hK.out _ _ (Keep.wide K4) (fun hHeld => ?_)
 clear hK K
 try simp only [Act.put, zga, zgb, zgc, zgd, zge, zgf]
 have CK : Hid (Calls Tryz.prog 45 #[.slice Ab q.built.length cb] w4 (Copies kc 1 23 q.built w4)) := Lib.hid (by
  have hm : Many kc 1 w4 q.O q.bv q.built := by
   unfold Many
   rw [← map_kc]
   exact (HQ.out.stay K4).keys
  have := cloneK_any w4 _ _ q.built hm (by rw [reach_is]; have h1 : q.plain.built.length ≤ 256 := HI.out.bltFew; have h2 : q.plain.built = q.built := rfl; rw [h2] at h1; omega) (fun x _ u hu => by simp [kc] at hu; subst hu; rfl)
  rw [HBV.out] at this
  exact this)
 refine wpAnyH_ready (rs := [27]) (by kernel_rfl) (by simp) (AllReadyH.cons rfl (fun K hK => ?_) AllReadyH.nil)
 go_simp
 go_at_call 45
 refine CK.out.mono ?_
 rintro e w5 ⟨v5, rfl, ho5, k5⟩
 have K5 : Keep noneOf w1 w5 := K4.trans k5 (fun _ _ h => h)
 obtain ⟨A5, c5, rfl⟩ := own_shape ho5
 have hb5 := HA.out.keep K5 id
 obtain ⟨y0, y1, y2, y3, y4, y5⟩ := hb5.six
 obtain ⟨z0, z1, z2, z3, z4, z5⟩ := hb5.free6
 have hb6 := hb5.put6 (.int .u64 q.now) (.int .u64 q.ng) (.int .u64 q.nt) (.slice A3 q.ses.length c3) (.slice A4 us.length c4) (.slice A5 q.built.length c5)
 have k6 := (Keep.refl (fun b => b = a) w5).put6 (b := a) (fun _ => rfl) (.int .u64 q.now) (.int .u64 q.ng) (.int .u64 q.nt) (.slice A3 q.ses.length c3) (.slice A4 us.length c4) (.slice A5 q.built.length c5)
 have HF : Hid (DumpTold q w (.returned (.agg #[.int .u64 q.now, .int .u64 q.ng, .int .u64 q.nt, .slice A3 q.ses.length c3, .slice A4 us.length c4, .slice A5 q.built.length c5])) (sixPut w5 a (.int .u64 q.now) (.int .u64 q.ng) (.int .u64 q.nt) (.slice A3 q.ses.length c3) (.slice A4 us.length c4) (.slice A5 q.built.length c5))) := Lib.hid (by
  have hs1 : a < w1.heap.size := HA.out.lt
  refine ⟨⟨q.now, q.ng, q.nt, .slice A3 q.ses.length c3, .slice A4 us.length c4, .slice A5 q.built.length c5, q.ses, us, q.built⟩, rfl, by unfold Im.plain Qm.plain; rw [hup], ⟨?_, ?_, ?_, HK.out⟩, (HKA.out.trans K5 (fun _ _ h => h)).trans k6 (fun i hi e => by have := HAE.out; omega)⟩
  ·
   have h1 := (hses.keep (k4.trans k5 (fun _ _ h => h)) (fun _ _ _ => id)).keep k6 (fun i _ hi e => by have := K2.size; omega)
   exact h1.mono (fun i _ hi => by have := K2.size; have := HAE.out; omega)
  ·
   have h1 := (hgm.keep k5 (fun _ _ _ => id)).keep k6 (fun i _ hi e => by have := K3.size; omega)
   exact h1.mono (fun i _ hi => by have := K3.size; have := HAE.out; omega)
  ·
   have h1 : Row w5 (fun b => w4.heap.size ≤ b) (.slice A5 q.built.length c5) q.built.length 1 (q.built.flatMap kc) := own_row_in ho5 (fun b hb => by
    rcases ho5.2 with ⟨e, _⟩ | ⟨gg, cap, cur, e, hbb, _⟩
    ·
     rw [e] at hb; cases hb
    ·
     rw [e] at hb
     have : gg = b := by simpa [Value.ownBlock] using hb
     omega)
   rw [← map_kc] at h1
   have h2 := h1.keep k6 (fun i _ hi e => by have := K4.size; omega)
   exact h2.mono (fun i _ hi => by have := K4.size; have := HAE.out; omega))
 go_wp2_with fail
 refine hK.out _ _ (Keep.wide K5) (fun hHeld => ?_)
 clear hK K
 try simp only [Act.put, zga, zgb, zgc, zgd, zge, zgf]
 refine' ztk 28 _ rfl (.inl ⟨by kernel_rfl, ?hy28⟩) ?_
 case hy28 => intro w' hSw; obtain ⟨_, _, _, _, _, _⟩ := MC.out w' hSw; go_simp; try with_reducible rfl
 simp only [Act.put, zga, zgb, zgc, zgd, zge, zgf]
 refine wpAnyH_ready (rs := [29]) (by kernel_rfl) (by simp) (AllReadyH.cons rfl (fun K hK => ?_) AllReadyH.nil)
 go_simp
 refine hK.out _ _ ((Keep.wide K5).trans k6 (fun _ _ e => e)) (fun hHeld => ?_)
 clear hK K
 try simp only [Act.put, zga, zgb, zgc, zgd, zge, zgf]
 refine wpAnyH_done (by kernel_rfl) ?_ _
 obtain ⟨r0, r1, r2, r3, r4, r5⟩ := hb6.six
 clear K0 KS NX RW CR CK MC K2 K3 K4 K5 k2 k3 k4 k5 hses hgm ho5 hb5 hb6 k6 y0 y1 y2 y3 y4 y5 z0 z1 z2 z3 z4 z5
 unfold sixPut at HF r0 r1 r2 r3 r4 r5
 generalize (((((w5.setCell ⟨a, 0, none⟩ (.int .u64 q.now)).setCell ⟨a, 1, none⟩ (.int .u64 q.ng)).setCell ⟨a, 2, none⟩ (.int .u64 q.nt)).setCell ⟨a, 3, none⟩ (.slice A3 q.ses.length c3)).setCell ⟨a, 4, none⟩ (.slice A4 us.length c4)).setCell ⟨a, 5, none⟩ (.slice A5 q.built.length c5) = wf at *
 go_wp2
 exact bodyPost_ret (v := .agg #[.int .u64 q.now, .int .u64 q.ng, .int .u64 q.nt, .slice A3 q.ses.length c3, .slice A4 us.length c4, .slice A5 q.built.length c5]) (by simp [results, Tryz.results15, go_sem, r0, r1, r2, r3, r4, r5]) rfl HF.out
end Go.Proofs.YtffoeodjbbkdjaaGreat
namespace Go.Proofs.YtffoeodjbbkdjaaGreat
open Go.RowKit
def ViewTold (r : Int × Int × List Pst) (w : World) (e : Ending) (w' : World) : Prop := ∃ A c, e = .returned (.agg #[.int .i64 r.1, .int .u64 r.2.1, .slice A r.2.2.length c]) ∧ Sts w' (fun i => w.heap.size ≤ i) (.slice A r.2.2.length c) r.2.2 ∧ Keep noneOf w w'
set_option maxRecDepth 100000 in
set_option maxHeartbeats 8000000 in
set_option linter.unusedSimpArgs false in
theorem view_any (w : World) (D : Nat → Prop) (q : Qm) (h : QAt w D q) (hi : Inv q.plain) (id : Int) :
  Calls Tryz.prog 12 #[.pointer (some ⟨q.p, 0, none⟩), .int .u64 id] w (ViewTold (viewP q.plain id) w) := by
 have ka := (Keep.refl noneOf w).alloc (.cells #[.int .i64 0, .int .u64 0, .slice none 0 0] 47)
 have HA := Lib.hid (Box.new w 47 #[.int .i64 0, .int .u64 0, .slice none 0 0])
 have HKA := Lib.hid ka
 have HQ := Lib.hid (h.stay ka)
 have HI := Lib.hid hi
 have hpl : q.p < w.heap.size := h.box.lt
 have HLT := Lib.hid h.lt
 have FD := Lib.hid (qfind_any _ D q (h.stay ka) id)
 obtain ⟨Ag, cg, hgv⟩ := h.shape
 have HGV := Lib.hid hgv
 have hgf := h.few
 unfold maxLen at hgf
 generalize hR : viewP q.plain id = R
 have HR := Lib.hid hR
 clear h hi ka hgv hR
 go_enter Tryz.func12, Tryz.ntmps12
 go_wp2_with fail
 refine FD.out.mono ?_
 rintro e w2 ⟨rfl, k2⟩
 have HQ2 := Lib.hid (HQ.out.stay k2)
 have HA2 := Lib.hid (HA.out.keep k2 (fun h => h))
 have HK2 := Lib.hid (HKA.out.trans k2 (fun _ _ h => h))
 clear FD k2 HA HKA HQ
 generalize ha : w.heap.size = a at *
 have HAE := Lib.hid ha
 have hpa : q.p ≠ a := by omega
 clear ha
 obtain ⟨y0, y1, y2⟩ := HA2.out.three
 have z0 := HA2.out.free 0
 have z1 := HA2.out.free 1
 have z2 := HA2.out.free 2
 have p0 : w2.cell? ⟨q.p, 0, none⟩ = some (.int .u64 q.now) := HQ2.out.box.cell 0
 cases hf : findG q.plain id with
 | none =>
  have hr : R = (121, q.now, []) := by
   rw [← HR.out]
   unfold viewP
   rw [hf]
   rfl
  subst hr
  have hb3 := HA2.out.put3 (.int .i64 121) (.int .u64 q.now) (.slice none 0 0)
  have k3 := (((Keep.refl (fun i => i = a) w2).setCell (p := ⟨a, 0, none⟩) (fun _ => rfl) (.int .i64 121)).setCell (p := ⟨a, 1, none⟩) (fun _ => rfl) (.int .u64 q.now)).setCell (p := ⟨a, 2, none⟩) (fun _ => rfl) (.slice none 0 0)
  have HB3 := Lib.hid hb3
  have HK3 := Lib.hid (HK2.out.trans k3 (fun i hi e => by have := HAE.out; omega))
  clear hb3 k3 HR hf
  simp only [Option.getD, Option.isSome]
  go_wp2
  generalize ((w2.setCell ⟨a, 0, none⟩ (.int .i64 121)).setCell ⟨a, 1, none⟩ (.int .u64 q.now)).setCell ⟨a, 2, none⟩ (.slice none 0 0) = wf at *
  obtain ⟨r0, r1, r2⟩ := HB3.out.three
  exact bodyPost_ret (v := .agg #[.int .i64 121, .int .u64 q.now, .slice none 0 0]) (by simp [results, Tryz.results12, go_sem, r0, r1, r2]) rfl ⟨none, 0, rfl, Sts.nil _ _, HK3.out⟩
 | some i =>
  obtain ⟨gq, hg0, _⟩ := findIdx_at hf
  obtain ⟨g, hg, rfl⟩ := gm_of hg0
  have hr : R = (0, q.now, g.st) := by
   rw [← HR.out]
   unfold viewP
   rw [hf]
   dsimp only
   rw [getD_some hg0]
   rfl
  subst hr
  have hm := List.mem_of_getElem? hg
  obtain ⟨g0, cap, hgv, hg0D, hg0lt, hg0p, d0, d1, d2, fr2⟩ := HQ2.out.rows hg
  rw [HGV.out] at hgv
  obtain ⟨rfl, rfl⟩ : Ag = some ⟨g0, 0, none⟩ ∧ cg = cap := by simpa using hgv
  have hS := HQ2.out.states hm
  obtain ⟨As, cs, hsv⟩ := hS.shape
  rw [hsv] at d2 hS
  have h32 := (inv_few HI.out hm).1
  have hDa : ¬ D a := fun e => by have := HLT.out a e; omega
  have hg0a : g0 ≠ a := fun e => hDa (e ▸ hg0D)
  have hil := (List.getElem?_eq_some_iff.1 hg).1
  have q0 : (0 : Int) ≤ (i : Int) := by omega
  have q1 : (i : Int) < (q.gs.length : Int) := by omega
  have p4 : w2.cell? ⟨q.p, 4, none⟩ = some (.slice (some ⟨g0, 0, none⟩) q.gs.length cg) := by rw [← HGV.out]; exact HQ2.out.box.cell 4
  have MC : Hid (∀ w', Keep (fun b => b = a) w2 w' → w'.cell? ⟨q.p, 0, none⟩ = some (.int .u64 q.now) ∧ w'.cell? ⟨q.p, 4, none⟩ = some (.slice (some ⟨g0, 0, none⟩) q.gs.length cg) ∧ w'.cell? ⟨g0, i * 3 + 2, none⟩ = some (.slice As g.st.length cs)) := Lib.hid fun w' k' =>
   ⟨(HQ2.out.box.keep k' hpa).cell 0, (k'.cell (p := ⟨q.p, 4, none⟩) (block_of_cell p4) hpa).trans p4, (k'.cell (p := ⟨g0, i * 3 + 2, none⟩) hg0lt hg0a).trans d2⟩
  have CS : Hid (∀ w', Keep noneOf w2 w' → Calls Tryz.prog 38 #[.slice As g.st.length cs] w' (Copies Pst.cells 3 61 g.st w')) := Lib.hid fun w' k' => cloneS_any w' _ _ g.st (hS.keep k' (fun _ _ _ h => h)) (by rw [reach_is]; omega)
  have K0 := Keep.refl noneOf w2
  have KS := (Keep.refl (fun b => b = a) w2).drew
  clear HR hf hg0 hg hm hgv d0 d1 d2 fr2 hS hsv p4 hg0D
  simp only [Option.getD, Option.isSome]
  go_upto_region 4 with fail
  refine wp_region_held_drew (S := fun w' => Keep (fun b => b = a) w2 w') (by kernel_rfl) (KS) (fun hHeld => ?_)
  refine' ztk 0 _ rfl (.inl ⟨by kernel_rfl, ?hy0⟩) ?_
  case hy0 => intro w' hSw; obtain ⟨_, _, _⟩ := MC.out w' hSw; go_simp; try with_reducible rfl
  simp only [Act.put, zga, zgb, zgc, zgd, zge, zgf]
  refine' ztk 1 _ rfl (.inl ⟨by kernel_rfl, ?hy1⟩) ?_
  case hy1 => intro w' hSw; obtain ⟨_, _, _⟩ := MC.out w' hSw; go_simp; try with_reducible rfl
  simp only [Act.put, zga, zgb, zgc, zgd, zge, zgf]
  refine' ztk 2 _ rfl (.inl ⟨by kernel_rfl, ?hy2⟩) ?_
  case hy2 => intro w' hSw; obtain ⟨_, _, _⟩ := MC.out w' hSw; go_simp; try with_reducible rfl
  simp only [Act.put, zga, zgb, zgc, zgd, zge, zgf]
  refine' ztk 3 _ rfl (.inl ⟨by kernel_rfl, ?hy3⟩) ?_
  case hy3 => intro w' hSw; obtain ⟨_, _, _⟩ := MC.out w' hSw; go_simp; try with_reducible rfl
  simp only [Act.put, zga, zgb, zgc, zgd, zge, zgf]
  refine' ztk 4 _ rfl (.inl ⟨by kernel_rfl, ?hy4⟩) ?_
  case hy4 => intro w' hSw; obtain ⟨_, _, _⟩ := MC.out w' hSw; go_simp; try with_reducible rfl
  simp only [Act.put, zga, zgb, zgc, zgd, zge, zgf]
  refine' ztk 5 _ rfl (.inl ⟨by kernel_rfl, ?hy5⟩) ?_
  case hy5 => intro w' hSw; obtain ⟨_, _, _⟩ := MC.out w' hSw; go_simp; try with_reducible rfl
  simp only [Act.put, zga, zgb, zgc, zgd, zge, zgf]
  refine' ztk 6 _ rfl (.inl ⟨by kernel_rfl, ?hy6⟩) ?_
  case hy6 => intro w' hSw; obtain ⟨_, _, _⟩ := MC.out w' hSw; go_simp; try with_reducible rfl
  simp only [Act.put, zga, zgb, zgc, zgd, zge, zgf]
  refine' ztk 7 _ rfl (.inl ⟨by kernel_rfl, ?hy7⟩) ?_
  case hy7 => intro w' hSw; obtain ⟨_, _, _⟩ := MC.out w' hSw; go_simp; try with_reducible rfl
  simp only [Act.put, zga, zgb, zgc, zgd, zge, zgf]
  refine' ztk 8 _ rfl (.inl ⟨by kernel_rfl, ?hy8⟩) ?_
  case hy8 => intro w' hSw; obtain ⟨_, _, _⟩ := MC.out w' hSw; go_simp; try with_reducible rfl
  simp only [Act.put, zga, zgb, zgc, zgd, zge, zgf]
  refine' ztk 9 _ rfl (.inl ⟨by kernel_rfl, ?hy9⟩) ?_
  case hy9 => intro w' hSw; obtain ⟨_, _, _⟩ := MC.out w' hSw; go_simp; try with_reducible rfl
  simp only [Act.put, zga, zgb, zgc, zgd, zge, zgf]
  refine' ztk 10 _ rfl (.inl ⟨by kernel_rfl, ?hy10⟩) ?_
  case hy10 => intro w' hSw; obtain ⟨_, _, _⟩ := MC.out w' hSw; go_simp; try with_reducible rfl
  simp only [Act.put, zga, zgb, zgc, zgd, zge, zgf]
  refine' ztk 11 _ rfl (.inl ⟨by kernel_rfl, ?hy11⟩) ?_
  case hy11 => intro w' hSw; obtain ⟨_, _, _⟩ := MC.out w' hSw; go_simp; try with_reducible rfl
  simp only [Act.put, zga, zgb, zgc, zgd, zge, zgf]
  refine wpAnyH_ready (rs := [12]) (by kernel_rfl) (by simp) (AllReadyH.cons rfl (fun K hK => ?_) AllReadyH.nil)
  go_simp
  go_at_call 38
  refine (CS.out _ K0.drew).mono ?_
  rintro e w5 ⟨v5, rfl, ho5, k5⟩
  have K5 : Keep noneOf w2 w5 := K0.drew.trans k5 (fun _ _ h => h)
  obtain ⟨A5, c5, rfl⟩ := own_shape ho5
  have hb5 := HA2.out.keep K5 (fun h => h)
  obtain ⟨y0, y1, y2⟩ := hb5.three
  have z0 := hb5.free 0
  have z1 := hb5.free 1
  have z2 := hb5.free 2
  have hb6 := hb5.put3 (.int .i64 0) (.int .u64 q.now) (.slice A5 g.st.length c5)
  have k6 := (((Keep.refl (fun i => i = a) w5).setCell (p := ⟨a, 0, none⟩) (fun _ => rfl) (.int .i64 0)).setCell (p := ⟨a, 1, none⟩) (fun _ => rfl) (.int .u64 q.now)).setCell (p := ⟨a, 2, none⟩) (fun _ => rfl) (.slice A5 g.st.length c5)
  have hs2 : a < w2.heap.size := HA2.out.lt
  have HF : Hid (ViewTold (0, q.now, g.st) w (.returned (.agg #[.int .i64 0, .int .u64 q.now, .slice A5 g.st.length c5])) (((w5.setCell ⟨a, 0, none⟩ (.int .i64 0)).setCell ⟨a, 1, none⟩ (.int .u64 q.now)).setCell ⟨a, 2, none⟩ (.slice A5 g.st.length c5))) := Lib.hid ⟨_, _, rfl, by
   have h1 : Sts w5 (fun b => w2.heap.size ≤ b) (.slice A5 g.st.length c5) g.st := own_row_in ho5 (fun b hb => by
    rcases ho5.2 with ⟨e, _⟩ | ⟨gg, cap, cur, e, hbb, _⟩
    ·
     rw [e] at hb; cases hb
    ·
     rw [e] at hb
     have : gg = b := by simpa [Value.ownBlock] using hb
     have : w2.heap.size ≤ gg := hbb
     omega)
   exact (h1.keep k6 (fun j _ hj e => by omega)).mono (fun j _ hj => by have := HAE.out; omega), (HK2.out.trans K5 (fun _ _ h => h)).trans k6 (fun j hj e => by have := HAE.out; omega)⟩
  go_wp2_with fail
  refine hK.out _ _ (Keep.wide K5) (fun hHeld => ?_)
  clear hK K
  try simp only [Act.put, zga, zgb, zgc, zgd, zge, zgf]
  refine' ztk 13 _ rfl (.inl ⟨by kernel_rfl, ?hy13⟩) ?_
  case hy13 => intro w' hSw; obtain ⟨_, _, _⟩ := MC.out w' hSw; go_simp; try with_reducible rfl
  simp only [Act.put, zga, zgb, zgc, zgd, zge, zgf]
  refine wpAnyH_ready (rs := [14]) (by kernel_rfl) (by simp) (AllReadyH.cons rfl (fun K hK => ?_) AllReadyH.nil)
  go_simp
  refine hK.out _ _ ((Keep.wide K5).trans k6 (fun _ _ e => e)) (fun hHeld => ?_)
  clear hK K
  try simp only [Act.put, zga, zgb, zgc, zgd, zge, zgf]
  refine wpAnyH_done (by kernel_rfl) ?_ _
  obtain ⟨r0, r1, r2⟩ := hb6.three
  clear K0 KS CS MC K5 k5 ho5 hb5 hb6 k6 y0 y1 y2 z0 z1 z2
  generalize ((w5.setCell ⟨a, 0, none⟩ (.int .i64 0)).setCell ⟨a, 1, none⟩ (.int .u64 q.now)).setCell ⟨a, 2, none⟩ (.slice A5 g.st.length c5) = wf at *
  go_wp2
  exact bodyPost_ret (v := .agg #[.int .i64 0, .int .u64 q.now, .slice A5 g.st.length c5]) (by simp [results, Tryz.results12, go_sem, r0, r1, r2]) rfl HF.out
end Go.Proofs.YtffoeodjbbkdjaaGreat
