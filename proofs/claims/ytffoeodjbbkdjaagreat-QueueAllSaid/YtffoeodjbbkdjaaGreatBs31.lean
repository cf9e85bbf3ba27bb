import Derived.Test.YtffoeodjbbkdjaaGreatBs26
import Derived.Test.YtffoeodjbbkdjaaGreatBs28
namespace Go.Proofs.YtffoeodjbbkdjaaGreat
open Go.RowKit
theorem QAt.oneG {w : World} {D : Nat → Prop} {q : Qm} (h : QAt w D q) : ∀ g ∈ q.gs, g.gv.oneCell' = true ∧ g.sv.oneCell' = true := fun g hg => by
 obtain ⟨A, c, e, _⟩ := (h.tg g hg).1
 obtain ⟨B, d, e2⟩ := own_shape (h.st g hg)
 rw [e, e2]
 exact ⟨rfl, rfl⟩
theorem gm_erase (l : List Gm) (i : Nat) : (l.eraseIdx i).map Gm.plain = (l.map Gm.plain).eraseIdx i := by
 rw [List.eraseIdx_eq_take_drop_succ, List.eraseIdx_eq_take_drop_succ, List.map_append, List.map_take, List.map_drop]
theorem apart_sub {l m : List Gm} (h : Apart l) (hs : m.Sublist l) : Apart m := List.Pairwise.sublist hs h
set_option maxRecDepth 100000 in
set_option maxHeartbeats 4000000 in
set_option linter.unusedSimpArgs false in
theorem qcancel_any (w : World) (D : Nat → Prop) (q : Qm) (h : QAt w D q) (hi : Inv q.plain) (c : Cm) :
  Calls Tryz.prog 62 #[.pointer (some ⟨q.p, 0, none⟩), c.agg] w (Does q D (cancelP q.plain c.plain) w) := by
 have HB := Lib.hid (busy_begin h c)
 have HI := Lib.hid hi
 unfold Cm.agg
 generalize hR : cancelP q.plain c.plain = R
 have HR := Lib.hid hR
 clear h hi hR
 go_enter Tryz.func62, Tryz.ntmps62
 go_upto_region 1 with fail
 generalize (w.alloc (.cells #[.int .i64 c.kind, .int .u64 c.ses, .int .u64 c.seq, c.gv, .int .u64 c.id, .int .u64 c.tok, .bool c.good, .int .u64 c.time] 37)).alloc (.cells #[.int .i64 0, .int .u64 0, .int .u64 0, .int .u64 0, .string ⟨#[]⟩, .string ⟨#[]⟩] 40) = w1 at *
 generalize w.heap.size + 1 = a at *
 generalize hcb : w.heap.size = cb at *
 clear hcb
 obtain ⟨B, M⟩ := HB.out
 have m4 : w1.cell? ⟨cb, 4, none⟩ = some (.int .u64 c.id) := M.cm.cell 4
 have FD := Lib.hid (qfind_any w1 D q B.at_ c.id)
 clear B M
 go_wp2_with fail
 refine FD.out.mono ?_
 rintro e w2 ⟨rfl, k2⟩
 have HB2 := Lib.hid (HB.out.1.stay k2)
 have HM2 := Lib.hid (HB.out.2.stay k2)
 clear FD HB k2 m4
 cases hf : findG q.plain c.id with
 | none =>
  have hr : R = (q.plain, An.err 121) := by
   rw [← HR.out]
   unfold cancelP
   rw [show c.plain.id = c.id from rfl, hf]
  subst hr
  clear HR hf
  simp only [Option.getD, Option.isSome]
  have RF := Lib.hid (refusal_lit w2 121)
  go_wp2_with fail
  refine RF.out.mono ?_
  rintro e w8 ⟨rfl, k8⟩
  have HB8 := Lib.hid (HB2.out.stay k8)
  obtain ⟨c0, c1, c2, c3, c4, c5⟩ := HB8.out.an.six
  obtain ⟨f0, f1, f2, f3, f4, f5⟩ := HB8.out.an.free6
  clear RF k8
  go_wp2
  have hbx := HB8.out.box ⟨121, 0, 0, 0, ⟨#[]⟩, ⟨#[]⟩⟩
  have hd := HB8.out.does ⟨121, 0, 0, 0, ⟨#[]⟩, ⟨#[]⟩⟩
  dsimp only [sixPut] at hbx hd
  generalize (((((w8.setCell ⟨a, 0, none⟩ (.int .i64 (121))).setCell ⟨a, 1, none⟩ (.int .u64 (0))).setCell ⟨a, 2, none⟩ (.int .u64 (0))).setCell ⟨a, 3, none⟩ (.int .u64 (0))).setCell ⟨a, 4, none⟩ (.string ⟨#[]⟩)).setCell ⟨a, 5, none⟩ (.string ⟨#[]⟩) = wf at hbx hd ⊢
  obtain ⟨r0, r1, r2, r3, r4, r5⟩ := hbx.six
  exact bodyPost_ret (v := An.agg ⟨121, 0, 0, 0, ⟨#[]⟩, ⟨#[]⟩⟩) (by simp [results, Tryz.results62, go_sem, An.agg, r0, r1, r2, r3, r4, r5]) rfl hd
 | some i =>
  obtain ⟨g, hg, hgid⟩ : ∃ g, q.gs[i]? = some g ∧ g.id = c.id := by
   rw [find_plain] at hf
   obtain ⟨x, hx, hp⟩ := findIdx_at hf
   exact ⟨x, hx, of_decide_eq_true hp⟩
  have HG := Lib.hid hg
  have HF := Lib.hid hf
  have B := HB2.out
  have hn := B.at_.few
  unfold maxLen at hn
  obtain ⟨g0, cap, hgv, hg0D, hg0lt, hg0p, d0, d1, d2, fr2⟩ := B.at_.rows hg
  have HGV := Lib.hid hgv
  have p4 : w2.cell? ⟨q.p, 4, none⟩ = some (.slice (some ⟨g0, 0, none⟩) q.gs.length cap) := by rw [← hgv]; exact B.at_.box.cell 4
  have HS := Lib.hid (B.at_.states (List.mem_of_getElem? hg))
  obtain ⟨As, cs, hsv⟩ := HS.out.shape
  have HSV := Lib.hid hsv
  rw [hsv] at d2
  have hil := (List.getElem?_eq_some_iff.1 hg).1
  have q0 : (0 : Int) ≤ (i : Int) := by omega
  have q1 : (i : Int) < (q.gs.length : Int) := by omega
  have OV := Lib.hid (over_any w2 _ _ g.st HS.out)
  rw [hsv] at OV
  have h32 := (inv_few HI.out (List.mem_of_getElem? hg)).1
  have HRR : Hid (R = (if overB g.st = true then { q.plain with gs := q.plain.gs.eraseIdx i } else withG q.plain i (repl 6 (fun x => !finB x.s) g.st), ⟨0, c.id, 0, 0, ⟨#[]⟩, ⟨#[]⟩⟩)) := Lib.hid (by
   rw [← HR.out]
   unfold cancelP
   rw [show c.plain.id = c.id from rfl, hf]
   dsimp only
   rw [getD_some (show q.plain.gs[i]? = some g.plain from gm_at hg)]
   rfl)
  clear HR hf hgv hsv hg d0 d1 fr2 B hg0D
  simp only [Option.getD, Option.isSome]
  go_wp2_with fail
  refine OV.out.mono ?_
  rintro e w3 ⟨rfl, k3⟩
  have HB3 := Lib.hid (HB2.out.stay k3)
  have HM3 := Lib.hid (HM2.out.stay k3)
  clear HB2 HM2 OV k3 d2 p4
  cases ho : overB g.st with
  | true =>
   rw [ho, if_pos rfl] at HRR
   have B := HB3.out
   have p4 : w3.cell? ⟨q.p, 4, none⟩ = some (.slice (some ⟨g0, 0, none⟩) q.gs.length cap) := by rw [← HGV.out]; exact B.at_.box.cell 4
   have hgr := B.at_.gr
   unfold OwnG at hgr
   rw [HGV.out] at hgr
   have DL := Lib.hid (deleteG_any w3 g0 cap i q.gs hgr hil B.at_.oneG)
   have hee : ((q.gs.eraseIdx i).length : Nat) = q.gs.length - 1 := by rw [List.length_eraseIdx, if_pos hil]
   have FIN : Hid (∀ w4, w4.ownsRow 0 59 3 (.slice (some ⟨g0, 0, none⟩) (q.gs.eraseIdx i).length cap) (q.gs.eraseIdx i).length ((q.gs.eraseIdx i).flatMap Gm.cells) → Keep (fun b => b = g0) w3 w4 →
     (w4.cell? ⟨q.p, 4, none⟩ = some (.slice (some ⟨g0, 0, none⟩) q.gs.length cap) ∧ w4.frozen? ⟨q.p, 4, none⟩ = false) ∧ ∃ r, Busy w (w4.setCell ⟨q.p, 4, none⟩ (.slice (some ⟨g0, 0, none⟩) (q.gs.eraseIdx i).length cap)) D D q r a ∧ CmAt w (w4.setCell ⟨q.p, 4, none⟩ (.slice (some ⟨g0, 0, none⟩) (q.gs.eraseIdx i).length cap)) D a cb c ∧ r.plain = { q.plain with gs := q.plain.gs.eraseIdx i }) := Lib.hid fun w4 ho4 k4 => by
    have B := HB3.out
    have M := HM3.out
    have hEg0 : D g0 := B.at_.inD _ (.inr (.inr (.inr (.inl (by rw [HGV.out]; rfl)))))
    have hEp : D q.p := B.at_.inD _ (.inl rfl)
    have b4 := B.at_.box.keep k4 (fun e => hg0p e.symm)
    have kp := (Keep.refl (fun i => i = q.p) w4).setCell (p := ⟨q.p, 4, none⟩) (fun _ => rfl) (.slice (some ⟨g0, 0, none⟩) (q.gs.eraseIdx i).length cap)
    have kk : Keep (fun i => i = q.p ∨ i = g0) w3 (w4.setCell ⟨q.p, 4, none⟩ (.slice (some ⟨g0, 0, none⟩) (q.gs.eraseIdx i).length cap)) := (k4.mono (fun _ _ e => Or.inr e)).trans kp (fun _ _ e => Or.inl e)
    have b5 := b4.put 4 (.slice (some ⟨g0, 0, none⟩) (q.gs.eraseIdx i).length cap)
    have hq := B.at_.slices kk (fun j hj => hj.elim (fun e => .inl e) (fun e => .inr (.inl (by rw [HGV.out, e]; rfl)))) (ng := q.ng) (gv := .slice (some ⟨g0, 0, none⟩) (q.gs.eraseIdx i).length cap) (bv := q.bv) (gs := q.gs.eraseIdx i) (ks := q.built) (D' := D) b5
     (own_keep ho4 kp (fun j hj e => hg0p (by have : g0 = j := by simpa [Value.ownBlock] using hj
                                              rw [this]; exact e)))
     (own_keep B.at_.bl kk (fun j hj e => e.elim (fun e => B.at_.b_ne_p (e ▸ hj)) (fun e => B.at_.g_ne_b g0 (by rw [HGV.out]; rfl) (e ▸ hj))))
     (fun x hx => .inl (List.mem_of_mem_eraseIdx hx)) (fun x hx _ _ hn => absurd (List.mem_of_mem_eraseIdx hx) hn) (apart_sub B.at_.apart (List.eraseIdx_sublist ..))
     (fun b hb => .inl (by rw [HGV.out]; exact hb)) (fun b hb => .inl hb) (fun _ h => h) (fun j hj => Nat.lt_of_lt_of_le (B.at_.lt j hj) kk.size)
    have hsub : ∀ j, (j = q.p ∨ j = g0) → D j := fun j hj => hj.elim (fun e => e ▸ hEp) (fun e => e ▸ hEg0)
    refine ⟨⟨by rw [← HGV.out]; exact b4.cell 4, b4.free 4⟩, _, B.turn kk hsub hq rfl (fun _ h => h) (fun _ h => .inl h), M.turn kk hsub (fun _ h => .inl h), ?_⟩
    show Qp.mk q.now q.ng q.nt q.ses ((q.gs.eraseIdx i).map Gm.plain) q.built = _
    rw [gm_erase]
    rfl
   clear B hgr
   go_wp2_with fail
   refine DL.out.mono ?_
   rintro e w4 ⟨rfl, ho4, k4⟩
   obtain ⟨⟨y4, z4⟩, r, hB5, hM5, hpl⟩ := FIN.out w4 ho4 k4
   have HB5 := Lib.hid hB5
   have HPL := Lib.hid hpl
   have HM5 := Lib.hid hM5
   clear FIN DL ho4 k4 p4 hB5 hpl hM5 HB3 HM3 hee
   have M := HM5.out
   have m4 := M.cm.cell 4
   obtain ⟨c0, c1, c2, c3, c4, c5⟩ := HB5.out.an.six
   obtain ⟨f0, f1, f2, f3, f4, f5⟩ := HB5.out.an.free6
   clear M
   go_wp2
   have hbx := HB5.out.box ⟨0, c.id, 0, 0, ⟨#[]⟩, ⟨#[]⟩⟩
   have hd := HB5.out.does ⟨0, c.id, 0, 0, ⟨#[]⟩, ⟨#[]⟩⟩
   dsimp only [sixPut] at hbx hd
   generalize ((((((w4.setCell ⟨q.p, 4, none⟩ (.slice (some ⟨g0, 0, none⟩) (q.gs.eraseIdx i).length cap)).setCell ⟨a, 0, none⟩ (.int .i64 (0))).setCell ⟨a, 1, none⟩ (.int .u64 (c.id))).setCell ⟨a, 2, none⟩ (.int .u64 (0))).setCell ⟨a, 3, none⟩ (.int .u64 (0))).setCell ⟨a, 4, none⟩ (.string ⟨#[]⟩)).setCell ⟨a, 5, none⟩ (.string ⟨#[]⟩) = wf at hbx hd ⊢
   obtain ⟨r0, r1, r2, r3, r4, r5⟩ := hbx.six
   rw [HPL.out] at hd
   rw [HRR.out]
   exact bodyPost_ret (v := An.agg ⟨0, c.id, 0, 0, ⟨#[]⟩, ⟨#[]⟩⟩) (by simp [results, Tryz.results62, go_sem, An.agg, r0, r1, r2, r3, r4, r5]) rfl hd
  | false =>
   rw [ho, if_neg (by decide)] at HRR
   have HS3 := Lib.hid (HB3.out.at_.states (List.mem_of_getElem? HG.out))
   rw [HSV.out] at HS3
   have CA := Lib.hid (cancel_own w3 _ _ g.st HS3.out (by rw [reach_is]; omega))
   have hrow := HB3.out.at_.rows HG.out
   rw [HGV.out, HSV.out] at hrow
   obtain ⟨g9, cap9, e9, _, _, _, _, _, d2, _⟩ := hrow
   obtain ⟨rfl, rfl⟩ : g0 = g9 ∧ cap = cap9 := by simpa using e9
   have FIN : Hid (∀ w4 gb, Keep noneOf w3 w4 → w3.heap.size ≤ gb → (repl 6 (fun x => !finB x.s) g.st).length ≤ maxLen → Box w4 gb 61 (svs (repl 6 (fun x => !finB x.s) g.st)) →
     (w4.cell? ⟨g0, i * 3 + 2, none⟩ = some (.slice As g.st.length cs) ∧ w4.frozen? ⟨g0, i * 3 + 2, none⟩ = false) ∧ ∃ (E : Nat → Prop) (r : Qm), Busy w (w4.setCell ⟨g0, i * 3 + 2, none⟩ (.slice (some ⟨gb, 0, none⟩) (repl 6 (fun x => !finB x.s) g.st).length (repl 6 (fun x => !finB x.s) g.st).length)) D E q r a ∧ CmAt w (w4.setCell ⟨g0, i * 3 + 2, none⟩ (.slice (some ⟨gb, 0, none⟩) (repl 6 (fun x => !finB x.s) g.st).length (repl 6 (fun x => !finB x.s) g.st).length)) E a cb c ∧ r.plain = withG q.plain i (repl 6 (fun x => !finB x.s) g.st)) := Lib.hid fun w4 gb k4 hgb hml hbx => by
    have B := HB3.out
    have M := HM3.out
    have hEg0 : D g0 := B.at_.inD _ (.inr (.inr (.inr (.inl (by rw [HGV.out]; rfl)))))
    have q4 := B.at_.stay k4
    obtain ⟨g9, cap9, e9, _, _, _, _, _, y2, z2⟩ := q4.rows HG.out
    rw [HGV.out] at e9
    obtain ⟨rfl, rfl⟩ : g0 = g9 ∧ cap = cap9 := by simpa using e9
    rw [HSV.out] at y2
    have q5 := q4.setSts HG.out HGV.out (svs_own hbx hml) (D' := grown w3 w4 D) (fun j hj => .inl hj) (grown_lt B.at_.lt k4.size) (fun b e => by
     have e2 : gb = b := by simpa [Value.ownBlock] using e
     subst e2
     exact ⟨.inr ⟨hgb, hbx.lt⟩, fun e => by have := B.at_.lt _ e; omega⟩)
    have ks := (Keep.wide k4).trans ((Keep.refl (fun j => j = g0) w4).setCell (p := ⟨g0, i * 3 + 2, none⟩) (fun _ => rfl) (.slice (some ⟨gb, 0, none⟩) (repl 6 (fun x => !finB x.s) g.st).length (repl 6 (fun x => !finB x.s) g.st).length)) (fun _ _ e => e)
    refine ⟨⟨y2, z2⟩, _, _, B.turn ks (fun j e => e ▸ hEg0) q5 rfl (fun j hj => .inl hj) (fun j hj => hj.imp_right (fun e => e.1)), M.turn ks (fun j e => e ▸ hEg0) (fun j hj => hj.imp_right (fun e => e.1)), ?_⟩
    show Qp.mk q.now q.ng q.nt q.ses ((q.gs.set i _).map Gm.plain) q.built = _
    rw [gm_set HG.out]
    rfl
   go_wp2_with fail
   refine CA.out.mono ?_
   rintro e w4 ⟨gb, rfl, k4, hgb, hml, hbx⟩
   obtain ⟨⟨y4, z4⟩, E, r, hB5, hM5, hpl⟩ := FIN.out w4 gb k4 hgb hml hbx
   have HB5 := Lib.hid hB5
   have HPL := Lib.hid hpl
   have HM5 := Lib.hid hM5
   clear FIN CA hbx k4 hgb hml hB5 hpl hM5 HB3 HM3 d2 HS3
   have M := HM5.out
   have m4 := M.cm.cell 4
   obtain ⟨c0, c1, c2, c3, c4, c5⟩ := HB5.out.an.six
   obtain ⟨f0, f1, f2, f3, f4, f5⟩ := HB5.out.an.free6
   clear M
   go_wp2
   have hbx := HB5.out.box ⟨0, c.id, 0, 0, ⟨#[]⟩, ⟨#[]⟩⟩
   have hd := HB5.out.does ⟨0, c.id, 0, 0, ⟨#[]⟩, ⟨#[]⟩⟩
   dsimp only [sixPut] at hbx hd
   generalize ((((((w4.setCell ⟨g0, i * 3 + 2, none⟩ (.slice (some ⟨gb, 0, none⟩) (repl 6 (fun x => !finB x.s) g.st).length (repl 6 (fun x => !finB x.s) g.st).length)).setCell ⟨a, 0, none⟩ (.int .i64 (0))).setCell ⟨a, 1, none⟩ (.int .u64 (c.id))).setCell ⟨a, 2, none⟩ (.int .u64 (0))).setCell ⟨a, 3, none⟩ (.int .u64 (0))).setCell ⟨a, 4, none⟩ (.string ⟨#[]⟩)).setCell ⟨a, 5, none⟩ (.string ⟨#[]⟩) = wf at hbx hd ⊢
   obtain ⟨r0, r1, r2, r3, r4, r5⟩ := hbx.six
   rw [HPL.out] at hd
   rw [HRR.out]
   exact bodyPost_ret (v := An.agg ⟨0, c.id, 0, 0, ⟨#[]⟩, ⟨#[]⟩⟩) (by simp [results, Tryz.results62, go_sem, An.agg, r0, r1, r2, r3, r4, r5]) rfl hd
end Go.Proofs.YtffoeodjbbkdjaaGreat
