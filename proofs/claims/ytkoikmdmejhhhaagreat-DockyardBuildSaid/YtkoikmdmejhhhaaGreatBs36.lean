import Derived.Test.YtkoikmdmejhhhaaGreatBs33
namespace Go.Proofs.YtkoikmdmejhhhaaGreat
open Go.RowKit
def Remembers (q : Qm) (D : Nat → Prop) (x : Nat) (w : World) (w' : World) : Prop := ∃ bv, QAt w' (grown w w' D) { q with bv := bv, built := builtP q.built x } ∧ Keep D w w'
set_option maxRecDepth 100000 in
set_option maxHeartbeats 4000000 in
set_option linter.unusedSimpArgs false in
theorem remember_any (w : World) (D : Nat → Prop) (q : Qm) (h : QAt w D q) (x : Nat) (h256 : q.built.length ≤ 256) :
    Calls Tryz.prog 118 #[.pointer (some ⟨q.p, 0, none⟩), .int .u64 (x : Int)] w fun e w' => (∃ v, e = .returned v) ∧ Remembers q D x w w' := by
  have HQ := Lib.hid h
  have IB := Lib.hid (isBuilt_any w D q h x)
  have HC := Lib.hid h256
  obtain ⟨A, c, hbv⟩ := own_shape h.bl
  have p5 : w.cell? ⟨q.p, 5, none⟩ = some (.slice A q.built.length c) := by rw [← hbv]; exact h.box.cell 5
  have f5 := h.box.free 5
  have HBV := Lib.hid hbv
  clear h h256 hbv
  go_enter Tryz.func118, Tryz.ntmps118
  go_wp2_with fail
  refine IB.out.mono ?_
  rintro e w1 ⟨rfl, rfl⟩
  clear IB
  cases hc : q.built.contains x with
  | true =>
    have HF : Hid (Remembers q D x w w) := Lib.hid ⟨q.bv, by
      have e : builtP q.built x = q.built := by unfold builtP; rw [if_pos hc]
      rw [e]
      exact HQ.out.grow (Keep.refl noneOf w), Keep.refl D w⟩
    clear hc
    go_wp2
    exact bodyPost_ret (v := .tuple #[]) (by simp [results, Tryz.results118, go_sem]) rfl ⟨⟨_, rfl⟩, HF.out⟩
  | false =>
    have HX : Hid (¬ q.built.contains x = true) := Lib.hid (by rw [hc]; decide)
    have KA := (Keep.refl noneOf w).alloc (.cells #[.int .u64 (x : Int)] 23)
    have HOB := Lib.hid (own_keep (ownK_kc.1 HQ.out.bl) KA (fun _ _ => id))
    have HON := Lib.hid (Many.one (ec := kc) (k := 1) (fun _ => rfl) w x 23)
    rw [HBV.out] at HOB
    clear hc
    go_wp2_with (at_builtin; refine wpList_append_many elems_u64 (fun _ => rfl) (ec := kc) (fun y u hu => by simp [kc] at hu; subst hu; rfl) (by decide) _ rfl _ _ rfl 0 _ _ q.built [x] (fun i => w.heap.size ≤ i) rfl rfl HOB.out HON.out ?qc1 ?qc2 ?qc3 ?_)
    case qc1 => have := HC.out; unfold maxLen; simp; omega
    case qc2 => have := HC.out; simp; omega
    case qc3 => exact Nat.zero_le _
    intro v' w2 hown hg hat
    replace hown : w2.ownsRow 0 23 1 v' (q.built ++ [x]).length ((q.built ++ [x]).flatMap kc) := by
      rw [List.length_append, List.flatMap_append]
      simpa using hown
    obtain ⟨b0, cap, _, rfl, _, hb0, hlc, hcm⟩ := own_mt (ec := kc) hown (by simp)
    have hlen : (q.built ++ [x]).length = q.built.length + 1 := by simp
    have hO : OwnK w2 (.slice (some ⟨b0, 0, none⟩) (q.built ++ [x]).length cap) (q.built ++ [x]) := ownK_kc.2 hown
    have kz : Keep (fun i => q.bv.ownBlock = some i) (w.alloc (.cells #[.int .u64 (x : Int)] 23)) w2 := (Keep.of_grown hg).mono (fun i _ e => by rw [HBV.out]; exact e.symm)
    have FIN : Hid (∃ D', QAt (w2.setCell ⟨q.p, 5, none⟩ (.slice (some ⟨b0, 0, none⟩) (q.built ++ [x]).length cap)) D' { q with bv := .slice (some ⟨b0, 0, none⟩) (q.built ++ [x]).length cap, built := q.built ++ [x] } ∧ (∀ i, D i → D' i) ∧ (∀ i, D' i → D i ∨ w.heap.size ≤ i) ∧ Keep D w (w2.setCell ⟨q.p, 5, none⟩ (.slice (some ⟨b0, 0, none⟩) (q.built ++ [x]).length cap)) ∧ (w2.cell? ⟨q.p, 5, none⟩ = some (.slice A q.built.length c) ∧ w2.frozen? ⟨q.p, 5, none⟩ = false)) := Lib.hid (by
      have qa := HQ.out.stay KA
      have hpb : q.bv.ownBlock ≠ some q.p := qa.b_ne_p
      have b2 := qa.box.keep kz hpb
      have kp := (Keep.refl (fun i => i = q.p) w2).setCell (p := ⟨q.p, 5, none⟩) (fun _ => rfl) (.slice (some ⟨b0, 0, none⟩) (q.built ++ [x]).length cap)
      have kk : Keep (fun i => i = q.p ∨ q.bv.ownBlock = some i) (w.alloc (.cells #[.int .u64 (x : Int)] 23)) (w2.setCell ⟨q.p, 5, none⟩ (.slice (some ⟨b0, 0, none⟩) (q.built ++ [x]).length cap)) := (kz.mono (fun _ _ e => Or.inr e)).trans kp (fun _ _ e => Or.inl e)
      have hb0p : b0 ≠ q.p := fun e => (hb0.ne b2 (by decide)) e
      have hat' : q.bv.ownBlock = some b0 ∨ b0 = w.heap.size + 1 := by
        rw [HBV.out]
        rcases hat with e | e
        · left; exact e.symm
        · right; simpa [Value.ownBlock] using e
      have hD : ∀ i, D i → i < w.heap.size := HQ.out.lt
      have hs2 : w.heap.size + 1 ≤ w2.heap.size := by have := kz.size; simpa using this
      refine ⟨fun i => D i ∨ i = b0, ?_, fun i hi => .inl hi, ?_, ?_, by rw [← HBV.out]; exact b2.cell 5, b2.free 5⟩
      · refine qa.slices kk (fun j hj => hj.elim (fun e => .inl e) (fun e => .inr (.inr e))) (ng := q.ng) (gv := q.gv) (gs := q.gs) (b2.put 5 _)
          (own_keep qa.gr kk (fun j hj e => e.elim (fun e => qa.g_ne_p (e ▸ hj)) (fun e => qa.g_ne_b j hj e)))
          (own_keep hO kp (fun j hj e => hb0p (by have : b0 = j := by simpa [Value.ownBlock] using hj
                                                  rw [this]; exact e)))
          (fun g hg => .inl hg) (fun g hg _ _ hn => absurd hg hn) qa.apart (fun b hb => .inl hb)
          (fun b hb => by
            have e2 : b0 = b := by simpa [Value.ownBlock] using hb
            subst e2
            rcases hat' with e | e
            · exact .inl e
            · exact .inr ⟨fun hd => by have := hD _ hd; omega, .inr rfl, rfl⟩)
          (fun _ h => .inl h) (fun j hj => ?_)
        rcases hj with hj | rfl
        · have := hD j hj
          have := kp.size
          omega
        · exact Nat.lt_of_lt_of_le hb0.lt kp.size
      · rintro i (hi | rfl)
        · exact .inl hi
        · rcases hat' with e | e
          · exact .inl (HQ.out.inD _ (.inr (.inr (.inr (.inr (.inl e))))))
          · exact .inr (by omega)
      · exact (Keep.wide KA).trans kk (fun i _ e => e.elim (fun e => e ▸ HQ.out.inD _ (.inl rfl)) (fun e => HQ.out.inD _ (.inr (.inr (.inr (.inr (.inl e))))))))
    obtain ⟨D', hq3, hDD, hDn, hk3, y5, z5⟩ := FIN.out
    have HQ3 := Lib.hid hq3
    have HK3 := Lib.hid hk3
    have HDD := Lib.hid hDD
    have HDN := Lib.hid hDn
    clear FIN hown hg hat hO kz hb0 KA HOB HON p5 f5 hq3 hk3 hDD hDn
    rw [hlen] at hlc HQ3 HK3 ⊢
    unfold maxLen at hcm
    by_cases h255 : q.built.length = 256
    · have hle : (256 : Int) < (q.built.length : Int) + 1 := by omega
      have hl2 : 2 ≤ (q.built ++ [x]).length := by rw [hlen]; omega
      have hOK := HQ3.out.bl
      have DL := Lib.hid (deleteK_any _ b0 cap (q.built ++ [x]) (by
        have := HQ3.out.bl
        unfold OwnK at this ⊢
        dsimp only at this
        rw [hlen] at this ⊢
        exact this) hl2)
      rw [hlen] at DL
      have hel : ((q.built ++ [x]).eraseIdx 0).length = q.built.length := by rw [List.length_eraseIdx, if_pos (by omega), hlen]; omega
      have HEL := Lib.hid hel
      have HLEN := Lib.hid hlen
      have p5' : (w2.setCell ⟨q.p, 5, none⟩ (.slice (some ⟨b0, 0, none⟩) (q.built.length + 1) cap)).cell? ⟨q.p, 5, none⟩ = some (.slice (some ⟨b0, 0, none⟩) (q.built.length + 1) cap) := HQ3.out.box.cell 5
      have H255 := Lib.hid h255
      clear hl2 hlen hel h255
      have fp5' : (w2.setCell ⟨q.p, 5, none⟩ (.slice (some ⟨b0, 0, none⟩) (q.built.length + 1) cap)).frozen? ⟨q.p, 5, none⟩ = false := HQ3.out.box.free 5
      go_wp2_with fail
      refine DL.out.mono ?_
      rintro e w4 ⟨rfl, ho4, k4⟩
      generalize w2.setCell ⟨q.p, 5, none⟩ (.slice (some ⟨b0, 0, none⟩) (q.built.length + 1) cap) = w3 at *
      have hel := HEL.out
      have hlen := HLEN.out
      have h255 := H255.out
      rw [hel]
      have hO4 : OwnK w4 (.slice (some ⟨b0, 0, none⟩) q.built.length cap) ((q.built ++ [x]).eraseIdx 0) := by
        have := ownK_kc.2 ho4
        rw [hel] at this
        exact this
      have hq := HQ3.out
      have hbo : ({ q with bv := .slice (some ⟨b0, 0, none⟩) (q.built.length + 1) cap, built := q.built ++ [x] } : Qm).bv.ownBlock = some b0 := rfl
      have hb0p : b0 ≠ q.p := fun e => hq.b_ne_p (by rw [hbo, e])
      have b4 := hq.box.keep k4 (fun e => hb0p e.symm)
      have kp := (Keep.refl (fun i => i = q.p) w4).setCell (p := ⟨q.p, 5, none⟩) (fun _ => rfl) (.slice (some ⟨b0, 0, none⟩) q.built.length cap)
      have kk : Keep (fun i => i = q.p ∨ i = b0) w3 (w4.setCell ⟨q.p, 5, none⟩ (.slice (some ⟨b0, 0, none⟩) q.built.length cap)) := (k4.mono (fun _ _ e => Or.inr e)).trans kp (fun _ _ e => Or.inl e)
      have hb0D : D' b0 := hq.inD _ (.inr (.inr (.inr (.inr (.inl rfl)))))
      have hpD : D' q.p := hq.inD _ (.inl rfl)
      have hq5 := hq.slices kk (fun j hj => hj.elim (fun e => .inl e) (fun e => .inr (.inr (by rw [e]; rfl)))) (ng := q.ng) (gv := q.gv) (gs := q.gs) (ks := (q.built ++ [x]).eraseIdx 0) (D' := D') (b4.put 5 (.slice (some ⟨b0, 0, none⟩) q.built.length cap))
        (own_keep hq.gr kk (fun j hj e => e.elim (fun e => hq.g_ne_p (e ▸ hj)) (fun e => hq.g_ne_b j hj (by rw [e]; rfl))))
        (own_keep hO4 kp (fun j hj e => hb0p (by have : b0 = j := by simpa [Value.ownBlock] using hj
                                                 rw [this]; exact e)))
        (fun g hg => .inl hg) (fun g hg _ _ hn => absurd hg hn) hq.apart (fun b hb => .inl hb) (fun b hb => .inl hb) (fun _ h => h) (fun j hj => Nat.lt_of_lt_of_le (hq.lt j hj) kk.size)
      have hkD : Keep D w (w4.setCell ⟨q.p, 5, none⟩ (.slice (some ⟨b0, 0, none⟩) q.built.length cap)) := HK3.out.trans kk (fun i hi e => (HDN.out i (e.elim (fun e => e ▸ hpD) (fun e => e ▸ hb0D))).elim id (fun h => by omega))
      have hbe : builtP q.built x = (q.built ++ [x]).eraseIdx 0 := by
        unfold builtP
        rw [if_neg HX.out, hlen, show q.built.length + 1 - 256 = 1 by omega, List.eraseIdx_zero, List.drop_one]
      have HF : Hid (Remembers q D x w (w4.setCell ⟨q.p, 5, none⟩ (.slice (some ⟨b0, 0, none⟩) q.built.length cap))) := Lib.hid ⟨_, by
        rw [hbe]
        exact hq5.wide (fun i hi => (HDN.out i hi).imp_right (fun e => ⟨e, hq5.lt i hi⟩)) (grown_lt HQ.out.lt hkD.size), hkD⟩
      have y4 : w4.cell? ⟨q.p, 5, none⟩ = some (.slice (some ⟨b0, 0, none⟩) (q.built.length + 1) cap) := b4.cell 5
      have z4 := b4.free 5
      clear hq hbo b4 kp kk hb0D hpD hq5 hkD hbe hO4 ho4 k4 DL p5' fp5' hOK hel hlen h255
      go_wp2
      go_end0
      exact ⟨⟨_, rfl⟩, HF.out⟩
    · have hle : ¬ ((256 : Int) < (q.built.length : Int) + 1) := by have := HC.out; omega
      have HF : Hid (Remembers q D x w (w2.setCell ⟨q.p, 5, none⟩ (.slice (some ⟨b0, 0, none⟩) (q.built.length + 1) cap))) := Lib.hid ⟨_, by
        have e : builtP q.built x = q.built ++ [x] := by
          unfold builtP
          rw [if_neg HX.out, hlen, show q.built.length + 1 - 256 = 0 by have := HC.out; omega]
          rfl
        rw [e]
        exact HQ3.out.wide (fun i hi => (HDN.out i hi).imp_right (fun e => ⟨e, HQ3.out.lt i hi⟩)) (grown_lt HQ.out.lt HK3.out.size), HK3.out⟩
      clear h255 hlc hcm
      go_wp2
      go_end0
      exact ⟨⟨_, rfl⟩, HF.out⟩
end Go.Proofs.YtkoikmdmejhhhaaGreat
