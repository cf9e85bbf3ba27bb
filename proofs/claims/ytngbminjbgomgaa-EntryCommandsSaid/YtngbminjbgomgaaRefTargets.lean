/-
  The document's graphs, as bytes: dockyardref04.Targets.
-/
import Derived.Test.YtngbminjbgomgaaRefRight
import Derived.Test.YtngbminjbgomgaaRefEnc
namespace Go.Proofs.Ytngbminjbgomgaa
open Go.RowKit

theorem Fresh.box {w w1 w2 : World} {v : Value} {bs : List UInt8} {g : Nat} {t : TypeId} {cs : Array Value} (h : Fresh w w1 v bs) (gr : w1.grownBy w2 v.ownBlock) (X : Box w1 g t cs) (ht : 5 ≠ t) : Box w2 g t cs := by
  refine X.keep (Keep.of_grown gr) (fun e => ?_)
  rcases h.own.2 with ⟨e', _⟩ | ⟨g', cap, cur, e', _, hg, _⟩
  · rw [e'] at e; cases e
  · rw [e'] at e
    have : g = g' := by injection e
    exact Box.ne (t := 5) (cs := cur) hg X ht this.symm
theorem Fresh.shape {w w1 : World} {v : Value} {bs : List UInt8} (h : Fresh w w1 v bs) : ∃ A c, v = .slice A bs.length c := own_shape h.own
theorem Fresh.len {w w1 : World} {A : Option Addr} {n c : Nat} {bs : List UInt8} (h : Fresh w w1 (.slice A n c) bs) : n = bs.length := by
  obtain ⟨_, _, e⟩ := h.shape
  injection e

set_option maxRecDepth 100000 in
set_option maxHeartbeats 4000000 in
theorem refTargets_any (w : World) (D : Nat → Prop) (v : Value) (ts : List Tg) (h : Tgs w D v ts) (hf : gFits ts = true) :
    Calls Try.prog 40 #[.agg #[v]] w fun e w' => ∃ u, e = .returned u ∧ Fresh w w' u (graphBytes ts) := by
  obtain ⟨i1, hi1, hz0, hz1, hz2⟩ := info_parts u8info
  have hT := h.2
  obtain ⟨A, c, rfl, hlc, hcm, hn, hxl, hc⟩ := h.1
  unfold maxLen at hcm
  obtain ⟨hf1, hf2⟩ := gFits_parts hf
  have HGS := Lib.hid (graphBytes_small ts hf)
  have HF2 := Lib.hid hf2
  have HC := Lib.hid hc
  have HT := Lib.hid hT
  have hlim := Lib.hid lim_is
  have K0 := (Keep.refl noneOf w).alloc (.cells #[.slice A ts.length c] 36)
  have X0 := Box.new w 36 #[.slice A ts.length c]
  have RV := Lib.hid (refVar_any (w.alloc (.cells #[.slice A ts.length c] 36)) ts.length (by omega))
  have HK0 := Lib.hid K0
  have HX0 := Lib.hid X0
  clear hc hT h hxl hf hf2 K0 X0
  go_enter Try.func40, Try.ntmps40
  go_wp2_with fail
  refine RV.out.mono ?_
  rintro e w1 ⟨A1, c1, rfl, F1⟩
  have HF1 := Lib.hid (Fresh.after HK0.out F1)
  have HX1 := Lib.hid (HX0.out.keep F1.keep id)
  clear F1 RV HK0 HX0
  go_wp2
  go_loopw [3, 4] (fun b i wr => ∃ (k : Nat) (B : Option Addr) (cb : Nat), k ≤ ts.length ∧ i = .int .i64 k ∧ b = .slice B (varBytes ts.length ++ allTgs (ts.take k)).length cb ∧ Fresh w wr (.slice B (varBytes ts.length ++ allTgs (ts.take k)).length cb) (varBytes ts.length ++ allTgs (ts.take k)) ∧ Box wr w.heap.size 36 #[.slice A ts.length c]) (fun _ i _ => ts.length - (intOf i).toNat)
  case atStart =>
    have e0 : varBytes ts.length ++ allTgs (ts.take 0) = varBytes ts.length := by simp [allTgs]
    refine ⟨0, A1, c1, Nat.zero_le _, rfl, ?_, ?_, HX1.out⟩
    · rw [e0]
    · rw [e0]; exact HF1.out
  case round =>
    obtain ⟨k, B, cb, hk, rfl, rfl, hF, hX⟩ := hrel
    have x0 : wr.cell? ⟨w.heap.size, 0, none⟩ = some (.slice A ts.length c) := hX.cell 0
    have hz := hX.lt
    have hkeep := hF.keep
    have HFR := Lib.hid hF
    have HXX := Lib.hid hX
    clear HF1 HX1 hX hF
    by_cases hlt : k < ts.length
    · obtain ⟨ad, rfl, hsp, hblk, hD, hcell⟩ := HC.out (by omega)
      obtain ⟨b, o, sp⟩ := ad
      simp only at hsp hblk hD hcell
      subst hsp
      have hroom := allTgs_room ts k hlt
      have htake := allTgs_take ts k hlt
      have HS := Lib.hid (List.getElem?_eq_getElem hlt)
      have hlies := HT.out _ (List.getElem_mem hlt)
      have hfit := HF2.out _ (List.getElem_mem hlt)
      generalize ts[k] = t at *
      have hcc : ∀ j, j < 3 → ∀ x, t.cells[j]? = some x → wr.cell? ⟨b, o + (k * 3 + j), none⟩ = some x := fun j hj x hx =>
        (hkeep.cell (p := ⟨b, o + (k * 3 + j), none⟩) hblk id).trans (hcell _ x ((Nat.mul_comm k 3 ▸ cells_at HS.out j hj).trans hx))
      have c0 : wr.cell? ⟨b, o + k * 3, none⟩ = some (.string t.name) := hcc 0 (by decide) _ rfl
      have c1 : wr.cell? ⟨b, o + k * 3 + 1, none⟩ = some (.string t.cmd) := hcc 1 (by decide) _ rfl
      have c2 : wr.cell? ⟨b, o + k * 3 + 2, none⟩ = some t.nv := hcc 2 (by decide) _ rfl
      clear hcc hcell
      obtain ⟨nm, cm, nv, ss⟩ := t
      obtain ⟨p1, p2, p3, p4⟩ := fits_parts hfit
      obtain ⟨l1, l2, ⟨A2, cp2, hnv, hl2, hm2, _, _, hrow⟩, hsz⟩ := hlies
      simp only at c0 c1 c2 l1 l2 hnv hl2 hrow hsz p1 p2 p3 p4
      subst hnv
      unfold maxLen at l1 l2 hm2
      have hgl : (graphBytes ts).length = (varBytes ts.length).length + (allTgs ts).length := by simp [graphBytes]
      have htg := tgBytes_le ⟨nm, cm, .slice A2 ss.length cp2, ss⟩
      simp only at htg
      have hstr : (strsBytes ss).length = (varBytes ss.length).length + (allTexts ss).length := by simp [strsBytes]
      have hP0 : (varBytes ts.length ++ allTgs (ts.take k)).length = (varBytes ts.length).length + (allTgs (ts.take k)).length := by simp
      have HB : Hid ((varBytes ts.length ++ allTgs (ts.take k)).length + (textBytes (sb nm)).length + (textBytes (sb cm)).length + (varBytes ss.length).length + (allTexts ss).length ≤ 33000) := by have := HGS.out; show _ ≤ _; omega
      have HROW := Lib.hid hrow
      have HP4 := Lib.hid p4
      have HTK := Lib.hid htake
      have ka := (Keep.refl noneOf wr).alloc (.cells #[.string nm, .string cm, .slice A2 ss.length cp2] 102)
      have HF2a := Lib.hid (HFR.out.later ka)
      have HY2 := Lib.hid (HXX.out.keep ka id)
      have HZ2 := Lib.hid (Box.new wr 102 #[.string nm, .string cm, .slice A2 ss.length cp2])
      clear hrow hkeep hsz ka HFR HXX p4 hroom hgl htg hstr hP0 htake hfit
      generalize hL0 : varBytes ts.length ++ allTgs (ts.take k) = L0 at *
      have HL0 := Lib.hid hL0
      clear hL0
      obtain ⟨cr3, W3, hrun3, kr3, br3⟩ := run_bytes (wr.alloc (.cells #[.string nm, .string cm, .slice A2 ss.length cp2] 102)) nm (by unfold maxLen; omega)
      have F3a := HF2a.out.later kr3
      have T3 := Lib.hid (refText_any W3 _ _ (sb nm) br3 (by rw [sb_length, hlim.out]; omega))
      simp only [World.size_alloc] at T3
      go_wp2_with fail
      refine T3.out.mono ?_
      rintro e w3 ⟨u3, rfl, G3⟩
      obtain ⟨Aq3, cq3, hsq3⟩ := G3.shape
      subst hsq3
      have bq3 := G3.any
      have F3b := F3a.later G3.keep
      have o3 := F3b.own
      have HF3b := Lib.hid F3b
      have Y3b := (HY2.out.keep kr3 id).keep G3.keep id
      have HY3b := Lib.hid Y3b
      have Z3b := (HZ2.out.keep kr3 id).keep G3.keep id
      have HZ3b := Lib.hid Z3b
      clear F3a F3b G3 Y3b Z3b
      go_wp2_with (at_builtin; refine wpList_append_read w3 rfl (.tmp 24) (.tmp 28) 23 rfl 5 i1 _ Try.underlying23 hi1 hz0 hz1 hz2 rfl _ _ (L0) (textBytes (sb nm)) _ rfl rfl o3 bq3 (by have h1 := HB.out; rw [hlim.out]; omega) ?_)
      intro v3 x3 ox3 gr3 at3 _
      have F3c := HF3b.out.append (cs := textBytes (sb nm)) gr3 (by simpa using at3) (by simpa [Nat.add_assoc] using ox3)
      obtain ⟨L1, hL1⟩ : ∃ L, L0 ++ textBytes (sb nm) = L := ⟨_, rfl⟩
      rw [hL1] at F3c
      have HL1 := Lib.hid hL1
      clear hL1
      have HY3 := Lib.hid (HF3b.out.box gr3 HY3b.out (by decide))
      have HZ3 := Lib.hid (HF3b.out.box gr3 HZ3b.out (by decide))
      obtain ⟨Ax3, cx3, hsx3⟩ := F3c.shape
      subst hsx3
      have HF3 := Lib.hid F3c
      clear ox3 gr3 at3 F3c o3 bq3 HF3b HY3b HZ3b
      have t1 : x3.cell? ⟨wr.heap.size, 1, none⟩ = some (.string cm) := HZ3.out.cell 1
      obtain ⟨cr4, W4, hrun4, kr4, br4⟩ := run_bytes x3 cm (by unfold maxLen; omega)
      have F4a := HF3.out.later kr4
      have T4 := Lib.hid (refText_any W4 _ _ (sb cm) br4 (by rw [sb_length, hlim.out]; omega))
      go_wp2_with fail
      refine T4.out.mono ?_
      rintro e w4 ⟨u4, rfl, G4⟩
      obtain ⟨Aq4, cq4, hsq4⟩ := G4.shape
      subst hsq4
      have bq4 := G4.any
      have F4b := F4a.later G4.keep
      have o4 := F4b.own
      have HF4b := Lib.hid F4b
      have Y4b := (HY3.out.keep kr4 id).keep G4.keep id
      have HY4b := Lib.hid Y4b
      have Z4b := (HZ3.out.keep kr4 id).keep G4.keep id
      have HZ4b := Lib.hid Z4b
      clear F4a F4b G4 Y4b Z4b
      go_wp2_with (at_builtin; refine wpList_append_read w4 rfl (.tmp 30) (.tmp 34) 23 rfl 5 i1 _ Try.underlying23 hi1 hz0 hz1 hz2 rfl _ _ (L1) (textBytes (sb cm)) _ rfl rfl o4 bq4 (by have h1 := HB.out; have h2 := congrArg List.length HL1.out; rw [List.length_append] at h2; rw [hlim.out]; omega) ?_)
      intro v4 x4 ox4 gr4 at4 _
      have F4c := HF4b.out.append (cs := textBytes (sb cm)) gr4 (by simpa using at4) (by simpa [Nat.add_assoc] using ox4)
      obtain ⟨L2, hL2⟩ : ∃ L, L1 ++ textBytes (sb cm) = L := ⟨_, rfl⟩
      rw [hL2] at F4c
      have HL2 := Lib.hid hL2
      clear hL2
      have HY4 := Lib.hid (HF4b.out.box gr4 HY4b.out (by decide))
      have HZ4 := Lib.hid (HF4b.out.box gr4 HZ4b.out (by decide))
      obtain ⟨Ax4, cx4, hsx4⟩ := F4c.shape
      subst hsx4
      have HF4 := Lib.hid F4c
      clear ox4 gr4 at4 F4c o4 bq4 HF4b HY4b HZ4b
      have t2 : x4.cell? ⟨wr.heap.size, 2, none⟩ = some (.slice A2 ss.length cp2) := HZ4.out.cell 2
      have kr5 := Keep.refl noneOf x4
      have F5a := HF4.out.later kr5
      have T5 : Hid (Calls Try.prog 53 #[.int .u64 (ss.length : Nat)] x4 fun e w' => ∃ u, e = .returned u ∧ Fresh x4 w' u (varBytes ss.length)) := (refVar_any x4 ss.length (by omega)).mono (by rintro e w' ⟨A, c, rfl, h⟩; exact ⟨_, rfl, h⟩)
      go_wp2_with fail
      refine T5.out.mono ?_
      rintro e w5 ⟨u5, rfl, G5⟩
      obtain ⟨Aq5, cq5, hsq5⟩ := G5.shape
      subst hsq5
      have bq5 := G5.any
      have F5b := F5a.later G5.keep
      have o5 := F5b.own
      have HF5b := Lib.hid F5b
      have Y5b := (HY4.out.keep kr5 id).keep G5.keep id
      have HY5b := Lib.hid Y5b
      have Z5b := (HZ4.out.keep kr5 id).keep G5.keep id
      have HZ5b := Lib.hid Z5b
      clear F5a F5b G5 Y5b Z5b
      go_wp2_with (at_builtin; refine wpList_append_read w5 rfl (.tmp 36) (.tmp 41) 23 rfl 5 i1 _ Try.underlying23 hi1 hz0 hz1 hz2 rfl _ _ (L2) (varBytes ss.length) _ rfl rfl o5 bq5 (by have h1 := HB.out; have h2 := congrArg List.length HL1.out; have h3 := congrArg List.length HL2.out; rw [List.length_append] at h2 h3; rw [hlim.out]; omega) ?_)
      intro v5 x5 ox5 gr5 at5 _
      have F5c := HF5b.out.append (cs := varBytes ss.length) gr5 (by simpa using at5) (by simpa [Nat.add_assoc] using ox5)
      obtain ⟨L3, hL3⟩ : ∃ L, L2 ++ varBytes ss.length = L := ⟨_, rfl⟩
      rw [hL3] at F5c
      have HL3 := Lib.hid hL3
      clear hL3
      have HY5 := Lib.hid (HF5b.out.box gr5 HY5b.out (by decide))
      have HZ5 := Lib.hid (HF5b.out.box gr5 HZ5b.out (by decide))
      obtain ⟨Ax5, cx5, hsx5⟩ := F5c.shape
      subst hsx5
      have HF5 := Lib.hid F5c
      clear ox5 gr5 at5 F5c o5 bq5 HF5b HY5b HZ5b
      clear c0 c1 c2 x0 hz hrun3 kr3 br3 T3 hrun4 kr4 br4 T4 kr5 T5 t1 t2 HY2 HZ2 HY3 HZ3 HY4 HZ4 HF2a HF3 HF4
      go_wp2
      generalize wr.heap.size = tb at *
      clear wr
      go_loopw [3, 6] (fun bq i wq => ∃ (m : Nat) (B : Option Addr) (cb : Nat), m ≤ ss.length ∧ i = .int .i64 m ∧ bq = .slice B (L3 ++ allTexts (ss.take m)).length cb ∧ Fresh w wq (.slice B (L3 ++ allTexts (ss.take m)).length cb) (L3 ++ allTexts (ss.take m)) ∧ Box wq w.heap.size 36 #[.slice (some ⟨b, o, none⟩) ts.length c] ∧ Box wq tb 102 #[.string nm, .string cm, .slice A2 ss.length cp2]) (fun _ i _ => ss.length - (intOf i).toNat)
      case atStart =>
        have e0 : L3 ++ allTexts (ss.take 0) = L3 := by simp [allTexts]
        refine ⟨0, Ax5, cx5, Nat.zero_le _, rfl, ?_, ?_, HY5.out, HZ5.out⟩
        · rw [e0]
        · rw [e0]; exact HF5.out
      case round =>
        obtain ⟨m, B6, cb6, hm, rfl, rfl, hF6, hY6, hZ6⟩ := hrel
        have z2 : wr.cell? ⟨tb, 2, none⟩ = some (.slice A2 ss.length cp2) := hZ6.cell 2
        have HY6 := Lib.hid hY6
        have HZ6 := Lib.hid hZ6
        clear hY6 hZ6 HY5 HZ5 HF5
        by_cases hlt2 : m < ss.length
        · have hroom2 := allTexts_room ss m hlt2
          have htake2 := allTexts_take ss m hlt2
          obtain ⟨ad2, rfl, hsp2, hblk2, _, hcell2⟩ := HROW.out (by omega)
          obtain ⟨bb, oo, sp2⟩ := ad2
          simp only at hsp2 hblk2
          subst hsp2
          have hck : wr.cell? ⟨bb, oo + m, none⟩ = some (.string ss[m]) := (hF6.keep.cell (p := ⟨bb, oo + m, none⟩) hblk2 id).trans (hcell2 m _ (by simp [List.getElem?_eq_getElem hlt2]))
          have hmx : ss[m].size ≤ 32 := HP4.out _ (List.getElem_mem hlt2)
          clear hcell2
          generalize ss[m] = s at *
          have HTK2 := Lib.hid htake2
          have HRM2 := Lib.hid hroom2
          generalize hL4 : L3 ++ allTexts (ss.take m) = L4 at *
          have HL4 := Lib.hid hL4
          have HF6 := Lib.hid hF6
          clear hL4 hF6 htake2 hroom2
          obtain ⟨cr7, W7, hrun7, kr7, br7⟩ := run_bytes wr s (by unfold maxLen; omega)
          have F7a := HF6.out.later kr7
          have T7 := Lib.hid (refText_any W7 _ _ (sb s) br7 (by rw [sb_length, hlim.out]; omega))
          go_wp2_with fail
          refine T7.out.mono ?_
          rintro e w7 ⟨u7, rfl, G7⟩
          obtain ⟨Aq7, cq7, hsq7⟩ := G7.shape
          subst hsq7
          have bq7 := G7.any
          have F7b := F7a.later G7.keep
          have o7 := F7b.own
          have HF7b := Lib.hid F7b
          have Y7b := (HY6.out.keep kr7 id).keep G7.keep id
          have HY7b := Lib.hid Y7b
          have Z7b := (HZ6.out.keep kr7 id).keep G7.keep id
          have HZ7b := Lib.hid Z7b
          clear F7a F7b G7 Y7b Z7b
          go_wp2_with (at_builtin; refine wpList_append_read w7 rfl (.tmp 50) (.tmp 57) 23 rfl 5 i1 _ Try.underlying23 hi1 hz0 hz1 hz2 rfl _ _ (L4) (textBytes (sb s)) _ rfl rfl o7 bq7 (by have h1 := HB.out; have h2 := congrArg List.length HL1.out; have h3 := congrArg List.length HL2.out; have h4 := congrArg List.length HL3.out; have h5 := congrArg List.length HL4.out; have h6 := HRM2.out; rw [List.length_append] at h2 h3 h4 h5; rw [hlim.out]; omega) ?_)
          intro v7 x7 ox7 gr7 at7 _
          have F7c := HF7b.out.append (cs := textBytes (sb s)) gr7 (by simpa using at7) (by simpa [Nat.add_assoc] using ox7)
          obtain ⟨L5, hL5⟩ : ∃ L, L4 ++ textBytes (sb s) = L := ⟨_, rfl⟩
          rw [hL5] at F7c
          have HL5 := Lib.hid hL5
          clear hL5
          have HY7 := Lib.hid (HF7b.out.box gr7 HY7b.out (by decide))
          have HZ7 := Lib.hid (HF7b.out.box gr7 HZ7b.out (by decide))
          obtain ⟨Ax7, cx7, hsx7⟩ := F7c.shape
          subst hsx7
          have HF7 := Lib.hid F7c
          clear ox7 gr7 at7 F7c o7 bq7 HF7b HY7b HZ7b
          have HL7 : Hid (L5 = L3 ++ allTexts (ss.take (m + 1))) := by
            show L5 = _
            rw [HTK2.out, ← List.append_assoc, HL4.out, HL5.out]
          go_wp2
          go_roundw
          case rel =>
            refine ⟨m + 1, Ax7, cx7, by omega, by go_num, ?_, ?_, HY7.out, HZ7.out⟩
            · rw [← HL7.out]
            · rw [← HL7.out]; exact HF7.out
          case measure => simp [intOf]; omega
        · have e0 : ss.take m = ss := List.take_of_length_le (by omega)
          rw [e0] at hF6 ⊢
          have HLZ : Hid (L3 ++ allTexts ss = varBytes ts.length ++ allTgs (ts.take (k + 1))) := by
            show L3 ++ allTexts ss = _
            rw [HTK.out, ← HL3.out, ← HL2.out, ← HL1.out, ← HL0.out]
            simp [tgBytes, strsBytes, List.append_assoc]
          generalize hLZ : L3 ++ allTexts ss = LZ at *
          have HF6 := Lib.hid hF6
          clear hLZ hF6 e0
          go_wp2
          go_roundw
          case rel =>
            refine ⟨k + 1, B6, cb6, by omega, by go_num, ?_, ?_, HY6.out⟩
            · rw [← HLZ.out]
            · rw [← HLZ.out]; exact HF6.out
          case measure => simp [intOf]; omega
    · have e0 : ts.take k = ts := List.take_of_length_le (by omega)
      have HG : Hid (Fresh w wr (.slice B (varBytes ts.length ++ allTgs (ts.take k)).length cb) (graphBytes ts)) := by
        have := HFR.out
        unfold graphBytes
        rw [e0] at this ⊢
        exact this
      clear e0 HFR
      go_wp2
      go_ret
      exact ⟨_, rfl, HG.out⟩
end Go.Proofs.Ytngbminjbgomgaa
