/-
  Package config: Apply.
-/
import Derived.Test.YtmncjibokpieoaaCfPos
import Derived.Test.YtmncjibokpieoaaCfGrp3
import Derived.Test.YtmncjibokpieoaaCfRAp
import Derived.Deep.DeepCutAuto
namespace Go.Proofs.Ytmncjibokpieoaa
open Go.RowKit

theorem box_nine {w : World} {q : Nat} {t : TypeId} {c0 c1 c2 c3 c4 c5 c6 c7 c8 : Value} (h : Box w q t #[c0, c1, c2, c3, c4, c5, c6, c7, c8]) (v0 v1 v2 v3 v4 v5 v6 v7 v8 : Value) : Box (((((((((w.setCell ⟨q, 0, none⟩ v0).setCell ⟨q, 1, none⟩ v1).setCell ⟨q, 2, none⟩ v2).setCell ⟨q, 3, none⟩ v3).setCell ⟨q, 4, none⟩ v4).setCell ⟨q, 5, none⟩ v5).setCell ⟨q, 6, none⟩ v6).setCell ⟨q, 7, none⟩ v7).setCell ⟨q, 8, none⟩ v8) q t #[v0, v1, v2, v3, v4, v5, v6, v7, v8] := by
  have h0 := h.put 0 v0
  simp only [List.setIfInBounds_toArray, List.set_cons_zero] at h0
  have h1 := h0.put 1 v1
  simp only [List.setIfInBounds_toArray, List.set_cons_zero, List.set_cons_succ] at h1
  have h2 := h1.put 2 v2
  simp only [List.setIfInBounds_toArray, List.set_cons_zero, List.set_cons_succ] at h2
  have h3 := h2.put 3 v3
  simp only [List.setIfInBounds_toArray, List.set_cons_zero, List.set_cons_succ] at h3
  have h4 := h3.put 4 v4
  simp only [List.setIfInBounds_toArray, List.set_cons_zero, List.set_cons_succ] at h4
  have h5 := h4.put 5 v5
  simp only [List.setIfInBounds_toArray, List.set_cons_zero, List.set_cons_succ] at h5
  have h6 := h5.put 6 v6
  simp only [List.setIfInBounds_toArray, List.set_cons_zero, List.set_cons_succ] at h6
  have h7 := h6.put 7 v7
  simp only [List.setIfInBounds_toArray, List.set_cons_zero, List.set_cons_succ] at h7
  have h8 := h7.put 8 v8
  simp only [List.setIfInBounds_toArray, List.set_cons_zero, List.set_cons_succ] at h8
  exact h8
theorem far_nine {w : World} {g q : Nat} {t : TypeId} {cs : Array Value} (h : Box w g t cs) (hne : g ≠ q) (v0 v1 v2 v3 v4 v5 v6 v7 v8 : Value) : Box (((((((((w.setCell ⟨q, 0, none⟩ v0).setCell ⟨q, 1, none⟩ v1).setCell ⟨q, 2, none⟩ v2).setCell ⟨q, 3, none⟩ v3).setCell ⟨q, 4, none⟩ v4).setCell ⟨q, 5, none⟩ v5).setCell ⟨q, 6, none⟩ v6).setCell ⟨q, 7, none⟩ v7).setCell ⟨q, 8, none⟩ v8) g t cs :=
  (((((((((h.far (p := ⟨q, 0, none⟩) hne v0).far (p := ⟨q, 1, none⟩) hne v1).far (p := ⟨q, 2, none⟩) hne v2).far (p := ⟨q, 3, none⟩) hne v3).far (p := ⟨q, 4, none⟩) hne v4).far (p := ⟨q, 5, none⟩) hne v5).far (p := ⟨q, 6, none⟩) hne v6).far (p := ⟨q, 7, none⟩) hne v7).far (p := ⟨q, 8, none⟩) hne v8)
theorem keep_nine {S : Nat → Prop} {w0 w : World} {q : Nat} (k : Keep S w0 w) (hq : q < w0.heap.size → S q) (v0 v1 v2 v3 v4 v5 v6 v7 v8 : Value) : Keep S w0 (((((((((w.setCell ⟨q, 0, none⟩ v0).setCell ⟨q, 1, none⟩ v1).setCell ⟨q, 2, none⟩ v2).setCell ⟨q, 3, none⟩ v3).setCell ⟨q, 4, none⟩ v4).setCell ⟨q, 5, none⟩ v5).setCell ⟨q, 6, none⟩ v6).setCell ⟨q, 7, none⟩ v7).setCell ⟨q, 8, none⟩ v8) :=
  (((((((((k.setCell (p := ⟨q, 0, none⟩) hq v0).setCell (p := ⟨q, 1, none⟩) hq v1).setCell (p := ⟨q, 2, none⟩) hq v2).setCell (p := ⟨q, 3, none⟩) hq v3).setCell (p := ⟨q, 4, none⟩) hq v4).setCell (p := ⟨q, 5, none⟩) hq v5).setCell (p := ⟨q, 6, none⟩) hq v6).setCell (p := ⟨q, 7, none⟩) hq v7).setCell (p := ⟨q, 8, none⟩) hq v8)
/-- A group of nodes in a block of its own. -/
def GAt (w : World) (q : Nat) (ns : List Int) : Prop := ∃ a0 a1 a2 a3 a4 a5 a6 a7 : Int, Box w q 56 #[.int .i64 a0, .int .i64 a1, .int .i64 a2, .int .i64 a3, .int .i64 a4, .int .i64 a5, .int .i64 a6, .int .i64 a7, .int .i64 (ns.length : Int)] ∧ ns.length ≤ 8 ∧ [a0, a1, a2, a3, a4, a5, a6, a7].take ns.length = ns
theorem GAt.keep {w w' : World} {S : Nat → Prop} {q : Nat} {ns : List Int} (h : GAt w q ns) (k : Keep S w w') (hs : ¬ S q) : GAt w' q ns := by
  obtain ⟨a0, a1, a2, a3, a4, a5, a6, a7, hb, h8, ht⟩ := h
  exact ⟨a0, a1, a2, a3, a4, a5, a6, a7, hb.keep k hs, h8, ht⟩
theorem ap_no {c : Cf} {kind node : Int} (h : chkP c = 0) (hp : posP c kind node = false) : apP c kind node = (⟨[], []⟩, 141) := by
  unfold apP
  rw [if_pos h]
  unfold posP at hp
  split
  · rename_i h1
    rw [if_pos h1.1, decide_eq_true h1.2.2.1, decide_eq_true (show node < 8 by omega), h1.2.1] at hp
    cases hp
  · split
    · rename_i h1
      rw [if_neg (by omega), if_pos h1.1] at hp
      have := (has_iff.1 h1.2.1).resolve_left (inP_false.1 h1.2.2)
      exact absurd this (inP_false.1 hp)
    · split
      · rename_i h1
        rw [if_neg (by omega), if_neg (by omega), if_pos h1.1, Bool.or_eq_false_iff] at hp
        have h2 := (has_iff.1 h1.2.1).resolve_right (inP_false.1 hp.1)
        rw [inP_true.2 h2, Bool.true_and, decide_eq_false_iff_not] at hp
        rcases h1.2.2 with h3 | h3
        · rw [inP_true.2 h2] at h3
          cases h3
        · exact absurd h3 hp.2
      · rfl
theorem ap_yes {c : Cf} {kind node : Int} (h : chkP c = 0) (hp : posP c kind node = true) :
    (kind = 1 ∧ apP c kind node = (⟨c.v, withP c.l node⟩, 0) ∧ node ∉ c.l ∧ c.l.length ≤ 7) ∨
    (kind = 2 ∧ apP c kind node = (⟨withP c.v node, woP c.l node⟩, 0) ∧ node ∉ c.v ∧ c.v.length ≤ 7) ∨
    (kind = 3 ∧ apP c kind node = (⟨woP c.v node, woP c.l node⟩, 0)) := by
  have hv := (chk_iff c).1 h
  unfold posP at hp
  unfold apP
  rw [if_pos h]
  by_cases e1 : kind = 1
  · subst e1
    rw [if_pos rfl, Bool.and_eq_true, Bool.and_eq_true, decide_eq_true_eq, decide_eq_true_eq, Bool.not_eq_true'] at hp
    have hn := has_not.1 hp.2
    refine .inl ⟨rfl, if_pos ⟨rfl, hp.2, hp.1.1, by omega⟩, hn.2, ?_⟩
    have h8 := eight (withP_rises c.l node) (fun x hx => by
      rcases withP_mem.1 hx with h | rfl
      · exact hv.l8 x h
      · exact hp.1)
    rw [with_len hv.ls hn.2] at h8
    omega
  · rw [if_neg e1] at hp
    rw [if_neg (fun e => e1 e.1)]
    by_cases e2 : kind = 2
    · subst e2
      rw [if_pos rfl, inP_true] at hp
      have hnv := hv.apart node hp
      refine .inr (.inl ⟨rfl, if_pos ⟨rfl, has_iff.2 (.inr hp), inP_false.2 hnv⟩, hnv, ?_⟩)
      have h8 := eight (withP_rises c.v node) (fun x hx => by
        rcases withP_mem.1 hx with h | rfl
        · exact hv.v8 x h
        · exact hv.l8 _ hp)
      rw [with_len hv.vs hnv] at h8
      omega
    · rw [if_neg e2] at hp
      rw [if_neg (fun e => e2 e.1)]
      by_cases e3 : kind = 3
      · subst e3
        rw [if_pos rfl, Bool.or_eq_true, Bool.and_eq_true, decide_eq_true_eq, inP_true, inP_true] at hp
        refine .inr (.inr ⟨rfl, if_pos ⟨rfl, ?_, ?_⟩⟩)
        · rcases hp with h | h
          · exact has_iff.2 (.inr h)
          · exact has_iff.2 (.inl h.1)
        · rcases hp with h | h
          · exact .inl (inP_false.2 (hv.apart node h))
          · exact .inr h.2
      · rw [if_neg e3] at hp
        cases hp

set_option maxRecDepth 100000 in
set_option maxHeartbeats 8000000 in
set_option linter.unusedSimpArgs false in
theorem apply_any (w : World) (D : Nat → Prop) (v : Value) (c : Cf) (kind node : Int) (h : CfAt w D v c) :
    Calls Try.prog 20 #[v, .agg #[.int .i64 kind, .int .i64 node]] w (Applied (apP c kind node) w) := by
  obtain ⟨R, hR⟩ : ∃ R, apP c kind node = R := ⟨_, rfl⟩
  rw [hR]
  have HR := Lib.hid hR
  have HH := Lib.hid h
  obtain ⟨a, b, rfl, h1, h2⟩ := h
  obtain ⟨A, ca, rfl, hla, hma, _⟩ := h1.shape
  obtain ⟨B, cb, rfl, hlb, hmb, _⟩ := h2.shape
  have H1 := Lib.hid h1
  have H2 := Lib.hid h2
  unfold maxLen at hma hmb
  have K3 := (((Keep.refl noneOf w).alloc (.cells #[.slice A c.v.length ca, .slice B c.l.length cb] 24)).alloc (.cells #[.int .i64 kind, .int .i64 node] 33)).alloc (.cells #[.slice none 0 0, .slice none 0 0] 24)
  have X0 := ((Box.new w 24 #[.slice A c.v.length ca, .slice B c.l.length cb]).alloc (.cells #[.int .i64 kind, .int .i64 node] 33)).alloc (.cells #[.slice none 0 0, .slice none 0 0] 24)
  have X1 := (Box.new (w.alloc (.cells #[.slice A c.v.length ca, .slice B c.l.length cb] 24)) 33 #[.int .i64 kind, .int .i64 node]).alloc (.cells #[.slice none 0 0, .slice none 0 0] 24)
  have X2 := Box.new ((w.alloc (.cells #[.slice A c.v.length ca, .slice B c.l.length cb] 24)).alloc (.cells #[.int .i64 kind, .int .i64 node] 33)) 24 #[.slice none 0 0, .slice none 0 0]
  rw [show (w.alloc (.cells #[.slice A c.v.length ca, .slice B c.l.length cb] 24)).heap.size = w.heap.size + 1 from by simp] at X1
  rw [show ((w.alloc (.cells #[.slice A c.v.length ca, .slice B c.l.length cb] 24)).alloc (.cells #[.int .i64 kind, .int .i64 node] 33)).heap.size = w.heap.size + 1 + 1 from by simp] at X2
  have HK3 := Lib.hid K3
  have HX0 := Lib.hid X0
  have HX1 := Lib.hid X1
  have HX2 := Lib.hid X2
  have HC := Lib.hid (check_any _ D _ c (HH.out.keepN K3))
  clear h1 h2 X0 X1 X2 K3 hR
  go_enter Try.func20, Try.ntmps20
  go_wp2_with fail
  refine HC.out.mono ?_
  rintro e w4 ⟨rfl, k4⟩
  have HK4 := Lib.hid (HK3.out.trans k4 (fun _ _ h => h))
  have HY0 := Lib.hid (HX0.out.keep k4 id)
  have HY1 := Lib.hid (HX1.out.keep k4 id)
  have HY2 := Lib.hid (HX2.out.keep k4 id)
  clear k4 HC HX0 HX1 HX2 HK3
  by_cases hz : chkP c = 0
  · rw [hz]
    have HZ := Lib.hid hz
    have HV := Lib.hid ((chk_iff c).1 hz)
    clear hz
    have x0 : w4.cell? ⟨w.heap.size, 0, none⟩ = some (.slice A c.v.length ca) := HY0.out.cell 0
    have x1 : w4.cell? ⟨w.heap.size, 1, none⟩ = some (.slice B c.l.length cb) := HY0.out.cell 1
    have y0 : w4.cell? ⟨w.heap.size + 1, 0, none⟩ = some (.int .i64 kind) := HY1.out.cell 0
    have y1 : w4.cell? ⟨w.heap.size + 1, 1, none⟩ = some (.int .i64 node) := HY1.out.cell 1
    have HPO := Lib.hid (possible_any w4 D _ c kind node (HH.out.keepN HK4.out))
    cases hpo : posP c kind node with
    | false =>
      rw [hpo] at HPO
      have HRN := Lib.hid (HR.out.symm.trans (ap_no HZ.out hpo))
      clear hpo HR
      go_wp2_with fail
      refine HPO.out.mono ?_
      rintro e w5 ⟨rfl, k5⟩
      have HK5 := Lib.hid (HK4.out.trans k5 (fun _ _ h => h))
      have HZ2 := Lib.hid (HY2.out.keep k5 id)
      clear x0 x1 y0 y1 k5 HPO HK4 HY0 HY1 HY2
      have hr : R = (⟨[], []⟩, 141) := HRN.out
      subst hr
      have z0 := HZ2.out.cell 0
      have z1 := HZ2.out.cell 1
      have f0 := HZ2.out.free 0
      have f1 := HZ2.out.free 1
      have HBX := Lib.hid ((HZ2.out.put 0 (.slice none 0 0)).put 1 (.slice none 0 0))
      have HKE := Lib.hid ((HK5.out.setCell (p := ⟨w.heap.size + 1 + 1, 0, none⟩) (fun hh => absurd hh (by show ¬ w.heap.size + 1 + 1 < w.heap.size; omega)) (.slice none 0 0)).setCell (p := ⟨w.heap.size + 1 + 1, 1, none⟩) (fun hh => absurd hh (by show ¬ w.heap.size + 1 + 1 < w.heap.size; omega)) (.slice none 0 0))
      go_wp2
      have r0 := HBX.out.cell 0
      have r1 := HBX.out.cell 1
      generalize (w5.setCell ⟨w.heap.size + 1 + 1, 0, none⟩ (.slice none 0 0)).setCell ⟨w.heap.size + 1 + 1, 1, none⟩ (.slice none 0 0) = we at *
      go_wp2
      exact bodyPost_ret (v := .tuple #[.agg #[.slice none 0 0, .slice none 0 0], .int .i64 141]) (by simp [results, Try.results20, go_sem, r0, r1]) rfl ⟨_, rfl, CfAt.nil _ _, HKE.out⟩
    | true =>
      rw [hpo] at HPO
      have HRY := Lib.hid (ap_yes HZ.out hpo)
      rw [HR.out] at HRY
      clear hpo HR
      go_wp2_with fail
      refine HPO.out.mono ?_
      rintro e w5 ⟨rfl, k5⟩
      have HK5 := Lib.hid (HK4.out.trans k5 (fun _ _ h => h))
      have HZ0 := Lib.hid (HY0.out.keep k5 id)
      have HZ1 := Lib.hid (HY1.out.keep k5 id)
      have HZ2 := Lib.hid (HY2.out.keep k5 id)
      have h8v : c.v.length ≤ 8 := eight HV.out.vs HV.out.v8
      have h8l : c.l.length ≤ 8 := eight HV.out.ls HV.out.l8
      clear x0 x1 y0 y1 k5 HPO HK4 HY0 HY1 HY2
      have MC : Hid (∀ w', Keep noneOf w5 w' → w'.cell? ⟨w.heap.size, 0, none⟩ = some (.slice A c.v.length ca) ∧ w'.cell? ⟨w.heap.size, 1, none⟩ = some (.slice B c.l.length cb)) := fun w' k => ⟨(HZ0.out.keep k id).cell 0, (HZ0.out.keep k id).cell 1⟩
      have HGV : Hid (∀ w', Keep noneOf w5 w' → Calls Try.prog 38 #[.slice A c.v.length ca] w' fun e w'' => ∃ u, e = .returned u ∧ GroupV u c.v ∧ Keep noneOf w' w'') := fun w' k => groupOf_any w' D _ c.v ((H1.out.keepN HK5.out).keepN k) h8v
      have HGL : Hid (∀ w', Keep noneOf w5 w' → Calls Try.prog 38 #[.slice B c.l.length cb] w' fun e w'' => ∃ u, e = .returned u ∧ GroupV u c.l ∧ Keep noneOf w' w'') := fun w' k => groupOf_any w' D _ c.l ((H2.out.keepN HK5.out).keepN k) h8l
      have KZ := (Keep.refl noneOf w5).drew
      go_wp2
      go_cut [7, 8] (fun p7 p8 wx => ∃ q7 q8, p7 = .pointer (some ⟨q7, 0, none⟩) ∧ p8 = .pointer (some ⟨q8, 0, none⟩) ∧ Keep noneOf w5 wx ∧ w5.heap.size ≤ q7 ∧ w5.heap.size ≤ q8 ∧ q7 ≠ q8 ∧ GAt wx q7 c.v ∧ GAt wx q8 c.l)
      case first =>
        refine wp_region_held_drew (S := fun w' => Keep noneOf w5 w') (by kernel_rfl) (KZ) (fun hHeld => ?_)
        refine' wpAnyH_take (i := 0) (v := _) rfl (by kernel_rfl) (by kernel_rfl) (by kernel_rfl) (fun _ _ _ h => h) (Or.inl ⟨by kernel_rfl, ?hy0⟩) (by assumption) ?_
        case hy0 => intro w' hSw; obtain ⟨_, _⟩ := MC.out w' hSw; go_simp; try with_reducible rfl
        simp only [Act.put, List.getElem_toArray, List.getElem_cons_zero, List.getElem_cons_succ, List.setIfInBounds_toArray, List.set_cons_zero, List.set_cons_succ]
        refine' wpAnyH_take (i := 1) (v := _) rfl (by kernel_rfl) (by kernel_rfl) (by kernel_rfl) (fun _ _ _ h => h) (Or.inl ⟨by kernel_rfl, ?hy1⟩) (by assumption) ?_
        case hy1 => intro w' hSw; obtain ⟨_, _⟩ := MC.out w' hSw; go_simp; try with_reducible rfl
        simp only [Act.put, List.getElem_toArray, List.getElem_cons_zero, List.getElem_cons_succ, List.setIfInBounds_toArray, List.set_cons_zero, List.set_cons_succ]
        refine' wpAnyH_take (i := 3) (v := _) rfl (by kernel_rfl) (by kernel_rfl) (by kernel_rfl) (fun _ _ _ h => h) (Or.inl ⟨by kernel_rfl, ?hy3⟩) (by assumption) ?_
        case hy3 => intro w' hSw; obtain ⟨_, _⟩ := MC.out w' hSw; go_simp; try with_reducible rfl
        simp only [Act.put, List.getElem_toArray, List.getElem_cons_zero, List.getElem_cons_succ, List.setIfInBounds_toArray, List.set_cons_zero, List.set_cons_succ]
        refine' wpAnyH_take (i := 4) (v := _) rfl (by kernel_rfl) (by kernel_rfl) (by kernel_rfl) (fun _ _ _ h => h) (Or.inl ⟨by kernel_rfl, ?hy4⟩) (by assumption) ?_
        case hy4 => intro w' hSw; obtain ⟨_, _⟩ := MC.out w' hSw; go_simp; try with_reducible rfl
        simp only [Act.put, List.getElem_toArray, List.getElem_cons_zero, List.getElem_cons_succ, List.setIfInBounds_toArray, List.set_cons_zero, List.set_cons_succ]
        generalize w5.drew = wz at *
        refine wpAnyH_ready (rs := [2, 6, 7]) (by kernel_rfl) (by simp) (AllReadyH.cons rfl (fun K hK => ?_) (AllReadyH.cons rfl (fun K hK => ?_) (AllReadyH.cons rfl (fun K hK => ?_) AllReadyH.nil)))
        · skip
          go_simp
          go_at_call 38
          refine (HGV.out _ KZ).mono ?_
          rintro e wc1 ⟨u1, rfl, ⟨a0, a1, a2, a3, a4, a5, a6, a7, rfl, _, hta⟩, k1⟩
          go_wp2_with fail
          have kk1 : Keep noneOf w5 wc1 := KZ.trans k1 (fun _ _ h => h)
          have hs1 := k1.size
          clear k1
          refine hK.out _ _ (kk1) (fun hHeld => ?_)
          clear hK K
          try simp only [Act.put, List.getElem_toArray, List.getElem_cons_zero, List.getElem_cons_succ, List.setIfInBounds_toArray, List.set_cons_zero, List.set_cons_succ]
          refine wpAnyH_ready (rs := [5, 6, 7]) (by kernel_rfl) (by simp) (AllReadyH.cons rfl (fun K hK => ?_) (AllReadyH.cons rfl (fun K hK => ?_) (AllReadyH.cons rfl (fun K hK => ?_) AllReadyH.nil)))
          · skip
            go_simp
            go_at_call 38
            refine (HGL.out _ kk1).mono ?_
            rintro e wc2 ⟨u2, rfl, ⟨b0, b1, b2, b3, b4, b5, b6, b7, rfl, _, htb⟩, k2⟩
            go_wp2_with fail
            have kk2 : Keep noneOf w5 wc2 := kk1.trans k2 (fun _ _ h => h)
            have hs2 := k2.size
            clear k2
            refine hK.out _ _ (kk2) (fun hHeld => ?_)
            clear hK K
            try simp only [Act.put, List.getElem_toArray, List.getElem_cons_zero, List.getElem_cons_succ, List.setIfInBounds_toArray, List.set_cons_zero, List.set_cons_succ]
            refine wpAnyH_ready (rs := [6, 7]) (by kernel_rfl) (by simp) (AllReadyH.cons rfl (fun K hK => ?_) (AllReadyH.cons rfl (fun K hK => ?_) AllReadyH.nil))
            · skip
              go_simp
              have kk3 : Keep noneOf w5 (wc2.alloc (.cells #[.int .i64 0, .int .i64 0, .int .i64 0, .int .i64 0, .int .i64 0, .int .i64 0, .int .i64 0, .int .i64 0, .int .i64 0] 56)) := kk2.alloc _
              have n7 : w5.heap.size ≤ wc2.heap.size := kk2.size
              have bb3_7 := Box.new wc2 56 #[.int .i64 0, .int .i64 0, .int .i64 0, .int .i64 0, .int .i64 0, .int .i64 0, .int .i64 0, .int .i64 0, .int .i64 0]
              refine hK.out _ _ (kk3) (fun hHeld => ?_)
              clear hK K
              try simp only [Act.put, List.getElem_toArray, List.getElem_cons_zero, List.getElem_cons_succ, List.setIfInBounds_toArray, List.set_cons_zero, List.set_cons_succ]
              generalize hq3 : wc2.heap.size = q3 at *
              generalize wc2.alloc (.cells #[.int .i64 0, .int .i64 0, .int .i64 0, .int .i64 0, .int .i64 0, .int .i64 0, .int .i64 0, .int .i64 0, .int .i64 0] 56) = wa3 at *
              refine wpAnyH_ready (rs := [7]) (by kernel_rfl) (by simp) (AllReadyH.cons rfl (fun K hK => ?_) AllReadyH.nil)
              go_simp
              have kk4 : Keep noneOf w5 (wa3.alloc (.cells #[.int .i64 0, .int .i64 0, .int .i64 0, .int .i64 0, .int .i64 0, .int .i64 0, .int .i64 0, .int .i64 0, .int .i64 0] 56)) := kk3.alloc _
              have n8 : w5.heap.size ≤ wa3.heap.size := kk3.size
              have bb4_8 := Box.new wa3 56 #[.int .i64 0, .int .i64 0, .int .i64 0, .int .i64 0, .int .i64 0, .int .i64 0, .int .i64 0, .int .i64 0, .int .i64 0]
              have bb4_7 := bb3_7.alloc (.cells #[.int .i64 0, .int .i64 0, .int .i64 0, .int .i64 0, .int .i64 0, .int .i64 0, .int .i64 0, .int .i64 0, .int .i64 0] 56)
              have n78 := bb3_7.lt
              refine hK.out _ _ (kk4) (fun hHeld => ?_)
              clear hK K
              try simp only [Act.put, List.getElem_toArray, List.getElem_cons_zero, List.getElem_cons_succ, List.setIfInBounds_toArray, List.set_cons_zero, List.set_cons_succ]
              generalize hq4 : wa3.heap.size = q4 at *
              generalize wa3.alloc (.cells #[.int .i64 0, .int .i64 0, .int .i64 0, .int .i64 0, .int .i64 0, .int .i64 0, .int .i64 0, .int .i64 0, .int .i64 0] 56) = wa4 at *
              have z5_0 := bb4_7.cell 0
              have f5_0 := bb4_7.free 0
              have z5_1 := bb4_7.cell 1
              have f5_1 := bb4_7.free 1
              have z5_2 := bb4_7.cell 2
              have f5_2 := bb4_7.free 2
              have z5_3 := bb4_7.cell 3
              have f5_3 := bb4_7.free 3
              have z5_4 := bb4_7.cell 4
              have f5_4 := bb4_7.free 4
              have z5_5 := bb4_7.cell 5
              have f5_5 := bb4_7.free 5
              have z5_6 := bb4_7.cell 6
              have f5_6 := bb4_7.free 6
              have z5_7 := bb4_7.cell 7
              have f5_7 := bb4_7.free 7
              have z5_8 := bb4_7.cell 8
              have f5_8 := bb4_7.free 8
              refine wpAnyH_ready (rs := [8]) (by kernel_rfl) (by simp) (AllReadyH.cons rfl (fun K hK => ?_) AllReadyH.nil)
              go_simp
              have kk5 : Keep noneOf w5 (((((((((wa4.setCell ⟨q3, 0, none⟩ (.int .i64 a0)).setCell ⟨q3, 1, none⟩ (.int .i64 a1)).setCell ⟨q3, 2, none⟩ (.int .i64 a2)).setCell ⟨q3, 3, none⟩ (.int .i64 a3)).setCell ⟨q3, 4, none⟩ (.int .i64 a4)).setCell ⟨q3, 5, none⟩ (.int .i64 a5)).setCell ⟨q3, 6, none⟩ (.int .i64 a6)).setCell ⟨q3, 7, none⟩ (.int .i64 a7)).setCell ⟨q3, 8, none⟩ (.int .i64 (c.v.length : Int))) := (keep_nine (q := q3) kk4 (fun hh => absurd hh (by omega)) (.int .i64 a0) (.int .i64 a1) (.int .i64 a2) (.int .i64 a3) (.int .i64 a4) (.int .i64 a5) (.int .i64 a6) (.int .i64 a7) (.int .i64 (c.v.length : Int)))
              have bb5 : Box (((((((((wa4.setCell ⟨q3, 0, none⟩ (.int .i64 a0)).setCell ⟨q3, 1, none⟩ (.int .i64 a1)).setCell ⟨q3, 2, none⟩ (.int .i64 a2)).setCell ⟨q3, 3, none⟩ (.int .i64 a3)).setCell ⟨q3, 4, none⟩ (.int .i64 a4)).setCell ⟨q3, 5, none⟩ (.int .i64 a5)).setCell ⟨q3, 6, none⟩ (.int .i64 a6)).setCell ⟨q3, 7, none⟩ (.int .i64 a7)).setCell ⟨q3, 8, none⟩ (.int .i64 (c.v.length : Int))) q3 56 #[.int .i64 a0, .int .i64 a1, .int .i64 a2, .int .i64 a3, .int .i64 a4, .int .i64 a5, .int .i64 a6, .int .i64 a7, .int .i64 (c.v.length : Int)] := (box_nine bb4_7 (.int .i64 a0) (.int .i64 a1) (.int .i64 a2) (.int .i64 a3) (.int .i64 a4) (.int .i64 a5) (.int .i64 a6) (.int .i64 a7) (.int .i64 (c.v.length : Int)))
              have bo5 := (far_nine (q := q3) bb4_8 (by omega) (.int .i64 a0) (.int .i64 a1) (.int .i64 a2) (.int .i64 a3) (.int .i64 a4) (.int .i64 a5) (.int .i64 a6) (.int .i64 a7) (.int .i64 (c.v.length : Int)))
              refine hK.out _ _ (kk5) (fun hHeld => ?_)
              clear hK K
              try simp only [Act.put, List.getElem_toArray, List.getElem_cons_zero, List.getElem_cons_succ, List.setIfInBounds_toArray, List.set_cons_zero, List.set_cons_succ]
              generalize (((((((((wa4.setCell ⟨q3, 0, none⟩ (.int .i64 a0)).setCell ⟨q3, 1, none⟩ (.int .i64 a1)).setCell ⟨q3, 2, none⟩ (.int .i64 a2)).setCell ⟨q3, 3, none⟩ (.int .i64 a3)).setCell ⟨q3, 4, none⟩ (.int .i64 a4)).setCell ⟨q3, 5, none⟩ (.int .i64 a5)).setCell ⟨q3, 6, none⟩ (.int .i64 a6)).setCell ⟨q3, 7, none⟩ (.int .i64 a7)).setCell ⟨q3, 8, none⟩ (.int .i64 (c.v.length : Int))) = ws5 at *
              have z6_0 := bo5.cell 0
              have f6_0 := bo5.free 0
              have z6_1 := bo5.cell 1
              have f6_1 := bo5.free 1
              have z6_2 := bo5.cell 2
              have f6_2 := bo5.free 2
              have z6_3 := bo5.cell 3
              have f6_3 := bo5.free 3
              have z6_4 := bo5.cell 4
              have f6_4 := bo5.free 4
              have z6_5 := bo5.cell 5
              have f6_5 := bo5.free 5
              have z6_6 := bo5.cell 6
              have f6_6 := bo5.free 6
              have z6_7 := bo5.cell 7
              have f6_7 := bo5.free 7
              have z6_8 := bo5.cell 8
              have f6_8 := bo5.free 8
              refine wpAnyH_ready (rs := [9]) (by kernel_rfl) (by simp) (AllReadyH.cons rfl (fun K hK => ?_) AllReadyH.nil)
              go_simp
              have kk6 : Keep noneOf w5 (((((((((ws5.setCell ⟨q4, 0, none⟩ (.int .i64 b0)).setCell ⟨q4, 1, none⟩ (.int .i64 b1)).setCell ⟨q4, 2, none⟩ (.int .i64 b2)).setCell ⟨q4, 3, none⟩ (.int .i64 b3)).setCell ⟨q4, 4, none⟩ (.int .i64 b4)).setCell ⟨q4, 5, none⟩ (.int .i64 b5)).setCell ⟨q4, 6, none⟩ (.int .i64 b6)).setCell ⟨q4, 7, none⟩ (.int .i64 b7)).setCell ⟨q4, 8, none⟩ (.int .i64 (c.l.length : Int))) := (keep_nine (q := q4) kk5 (fun hh => absurd hh (by omega)) (.int .i64 b0) (.int .i64 b1) (.int .i64 b2) (.int .i64 b3) (.int .i64 b4) (.int .i64 b5) (.int .i64 b6) (.int .i64 b7) (.int .i64 (c.l.length : Int)))
              have bb6 : Box (((((((((ws5.setCell ⟨q4, 0, none⟩ (.int .i64 b0)).setCell ⟨q4, 1, none⟩ (.int .i64 b1)).setCell ⟨q4, 2, none⟩ (.int .i64 b2)).setCell ⟨q4, 3, none⟩ (.int .i64 b3)).setCell ⟨q4, 4, none⟩ (.int .i64 b4)).setCell ⟨q4, 5, none⟩ (.int .i64 b5)).setCell ⟨q4, 6, none⟩ (.int .i64 b6)).setCell ⟨q4, 7, none⟩ (.int .i64 b7)).setCell ⟨q4, 8, none⟩ (.int .i64 (c.l.length : Int))) q4 56 #[.int .i64 b0, .int .i64 b1, .int .i64 b2, .int .i64 b3, .int .i64 b4, .int .i64 b5, .int .i64 b6, .int .i64 b7, .int .i64 (c.l.length : Int)] := (box_nine bo5 (.int .i64 b0) (.int .i64 b1) (.int .i64 b2) (.int .i64 b3) (.int .i64 b4) (.int .i64 b5) (.int .i64 b6) (.int .i64 b7) (.int .i64 (c.l.length : Int)))
              have bo6 := (far_nine (q := q4) bb5 (by omega) (.int .i64 b0) (.int .i64 b1) (.int .i64 b2) (.int .i64 b3) (.int .i64 b4) (.int .i64 b5) (.int .i64 b6) (.int .i64 b7) (.int .i64 (c.l.length : Int)))
              refine hK.out _ _ (kk6) (fun hHeld => ?_)
              clear hK K
              try simp only [Act.put, List.getElem_toArray, List.getElem_cons_zero, List.getElem_cons_succ, List.setIfInBounds_toArray, List.set_cons_zero, List.set_cons_succ]
              generalize (((((((((ws5.setCell ⟨q4, 0, none⟩ (.int .i64 b0)).setCell ⟨q4, 1, none⟩ (.int .i64 b1)).setCell ⟨q4, 2, none⟩ (.int .i64 b2)).setCell ⟨q4, 3, none⟩ (.int .i64 b3)).setCell ⟨q4, 4, none⟩ (.int .i64 b4)).setCell ⟨q4, 5, none⟩ (.int .i64 b5)).setCell ⟨q4, 6, none⟩ (.int .i64 b6)).setCell ⟨q4, 7, none⟩ (.int .i64 b7)).setCell ⟨q4, 8, none⟩ (.int .i64 (c.l.length : Int))) = ws6 at *
              refine wpAnyH_done (by kernel_rfl) ?_ _
              go_wp2_with fail
              go_meet
              exact ⟨_, _, rfl, rfl, kk6, n7, n8, (by omega), ⟨_, _, _, _, _, _, _, _, bo6, h8v, hta⟩, ⟨_, _, _, _, _, _, _, _, bb6, h8l, htb⟩⟩
            · skip
              go_simp
              have kk7 : Keep noneOf w5 (wc2.alloc (.cells #[.int .i64 0, .int .i64 0, .int .i64 0, .int .i64 0, .int .i64 0, .int .i64 0, .int .i64 0, .int .i64 0, .int .i64 0] 56)) := kk2.alloc _
              have n8 : w5.heap.size ≤ wc2.heap.size := kk2.size
              have bb7_8 := Box.new wc2 56 #[.int .i64 0, .int .i64 0, .int .i64 0, .int .i64 0, .int .i64 0, .int .i64 0, .int .i64 0, .int .i64 0, .int .i64 0]
              refine hK.out _ _ (kk7) (fun hHeld => ?_)
              clear hK K
              try simp only [Act.put, List.getElem_toArray, List.getElem_cons_zero, List.getElem_cons_succ, List.setIfInBounds_toArray, List.set_cons_zero, List.set_cons_succ]
              generalize hq7 : wc2.heap.size = q7 at *
              generalize wc2.alloc (.cells #[.int .i64 0, .int .i64 0, .int .i64 0, .int .i64 0, .int .i64 0, .int .i64 0, .int .i64 0, .int .i64 0, .int .i64 0] 56) = wa7 at *
              refine wpAnyH_ready (rs := [6]) (by kernel_rfl) (by simp) (AllReadyH.cons rfl (fun K hK => ?_) AllReadyH.nil)
              go_simp
              have kk8 : Keep noneOf w5 (wa7.alloc (.cells #[.int .i64 0, .int .i64 0, .int .i64 0, .int .i64 0, .int .i64 0, .int .i64 0, .int .i64 0, .int .i64 0, .int .i64 0] 56)) := kk7.alloc _
              have n7 : w5.heap.size ≤ wa7.heap.size := kk7.size
              have bb8_7 := Box.new wa7 56 #[.int .i64 0, .int .i64 0, .int .i64 0, .int .i64 0, .int .i64 0, .int .i64 0, .int .i64 0, .int .i64 0, .int .i64 0]
              have bb8_8 := bb7_8.alloc (.cells #[.int .i64 0, .int .i64 0, .int .i64 0, .int .i64 0, .int .i64 0, .int .i64 0, .int .i64 0, .int .i64 0, .int .i64 0] 56)
              have n78 := bb7_8.lt
              refine hK.out _ _ (kk8) (fun hHeld => ?_)
              clear hK K
              try simp only [Act.put, List.getElem_toArray, List.getElem_cons_zero, List.getElem_cons_succ, List.setIfInBounds_toArray, List.set_cons_zero, List.set_cons_succ]
              generalize hq8 : wa7.heap.size = q8 at *
              generalize wa7.alloc (.cells #[.int .i64 0, .int .i64 0, .int .i64 0, .int .i64 0, .int .i64 0, .int .i64 0, .int .i64 0, .int .i64 0, .int .i64 0] 56) = wa8 at *
              have z9_0 := bb8_7.cell 0
              have f9_0 := bb8_7.free 0
              have z9_1 := bb8_7.cell 1
              have f9_1 := bb8_7.free 1
              have z9_2 := bb8_7.cell 2
              have f9_2 := bb8_7.free 2
              have z9_3 := bb8_7.cell 3
              have f9_3 := bb8_7.free 3
              have z9_4 := bb8_7.cell 4
              have f9_4 := bb8_7.free 4
              have z9_5 := bb8_7.cell 5
              have f9_5 := bb8_7.free 5
              have z9_6 := bb8_7.cell 6
              have f9_6 := bb8_7.free 6
              have z9_7 := bb8_7.cell 7
              have f9_7 := bb8_7.free 7
              have z9_8 := bb8_7.cell 8
              have f9_8 := bb8_7.free 8
              refine wpAnyH_ready (rs := [8]) (by kernel_rfl) (by simp) (AllReadyH.cons rfl (fun K hK => ?_) AllReadyH.nil)
              go_simp
              have kk9 : Keep noneOf w5 (((((((((wa8.setCell ⟨q8, 0, none⟩ (.int .i64 a0)).setCell ⟨q8, 1, none⟩ (.int .i64 a1)).setCell ⟨q8, 2, none⟩ (.int .i64 a2)).setCell ⟨q8, 3, none⟩ (.int .i64 a3)).setCell ⟨q8, 4, none⟩ (.int .i64 a4)).setCell ⟨q8, 5, none⟩ (.int .i64 a5)).setCell ⟨q8, 6, none⟩ (.int .i64 a6)).setCell ⟨q8, 7, none⟩ (.int .i64 a7)).setCell ⟨q8, 8, none⟩ (.int .i64 (c.v.length : Int))) := (keep_nine (q := q8) kk8 (fun hh => absurd hh (by omega)) (.int .i64 a0) (.int .i64 a1) (.int .i64 a2) (.int .i64 a3) (.int .i64 a4) (.int .i64 a5) (.int .i64 a6) (.int .i64 a7) (.int .i64 (c.v.length : Int)))
              have bb9 : Box (((((((((wa8.setCell ⟨q8, 0, none⟩ (.int .i64 a0)).setCell ⟨q8, 1, none⟩ (.int .i64 a1)).setCell ⟨q8, 2, none⟩ (.int .i64 a2)).setCell ⟨q8, 3, none⟩ (.int .i64 a3)).setCell ⟨q8, 4, none⟩ (.int .i64 a4)).setCell ⟨q8, 5, none⟩ (.int .i64 a5)).setCell ⟨q8, 6, none⟩ (.int .i64 a6)).setCell ⟨q8, 7, none⟩ (.int .i64 a7)).setCell ⟨q8, 8, none⟩ (.int .i64 (c.v.length : Int))) q8 56 #[.int .i64 a0, .int .i64 a1, .int .i64 a2, .int .i64 a3, .int .i64 a4, .int .i64 a5, .int .i64 a6, .int .i64 a7, .int .i64 (c.v.length : Int)] := (box_nine bb8_7 (.int .i64 a0) (.int .i64 a1) (.int .i64 a2) (.int .i64 a3) (.int .i64 a4) (.int .i64 a5) (.int .i64 a6) (.int .i64 a7) (.int .i64 (c.v.length : Int)))
              have bo9 := (far_nine (q := q8) bb8_8 (by omega) (.int .i64 a0) (.int .i64 a1) (.int .i64 a2) (.int .i64 a3) (.int .i64 a4) (.int .i64 a5) (.int .i64 a6) (.int .i64 a7) (.int .i64 (c.v.length : Int)))
              refine hK.out _ _ (kk9) (fun hHeld => ?_)
              clear hK K
              try simp only [Act.put, List.getElem_toArray, List.getElem_cons_zero, List.getElem_cons_succ, List.setIfInBounds_toArray, List.set_cons_zero, List.set_cons_succ]
              generalize (((((((((wa8.setCell ⟨q8, 0, none⟩ (.int .i64 a0)).setCell ⟨q8, 1, none⟩ (.int .i64 a1)).setCell ⟨q8, 2, none⟩ (.int .i64 a2)).setCell ⟨q8, 3, none⟩ (.int .i64 a3)).setCell ⟨q8, 4, none⟩ (.int .i64 a4)).setCell ⟨q8, 5, none⟩ (.int .i64 a5)).setCell ⟨q8, 6, none⟩ (.int .i64 a6)).setCell ⟨q8, 7, none⟩ (.int .i64 a7)).setCell ⟨q8, 8, none⟩ (.int .i64 (c.v.length : Int))) = ws9 at *
              have z10_0 := bo9.cell 0
              have f10_0 := bo9.free 0
              have z10_1 := bo9.cell 1
              have f10_1 := bo9.free 1
              have z10_2 := bo9.cell 2
              have f10_2 := bo9.free 2
              have z10_3 := bo9.cell 3
              have f10_3 := bo9.free 3
              have z10_4 := bo9.cell 4
              have f10_4 := bo9.free 4
              have z10_5 := bo9.cell 5
              have f10_5 := bo9.free 5
              have z10_6 := bo9.cell 6
              have f10_6 := bo9.free 6
              have z10_7 := bo9.cell 7
              have f10_7 := bo9.free 7
              have z10_8 := bo9.cell 8
              have f10_8 := bo9.free 8
              refine wpAnyH_ready (rs := [9]) (by kernel_rfl) (by simp) (AllReadyH.cons rfl (fun K hK => ?_) AllReadyH.nil)
              go_simp
              have kk10 : Keep noneOf w5 (((((((((ws9.setCell ⟨q7, 0, none⟩ (.int .i64 b0)).setCell ⟨q7, 1, none⟩ (.int .i64 b1)).setCell ⟨q7, 2, none⟩ (.int .i64 b2)).setCell ⟨q7, 3, none⟩ (.int .i64 b3)).setCell ⟨q7, 4, none⟩ (.int .i64 b4)).setCell ⟨q7, 5, none⟩ (.int .i64 b5)).setCell ⟨q7, 6, none⟩ (.int .i64 b6)).setCell ⟨q7, 7, none⟩ (.int .i64 b7)).setCell ⟨q7, 8, none⟩ (.int .i64 (c.l.length : Int))) := (keep_nine (q := q7) kk9 (fun hh => absurd hh (by omega)) (.int .i64 b0) (.int .i64 b1) (.int .i64 b2) (.int .i64 b3) (.int .i64 b4) (.int .i64 b5) (.int .i64 b6) (.int .i64 b7) (.int .i64 (c.l.length : Int)))
              have bb10 : Box (((((((((ws9.setCell ⟨q7, 0, none⟩ (.int .i64 b0)).setCell ⟨q7, 1, none⟩ (.int .i64 b1)).setCell ⟨q7, 2, none⟩ (.int .i64 b2)).setCell ⟨q7, 3, none⟩ (.int .i64 b3)).setCell ⟨q7, 4, none⟩ (.int .i64 b4)).setCell ⟨q7, 5, none⟩ (.int .i64 b5)).setCell ⟨q7, 6, none⟩ (.int .i64 b6)).setCell ⟨q7, 7, none⟩ (.int .i64 b7)).setCell ⟨q7, 8, none⟩ (.int .i64 (c.l.length : Int))) q7 56 #[.int .i64 b0, .int .i64 b1, .int .i64 b2, .int .i64 b3, .int .i64 b4, .int .i64 b5, .int .i64 b6, .int .i64 b7, .int .i64 (c.l.length : Int)] := (box_nine bo9 (.int .i64 b0) (.int .i64 b1) (.int .i64 b2) (.int .i64 b3) (.int .i64 b4) (.int .i64 b5) (.int .i64 b6) (.int .i64 b7) (.int .i64 (c.l.length : Int)))
              have bo10 := (far_nine (q := q7) bb9 (by omega) (.int .i64 b0) (.int .i64 b1) (.int .i64 b2) (.int .i64 b3) (.int .i64 b4) (.int .i64 b5) (.int .i64 b6) (.int .i64 b7) (.int .i64 (c.l.length : Int)))
              refine hK.out _ _ (kk10) (fun hHeld => ?_)
              clear hK K
              try simp only [Act.put, List.getElem_toArray, List.getElem_cons_zero, List.getElem_cons_succ, List.setIfInBounds_toArray, List.set_cons_zero, List.set_cons_succ]
              generalize (((((((((ws9.setCell ⟨q7, 0, none⟩ (.int .i64 b0)).setCell ⟨q7, 1, none⟩ (.int .i64 b1)).setCell ⟨q7, 2, none⟩ (.int .i64 b2)).setCell ⟨q7, 3, none⟩ (.int .i64 b3)).setCell ⟨q7, 4, none⟩ (.int .i64 b4)).setCell ⟨q7, 5, none⟩ (.int .i64 b5)).setCell ⟨q7, 6, none⟩ (.int .i64 b6)).setCell ⟨q7, 7, none⟩ (.int .i64 b7)).setCell ⟨q7, 8, none⟩ (.int .i64 (c.l.length : Int))) = ws10 at *
              refine wpAnyH_done (by kernel_rfl) ?_ _
              go_wp2_with fail
              go_meet
              exact ⟨_, _, rfl, rfl, kk10, n7, n8, (by omega), ⟨_, _, _, _, _, _, _, _, bo10, h8v, hta⟩, ⟨_, _, _, _, _, _, _, _, bb10, h8l, htb⟩⟩
          · skip
            go_simp
            have kk11 : Keep noneOf w5 (wc1.alloc (.cells #[.int .i64 0, .int .i64 0, .int .i64 0, .int .i64 0, .int .i64 0, .int .i64 0, .int .i64 0, .int .i64 0, .int .i64 0] 56)) := kk1.alloc _
            have n7 : w5.heap.size ≤ wc1.heap.size := kk1.size
            have bb11_7 := Box.new wc1 56 #[.int .i64 0, .int .i64 0, .int .i64 0, .int .i64 0, .int .i64 0, .int .i64 0, .int .i64 0, .int .i64 0, .int .i64 0]
            refine hK.out _ _ (kk11) (fun hHeld => ?_)
            clear hK K
            try simp only [Act.put, List.getElem_toArray, List.getElem_cons_zero, List.getElem_cons_succ, List.setIfInBounds_toArray, List.set_cons_zero, List.set_cons_succ]
            generalize hq11 : wc1.heap.size = q11 at *
            generalize wc1.alloc (.cells #[.int .i64 0, .int .i64 0, .int .i64 0, .int .i64 0, .int .i64 0, .int .i64 0, .int .i64 0, .int .i64 0, .int .i64 0] 56) = wa11 at *
            refine wpAnyH_ready (rs := [5, 7]) (by kernel_rfl) (by simp) (AllReadyH.cons rfl (fun K hK => ?_) (AllReadyH.cons rfl (fun K hK => ?_) AllReadyH.nil))
            · skip
              have lb12_7 := bb11_7.lt
              go_simp
              go_at_call 38
              refine (HGL.out _ kk11).mono ?_
              rintro e wc12 ⟨u12, rfl, ⟨b0, b1, b2, b3, b4, b5, b6, b7, rfl, _, htb⟩, k12⟩
              go_wp2_with fail
              have kk12 : Keep noneOf w5 wc12 := kk11.trans k12 (fun _ _ h => h)
              have bb12_7 := bb11_7.keep k12 id
              have hs12 := k12.size
              clear k12
              refine hK.out _ _ (kk12) (fun hHeld => ?_)
              clear hK K
              try simp only [Act.put, List.getElem_toArray, List.getElem_cons_zero, List.getElem_cons_succ, List.setIfInBounds_toArray, List.set_cons_zero, List.set_cons_succ]
              refine wpAnyH_ready (rs := [7]) (by kernel_rfl) (by simp) (AllReadyH.cons rfl (fun K hK => ?_) AllReadyH.nil)
              go_simp
              have kk13 : Keep noneOf w5 (wc12.alloc (.cells #[.int .i64 0, .int .i64 0, .int .i64 0, .int .i64 0, .int .i64 0, .int .i64 0, .int .i64 0, .int .i64 0, .int .i64 0] 56)) := kk12.alloc _
              have n8 : w5.heap.size ≤ wc12.heap.size := kk12.size
              have bb13_8 := Box.new wc12 56 #[.int .i64 0, .int .i64 0, .int .i64 0, .int .i64 0, .int .i64 0, .int .i64 0, .int .i64 0, .int .i64 0, .int .i64 0]
              have bb13_7 := bb12_7.alloc (.cells #[.int .i64 0, .int .i64 0, .int .i64 0, .int .i64 0, .int .i64 0, .int .i64 0, .int .i64 0, .int .i64 0, .int .i64 0] 56)
              have n78 := bb12_7.lt
              refine hK.out _ _ (kk13) (fun hHeld => ?_)
              clear hK K
              try simp only [Act.put, List.getElem_toArray, List.getElem_cons_zero, List.getElem_cons_succ, List.setIfInBounds_toArray, List.set_cons_zero, List.set_cons_succ]
              generalize hq13 : wc12.heap.size = q13 at *
              generalize wc12.alloc (.cells #[.int .i64 0, .int .i64 0, .int .i64 0, .int .i64 0, .int .i64 0, .int .i64 0, .int .i64 0, .int .i64 0, .int .i64 0] 56) = wa13 at *
              have z14_0 := bb13_7.cell 0
              have f14_0 := bb13_7.free 0
              have z14_1 := bb13_7.cell 1
              have f14_1 := bb13_7.free 1
              have z14_2 := bb13_7.cell 2
              have f14_2 := bb13_7.free 2
              have z14_3 := bb13_7.cell 3
              have f14_3 := bb13_7.free 3
              have z14_4 := bb13_7.cell 4
              have f14_4 := bb13_7.free 4
              have z14_5 := bb13_7.cell 5
              have f14_5 := bb13_7.free 5
              have z14_6 := bb13_7.cell 6
              have f14_6 := bb13_7.free 6
              have z14_7 := bb13_7.cell 7
              have f14_7 := bb13_7.free 7
              have z14_8 := bb13_7.cell 8
              have f14_8 := bb13_7.free 8
              refine wpAnyH_ready (rs := [8]) (by kernel_rfl) (by simp) (AllReadyH.cons rfl (fun K hK => ?_) AllReadyH.nil)
              go_simp
              have kk14 : Keep noneOf w5 (((((((((wa13.setCell ⟨q11, 0, none⟩ (.int .i64 a0)).setCell ⟨q11, 1, none⟩ (.int .i64 a1)).setCell ⟨q11, 2, none⟩ (.int .i64 a2)).setCell ⟨q11, 3, none⟩ (.int .i64 a3)).setCell ⟨q11, 4, none⟩ (.int .i64 a4)).setCell ⟨q11, 5, none⟩ (.int .i64 a5)).setCell ⟨q11, 6, none⟩ (.int .i64 a6)).setCell ⟨q11, 7, none⟩ (.int .i64 a7)).setCell ⟨q11, 8, none⟩ (.int .i64 (c.v.length : Int))) := (keep_nine (q := q11) kk13 (fun hh => absurd hh (by omega)) (.int .i64 a0) (.int .i64 a1) (.int .i64 a2) (.int .i64 a3) (.int .i64 a4) (.int .i64 a5) (.int .i64 a6) (.int .i64 a7) (.int .i64 (c.v.length : Int)))
              have bb14 : Box (((((((((wa13.setCell ⟨q11, 0, none⟩ (.int .i64 a0)).setCell ⟨q11, 1, none⟩ (.int .i64 a1)).setCell ⟨q11, 2, none⟩ (.int .i64 a2)).setCell ⟨q11, 3, none⟩ (.int .i64 a3)).setCell ⟨q11, 4, none⟩ (.int .i64 a4)).setCell ⟨q11, 5, none⟩ (.int .i64 a5)).setCell ⟨q11, 6, none⟩ (.int .i64 a6)).setCell ⟨q11, 7, none⟩ (.int .i64 a7)).setCell ⟨q11, 8, none⟩ (.int .i64 (c.v.length : Int))) q11 56 #[.int .i64 a0, .int .i64 a1, .int .i64 a2, .int .i64 a3, .int .i64 a4, .int .i64 a5, .int .i64 a6, .int .i64 a7, .int .i64 (c.v.length : Int)] := (box_nine bb13_7 (.int .i64 a0) (.int .i64 a1) (.int .i64 a2) (.int .i64 a3) (.int .i64 a4) (.int .i64 a5) (.int .i64 a6) (.int .i64 a7) (.int .i64 (c.v.length : Int)))
              have bo14 := (far_nine (q := q11) bb13_8 (by omega) (.int .i64 a0) (.int .i64 a1) (.int .i64 a2) (.int .i64 a3) (.int .i64 a4) (.int .i64 a5) (.int .i64 a6) (.int .i64 a7) (.int .i64 (c.v.length : Int)))
              refine hK.out _ _ (kk14) (fun hHeld => ?_)
              clear hK K
              try simp only [Act.put, List.getElem_toArray, List.getElem_cons_zero, List.getElem_cons_succ, List.setIfInBounds_toArray, List.set_cons_zero, List.set_cons_succ]
              generalize (((((((((wa13.setCell ⟨q11, 0, none⟩ (.int .i64 a0)).setCell ⟨q11, 1, none⟩ (.int .i64 a1)).setCell ⟨q11, 2, none⟩ (.int .i64 a2)).setCell ⟨q11, 3, none⟩ (.int .i64 a3)).setCell ⟨q11, 4, none⟩ (.int .i64 a4)).setCell ⟨q11, 5, none⟩ (.int .i64 a5)).setCell ⟨q11, 6, none⟩ (.int .i64 a6)).setCell ⟨q11, 7, none⟩ (.int .i64 a7)).setCell ⟨q11, 8, none⟩ (.int .i64 (c.v.length : Int))) = ws14 at *
              have z15_0 := bo14.cell 0
              have f15_0 := bo14.free 0
              have z15_1 := bo14.cell 1
              have f15_1 := bo14.free 1
              have z15_2 := bo14.cell 2
              have f15_2 := bo14.free 2
              have z15_3 := bo14.cell 3
              have f15_3 := bo14.free 3
              have z15_4 := bo14.cell 4
              have f15_4 := bo14.free 4
              have z15_5 := bo14.cell 5
              have f15_5 := bo14.free 5
              have z15_6 := bo14.cell 6
              have f15_6 := bo14.free 6
              have z15_7 := bo14.cell 7
              have f15_7 := bo14.free 7
              have z15_8 := bo14.cell 8
              have f15_8 := bo14.free 8
              refine wpAnyH_ready (rs := [9]) (by kernel_rfl) (by simp) (AllReadyH.cons rfl (fun K hK => ?_) AllReadyH.nil)
              go_simp
              have kk15 : Keep noneOf w5 (((((((((ws14.setCell ⟨q13, 0, none⟩ (.int .i64 b0)).setCell ⟨q13, 1, none⟩ (.int .i64 b1)).setCell ⟨q13, 2, none⟩ (.int .i64 b2)).setCell ⟨q13, 3, none⟩ (.int .i64 b3)).setCell ⟨q13, 4, none⟩ (.int .i64 b4)).setCell ⟨q13, 5, none⟩ (.int .i64 b5)).setCell ⟨q13, 6, none⟩ (.int .i64 b6)).setCell ⟨q13, 7, none⟩ (.int .i64 b7)).setCell ⟨q13, 8, none⟩ (.int .i64 (c.l.length : Int))) := (keep_nine (q := q13) kk14 (fun hh => absurd hh (by omega)) (.int .i64 b0) (.int .i64 b1) (.int .i64 b2) (.int .i64 b3) (.int .i64 b4) (.int .i64 b5) (.int .i64 b6) (.int .i64 b7) (.int .i64 (c.l.length : Int)))
              have bb15 : Box (((((((((ws14.setCell ⟨q13, 0, none⟩ (.int .i64 b0)).setCell ⟨q13, 1, none⟩ (.int .i64 b1)).setCell ⟨q13, 2, none⟩ (.int .i64 b2)).setCell ⟨q13, 3, none⟩ (.int .i64 b3)).setCell ⟨q13, 4, none⟩ (.int .i64 b4)).setCell ⟨q13, 5, none⟩ (.int .i64 b5)).setCell ⟨q13, 6, none⟩ (.int .i64 b6)).setCell ⟨q13, 7, none⟩ (.int .i64 b7)).setCell ⟨q13, 8, none⟩ (.int .i64 (c.l.length : Int))) q13 56 #[.int .i64 b0, .int .i64 b1, .int .i64 b2, .int .i64 b3, .int .i64 b4, .int .i64 b5, .int .i64 b6, .int .i64 b7, .int .i64 (c.l.length : Int)] := (box_nine bo14 (.int .i64 b0) (.int .i64 b1) (.int .i64 b2) (.int .i64 b3) (.int .i64 b4) (.int .i64 b5) (.int .i64 b6) (.int .i64 b7) (.int .i64 (c.l.length : Int)))
              have bo15 := (far_nine (q := q13) bb14 (by omega) (.int .i64 b0) (.int .i64 b1) (.int .i64 b2) (.int .i64 b3) (.int .i64 b4) (.int .i64 b5) (.int .i64 b6) (.int .i64 b7) (.int .i64 (c.l.length : Int)))
              refine hK.out _ _ (kk15) (fun hHeld => ?_)
              clear hK K
              try simp only [Act.put, List.getElem_toArray, List.getElem_cons_zero, List.getElem_cons_succ, List.setIfInBounds_toArray, List.set_cons_zero, List.set_cons_succ]
              generalize (((((((((ws14.setCell ⟨q13, 0, none⟩ (.int .i64 b0)).setCell ⟨q13, 1, none⟩ (.int .i64 b1)).setCell ⟨q13, 2, none⟩ (.int .i64 b2)).setCell ⟨q13, 3, none⟩ (.int .i64 b3)).setCell ⟨q13, 4, none⟩ (.int .i64 b4)).setCell ⟨q13, 5, none⟩ (.int .i64 b5)).setCell ⟨q13, 6, none⟩ (.int .i64 b6)).setCell ⟨q13, 7, none⟩ (.int .i64 b7)).setCell ⟨q13, 8, none⟩ (.int .i64 (c.l.length : Int))) = ws15 at *
              refine wpAnyH_done (by kernel_rfl) ?_ _
              go_wp2_with fail
              go_meet
              exact ⟨_, _, rfl, rfl, kk15, n7, n8, (by omega), ⟨_, _, _, _, _, _, _, _, bo15, h8v, hta⟩, ⟨_, _, _, _, _, _, _, _, bb15, h8l, htb⟩⟩
            · skip
              go_simp
              have kk16 : Keep noneOf w5 (wa11.alloc (.cells #[.int .i64 0, .int .i64 0, .int .i64 0, .int .i64 0, .int .i64 0, .int .i64 0, .int .i64 0, .int .i64 0, .int .i64 0] 56)) := kk11.alloc _
              have n8 : w5.heap.size ≤ wa11.heap.size := kk11.size
              have bb16_8 := Box.new wa11 56 #[.int .i64 0, .int .i64 0, .int .i64 0, .int .i64 0, .int .i64 0, .int .i64 0, .int .i64 0, .int .i64 0, .int .i64 0]
              have bb16_7 := bb11_7.alloc (.cells #[.int .i64 0, .int .i64 0, .int .i64 0, .int .i64 0, .int .i64 0, .int .i64 0, .int .i64 0, .int .i64 0, .int .i64 0] 56)
              have n78 := bb11_7.lt
              refine hK.out _ _ (kk16) (fun hHeld => ?_)
              clear hK K
              try simp only [Act.put, List.getElem_toArray, List.getElem_cons_zero, List.getElem_cons_succ, List.setIfInBounds_toArray, List.set_cons_zero, List.set_cons_succ]
              generalize hq16 : wa11.heap.size = q16 at *
              generalize wa11.alloc (.cells #[.int .i64 0, .int .i64 0, .int .i64 0, .int .i64 0, .int .i64 0, .int .i64 0, .int .i64 0, .int .i64 0, .int .i64 0] 56) = wa16 at *
              refine wpAnyH_ready (rs := [5]) (by kernel_rfl) (by simp) (AllReadyH.cons rfl (fun K hK => ?_) AllReadyH.nil)
              have lb17_7 := bb16_7.lt
              have lb17_8 := bb16_8.lt
              go_simp
              go_at_call 38
              refine (HGL.out _ kk16).mono ?_
              rintro e wc17 ⟨u17, rfl, ⟨b0, b1, b2, b3, b4, b5, b6, b7, rfl, _, htb⟩, k17⟩
              go_wp2_with fail
              have kk17 : Keep noneOf w5 wc17 := kk16.trans k17 (fun _ _ h => h)
              have bb17_7 := bb16_7.keep k17 id
              have bb17_8 := bb16_8.keep k17 id
              have hs17 := k17.size
              clear k17
              refine hK.out _ _ (kk17) (fun hHeld => ?_)
              clear hK K
              try simp only [Act.put, List.getElem_toArray, List.getElem_cons_zero, List.getElem_cons_succ, List.setIfInBounds_toArray, List.set_cons_zero, List.set_cons_succ]
              have z18_0 := bb17_7.cell 0
              have f18_0 := bb17_7.free 0
              have z18_1 := bb17_7.cell 1
              have f18_1 := bb17_7.free 1
              have z18_2 := bb17_7.cell 2
              have f18_2 := bb17_7.free 2
              have z18_3 := bb17_7.cell 3
              have f18_3 := bb17_7.free 3
              have z18_4 := bb17_7.cell 4
              have f18_4 := bb17_7.free 4
              have z18_5 := bb17_7.cell 5
              have f18_5 := bb17_7.free 5
              have z18_6 := bb17_7.cell 6
              have f18_6 := bb17_7.free 6
              have z18_7 := bb17_7.cell 7
              have f18_7 := bb17_7.free 7
              have z18_8 := bb17_7.cell 8
              have f18_8 := bb17_7.free 8
              refine wpAnyH_ready (rs := [8]) (by kernel_rfl) (by simp) (AllReadyH.cons rfl (fun K hK => ?_) AllReadyH.nil)
              go_simp
              have kk18 : Keep noneOf w5 (((((((((wc17.setCell ⟨q11, 0, none⟩ (.int .i64 a0)).setCell ⟨q11, 1, none⟩ (.int .i64 a1)).setCell ⟨q11, 2, none⟩ (.int .i64 a2)).setCell ⟨q11, 3, none⟩ (.int .i64 a3)).setCell ⟨q11, 4, none⟩ (.int .i64 a4)).setCell ⟨q11, 5, none⟩ (.int .i64 a5)).setCell ⟨q11, 6, none⟩ (.int .i64 a6)).setCell ⟨q11, 7, none⟩ (.int .i64 a7)).setCell ⟨q11, 8, none⟩ (.int .i64 (c.v.length : Int))) := (keep_nine (q := q11) kk17 (fun hh => absurd hh (by omega)) (.int .i64 a0) (.int .i64 a1) (.int .i64 a2) (.int .i64 a3) (.int .i64 a4) (.int .i64 a5) (.int .i64 a6) (.int .i64 a7) (.int .i64 (c.v.length : Int)))
              have bb18 : Box (((((((((wc17.setCell ⟨q11, 0, none⟩ (.int .i64 a0)).setCell ⟨q11, 1, none⟩ (.int .i64 a1)).setCell ⟨q11, 2, none⟩ (.int .i64 a2)).setCell ⟨q11, 3, none⟩ (.int .i64 a3)).setCell ⟨q11, 4, none⟩ (.int .i64 a4)).setCell ⟨q11, 5, none⟩ (.int .i64 a5)).setCell ⟨q11, 6, none⟩ (.int .i64 a6)).setCell ⟨q11, 7, none⟩ (.int .i64 a7)).setCell ⟨q11, 8, none⟩ (.int .i64 (c.v.length : Int))) q11 56 #[.int .i64 a0, .int .i64 a1, .int .i64 a2, .int .i64 a3, .int .i64 a4, .int .i64 a5, .int .i64 a6, .int .i64 a7, .int .i64 (c.v.length : Int)] := (box_nine bb17_7 (.int .i64 a0) (.int .i64 a1) (.int .i64 a2) (.int .i64 a3) (.int .i64 a4) (.int .i64 a5) (.int .i64 a6) (.int .i64 a7) (.int .i64 (c.v.length : Int)))
              have bo18 := (far_nine (q := q11) bb17_8 (by omega) (.int .i64 a0) (.int .i64 a1) (.int .i64 a2) (.int .i64 a3) (.int .i64 a4) (.int .i64 a5) (.int .i64 a6) (.int .i64 a7) (.int .i64 (c.v.length : Int)))
              refine hK.out _ _ (kk18) (fun hHeld => ?_)
              clear hK K
              try simp only [Act.put, List.getElem_toArray, List.getElem_cons_zero, List.getElem_cons_succ, List.setIfInBounds_toArray, List.set_cons_zero, List.set_cons_succ]
              generalize (((((((((wc17.setCell ⟨q11, 0, none⟩ (.int .i64 a0)).setCell ⟨q11, 1, none⟩ (.int .i64 a1)).setCell ⟨q11, 2, none⟩ (.int .i64 a2)).setCell ⟨q11, 3, none⟩ (.int .i64 a3)).setCell ⟨q11, 4, none⟩ (.int .i64 a4)).setCell ⟨q11, 5, none⟩ (.int .i64 a5)).setCell ⟨q11, 6, none⟩ (.int .i64 a6)).setCell ⟨q11, 7, none⟩ (.int .i64 a7)).setCell ⟨q11, 8, none⟩ (.int .i64 (c.v.length : Int))) = ws18 at *
              have z19_0 := bo18.cell 0
              have f19_0 := bo18.free 0
              have z19_1 := bo18.cell 1
              have f19_1 := bo18.free 1
              have z19_2 := bo18.cell 2
              have f19_2 := bo18.free 2
              have z19_3 := bo18.cell 3
              have f19_3 := bo18.free 3
              have z19_4 := bo18.cell 4
              have f19_4 := bo18.free 4
              have z19_5 := bo18.cell 5
              have f19_5 := bo18.free 5
              have z19_6 := bo18.cell 6
              have f19_6 := bo18.free 6
              have z19_7 := bo18.cell 7
              have f19_7 := bo18.free 7
              have z19_8 := bo18.cell 8
              have f19_8 := bo18.free 8
              refine wpAnyH_ready (rs := [9]) (by kernel_rfl) (by simp) (AllReadyH.cons rfl (fun K hK => ?_) AllReadyH.nil)
              go_simp
              have kk19 : Keep noneOf w5 (((((((((ws18.setCell ⟨q16, 0, none⟩ (.int .i64 b0)).setCell ⟨q16, 1, none⟩ (.int .i64 b1)).setCell ⟨q16, 2, none⟩ (.int .i64 b2)).setCell ⟨q16, 3, none⟩ (.int .i64 b3)).setCell ⟨q16, 4, none⟩ (.int .i64 b4)).setCell ⟨q16, 5, none⟩ (.int .i64 b5)).setCell ⟨q16, 6, none⟩ (.int .i64 b6)).setCell ⟨q16, 7, none⟩ (.int .i64 b7)).setCell ⟨q16, 8, none⟩ (.int .i64 (c.l.length : Int))) := (keep_nine (q := q16) kk18 (fun hh => absurd hh (by omega)) (.int .i64 b0) (.int .i64 b1) (.int .i64 b2) (.int .i64 b3) (.int .i64 b4) (.int .i64 b5) (.int .i64 b6) (.int .i64 b7) (.int .i64 (c.l.length : Int)))
              have bb19 : Box (((((((((ws18.setCell ⟨q16, 0, none⟩ (.int .i64 b0)).setCell ⟨q16, 1, none⟩ (.int .i64 b1)).setCell ⟨q16, 2, none⟩ (.int .i64 b2)).setCell ⟨q16, 3, none⟩ (.int .i64 b3)).setCell ⟨q16, 4, none⟩ (.int .i64 b4)).setCell ⟨q16, 5, none⟩ (.int .i64 b5)).setCell ⟨q16, 6, none⟩ (.int .i64 b6)).setCell ⟨q16, 7, none⟩ (.int .i64 b7)).setCell ⟨q16, 8, none⟩ (.int .i64 (c.l.length : Int))) q16 56 #[.int .i64 b0, .int .i64 b1, .int .i64 b2, .int .i64 b3, .int .i64 b4, .int .i64 b5, .int .i64 b6, .int .i64 b7, .int .i64 (c.l.length : Int)] := (box_nine bo18 (.int .i64 b0) (.int .i64 b1) (.int .i64 b2) (.int .i64 b3) (.int .i64 b4) (.int .i64 b5) (.int .i64 b6) (.int .i64 b7) (.int .i64 (c.l.length : Int)))
              have bo19 := (far_nine (q := q16) bb18 (by omega) (.int .i64 b0) (.int .i64 b1) (.int .i64 b2) (.int .i64 b3) (.int .i64 b4) (.int .i64 b5) (.int .i64 b6) (.int .i64 b7) (.int .i64 (c.l.length : Int)))
              refine hK.out _ _ (kk19) (fun hHeld => ?_)
              clear hK K
              try simp only [Act.put, List.getElem_toArray, List.getElem_cons_zero, List.getElem_cons_succ, List.setIfInBounds_toArray, List.set_cons_zero, List.set_cons_succ]
              generalize (((((((((ws18.setCell ⟨q16, 0, none⟩ (.int .i64 b0)).setCell ⟨q16, 1, none⟩ (.int .i64 b1)).setCell ⟨q16, 2, none⟩ (.int .i64 b2)).setCell ⟨q16, 3, none⟩ (.int .i64 b3)).setCell ⟨q16, 4, none⟩ (.int .i64 b4)).setCell ⟨q16, 5, none⟩ (.int .i64 b5)).setCell ⟨q16, 6, none⟩ (.int .i64 b6)).setCell ⟨q16, 7, none⟩ (.int .i64 b7)).setCell ⟨q16, 8, none⟩ (.int .i64 (c.l.length : Int))) = ws19 at *
              refine wpAnyH_done (by kernel_rfl) ?_ _
              go_wp2_with fail
              go_meet
              exact ⟨_, _, rfl, rfl, kk19, n7, n8, (by omega), ⟨_, _, _, _, _, _, _, _, bo19, h8v, hta⟩, ⟨_, _, _, _, _, _, _, _, bb19, h8l, htb⟩⟩
          · skip
            go_simp
            have kk20 : Keep noneOf w5 (wc1.alloc (.cells #[.int .i64 0, .int .i64 0, .int .i64 0, .int .i64 0, .int .i64 0, .int .i64 0, .int .i64 0, .int .i64 0, .int .i64 0] 56)) := kk1.alloc _
            have n8 : w5.heap.size ≤ wc1.heap.size := kk1.size
            have bb20_8 := Box.new wc1 56 #[.int .i64 0, .int .i64 0, .int .i64 0, .int .i64 0, .int .i64 0, .int .i64 0, .int .i64 0, .int .i64 0, .int .i64 0]
            refine hK.out _ _ (kk20) (fun hHeld => ?_)
            clear hK K
            try simp only [Act.put, List.getElem_toArray, List.getElem_cons_zero, List.getElem_cons_succ, List.setIfInBounds_toArray, List.set_cons_zero, List.set_cons_succ]
            generalize hq20 : wc1.heap.size = q20 at *
            generalize wc1.alloc (.cells #[.int .i64 0, .int .i64 0, .int .i64 0, .int .i64 0, .int .i64 0, .int .i64 0, .int .i64 0, .int .i64 0, .int .i64 0] 56) = wa20 at *
            refine wpAnyH_ready (rs := [5, 6]) (by kernel_rfl) (by simp) (AllReadyH.cons rfl (fun K hK => ?_) (AllReadyH.cons rfl (fun K hK => ?_) AllReadyH.nil))
            · skip
              have lb21_8 := bb20_8.lt
              go_simp
              go_at_call 38
              refine (HGL.out _ kk20).mono ?_
              rintro e wc21 ⟨u21, rfl, ⟨b0, b1, b2, b3, b4, b5, b6, b7, rfl, _, htb⟩, k21⟩
              go_wp2_with fail
              have kk21 : Keep noneOf w5 wc21 := kk20.trans k21 (fun _ _ h => h)
              have bb21_8 := bb20_8.keep k21 id
              have hs21 := k21.size
              clear k21
              refine hK.out _ _ (kk21) (fun hHeld => ?_)
              clear hK K
              try simp only [Act.put, List.getElem_toArray, List.getElem_cons_zero, List.getElem_cons_succ, List.setIfInBounds_toArray, List.set_cons_zero, List.set_cons_succ]
              refine wpAnyH_ready (rs := [6]) (by kernel_rfl) (by simp) (AllReadyH.cons rfl (fun K hK => ?_) AllReadyH.nil)
              go_simp
              have kk22 : Keep noneOf w5 (wc21.alloc (.cells #[.int .i64 0, .int .i64 0, .int .i64 0, .int .i64 0, .int .i64 0, .int .i64 0, .int .i64 0, .int .i64 0, .int .i64 0] 56)) := kk21.alloc _
              have n7 : w5.heap.size ≤ wc21.heap.size := kk21.size
              have bb22_7 := Box.new wc21 56 #[.int .i64 0, .int .i64 0, .int .i64 0, .int .i64 0, .int .i64 0, .int .i64 0, .int .i64 0, .int .i64 0, .int .i64 0]
              have bb22_8 := bb21_8.alloc (.cells #[.int .i64 0, .int .i64 0, .int .i64 0, .int .i64 0, .int .i64 0, .int .i64 0, .int .i64 0, .int .i64 0, .int .i64 0] 56)
              have n78 := bb21_8.lt
              refine hK.out _ _ (kk22) (fun hHeld => ?_)
              clear hK K
              try simp only [Act.put, List.getElem_toArray, List.getElem_cons_zero, List.getElem_cons_succ, List.setIfInBounds_toArray, List.set_cons_zero, List.set_cons_succ]
              generalize hq22 : wc21.heap.size = q22 at *
              generalize wc21.alloc (.cells #[.int .i64 0, .int .i64 0, .int .i64 0, .int .i64 0, .int .i64 0, .int .i64 0, .int .i64 0, .int .i64 0, .int .i64 0] 56) = wa22 at *
              have z23_0 := bb22_7.cell 0
              have f23_0 := bb22_7.free 0
              have z23_1 := bb22_7.cell 1
              have f23_1 := bb22_7.free 1
              have z23_2 := bb22_7.cell 2
              have f23_2 := bb22_7.free 2
              have z23_3 := bb22_7.cell 3
              have f23_3 := bb22_7.free 3
              have z23_4 := bb22_7.cell 4
              have f23_4 := bb22_7.free 4
              have z23_5 := bb22_7.cell 5
              have f23_5 := bb22_7.free 5
              have z23_6 := bb22_7.cell 6
              have f23_6 := bb22_7.free 6
              have z23_7 := bb22_7.cell 7
              have f23_7 := bb22_7.free 7
              have z23_8 := bb22_7.cell 8
              have f23_8 := bb22_7.free 8
              refine wpAnyH_ready (rs := [8]) (by kernel_rfl) (by simp) (AllReadyH.cons rfl (fun K hK => ?_) AllReadyH.nil)
              go_simp
              have kk23 : Keep noneOf w5 (((((((((wa22.setCell ⟨q22, 0, none⟩ (.int .i64 a0)).setCell ⟨q22, 1, none⟩ (.int .i64 a1)).setCell ⟨q22, 2, none⟩ (.int .i64 a2)).setCell ⟨q22, 3, none⟩ (.int .i64 a3)).setCell ⟨q22, 4, none⟩ (.int .i64 a4)).setCell ⟨q22, 5, none⟩ (.int .i64 a5)).setCell ⟨q22, 6, none⟩ (.int .i64 a6)).setCell ⟨q22, 7, none⟩ (.int .i64 a7)).setCell ⟨q22, 8, none⟩ (.int .i64 (c.v.length : Int))) := (keep_nine (q := q22) kk22 (fun hh => absurd hh (by omega)) (.int .i64 a0) (.int .i64 a1) (.int .i64 a2) (.int .i64 a3) (.int .i64 a4) (.int .i64 a5) (.int .i64 a6) (.int .i64 a7) (.int .i64 (c.v.length : Int)))
              have bb23 : Box (((((((((wa22.setCell ⟨q22, 0, none⟩ (.int .i64 a0)).setCell ⟨q22, 1, none⟩ (.int .i64 a1)).setCell ⟨q22, 2, none⟩ (.int .i64 a2)).setCell ⟨q22, 3, none⟩ (.int .i64 a3)).setCell ⟨q22, 4, none⟩ (.int .i64 a4)).setCell ⟨q22, 5, none⟩ (.int .i64 a5)).setCell ⟨q22, 6, none⟩ (.int .i64 a6)).setCell ⟨q22, 7, none⟩ (.int .i64 a7)).setCell ⟨q22, 8, none⟩ (.int .i64 (c.v.length : Int))) q22 56 #[.int .i64 a0, .int .i64 a1, .int .i64 a2, .int .i64 a3, .int .i64 a4, .int .i64 a5, .int .i64 a6, .int .i64 a7, .int .i64 (c.v.length : Int)] := (box_nine bb22_7 (.int .i64 a0) (.int .i64 a1) (.int .i64 a2) (.int .i64 a3) (.int .i64 a4) (.int .i64 a5) (.int .i64 a6) (.int .i64 a7) (.int .i64 (c.v.length : Int)))
              have bo23 := (far_nine (q := q22) bb22_8 (by omega) (.int .i64 a0) (.int .i64 a1) (.int .i64 a2) (.int .i64 a3) (.int .i64 a4) (.int .i64 a5) (.int .i64 a6) (.int .i64 a7) (.int .i64 (c.v.length : Int)))
              refine hK.out _ _ (kk23) (fun hHeld => ?_)
              clear hK K
              try simp only [Act.put, List.getElem_toArray, List.getElem_cons_zero, List.getElem_cons_succ, List.setIfInBounds_toArray, List.set_cons_zero, List.set_cons_succ]
              generalize (((((((((wa22.setCell ⟨q22, 0, none⟩ (.int .i64 a0)).setCell ⟨q22, 1, none⟩ (.int .i64 a1)).setCell ⟨q22, 2, none⟩ (.int .i64 a2)).setCell ⟨q22, 3, none⟩ (.int .i64 a3)).setCell ⟨q22, 4, none⟩ (.int .i64 a4)).setCell ⟨q22, 5, none⟩ (.int .i64 a5)).setCell ⟨q22, 6, none⟩ (.int .i64 a6)).setCell ⟨q22, 7, none⟩ (.int .i64 a7)).setCell ⟨q22, 8, none⟩ (.int .i64 (c.v.length : Int))) = ws23 at *
              have z24_0 := bo23.cell 0
              have f24_0 := bo23.free 0
              have z24_1 := bo23.cell 1
              have f24_1 := bo23.free 1
              have z24_2 := bo23.cell 2
              have f24_2 := bo23.free 2
              have z24_3 := bo23.cell 3
              have f24_3 := bo23.free 3
              have z24_4 := bo23.cell 4
              have f24_4 := bo23.free 4
              have z24_5 := bo23.cell 5
              have f24_5 := bo23.free 5
              have z24_6 := bo23.cell 6
              have f24_6 := bo23.free 6
              have z24_7 := bo23.cell 7
              have f24_7 := bo23.free 7
              have z24_8 := bo23.cell 8
              have f24_8 := bo23.free 8
              refine wpAnyH_ready (rs := [9]) (by kernel_rfl) (by simp) (AllReadyH.cons rfl (fun K hK => ?_) AllReadyH.nil)
              go_simp
              have kk24 : Keep noneOf w5 (((((((((ws23.setCell ⟨q20, 0, none⟩ (.int .i64 b0)).setCell ⟨q20, 1, none⟩ (.int .i64 b1)).setCell ⟨q20, 2, none⟩ (.int .i64 b2)).setCell ⟨q20, 3, none⟩ (.int .i64 b3)).setCell ⟨q20, 4, none⟩ (.int .i64 b4)).setCell ⟨q20, 5, none⟩ (.int .i64 b5)).setCell ⟨q20, 6, none⟩ (.int .i64 b6)).setCell ⟨q20, 7, none⟩ (.int .i64 b7)).setCell ⟨q20, 8, none⟩ (.int .i64 (c.l.length : Int))) := (keep_nine (q := q20) kk23 (fun hh => absurd hh (by omega)) (.int .i64 b0) (.int .i64 b1) (.int .i64 b2) (.int .i64 b3) (.int .i64 b4) (.int .i64 b5) (.int .i64 b6) (.int .i64 b7) (.int .i64 (c.l.length : Int)))
              have bb24 : Box (((((((((ws23.setCell ⟨q20, 0, none⟩ (.int .i64 b0)).setCell ⟨q20, 1, none⟩ (.int .i64 b1)).setCell ⟨q20, 2, none⟩ (.int .i64 b2)).setCell ⟨q20, 3, none⟩ (.int .i64 b3)).setCell ⟨q20, 4, none⟩ (.int .i64 b4)).setCell ⟨q20, 5, none⟩ (.int .i64 b5)).setCell ⟨q20, 6, none⟩ (.int .i64 b6)).setCell ⟨q20, 7, none⟩ (.int .i64 b7)).setCell ⟨q20, 8, none⟩ (.int .i64 (c.l.length : Int))) q20 56 #[.int .i64 b0, .int .i64 b1, .int .i64 b2, .int .i64 b3, .int .i64 b4, .int .i64 b5, .int .i64 b6, .int .i64 b7, .int .i64 (c.l.length : Int)] := (box_nine bo23 (.int .i64 b0) (.int .i64 b1) (.int .i64 b2) (.int .i64 b3) (.int .i64 b4) (.int .i64 b5) (.int .i64 b6) (.int .i64 b7) (.int .i64 (c.l.length : Int)))
              have bo24 := (far_nine (q := q20) bb23 (by omega) (.int .i64 b0) (.int .i64 b1) (.int .i64 b2) (.int .i64 b3) (.int .i64 b4) (.int .i64 b5) (.int .i64 b6) (.int .i64 b7) (.int .i64 (c.l.length : Int)))
              refine hK.out _ _ (kk24) (fun hHeld => ?_)
              clear hK K
              try simp only [Act.put, List.getElem_toArray, List.getElem_cons_zero, List.getElem_cons_succ, List.setIfInBounds_toArray, List.set_cons_zero, List.set_cons_succ]
              generalize (((((((((ws23.setCell ⟨q20, 0, none⟩ (.int .i64 b0)).setCell ⟨q20, 1, none⟩ (.int .i64 b1)).setCell ⟨q20, 2, none⟩ (.int .i64 b2)).setCell ⟨q20, 3, none⟩ (.int .i64 b3)).setCell ⟨q20, 4, none⟩ (.int .i64 b4)).setCell ⟨q20, 5, none⟩ (.int .i64 b5)).setCell ⟨q20, 6, none⟩ (.int .i64 b6)).setCell ⟨q20, 7, none⟩ (.int .i64 b7)).setCell ⟨q20, 8, none⟩ (.int .i64 (c.l.length : Int))) = ws24 at *
              refine wpAnyH_done (by kernel_rfl) ?_ _
              go_wp2_with fail
              go_meet
              exact ⟨_, _, rfl, rfl, kk24, n7, n8, (by omega), ⟨_, _, _, _, _, _, _, _, bo24, h8v, hta⟩, ⟨_, _, _, _, _, _, _, _, bb24, h8l, htb⟩⟩
            · skip
              go_simp
              have kk25 : Keep noneOf w5 (wa20.alloc (.cells #[.int .i64 0, .int .i64 0, .int .i64 0, .int .i64 0, .int .i64 0, .int .i64 0, .int .i64 0, .int .i64 0, .int .i64 0] 56)) := kk20.alloc _
              have n7 : w5.heap.size ≤ wa20.heap.size := kk20.size
              have bb25_7 := Box.new wa20 56 #[.int .i64 0, .int .i64 0, .int .i64 0, .int .i64 0, .int .i64 0, .int .i64 0, .int .i64 0, .int .i64 0, .int .i64 0]
              have bb25_8 := bb20_8.alloc (.cells #[.int .i64 0, .int .i64 0, .int .i64 0, .int .i64 0, .int .i64 0, .int .i64 0, .int .i64 0, .int .i64 0, .int .i64 0] 56)
              have n78 := bb20_8.lt
              refine hK.out _ _ (kk25) (fun hHeld => ?_)
              clear hK K
              try simp only [Act.put, List.getElem_toArray, List.getElem_cons_zero, List.getElem_cons_succ, List.setIfInBounds_toArray, List.set_cons_zero, List.set_cons_succ]
              generalize hq25 : wa20.heap.size = q25 at *
              generalize wa20.alloc (.cells #[.int .i64 0, .int .i64 0, .int .i64 0, .int .i64 0, .int .i64 0, .int .i64 0, .int .i64 0, .int .i64 0, .int .i64 0] 56) = wa25 at *
              refine wpAnyH_ready (rs := [5]) (by kernel_rfl) (by simp) (AllReadyH.cons rfl (fun K hK => ?_) AllReadyH.nil)
              have lb26_8 := bb25_8.lt
              have lb26_7 := bb25_7.lt
              go_simp
              go_at_call 38
              refine (HGL.out _ kk25).mono ?_
              rintro e wc26 ⟨u26, rfl, ⟨b0, b1, b2, b3, b4, b5, b6, b7, rfl, _, htb⟩, k26⟩
              go_wp2_with fail
              have kk26 : Keep noneOf w5 wc26 := kk25.trans k26 (fun _ _ h => h)
              have bb26_8 := bb25_8.keep k26 id
              have bb26_7 := bb25_7.keep k26 id
              have hs26 := k26.size
              clear k26
              refine hK.out _ _ (kk26) (fun hHeld => ?_)
              clear hK K
              try simp only [Act.put, List.getElem_toArray, List.getElem_cons_zero, List.getElem_cons_succ, List.setIfInBounds_toArray, List.set_cons_zero, List.set_cons_succ]
              have z27_0 := bb26_7.cell 0
              have f27_0 := bb26_7.free 0
              have z27_1 := bb26_7.cell 1
              have f27_1 := bb26_7.free 1
              have z27_2 := bb26_7.cell 2
              have f27_2 := bb26_7.free 2
              have z27_3 := bb26_7.cell 3
              have f27_3 := bb26_7.free 3
              have z27_4 := bb26_7.cell 4
              have f27_4 := bb26_7.free 4
              have z27_5 := bb26_7.cell 5
              have f27_5 := bb26_7.free 5
              have z27_6 := bb26_7.cell 6
              have f27_6 := bb26_7.free 6
              have z27_7 := bb26_7.cell 7
              have f27_7 := bb26_7.free 7
              have z27_8 := bb26_7.cell 8
              have f27_8 := bb26_7.free 8
              refine wpAnyH_ready (rs := [8]) (by kernel_rfl) (by simp) (AllReadyH.cons rfl (fun K hK => ?_) AllReadyH.nil)
              go_simp
              have kk27 : Keep noneOf w5 (((((((((wc26.setCell ⟨q25, 0, none⟩ (.int .i64 a0)).setCell ⟨q25, 1, none⟩ (.int .i64 a1)).setCell ⟨q25, 2, none⟩ (.int .i64 a2)).setCell ⟨q25, 3, none⟩ (.int .i64 a3)).setCell ⟨q25, 4, none⟩ (.int .i64 a4)).setCell ⟨q25, 5, none⟩ (.int .i64 a5)).setCell ⟨q25, 6, none⟩ (.int .i64 a6)).setCell ⟨q25, 7, none⟩ (.int .i64 a7)).setCell ⟨q25, 8, none⟩ (.int .i64 (c.v.length : Int))) := (keep_nine (q := q25) kk26 (fun hh => absurd hh (by omega)) (.int .i64 a0) (.int .i64 a1) (.int .i64 a2) (.int .i64 a3) (.int .i64 a4) (.int .i64 a5) (.int .i64 a6) (.int .i64 a7) (.int .i64 (c.v.length : Int)))
              have bb27 : Box (((((((((wc26.setCell ⟨q25, 0, none⟩ (.int .i64 a0)).setCell ⟨q25, 1, none⟩ (.int .i64 a1)).setCell ⟨q25, 2, none⟩ (.int .i64 a2)).setCell ⟨q25, 3, none⟩ (.int .i64 a3)).setCell ⟨q25, 4, none⟩ (.int .i64 a4)).setCell ⟨q25, 5, none⟩ (.int .i64 a5)).setCell ⟨q25, 6, none⟩ (.int .i64 a6)).setCell ⟨q25, 7, none⟩ (.int .i64 a7)).setCell ⟨q25, 8, none⟩ (.int .i64 (c.v.length : Int))) q25 56 #[.int .i64 a0, .int .i64 a1, .int .i64 a2, .int .i64 a3, .int .i64 a4, .int .i64 a5, .int .i64 a6, .int .i64 a7, .int .i64 (c.v.length : Int)] := (box_nine bb26_7 (.int .i64 a0) (.int .i64 a1) (.int .i64 a2) (.int .i64 a3) (.int .i64 a4) (.int .i64 a5) (.int .i64 a6) (.int .i64 a7) (.int .i64 (c.v.length : Int)))
              have bo27 := (far_nine (q := q25) bb26_8 (by omega) (.int .i64 a0) (.int .i64 a1) (.int .i64 a2) (.int .i64 a3) (.int .i64 a4) (.int .i64 a5) (.int .i64 a6) (.int .i64 a7) (.int .i64 (c.v.length : Int)))
              refine hK.out _ _ (kk27) (fun hHeld => ?_)
              clear hK K
              try simp only [Act.put, List.getElem_toArray, List.getElem_cons_zero, List.getElem_cons_succ, List.setIfInBounds_toArray, List.set_cons_zero, List.set_cons_succ]
              generalize (((((((((wc26.setCell ⟨q25, 0, none⟩ (.int .i64 a0)).setCell ⟨q25, 1, none⟩ (.int .i64 a1)).setCell ⟨q25, 2, none⟩ (.int .i64 a2)).setCell ⟨q25, 3, none⟩ (.int .i64 a3)).setCell ⟨q25, 4, none⟩ (.int .i64 a4)).setCell ⟨q25, 5, none⟩ (.int .i64 a5)).setCell ⟨q25, 6, none⟩ (.int .i64 a6)).setCell ⟨q25, 7, none⟩ (.int .i64 a7)).setCell ⟨q25, 8, none⟩ (.int .i64 (c.v.length : Int))) = ws27 at *
              have z28_0 := bo27.cell 0
              have f28_0 := bo27.free 0
              have z28_1 := bo27.cell 1
              have f28_1 := bo27.free 1
              have z28_2 := bo27.cell 2
              have f28_2 := bo27.free 2
              have z28_3 := bo27.cell 3
              have f28_3 := bo27.free 3
              have z28_4 := bo27.cell 4
              have f28_4 := bo27.free 4
              have z28_5 := bo27.cell 5
              have f28_5 := bo27.free 5
              have z28_6 := bo27.cell 6
              have f28_6 := bo27.free 6
              have z28_7 := bo27.cell 7
              have f28_7 := bo27.free 7
              have z28_8 := bo27.cell 8
              have f28_8 := bo27.free 8
              refine wpAnyH_ready (rs := [9]) (by kernel_rfl) (by simp) (AllReadyH.cons rfl (fun K hK => ?_) AllReadyH.nil)
              go_simp
              have kk28 : Keep noneOf w5 (((((((((ws27.setCell ⟨q20, 0, none⟩ (.int .i64 b0)).setCell ⟨q20, 1, none⟩ (.int .i64 b1)).setCell ⟨q20, 2, none⟩ (.int .i64 b2)).setCell ⟨q20, 3, none⟩ (.int .i64 b3)).setCell ⟨q20, 4, none⟩ (.int .i64 b4)).setCell ⟨q20, 5, none⟩ (.int .i64 b5)).setCell ⟨q20, 6, none⟩ (.int .i64 b6)).setCell ⟨q20, 7, none⟩ (.int .i64 b7)).setCell ⟨q20, 8, none⟩ (.int .i64 (c.l.length : Int))) := (keep_nine (q := q20) kk27 (fun hh => absurd hh (by omega)) (.int .i64 b0) (.int .i64 b1) (.int .i64 b2) (.int .i64 b3) (.int .i64 b4) (.int .i64 b5) (.int .i64 b6) (.int .i64 b7) (.int .i64 (c.l.length : Int)))
              have bb28 : Box (((((((((ws27.setCell ⟨q20, 0, none⟩ (.int .i64 b0)).setCell ⟨q20, 1, none⟩ (.int .i64 b1)).setCell ⟨q20, 2, none⟩ (.int .i64 b2)).setCell ⟨q20, 3, none⟩ (.int .i64 b3)).setCell ⟨q20, 4, none⟩ (.int .i64 b4)).setCell ⟨q20, 5, none⟩ (.int .i64 b5)).setCell ⟨q20, 6, none⟩ (.int .i64 b6)).setCell ⟨q20, 7, none⟩ (.int .i64 b7)).setCell ⟨q20, 8, none⟩ (.int .i64 (c.l.length : Int))) q20 56 #[.int .i64 b0, .int .i64 b1, .int .i64 b2, .int .i64 b3, .int .i64 b4, .int .i64 b5, .int .i64 b6, .int .i64 b7, .int .i64 (c.l.length : Int)] := (box_nine bo27 (.int .i64 b0) (.int .i64 b1) (.int .i64 b2) (.int .i64 b3) (.int .i64 b4) (.int .i64 b5) (.int .i64 b6) (.int .i64 b7) (.int .i64 (c.l.length : Int)))
              have bo28 := (far_nine (q := q20) bb27 (by omega) (.int .i64 b0) (.int .i64 b1) (.int .i64 b2) (.int .i64 b3) (.int .i64 b4) (.int .i64 b5) (.int .i64 b6) (.int .i64 b7) (.int .i64 (c.l.length : Int)))
              refine hK.out _ _ (kk28) (fun hHeld => ?_)
              clear hK K
              try simp only [Act.put, List.getElem_toArray, List.getElem_cons_zero, List.getElem_cons_succ, List.setIfInBounds_toArray, List.set_cons_zero, List.set_cons_succ]
              generalize (((((((((ws27.setCell ⟨q20, 0, none⟩ (.int .i64 b0)).setCell ⟨q20, 1, none⟩ (.int .i64 b1)).setCell ⟨q20, 2, none⟩ (.int .i64 b2)).setCell ⟨q20, 3, none⟩ (.int .i64 b3)).setCell ⟨q20, 4, none⟩ (.int .i64 b4)).setCell ⟨q20, 5, none⟩ (.int .i64 b5)).setCell ⟨q20, 6, none⟩ (.int .i64 b6)).setCell ⟨q20, 7, none⟩ (.int .i64 b7)).setCell ⟨q20, 8, none⟩ (.int .i64 (c.l.length : Int))) = ws28 at *
              refine wpAnyH_done (by kernel_rfl) ?_ _
              go_wp2_with fail
              go_meet
              exact ⟨_, _, rfl, rfl, kk28, n7, n8, (by omega), ⟨_, _, _, _, _, _, _, _, bo28, h8v, hta⟩, ⟨_, _, _, _, _, _, _, _, bb28, h8l, htb⟩⟩
        · skip
          go_simp
          have kk29 : Keep noneOf w5 (wz.alloc (.cells #[.int .i64 0, .int .i64 0, .int .i64 0, .int .i64 0, .int .i64 0, .int .i64 0, .int .i64 0, .int .i64 0, .int .i64 0] 56)) := KZ.alloc _
          have n7 : w5.heap.size ≤ wz.heap.size := KZ.size
          have bb29_7 := Box.new wz 56 #[.int .i64 0, .int .i64 0, .int .i64 0, .int .i64 0, .int .i64 0, .int .i64 0, .int .i64 0, .int .i64 0, .int .i64 0]
          refine hK.out _ _ (kk29) (fun hHeld => ?_)
          clear hK K
          try simp only [Act.put, List.getElem_toArray, List.getElem_cons_zero, List.getElem_cons_succ, List.setIfInBounds_toArray, List.set_cons_zero, List.set_cons_succ]
          generalize hq29 : wz.heap.size = q29 at *
          generalize wz.alloc (.cells #[.int .i64 0, .int .i64 0, .int .i64 0, .int .i64 0, .int .i64 0, .int .i64 0, .int .i64 0, .int .i64 0, .int .i64 0] 56) = wa29 at *
          refine wpAnyH_ready (rs := [2, 7]) (by kernel_rfl) (by simp) (AllReadyH.cons rfl (fun K hK => ?_) (AllReadyH.cons rfl (fun K hK => ?_) AllReadyH.nil))
          · skip
            have lb30_7 := bb29_7.lt
            go_simp
            go_at_call 38
            refine (HGV.out _ kk29).mono ?_
            rintro e wc30 ⟨u30, rfl, ⟨a0, a1, a2, a3, a4, a5, a6, a7, rfl, _, hta⟩, k30⟩
            go_wp2_with fail
            have kk30 : Keep noneOf w5 wc30 := kk29.trans k30 (fun _ _ h => h)
            have bb30_7 := bb29_7.keep k30 id
            have hs30 := k30.size
            clear k30
            refine hK.out _ _ (kk30) (fun hHeld => ?_)
            clear hK K
            try simp only [Act.put, List.getElem_toArray, List.getElem_cons_zero, List.getElem_cons_succ, List.setIfInBounds_toArray, List.set_cons_zero, List.set_cons_succ]
            refine wpAnyH_ready (rs := [5, 7]) (by kernel_rfl) (by simp) (AllReadyH.cons rfl (fun K hK => ?_) (AllReadyH.cons rfl (fun K hK => ?_) AllReadyH.nil))
            · skip
              have lb31_7 := bb30_7.lt
              go_simp
              go_at_call 38
              refine (HGL.out _ kk30).mono ?_
              rintro e wc31 ⟨u31, rfl, ⟨b0, b1, b2, b3, b4, b5, b6, b7, rfl, _, htb⟩, k31⟩
              go_wp2_with fail
              have kk31 : Keep noneOf w5 wc31 := kk30.trans k31 (fun _ _ h => h)
              have bb31_7 := bb30_7.keep k31 id
              have hs31 := k31.size
              clear k31
              refine hK.out _ _ (kk31) (fun hHeld => ?_)
              clear hK K
              try simp only [Act.put, List.getElem_toArray, List.getElem_cons_zero, List.getElem_cons_succ, List.setIfInBounds_toArray, List.set_cons_zero, List.set_cons_succ]
              refine wpAnyH_ready (rs := [7]) (by kernel_rfl) (by simp) (AllReadyH.cons rfl (fun K hK => ?_) AllReadyH.nil)
              go_simp
              have kk32 : Keep noneOf w5 (wc31.alloc (.cells #[.int .i64 0, .int .i64 0, .int .i64 0, .int .i64 0, .int .i64 0, .int .i64 0, .int .i64 0, .int .i64 0, .int .i64 0] 56)) := kk31.alloc _
              have n8 : w5.heap.size ≤ wc31.heap.size := kk31.size
              have bb32_8 := Box.new wc31 56 #[.int .i64 0, .int .i64 0, .int .i64 0, .int .i64 0, .int .i64 0, .int .i64 0, .int .i64 0, .int .i64 0, .int .i64 0]
              have bb32_7 := bb31_7.alloc (.cells #[.int .i64 0, .int .i64 0, .int .i64 0, .int .i64 0, .int .i64 0, .int .i64 0, .int .i64 0, .int .i64 0, .int .i64 0] 56)
              have n78 := bb31_7.lt
              refine hK.out _ _ (kk32) (fun hHeld => ?_)
              clear hK K
              try simp only [Act.put, List.getElem_toArray, List.getElem_cons_zero, List.getElem_cons_succ, List.setIfInBounds_toArray, List.set_cons_zero, List.set_cons_succ]
              generalize hq32 : wc31.heap.size = q32 at *
              generalize wc31.alloc (.cells #[.int .i64 0, .int .i64 0, .int .i64 0, .int .i64 0, .int .i64 0, .int .i64 0, .int .i64 0, .int .i64 0, .int .i64 0] 56) = wa32 at *
              have z33_0 := bb32_7.cell 0
              have f33_0 := bb32_7.free 0
              have z33_1 := bb32_7.cell 1
              have f33_1 := bb32_7.free 1
              have z33_2 := bb32_7.cell 2
              have f33_2 := bb32_7.free 2
              have z33_3 := bb32_7.cell 3
              have f33_3 := bb32_7.free 3
              have z33_4 := bb32_7.cell 4
              have f33_4 := bb32_7.free 4
              have z33_5 := bb32_7.cell 5
              have f33_5 := bb32_7.free 5
              have z33_6 := bb32_7.cell 6
              have f33_6 := bb32_7.free 6
              have z33_7 := bb32_7.cell 7
              have f33_7 := bb32_7.free 7
              have z33_8 := bb32_7.cell 8
              have f33_8 := bb32_7.free 8
              refine wpAnyH_ready (rs := [8]) (by kernel_rfl) (by simp) (AllReadyH.cons rfl (fun K hK => ?_) AllReadyH.nil)
              go_simp
              have kk33 : Keep noneOf w5 (((((((((wa32.setCell ⟨q29, 0, none⟩ (.int .i64 a0)).setCell ⟨q29, 1, none⟩ (.int .i64 a1)).setCell ⟨q29, 2, none⟩ (.int .i64 a2)).setCell ⟨q29, 3, none⟩ (.int .i64 a3)).setCell ⟨q29, 4, none⟩ (.int .i64 a4)).setCell ⟨q29, 5, none⟩ (.int .i64 a5)).setCell ⟨q29, 6, none⟩ (.int .i64 a6)).setCell ⟨q29, 7, none⟩ (.int .i64 a7)).setCell ⟨q29, 8, none⟩ (.int .i64 (c.v.length : Int))) := (keep_nine (q := q29) kk32 (fun hh => absurd hh (by omega)) (.int .i64 a0) (.int .i64 a1) (.int .i64 a2) (.int .i64 a3) (.int .i64 a4) (.int .i64 a5) (.int .i64 a6) (.int .i64 a7) (.int .i64 (c.v.length : Int)))
              have bb33 : Box (((((((((wa32.setCell ⟨q29, 0, none⟩ (.int .i64 a0)).setCell ⟨q29, 1, none⟩ (.int .i64 a1)).setCell ⟨q29, 2, none⟩ (.int .i64 a2)).setCell ⟨q29, 3, none⟩ (.int .i64 a3)).setCell ⟨q29, 4, none⟩ (.int .i64 a4)).setCell ⟨q29, 5, none⟩ (.int .i64 a5)).setCell ⟨q29, 6, none⟩ (.int .i64 a6)).setCell ⟨q29, 7, none⟩ (.int .i64 a7)).setCell ⟨q29, 8, none⟩ (.int .i64 (c.v.length : Int))) q29 56 #[.int .i64 a0, .int .i64 a1, .int .i64 a2, .int .i64 a3, .int .i64 a4, .int .i64 a5, .int .i64 a6, .int .i64 a7, .int .i64 (c.v.length : Int)] := (box_nine bb32_7 (.int .i64 a0) (.int .i64 a1) (.int .i64 a2) (.int .i64 a3) (.int .i64 a4) (.int .i64 a5) (.int .i64 a6) (.int .i64 a7) (.int .i64 (c.v.length : Int)))
              have bo33 := (far_nine (q := q29) bb32_8 (by omega) (.int .i64 a0) (.int .i64 a1) (.int .i64 a2) (.int .i64 a3) (.int .i64 a4) (.int .i64 a5) (.int .i64 a6) (.int .i64 a7) (.int .i64 (c.v.length : Int)))
              refine hK.out _ _ (kk33) (fun hHeld => ?_)
              clear hK K
              try simp only [Act.put, List.getElem_toArray, List.getElem_cons_zero, List.getElem_cons_succ, List.setIfInBounds_toArray, List.set_cons_zero, List.set_cons_succ]
              generalize (((((((((wa32.setCell ⟨q29, 0, none⟩ (.int .i64 a0)).setCell ⟨q29, 1, none⟩ (.int .i64 a1)).setCell ⟨q29, 2, none⟩ (.int .i64 a2)).setCell ⟨q29, 3, none⟩ (.int .i64 a3)).setCell ⟨q29, 4, none⟩ (.int .i64 a4)).setCell ⟨q29, 5, none⟩ (.int .i64 a5)).setCell ⟨q29, 6, none⟩ (.int .i64 a6)).setCell ⟨q29, 7, none⟩ (.int .i64 a7)).setCell ⟨q29, 8, none⟩ (.int .i64 (c.v.length : Int))) = ws33 at *
              have z34_0 := bo33.cell 0
              have f34_0 := bo33.free 0
              have z34_1 := bo33.cell 1
              have f34_1 := bo33.free 1
              have z34_2 := bo33.cell 2
              have f34_2 := bo33.free 2
              have z34_3 := bo33.cell 3
              have f34_3 := bo33.free 3
              have z34_4 := bo33.cell 4
              have f34_4 := bo33.free 4
              have z34_5 := bo33.cell 5
              have f34_5 := bo33.free 5
              have z34_6 := bo33.cell 6
              have f34_6 := bo33.free 6
              have z34_7 := bo33.cell 7
              have f34_7 := bo33.free 7
              have z34_8 := bo33.cell 8
              have f34_8 := bo33.free 8
              refine wpAnyH_ready (rs := [9]) (by kernel_rfl) (by simp) (AllReadyH.cons rfl (fun K hK => ?_) AllReadyH.nil)
              go_simp
              have kk34 : Keep noneOf w5 (((((((((ws33.setCell ⟨q32, 0, none⟩ (.int .i64 b0)).setCell ⟨q32, 1, none⟩ (.int .i64 b1)).setCell ⟨q32, 2, none⟩ (.int .i64 b2)).setCell ⟨q32, 3, none⟩ (.int .i64 b3)).setCell ⟨q32, 4, none⟩ (.int .i64 b4)).setCell ⟨q32, 5, none⟩ (.int .i64 b5)).setCell ⟨q32, 6, none⟩ (.int .i64 b6)).setCell ⟨q32, 7, none⟩ (.int .i64 b7)).setCell ⟨q32, 8, none⟩ (.int .i64 (c.l.length : Int))) := (keep_nine (q := q32) kk33 (fun hh => absurd hh (by omega)) (.int .i64 b0) (.int .i64 b1) (.int .i64 b2) (.int .i64 b3) (.int .i64 b4) (.int .i64 b5) (.int .i64 b6) (.int .i64 b7) (.int .i64 (c.l.length : Int)))
              have bb34 : Box (((((((((ws33.setCell ⟨q32, 0, none⟩ (.int .i64 b0)).setCell ⟨q32, 1, none⟩ (.int .i64 b1)).setCell ⟨q32, 2, none⟩ (.int .i64 b2)).setCell ⟨q32, 3, none⟩ (.int .i64 b3)).setCell ⟨q32, 4, none⟩ (.int .i64 b4)).setCell ⟨q32, 5, none⟩ (.int .i64 b5)).setCell ⟨q32, 6, none⟩ (.int .i64 b6)).setCell ⟨q32, 7, none⟩ (.int .i64 b7)).setCell ⟨q32, 8, none⟩ (.int .i64 (c.l.length : Int))) q32 56 #[.int .i64 b0, .int .i64 b1, .int .i64 b2, .int .i64 b3, .int .i64 b4, .int .i64 b5, .int .i64 b6, .int .i64 b7, .int .i64 (c.l.length : Int)] := (box_nine bo33 (.int .i64 b0) (.int .i64 b1) (.int .i64 b2) (.int .i64 b3) (.int .i64 b4) (.int .i64 b5) (.int .i64 b6) (.int .i64 b7) (.int .i64 (c.l.length : Int)))
              have bo34 := (far_nine (q := q32) bb33 (by omega) (.int .i64 b0) (.int .i64 b1) (.int .i64 b2) (.int .i64 b3) (.int .i64 b4) (.int .i64 b5) (.int .i64 b6) (.int .i64 b7) (.int .i64 (c.l.length : Int)))
              refine hK.out _ _ (kk34) (fun hHeld => ?_)
              clear hK K
              try simp only [Act.put, List.getElem_toArray, List.getElem_cons_zero, List.getElem_cons_succ, List.setIfInBounds_toArray, List.set_cons_zero, List.set_cons_succ]
              generalize (((((((((ws33.setCell ⟨q32, 0, none⟩ (.int .i64 b0)).setCell ⟨q32, 1, none⟩ (.int .i64 b1)).setCell ⟨q32, 2, none⟩ (.int .i64 b2)).setCell ⟨q32, 3, none⟩ (.int .i64 b3)).setCell ⟨q32, 4, none⟩ (.int .i64 b4)).setCell ⟨q32, 5, none⟩ (.int .i64 b5)).setCell ⟨q32, 6, none⟩ (.int .i64 b6)).setCell ⟨q32, 7, none⟩ (.int .i64 b7)).setCell ⟨q32, 8, none⟩ (.int .i64 (c.l.length : Int))) = ws34 at *
              refine wpAnyH_done (by kernel_rfl) ?_ _
              go_wp2_with fail
              go_meet
              exact ⟨_, _, rfl, rfl, kk34, n7, n8, (by omega), ⟨_, _, _, _, _, _, _, _, bo34, h8v, hta⟩, ⟨_, _, _, _, _, _, _, _, bb34, h8l, htb⟩⟩
            · skip
              go_simp
              have kk35 : Keep noneOf w5 (wc30.alloc (.cells #[.int .i64 0, .int .i64 0, .int .i64 0, .int .i64 0, .int .i64 0, .int .i64 0, .int .i64 0, .int .i64 0, .int .i64 0] 56)) := kk30.alloc _
              have n8 : w5.heap.size ≤ wc30.heap.size := kk30.size
              have bb35_8 := Box.new wc30 56 #[.int .i64 0, .int .i64 0, .int .i64 0, .int .i64 0, .int .i64 0, .int .i64 0, .int .i64 0, .int .i64 0, .int .i64 0]
              have bb35_7 := bb30_7.alloc (.cells #[.int .i64 0, .int .i64 0, .int .i64 0, .int .i64 0, .int .i64 0, .int .i64 0, .int .i64 0, .int .i64 0, .int .i64 0] 56)
              have n78 := bb30_7.lt
              refine hK.out _ _ (kk35) (fun hHeld => ?_)
              clear hK K
              try simp only [Act.put, List.getElem_toArray, List.getElem_cons_zero, List.getElem_cons_succ, List.setIfInBounds_toArray, List.set_cons_zero, List.set_cons_succ]
              generalize hq35 : wc30.heap.size = q35 at *
              generalize wc30.alloc (.cells #[.int .i64 0, .int .i64 0, .int .i64 0, .int .i64 0, .int .i64 0, .int .i64 0, .int .i64 0, .int .i64 0, .int .i64 0] 56) = wa35 at *
              refine wpAnyH_ready (rs := [5]) (by kernel_rfl) (by simp) (AllReadyH.cons rfl (fun K hK => ?_) AllReadyH.nil)
              have lb36_7 := bb35_7.lt
              have lb36_8 := bb35_8.lt
              go_simp
              go_at_call 38
              refine (HGL.out _ kk35).mono ?_
              rintro e wc36 ⟨u36, rfl, ⟨b0, b1, b2, b3, b4, b5, b6, b7, rfl, _, htb⟩, k36⟩
              go_wp2_with fail
              have kk36 : Keep noneOf w5 wc36 := kk35.trans k36 (fun _ _ h => h)
              have bb36_7 := bb35_7.keep k36 id
              have bb36_8 := bb35_8.keep k36 id
              have hs36 := k36.size
              clear k36
              refine hK.out _ _ (kk36) (fun hHeld => ?_)
              clear hK K
              try simp only [Act.put, List.getElem_toArray, List.getElem_cons_zero, List.getElem_cons_succ, List.setIfInBounds_toArray, List.set_cons_zero, List.set_cons_succ]
              have z37_0 := bb36_7.cell 0
              have f37_0 := bb36_7.free 0
              have z37_1 := bb36_7.cell 1
              have f37_1 := bb36_7.free 1
              have z37_2 := bb36_7.cell 2
              have f37_2 := bb36_7.free 2
              have z37_3 := bb36_7.cell 3
              have f37_3 := bb36_7.free 3
              have z37_4 := bb36_7.cell 4
              have f37_4 := bb36_7.free 4
              have z37_5 := bb36_7.cell 5
              have f37_5 := bb36_7.free 5
              have z37_6 := bb36_7.cell 6
              have f37_6 := bb36_7.free 6
              have z37_7 := bb36_7.cell 7
              have f37_7 := bb36_7.free 7
              have z37_8 := bb36_7.cell 8
              have f37_8 := bb36_7.free 8
              refine wpAnyH_ready (rs := [8]) (by kernel_rfl) (by simp) (AllReadyH.cons rfl (fun K hK => ?_) AllReadyH.nil)
              go_simp
              have kk37 : Keep noneOf w5 (((((((((wc36.setCell ⟨q29, 0, none⟩ (.int .i64 a0)).setCell ⟨q29, 1, none⟩ (.int .i64 a1)).setCell ⟨q29, 2, none⟩ (.int .i64 a2)).setCell ⟨q29, 3, none⟩ (.int .i64 a3)).setCell ⟨q29, 4, none⟩ (.int .i64 a4)).setCell ⟨q29, 5, none⟩ (.int .i64 a5)).setCell ⟨q29, 6, none⟩ (.int .i64 a6)).setCell ⟨q29, 7, none⟩ (.int .i64 a7)).setCell ⟨q29, 8, none⟩ (.int .i64 (c.v.length : Int))) := (keep_nine (q := q29) kk36 (fun hh => absurd hh (by omega)) (.int .i64 a0) (.int .i64 a1) (.int .i64 a2) (.int .i64 a3) (.int .i64 a4) (.int .i64 a5) (.int .i64 a6) (.int .i64 a7) (.int .i64 (c.v.length : Int)))
              have bb37 : Box (((((((((wc36.setCell ⟨q29, 0, none⟩ (.int .i64 a0)).setCell ⟨q29, 1, none⟩ (.int .i64 a1)).setCell ⟨q29, 2, none⟩ (.int .i64 a2)).setCell ⟨q29, 3, none⟩ (.int .i64 a3)).setCell ⟨q29, 4, none⟩ (.int .i64 a4)).setCell ⟨q29, 5, none⟩ (.int .i64 a5)).setCell ⟨q29, 6, none⟩ (.int .i64 a6)).setCell ⟨q29, 7, none⟩ (.int .i64 a7)).setCell ⟨q29, 8, none⟩ (.int .i64 (c.v.length : Int))) q29 56 #[.int .i64 a0, .int .i64 a1, .int .i64 a2, .int .i64 a3, .int .i64 a4, .int .i64 a5, .int .i64 a6, .int .i64 a7, .int .i64 (c.v.length : Int)] := (box_nine bb36_7 (.int .i64 a0) (.int .i64 a1) (.int .i64 a2) (.int .i64 a3) (.int .i64 a4) (.int .i64 a5) (.int .i64 a6) (.int .i64 a7) (.int .i64 (c.v.length : Int)))
              have bo37 := (far_nine (q := q29) bb36_8 (by omega) (.int .i64 a0) (.int .i64 a1) (.int .i64 a2) (.int .i64 a3) (.int .i64 a4) (.int .i64 a5) (.int .i64 a6) (.int .i64 a7) (.int .i64 (c.v.length : Int)))
              refine hK.out _ _ (kk37) (fun hHeld => ?_)
              clear hK K
              try simp only [Act.put, List.getElem_toArray, List.getElem_cons_zero, List.getElem_cons_succ, List.setIfInBounds_toArray, List.set_cons_zero, List.set_cons_succ]
              generalize (((((((((wc36.setCell ⟨q29, 0, none⟩ (.int .i64 a0)).setCell ⟨q29, 1, none⟩ (.int .i64 a1)).setCell ⟨q29, 2, none⟩ (.int .i64 a2)).setCell ⟨q29, 3, none⟩ (.int .i64 a3)).setCell ⟨q29, 4, none⟩ (.int .i64 a4)).setCell ⟨q29, 5, none⟩ (.int .i64 a5)).setCell ⟨q29, 6, none⟩ (.int .i64 a6)).setCell ⟨q29, 7, none⟩ (.int .i64 a7)).setCell ⟨q29, 8, none⟩ (.int .i64 (c.v.length : Int))) = ws37 at *
              have z38_0 := bo37.cell 0
              have f38_0 := bo37.free 0
              have z38_1 := bo37.cell 1
              have f38_1 := bo37.free 1
              have z38_2 := bo37.cell 2
              have f38_2 := bo37.free 2
              have z38_3 := bo37.cell 3
              have f38_3 := bo37.free 3
              have z38_4 := bo37.cell 4
              have f38_4 := bo37.free 4
              have z38_5 := bo37.cell 5
              have f38_5 := bo37.free 5
              have z38_6 := bo37.cell 6
              have f38_6 := bo37.free 6
              have z38_7 := bo37.cell 7
              have f38_7 := bo37.free 7
              have z38_8 := bo37.cell 8
              have f38_8 := bo37.free 8
              refine wpAnyH_ready (rs := [9]) (by kernel_rfl) (by simp) (AllReadyH.cons rfl (fun K hK => ?_) AllReadyH.nil)
              go_simp
              have kk38 : Keep noneOf w5 (((((((((ws37.setCell ⟨q35, 0, none⟩ (.int .i64 b0)).setCell ⟨q35, 1, none⟩ (.int .i64 b1)).setCell ⟨q35, 2, none⟩ (.int .i64 b2)).setCell ⟨q35, 3, none⟩ (.int .i64 b3)).setCell ⟨q35, 4, none⟩ (.int .i64 b4)).setCell ⟨q35, 5, none⟩ (.int .i64 b5)).setCell ⟨q35, 6, none⟩ (.int .i64 b6)).setCell ⟨q35, 7, none⟩ (.int .i64 b7)).setCell ⟨q35, 8, none⟩ (.int .i64 (c.l.length : Int))) := (keep_nine (q := q35) kk37 (fun hh => absurd hh (by omega)) (.int .i64 b0) (.int .i64 b1) (.int .i64 b2) (.int .i64 b3) (.int .i64 b4) (.int .i64 b5) (.int .i64 b6) (.int .i64 b7) (.int .i64 (c.l.length : Int)))
              have bb38 : Box (((((((((ws37.setCell ⟨q35, 0, none⟩ (.int .i64 b0)).setCell ⟨q35, 1, none⟩ (.int .i64 b1)).setCell ⟨q35, 2, none⟩ (.int .i64 b2)).setCell ⟨q35, 3, none⟩ (.int .i64 b3)).setCell ⟨q35, 4, none⟩ (.int .i64 b4)).setCell ⟨q35, 5, none⟩ (.int .i64 b5)).setCell ⟨q35, 6, none⟩ (.int .i64 b6)).setCell ⟨q35, 7, none⟩ (.int .i64 b7)).setCell ⟨q35, 8, none⟩ (.int .i64 (c.l.length : Int))) q35 56 #[.int .i64 b0, .int .i64 b1, .int .i64 b2, .int .i64 b3, .int .i64 b4, .int .i64 b5, .int .i64 b6, .int .i64 b7, .int .i64 (c.l.length : Int)] := (box_nine bo37 (.int .i64 b0) (.int .i64 b1) (.int .i64 b2) (.int .i64 b3) (.int .i64 b4) (.int .i64 b5) (.int .i64 b6) (.int .i64 b7) (.int .i64 (c.l.length : Int)))
              have bo38 := (far_nine (q := q35) bb37 (by omega) (.int .i64 b0) (.int .i64 b1) (.int .i64 b2) (.int .i64 b3) (.int .i64 b4) (.int .i64 b5) (.int .i64 b6) (.int .i64 b7) (.int .i64 (c.l.length : Int)))
              refine hK.out _ _ (kk38) (fun hHeld => ?_)
              clear hK K
              try simp only [Act.put, List.getElem_toArray, List.getElem_cons_zero, List.getElem_cons_succ, List.setIfInBounds_toArray, List.set_cons_zero, List.set_cons_succ]
              generalize (((((((((ws37.setCell ⟨q35, 0, none⟩ (.int .i64 b0)).setCell ⟨q35, 1, none⟩ (.int .i64 b1)).setCell ⟨q35, 2, none⟩ (.int .i64 b2)).setCell ⟨q35, 3, none⟩ (.int .i64 b3)).setCell ⟨q35, 4, none⟩ (.int .i64 b4)).setCell ⟨q35, 5, none⟩ (.int .i64 b5)).setCell ⟨q35, 6, none⟩ (.int .i64 b6)).setCell ⟨q35, 7, none⟩ (.int .i64 b7)).setCell ⟨q35, 8, none⟩ (.int .i64 (c.l.length : Int))) = ws38 at *
              refine wpAnyH_done (by kernel_rfl) ?_ _
              go_wp2_with fail
              go_meet
              exact ⟨_, _, rfl, rfl, kk38, n7, n8, (by omega), ⟨_, _, _, _, _, _, _, _, bo38, h8v, hta⟩, ⟨_, _, _, _, _, _, _, _, bb38, h8l, htb⟩⟩
          · skip
            go_simp
            have kk39 : Keep noneOf w5 (wa29.alloc (.cells #[.int .i64 0, .int .i64 0, .int .i64 0, .int .i64 0, .int .i64 0, .int .i64 0, .int .i64 0, .int .i64 0, .int .i64 0] 56)) := kk29.alloc _
            have n8 : w5.heap.size ≤ wa29.heap.size := kk29.size
            have bb39_8 := Box.new wa29 56 #[.int .i64 0, .int .i64 0, .int .i64 0, .int .i64 0, .int .i64 0, .int .i64 0, .int .i64 0, .int .i64 0, .int .i64 0]
            have bb39_7 := bb29_7.alloc (.cells #[.int .i64 0, .int .i64 0, .int .i64 0, .int .i64 0, .int .i64 0, .int .i64 0, .int .i64 0, .int .i64 0, .int .i64 0] 56)
            have n78 := bb29_7.lt
            refine hK.out _ _ (kk39) (fun hHeld => ?_)
            clear hK K
            try simp only [Act.put, List.getElem_toArray, List.getElem_cons_zero, List.getElem_cons_succ, List.setIfInBounds_toArray, List.set_cons_zero, List.set_cons_succ]
            generalize hq39 : wa29.heap.size = q39 at *
            generalize wa29.alloc (.cells #[.int .i64 0, .int .i64 0, .int .i64 0, .int .i64 0, .int .i64 0, .int .i64 0, .int .i64 0, .int .i64 0, .int .i64 0] 56) = wa39 at *
            refine wpAnyH_ready (rs := [2]) (by kernel_rfl) (by simp) (AllReadyH.cons rfl (fun K hK => ?_) AllReadyH.nil)
            have lb40_7 := bb39_7.lt
            have lb40_8 := bb39_8.lt
            go_simp
            go_at_call 38
            refine (HGV.out _ kk39).mono ?_
            rintro e wc40 ⟨u40, rfl, ⟨a0, a1, a2, a3, a4, a5, a6, a7, rfl, _, hta⟩, k40⟩
            go_wp2_with fail
            have kk40 : Keep noneOf w5 wc40 := kk39.trans k40 (fun _ _ h => h)
            have bb40_7 := bb39_7.keep k40 id
            have bb40_8 := bb39_8.keep k40 id
            have hs40 := k40.size
            clear k40
            refine hK.out _ _ (kk40) (fun hHeld => ?_)
            clear hK K
            try simp only [Act.put, List.getElem_toArray, List.getElem_cons_zero, List.getElem_cons_succ, List.setIfInBounds_toArray, List.set_cons_zero, List.set_cons_succ]
            refine wpAnyH_ready (rs := [5]) (by kernel_rfl) (by simp) (AllReadyH.cons rfl (fun K hK => ?_) AllReadyH.nil)
            have lb41_7 := bb40_7.lt
            have lb41_8 := bb40_8.lt
            go_simp
            go_at_call 38
            refine (HGL.out _ kk40).mono ?_
            rintro e wc41 ⟨u41, rfl, ⟨b0, b1, b2, b3, b4, b5, b6, b7, rfl, _, htb⟩, k41⟩
            go_wp2_with fail
            have kk41 : Keep noneOf w5 wc41 := kk40.trans k41 (fun _ _ h => h)
            have bb41_7 := bb40_7.keep k41 id
            have bb41_8 := bb40_8.keep k41 id
            have hs41 := k41.size
            clear k41
            refine hK.out _ _ (kk41) (fun hHeld => ?_)
            clear hK K
            try simp only [Act.put, List.getElem_toArray, List.getElem_cons_zero, List.getElem_cons_succ, List.setIfInBounds_toArray, List.set_cons_zero, List.set_cons_succ]
            have z42_0 := bb41_7.cell 0
            have f42_0 := bb41_7.free 0
            have z42_1 := bb41_7.cell 1
            have f42_1 := bb41_7.free 1
            have z42_2 := bb41_7.cell 2
            have f42_2 := bb41_7.free 2
            have z42_3 := bb41_7.cell 3
            have f42_3 := bb41_7.free 3
            have z42_4 := bb41_7.cell 4
            have f42_4 := bb41_7.free 4
            have z42_5 := bb41_7.cell 5
            have f42_5 := bb41_7.free 5
            have z42_6 := bb41_7.cell 6
            have f42_6 := bb41_7.free 6
            have z42_7 := bb41_7.cell 7
            have f42_7 := bb41_7.free 7
            have z42_8 := bb41_7.cell 8
            have f42_8 := bb41_7.free 8
            refine wpAnyH_ready (rs := [8]) (by kernel_rfl) (by simp) (AllReadyH.cons rfl (fun K hK => ?_) AllReadyH.nil)
            go_simp
            have kk42 : Keep noneOf w5 (((((((((wc41.setCell ⟨q29, 0, none⟩ (.int .i64 a0)).setCell ⟨q29, 1, none⟩ (.int .i64 a1)).setCell ⟨q29, 2, none⟩ (.int .i64 a2)).setCell ⟨q29, 3, none⟩ (.int .i64 a3)).setCell ⟨q29, 4, none⟩ (.int .i64 a4)).setCell ⟨q29, 5, none⟩ (.int .i64 a5)).setCell ⟨q29, 6, none⟩ (.int .i64 a6)).setCell ⟨q29, 7, none⟩ (.int .i64 a7)).setCell ⟨q29, 8, none⟩ (.int .i64 (c.v.length : Int))) := (keep_nine (q := q29) kk41 (fun hh => absurd hh (by omega)) (.int .i64 a0) (.int .i64 a1) (.int .i64 a2) (.int .i64 a3) (.int .i64 a4) (.int .i64 a5) (.int .i64 a6) (.int .i64 a7) (.int .i64 (c.v.length : Int)))
            have bb42 : Box (((((((((wc41.setCell ⟨q29, 0, none⟩ (.int .i64 a0)).setCell ⟨q29, 1, none⟩ (.int .i64 a1)).setCell ⟨q29, 2, none⟩ (.int .i64 a2)).setCell ⟨q29, 3, none⟩ (.int .i64 a3)).setCell ⟨q29, 4, none⟩ (.int .i64 a4)).setCell ⟨q29, 5, none⟩ (.int .i64 a5)).setCell ⟨q29, 6, none⟩ (.int .i64 a6)).setCell ⟨q29, 7, none⟩ (.int .i64 a7)).setCell ⟨q29, 8, none⟩ (.int .i64 (c.v.length : Int))) q29 56 #[.int .i64 a0, .int .i64 a1, .int .i64 a2, .int .i64 a3, .int .i64 a4, .int .i64 a5, .int .i64 a6, .int .i64 a7, .int .i64 (c.v.length : Int)] := (box_nine bb41_7 (.int .i64 a0) (.int .i64 a1) (.int .i64 a2) (.int .i64 a3) (.int .i64 a4) (.int .i64 a5) (.int .i64 a6) (.int .i64 a7) (.int .i64 (c.v.length : Int)))
            have bo42 := (far_nine (q := q29) bb41_8 (by omega) (.int .i64 a0) (.int .i64 a1) (.int .i64 a2) (.int .i64 a3) (.int .i64 a4) (.int .i64 a5) (.int .i64 a6) (.int .i64 a7) (.int .i64 (c.v.length : Int)))
            refine hK.out _ _ (kk42) (fun hHeld => ?_)
            clear hK K
            try simp only [Act.put, List.getElem_toArray, List.getElem_cons_zero, List.getElem_cons_succ, List.setIfInBounds_toArray, List.set_cons_zero, List.set_cons_succ]
            generalize (((((((((wc41.setCell ⟨q29, 0, none⟩ (.int .i64 a0)).setCell ⟨q29, 1, none⟩ (.int .i64 a1)).setCell ⟨q29, 2, none⟩ (.int .i64 a2)).setCell ⟨q29, 3, none⟩ (.int .i64 a3)).setCell ⟨q29, 4, none⟩ (.int .i64 a4)).setCell ⟨q29, 5, none⟩ (.int .i64 a5)).setCell ⟨q29, 6, none⟩ (.int .i64 a6)).setCell ⟨q29, 7, none⟩ (.int .i64 a7)).setCell ⟨q29, 8, none⟩ (.int .i64 (c.v.length : Int))) = ws42 at *
            have z43_0 := bo42.cell 0
            have f43_0 := bo42.free 0
            have z43_1 := bo42.cell 1
            have f43_1 := bo42.free 1
            have z43_2 := bo42.cell 2
            have f43_2 := bo42.free 2
            have z43_3 := bo42.cell 3
            have f43_3 := bo42.free 3
            have z43_4 := bo42.cell 4
            have f43_4 := bo42.free 4
            have z43_5 := bo42.cell 5
            have f43_5 := bo42.free 5
            have z43_6 := bo42.cell 6
            have f43_6 := bo42.free 6
            have z43_7 := bo42.cell 7
            have f43_7 := bo42.free 7
            have z43_8 := bo42.cell 8
            have f43_8 := bo42.free 8
            refine wpAnyH_ready (rs := [9]) (by kernel_rfl) (by simp) (AllReadyH.cons rfl (fun K hK => ?_) AllReadyH.nil)
            go_simp
            have kk43 : Keep noneOf w5 (((((((((ws42.setCell ⟨q39, 0, none⟩ (.int .i64 b0)).setCell ⟨q39, 1, none⟩ (.int .i64 b1)).setCell ⟨q39, 2, none⟩ (.int .i64 b2)).setCell ⟨q39, 3, none⟩ (.int .i64 b3)).setCell ⟨q39, 4, none⟩ (.int .i64 b4)).setCell ⟨q39, 5, none⟩ (.int .i64 b5)).setCell ⟨q39, 6, none⟩ (.int .i64 b6)).setCell ⟨q39, 7, none⟩ (.int .i64 b7)).setCell ⟨q39, 8, none⟩ (.int .i64 (c.l.length : Int))) := (keep_nine (q := q39) kk42 (fun hh => absurd hh (by omega)) (.int .i64 b0) (.int .i64 b1) (.int .i64 b2) (.int .i64 b3) (.int .i64 b4) (.int .i64 b5) (.int .i64 b6) (.int .i64 b7) (.int .i64 (c.l.length : Int)))
            have bb43 : Box (((((((((ws42.setCell ⟨q39, 0, none⟩ (.int .i64 b0)).setCell ⟨q39, 1, none⟩ (.int .i64 b1)).setCell ⟨q39, 2, none⟩ (.int .i64 b2)).setCell ⟨q39, 3, none⟩ (.int .i64 b3)).setCell ⟨q39, 4, none⟩ (.int .i64 b4)).setCell ⟨q39, 5, none⟩ (.int .i64 b5)).setCell ⟨q39, 6, none⟩ (.int .i64 b6)).setCell ⟨q39, 7, none⟩ (.int .i64 b7)).setCell ⟨q39, 8, none⟩ (.int .i64 (c.l.length : Int))) q39 56 #[.int .i64 b0, .int .i64 b1, .int .i64 b2, .int .i64 b3, .int .i64 b4, .int .i64 b5, .int .i64 b6, .int .i64 b7, .int .i64 (c.l.length : Int)] := (box_nine bo42 (.int .i64 b0) (.int .i64 b1) (.int .i64 b2) (.int .i64 b3) (.int .i64 b4) (.int .i64 b5) (.int .i64 b6) (.int .i64 b7) (.int .i64 (c.l.length : Int)))
            have bo43 := (far_nine (q := q39) bb42 (by omega) (.int .i64 b0) (.int .i64 b1) (.int .i64 b2) (.int .i64 b3) (.int .i64 b4) (.int .i64 b5) (.int .i64 b6) (.int .i64 b7) (.int .i64 (c.l.length : Int)))
            refine hK.out _ _ (kk43) (fun hHeld => ?_)
            clear hK K
            try simp only [Act.put, List.getElem_toArray, List.getElem_cons_zero, List.getElem_cons_succ, List.setIfInBounds_toArray, List.set_cons_zero, List.set_cons_succ]
            generalize (((((((((ws42.setCell ⟨q39, 0, none⟩ (.int .i64 b0)).setCell ⟨q39, 1, none⟩ (.int .i64 b1)).setCell ⟨q39, 2, none⟩ (.int .i64 b2)).setCell ⟨q39, 3, none⟩ (.int .i64 b3)).setCell ⟨q39, 4, none⟩ (.int .i64 b4)).setCell ⟨q39, 5, none⟩ (.int .i64 b5)).setCell ⟨q39, 6, none⟩ (.int .i64 b6)).setCell ⟨q39, 7, none⟩ (.int .i64 b7)).setCell ⟨q39, 8, none⟩ (.int .i64 (c.l.length : Int))) = ws43 at *
            refine wpAnyH_done (by kernel_rfl) ?_ _
            go_wp2_with fail
            go_meet
            exact ⟨_, _, rfl, rfl, kk43, n7, n8, (by omega), ⟨_, _, _, _, _, _, _, _, bo43, h8v, hta⟩, ⟨_, _, _, _, _, _, _, _, bb43, h8l, htb⟩⟩
        · skip
          go_simp
          have kk44 : Keep noneOf w5 (wz.alloc (.cells #[.int .i64 0, .int .i64 0, .int .i64 0, .int .i64 0, .int .i64 0, .int .i64 0, .int .i64 0, .int .i64 0, .int .i64 0] 56)) := KZ.alloc _
          have n8 : w5.heap.size ≤ wz.heap.size := KZ.size
          have bb44_8 := Box.new wz 56 #[.int .i64 0, .int .i64 0, .int .i64 0, .int .i64 0, .int .i64 0, .int .i64 0, .int .i64 0, .int .i64 0, .int .i64 0]
          refine hK.out _ _ (kk44) (fun hHeld => ?_)
          clear hK K
          try simp only [Act.put, List.getElem_toArray, List.getElem_cons_zero, List.getElem_cons_succ, List.setIfInBounds_toArray, List.set_cons_zero, List.set_cons_succ]
          generalize hq44 : wz.heap.size = q44 at *
          generalize wz.alloc (.cells #[.int .i64 0, .int .i64 0, .int .i64 0, .int .i64 0, .int .i64 0, .int .i64 0, .int .i64 0, .int .i64 0, .int .i64 0] 56) = wa44 at *
          refine wpAnyH_ready (rs := [2, 6]) (by kernel_rfl) (by simp) (AllReadyH.cons rfl (fun K hK => ?_) (AllReadyH.cons rfl (fun K hK => ?_) AllReadyH.nil))
          · skip
            have lb45_8 := bb44_8.lt
            go_simp
            go_at_call 38
            refine (HGV.out _ kk44).mono ?_
            rintro e wc45 ⟨u45, rfl, ⟨a0, a1, a2, a3, a4, a5, a6, a7, rfl, _, hta⟩, k45⟩
            go_wp2_with fail
            have kk45 : Keep noneOf w5 wc45 := kk44.trans k45 (fun _ _ h => h)
            have bb45_8 := bb44_8.keep k45 id
            have hs45 := k45.size
            clear k45
            refine hK.out _ _ (kk45) (fun hHeld => ?_)
            clear hK K
            try simp only [Act.put, List.getElem_toArray, List.getElem_cons_zero, List.getElem_cons_succ, List.setIfInBounds_toArray, List.set_cons_zero, List.set_cons_succ]
            refine wpAnyH_ready (rs := [5, 6]) (by kernel_rfl) (by simp) (AllReadyH.cons rfl (fun K hK => ?_) (AllReadyH.cons rfl (fun K hK => ?_) AllReadyH.nil))
            · skip
              have lb46_8 := bb45_8.lt
              go_simp
              go_at_call 38
              refine (HGL.out _ kk45).mono ?_
              rintro e wc46 ⟨u46, rfl, ⟨b0, b1, b2, b3, b4, b5, b6, b7, rfl, _, htb⟩, k46⟩
              go_wp2_with fail
              have kk46 : Keep noneOf w5 wc46 := kk45.trans k46 (fun _ _ h => h)
              have bb46_8 := bb45_8.keep k46 id
              have hs46 := k46.size
              clear k46
              refine hK.out _ _ (kk46) (fun hHeld => ?_)
              clear hK K
              try simp only [Act.put, List.getElem_toArray, List.getElem_cons_zero, List.getElem_cons_succ, List.setIfInBounds_toArray, List.set_cons_zero, List.set_cons_succ]
              refine wpAnyH_ready (rs := [6]) (by kernel_rfl) (by simp) (AllReadyH.cons rfl (fun K hK => ?_) AllReadyH.nil)
              go_simp
              have kk47 : Keep noneOf w5 (wc46.alloc (.cells #[.int .i64 0, .int .i64 0, .int .i64 0, .int .i64 0, .int .i64 0, .int .i64 0, .int .i64 0, .int .i64 0, .int .i64 0] 56)) := kk46.alloc _
              have n7 : w5.heap.size ≤ wc46.heap.size := kk46.size
              have bb47_7 := Box.new wc46 56 #[.int .i64 0, .int .i64 0, .int .i64 0, .int .i64 0, .int .i64 0, .int .i64 0, .int .i64 0, .int .i64 0, .int .i64 0]
              have bb47_8 := bb46_8.alloc (.cells #[.int .i64 0, .int .i64 0, .int .i64 0, .int .i64 0, .int .i64 0, .int .i64 0, .int .i64 0, .int .i64 0, .int .i64 0] 56)
              have n78 := bb46_8.lt
              refine hK.out _ _ (kk47) (fun hHeld => ?_)
              clear hK K
              try simp only [Act.put, List.getElem_toArray, List.getElem_cons_zero, List.getElem_cons_succ, List.setIfInBounds_toArray, List.set_cons_zero, List.set_cons_succ]
              generalize hq47 : wc46.heap.size = q47 at *
              generalize wc46.alloc (.cells #[.int .i64 0, .int .i64 0, .int .i64 0, .int .i64 0, .int .i64 0, .int .i64 0, .int .i64 0, .int .i64 0, .int .i64 0] 56) = wa47 at *
              have z48_0 := bb47_7.cell 0
              have f48_0 := bb47_7.free 0
              have z48_1 := bb47_7.cell 1
              have f48_1 := bb47_7.free 1
              have z48_2 := bb47_7.cell 2
              have f48_2 := bb47_7.free 2
              have z48_3 := bb47_7.cell 3
              have f48_3 := bb47_7.free 3
              have z48_4 := bb47_7.cell 4
              have f48_4 := bb47_7.free 4
              have z48_5 := bb47_7.cell 5
              have f48_5 := bb47_7.free 5
              have z48_6 := bb47_7.cell 6
              have f48_6 := bb47_7.free 6
              have z48_7 := bb47_7.cell 7
              have f48_7 := bb47_7.free 7
              have z48_8 := bb47_7.cell 8
              have f48_8 := bb47_7.free 8
              refine wpAnyH_ready (rs := [8]) (by kernel_rfl) (by simp) (AllReadyH.cons rfl (fun K hK => ?_) AllReadyH.nil)
              go_simp
              have kk48 : Keep noneOf w5 (((((((((wa47.setCell ⟨q47, 0, none⟩ (.int .i64 a0)).setCell ⟨q47, 1, none⟩ (.int .i64 a1)).setCell ⟨q47, 2, none⟩ (.int .i64 a2)).setCell ⟨q47, 3, none⟩ (.int .i64 a3)).setCell ⟨q47, 4, none⟩ (.int .i64 a4)).setCell ⟨q47, 5, none⟩ (.int .i64 a5)).setCell ⟨q47, 6, none⟩ (.int .i64 a6)).setCell ⟨q47, 7, none⟩ (.int .i64 a7)).setCell ⟨q47, 8, none⟩ (.int .i64 (c.v.length : Int))) := (keep_nine (q := q47) kk47 (fun hh => absurd hh (by omega)) (.int .i64 a0) (.int .i64 a1) (.int .i64 a2) (.int .i64 a3) (.int .i64 a4) (.int .i64 a5) (.int .i64 a6) (.int .i64 a7) (.int .i64 (c.v.length : Int)))
              have bb48 : Box (((((((((wa47.setCell ⟨q47, 0, none⟩ (.int .i64 a0)).setCell ⟨q47, 1, none⟩ (.int .i64 a1)).setCell ⟨q47, 2, none⟩ (.int .i64 a2)).setCell ⟨q47, 3, none⟩ (.int .i64 a3)).setCell ⟨q47, 4, none⟩ (.int .i64 a4)).setCell ⟨q47, 5, none⟩ (.int .i64 a5)).setCell ⟨q47, 6, none⟩ (.int .i64 a6)).setCell ⟨q47, 7, none⟩ (.int .i64 a7)).setCell ⟨q47, 8, none⟩ (.int .i64 (c.v.length : Int))) q47 56 #[.int .i64 a0, .int .i64 a1, .int .i64 a2, .int .i64 a3, .int .i64 a4, .int .i64 a5, .int .i64 a6, .int .i64 a7, .int .i64 (c.v.length : Int)] := (box_nine bb47_7 (.int .i64 a0) (.int .i64 a1) (.int .i64 a2) (.int .i64 a3) (.int .i64 a4) (.int .i64 a5) (.int .i64 a6) (.int .i64 a7) (.int .i64 (c.v.length : Int)))
              have bo48 := (far_nine (q := q47) bb47_8 (by omega) (.int .i64 a0) (.int .i64 a1) (.int .i64 a2) (.int .i64 a3) (.int .i64 a4) (.int .i64 a5) (.int .i64 a6) (.int .i64 a7) (.int .i64 (c.v.length : Int)))
              refine hK.out _ _ (kk48) (fun hHeld => ?_)
              clear hK K
              try simp only [Act.put, List.getElem_toArray, List.getElem_cons_zero, List.getElem_cons_succ, List.setIfInBounds_toArray, List.set_cons_zero, List.set_cons_succ]
              generalize (((((((((wa47.setCell ⟨q47, 0, none⟩ (.int .i64 a0)).setCell ⟨q47, 1, none⟩ (.int .i64 a1)).setCell ⟨q47, 2, none⟩ (.int .i64 a2)).setCell ⟨q47, 3, none⟩ (.int .i64 a3)).setCell ⟨q47, 4, none⟩ (.int .i64 a4)).setCell ⟨q47, 5, none⟩ (.int .i64 a5)).setCell ⟨q47, 6, none⟩ (.int .i64 a6)).setCell ⟨q47, 7, none⟩ (.int .i64 a7)).setCell ⟨q47, 8, none⟩ (.int .i64 (c.v.length : Int))) = ws48 at *
              have z49_0 := bo48.cell 0
              have f49_0 := bo48.free 0
              have z49_1 := bo48.cell 1
              have f49_1 := bo48.free 1
              have z49_2 := bo48.cell 2
              have f49_2 := bo48.free 2
              have z49_3 := bo48.cell 3
              have f49_3 := bo48.free 3
              have z49_4 := bo48.cell 4
              have f49_4 := bo48.free 4
              have z49_5 := bo48.cell 5
              have f49_5 := bo48.free 5
              have z49_6 := bo48.cell 6
              have f49_6 := bo48.free 6
              have z49_7 := bo48.cell 7
              have f49_7 := bo48.free 7
              have z49_8 := bo48.cell 8
              have f49_8 := bo48.free 8
              refine wpAnyH_ready (rs := [9]) (by kernel_rfl) (by simp) (AllReadyH.cons rfl (fun K hK => ?_) AllReadyH.nil)
              go_simp
              have kk49 : Keep noneOf w5 (((((((((ws48.setCell ⟨q44, 0, none⟩ (.int .i64 b0)).setCell ⟨q44, 1, none⟩ (.int .i64 b1)).setCell ⟨q44, 2, none⟩ (.int .i64 b2)).setCell ⟨q44, 3, none⟩ (.int .i64 b3)).setCell ⟨q44, 4, none⟩ (.int .i64 b4)).setCell ⟨q44, 5, none⟩ (.int .i64 b5)).setCell ⟨q44, 6, none⟩ (.int .i64 b6)).setCell ⟨q44, 7, none⟩ (.int .i64 b7)).setCell ⟨q44, 8, none⟩ (.int .i64 (c.l.length : Int))) := (keep_nine (q := q44) kk48 (fun hh => absurd hh (by omega)) (.int .i64 b0) (.int .i64 b1) (.int .i64 b2) (.int .i64 b3) (.int .i64 b4) (.int .i64 b5) (.int .i64 b6) (.int .i64 b7) (.int .i64 (c.l.length : Int)))
              have bb49 : Box (((((((((ws48.setCell ⟨q44, 0, none⟩ (.int .i64 b0)).setCell ⟨q44, 1, none⟩ (.int .i64 b1)).setCell ⟨q44, 2, none⟩ (.int .i64 b2)).setCell ⟨q44, 3, none⟩ (.int .i64 b3)).setCell ⟨q44, 4, none⟩ (.int .i64 b4)).setCell ⟨q44, 5, none⟩ (.int .i64 b5)).setCell ⟨q44, 6, none⟩ (.int .i64 b6)).setCell ⟨q44, 7, none⟩ (.int .i64 b7)).setCell ⟨q44, 8, none⟩ (.int .i64 (c.l.length : Int))) q44 56 #[.int .i64 b0, .int .i64 b1, .int .i64 b2, .int .i64 b3, .int .i64 b4, .int .i64 b5, .int .i64 b6, .int .i64 b7, .int .i64 (c.l.length : Int)] := (box_nine bo48 (.int .i64 b0) (.int .i64 b1) (.int .i64 b2) (.int .i64 b3) (.int .i64 b4) (.int .i64 b5) (.int .i64 b6) (.int .i64 b7) (.int .i64 (c.l.length : Int)))
              have bo49 := (far_nine (q := q44) bb48 (by omega) (.int .i64 b0) (.int .i64 b1) (.int .i64 b2) (.int .i64 b3) (.int .i64 b4) (.int .i64 b5) (.int .i64 b6) (.int .i64 b7) (.int .i64 (c.l.length : Int)))
              refine hK.out _ _ (kk49) (fun hHeld => ?_)
              clear hK K
              try simp only [Act.put, List.getElem_toArray, List.getElem_cons_zero, List.getElem_cons_succ, List.setIfInBounds_toArray, List.set_cons_zero, List.set_cons_succ]
              generalize (((((((((ws48.setCell ⟨q44, 0, none⟩ (.int .i64 b0)).setCell ⟨q44, 1, none⟩ (.int .i64 b1)).setCell ⟨q44, 2, none⟩ (.int .i64 b2)).setCell ⟨q44, 3, none⟩ (.int .i64 b3)).setCell ⟨q44, 4, none⟩ (.int .i64 b4)).setCell ⟨q44, 5, none⟩ (.int .i64 b5)).setCell ⟨q44, 6, none⟩ (.int .i64 b6)).setCell ⟨q44, 7, none⟩ (.int .i64 b7)).setCell ⟨q44, 8, none⟩ (.int .i64 (c.l.length : Int))) = ws49 at *
              refine wpAnyH_done (by kernel_rfl) ?_ _
              go_wp2_with fail
              go_meet
              exact ⟨_, _, rfl, rfl, kk49, n7, n8, (by omega), ⟨_, _, _, _, _, _, _, _, bo49, h8v, hta⟩, ⟨_, _, _, _, _, _, _, _, bb49, h8l, htb⟩⟩
            · skip
              go_simp
              have kk50 : Keep noneOf w5 (wc45.alloc (.cells #[.int .i64 0, .int .i64 0, .int .i64 0, .int .i64 0, .int .i64 0, .int .i64 0, .int .i64 0, .int .i64 0, .int .i64 0] 56)) := kk45.alloc _
              have n7 : w5.heap.size ≤ wc45.heap.size := kk45.size
              have bb50_7 := Box.new wc45 56 #[.int .i64 0, .int .i64 0, .int .i64 0, .int .i64 0, .int .i64 0, .int .i64 0, .int .i64 0, .int .i64 0, .int .i64 0]
              have bb50_8 := bb45_8.alloc (.cells #[.int .i64 0, .int .i64 0, .int .i64 0, .int .i64 0, .int .i64 0, .int .i64 0, .int .i64 0, .int .i64 0, .int .i64 0] 56)
              have n78 := bb45_8.lt
              refine hK.out _ _ (kk50) (fun hHeld => ?_)
              clear hK K
              try simp only [Act.put, List.getElem_toArray, List.getElem_cons_zero, List.getElem_cons_succ, List.setIfInBounds_toArray, List.set_cons_zero, List.set_cons_succ]
              generalize hq50 : wc45.heap.size = q50 at *
              generalize wc45.alloc (.cells #[.int .i64 0, .int .i64 0, .int .i64 0, .int .i64 0, .int .i64 0, .int .i64 0, .int .i64 0, .int .i64 0, .int .i64 0] 56) = wa50 at *
              refine wpAnyH_ready (rs := [5]) (by kernel_rfl) (by simp) (AllReadyH.cons rfl (fun K hK => ?_) AllReadyH.nil)
              have lb51_8 := bb50_8.lt
              have lb51_7 := bb50_7.lt
              go_simp
              go_at_call 38
              refine (HGL.out _ kk50).mono ?_
              rintro e wc51 ⟨u51, rfl, ⟨b0, b1, b2, b3, b4, b5, b6, b7, rfl, _, htb⟩, k51⟩
              go_wp2_with fail
              have kk51 : Keep noneOf w5 wc51 := kk50.trans k51 (fun _ _ h => h)
              have bb51_8 := bb50_8.keep k51 id
              have bb51_7 := bb50_7.keep k51 id
              have hs51 := k51.size
              clear k51
              refine hK.out _ _ (kk51) (fun hHeld => ?_)
              clear hK K
              try simp only [Act.put, List.getElem_toArray, List.getElem_cons_zero, List.getElem_cons_succ, List.setIfInBounds_toArray, List.set_cons_zero, List.set_cons_succ]
              have z52_0 := bb51_7.cell 0
              have f52_0 := bb51_7.free 0
              have z52_1 := bb51_7.cell 1
              have f52_1 := bb51_7.free 1
              have z52_2 := bb51_7.cell 2
              have f52_2 := bb51_7.free 2
              have z52_3 := bb51_7.cell 3
              have f52_3 := bb51_7.free 3
              have z52_4 := bb51_7.cell 4
              have f52_4 := bb51_7.free 4
              have z52_5 := bb51_7.cell 5
              have f52_5 := bb51_7.free 5
              have z52_6 := bb51_7.cell 6
              have f52_6 := bb51_7.free 6
              have z52_7 := bb51_7.cell 7
              have f52_7 := bb51_7.free 7
              have z52_8 := bb51_7.cell 8
              have f52_8 := bb51_7.free 8
              refine wpAnyH_ready (rs := [8]) (by kernel_rfl) (by simp) (AllReadyH.cons rfl (fun K hK => ?_) AllReadyH.nil)
              go_simp
              have kk52 : Keep noneOf w5 (((((((((wc51.setCell ⟨q50, 0, none⟩ (.int .i64 a0)).setCell ⟨q50, 1, none⟩ (.int .i64 a1)).setCell ⟨q50, 2, none⟩ (.int .i64 a2)).setCell ⟨q50, 3, none⟩ (.int .i64 a3)).setCell ⟨q50, 4, none⟩ (.int .i64 a4)).setCell ⟨q50, 5, none⟩ (.int .i64 a5)).setCell ⟨q50, 6, none⟩ (.int .i64 a6)).setCell ⟨q50, 7, none⟩ (.int .i64 a7)).setCell ⟨q50, 8, none⟩ (.int .i64 (c.v.length : Int))) := (keep_nine (q := q50) kk51 (fun hh => absurd hh (by omega)) (.int .i64 a0) (.int .i64 a1) (.int .i64 a2) (.int .i64 a3) (.int .i64 a4) (.int .i64 a5) (.int .i64 a6) (.int .i64 a7) (.int .i64 (c.v.length : Int)))
              have bb52 : Box (((((((((wc51.setCell ⟨q50, 0, none⟩ (.int .i64 a0)).setCell ⟨q50, 1, none⟩ (.int .i64 a1)).setCell ⟨q50, 2, none⟩ (.int .i64 a2)).setCell ⟨q50, 3, none⟩ (.int .i64 a3)).setCell ⟨q50, 4, none⟩ (.int .i64 a4)).setCell ⟨q50, 5, none⟩ (.int .i64 a5)).setCell ⟨q50, 6, none⟩ (.int .i64 a6)).setCell ⟨q50, 7, none⟩ (.int .i64 a7)).setCell ⟨q50, 8, none⟩ (.int .i64 (c.v.length : Int))) q50 56 #[.int .i64 a0, .int .i64 a1, .int .i64 a2, .int .i64 a3, .int .i64 a4, .int .i64 a5, .int .i64 a6, .int .i64 a7, .int .i64 (c.v.length : Int)] := (box_nine bb51_7 (.int .i64 a0) (.int .i64 a1) (.int .i64 a2) (.int .i64 a3) (.int .i64 a4) (.int .i64 a5) (.int .i64 a6) (.int .i64 a7) (.int .i64 (c.v.length : Int)))
              have bo52 := (far_nine (q := q50) bb51_8 (by omega) (.int .i64 a0) (.int .i64 a1) (.int .i64 a2) (.int .i64 a3) (.int .i64 a4) (.int .i64 a5) (.int .i64 a6) (.int .i64 a7) (.int .i64 (c.v.length : Int)))
              refine hK.out _ _ (kk52) (fun hHeld => ?_)
              clear hK K
              try simp only [Act.put, List.getElem_toArray, List.getElem_cons_zero, List.getElem_cons_succ, List.setIfInBounds_toArray, List.set_cons_zero, List.set_cons_succ]
              generalize (((((((((wc51.setCell ⟨q50, 0, none⟩ (.int .i64 a0)).setCell ⟨q50, 1, none⟩ (.int .i64 a1)).setCell ⟨q50, 2, none⟩ (.int .i64 a2)).setCell ⟨q50, 3, none⟩ (.int .i64 a3)).setCell ⟨q50, 4, none⟩ (.int .i64 a4)).setCell ⟨q50, 5, none⟩ (.int .i64 a5)).setCell ⟨q50, 6, none⟩ (.int .i64 a6)).setCell ⟨q50, 7, none⟩ (.int .i64 a7)).setCell ⟨q50, 8, none⟩ (.int .i64 (c.v.length : Int))) = ws52 at *
              have z53_0 := bo52.cell 0
              have f53_0 := bo52.free 0
              have z53_1 := bo52.cell 1
              have f53_1 := bo52.free 1
              have z53_2 := bo52.cell 2
              have f53_2 := bo52.free 2
              have z53_3 := bo52.cell 3
              have f53_3 := bo52.free 3
              have z53_4 := bo52.cell 4
              have f53_4 := bo52.free 4
              have z53_5 := bo52.cell 5
              have f53_5 := bo52.free 5
              have z53_6 := bo52.cell 6
              have f53_6 := bo52.free 6
              have z53_7 := bo52.cell 7
              have f53_7 := bo52.free 7
              have z53_8 := bo52.cell 8
              have f53_8 := bo52.free 8
              refine wpAnyH_ready (rs := [9]) (by kernel_rfl) (by simp) (AllReadyH.cons rfl (fun K hK => ?_) AllReadyH.nil)
              go_simp
              have kk53 : Keep noneOf w5 (((((((((ws52.setCell ⟨q44, 0, none⟩ (.int .i64 b0)).setCell ⟨q44, 1, none⟩ (.int .i64 b1)).setCell ⟨q44, 2, none⟩ (.int .i64 b2)).setCell ⟨q44, 3, none⟩ (.int .i64 b3)).setCell ⟨q44, 4, none⟩ (.int .i64 b4)).setCell ⟨q44, 5, none⟩ (.int .i64 b5)).setCell ⟨q44, 6, none⟩ (.int .i64 b6)).setCell ⟨q44, 7, none⟩ (.int .i64 b7)).setCell ⟨q44, 8, none⟩ (.int .i64 (c.l.length : Int))) := (keep_nine (q := q44) kk52 (fun hh => absurd hh (by omega)) (.int .i64 b0) (.int .i64 b1) (.int .i64 b2) (.int .i64 b3) (.int .i64 b4) (.int .i64 b5) (.int .i64 b6) (.int .i64 b7) (.int .i64 (c.l.length : Int)))
              have bb53 : Box (((((((((ws52.setCell ⟨q44, 0, none⟩ (.int .i64 b0)).setCell ⟨q44, 1, none⟩ (.int .i64 b1)).setCell ⟨q44, 2, none⟩ (.int .i64 b2)).setCell ⟨q44, 3, none⟩ (.int .i64 b3)).setCell ⟨q44, 4, none⟩ (.int .i64 b4)).setCell ⟨q44, 5, none⟩ (.int .i64 b5)).setCell ⟨q44, 6, none⟩ (.int .i64 b6)).setCell ⟨q44, 7, none⟩ (.int .i64 b7)).setCell ⟨q44, 8, none⟩ (.int .i64 (c.l.length : Int))) q44 56 #[.int .i64 b0, .int .i64 b1, .int .i64 b2, .int .i64 b3, .int .i64 b4, .int .i64 b5, .int .i64 b6, .int .i64 b7, .int .i64 (c.l.length : Int)] := (box_nine bo52 (.int .i64 b0) (.int .i64 b1) (.int .i64 b2) (.int .i64 b3) (.int .i64 b4) (.int .i64 b5) (.int .i64 b6) (.int .i64 b7) (.int .i64 (c.l.length : Int)))
              have bo53 := (far_nine (q := q44) bb52 (by omega) (.int .i64 b0) (.int .i64 b1) (.int .i64 b2) (.int .i64 b3) (.int .i64 b4) (.int .i64 b5) (.int .i64 b6) (.int .i64 b7) (.int .i64 (c.l.length : Int)))
              refine hK.out _ _ (kk53) (fun hHeld => ?_)
              clear hK K
              try simp only [Act.put, List.getElem_toArray, List.getElem_cons_zero, List.getElem_cons_succ, List.setIfInBounds_toArray, List.set_cons_zero, List.set_cons_succ]
              generalize (((((((((ws52.setCell ⟨q44, 0, none⟩ (.int .i64 b0)).setCell ⟨q44, 1, none⟩ (.int .i64 b1)).setCell ⟨q44, 2, none⟩ (.int .i64 b2)).setCell ⟨q44, 3, none⟩ (.int .i64 b3)).setCell ⟨q44, 4, none⟩ (.int .i64 b4)).setCell ⟨q44, 5, none⟩ (.int .i64 b5)).setCell ⟨q44, 6, none⟩ (.int .i64 b6)).setCell ⟨q44, 7, none⟩ (.int .i64 b7)).setCell ⟨q44, 8, none⟩ (.int .i64 (c.l.length : Int))) = ws53 at *
              refine wpAnyH_done (by kernel_rfl) ?_ _
              go_wp2_with fail
              go_meet
              exact ⟨_, _, rfl, rfl, kk53, n7, n8, (by omega), ⟨_, _, _, _, _, _, _, _, bo53, h8v, hta⟩, ⟨_, _, _, _, _, _, _, _, bb53, h8l, htb⟩⟩
          · skip
            go_simp
            have kk54 : Keep noneOf w5 (wa44.alloc (.cells #[.int .i64 0, .int .i64 0, .int .i64 0, .int .i64 0, .int .i64 0, .int .i64 0, .int .i64 0, .int .i64 0, .int .i64 0] 56)) := kk44.alloc _
            have n7 : w5.heap.size ≤ wa44.heap.size := kk44.size
            have bb54_7 := Box.new wa44 56 #[.int .i64 0, .int .i64 0, .int .i64 0, .int .i64 0, .int .i64 0, .int .i64 0, .int .i64 0, .int .i64 0, .int .i64 0]
            have bb54_8 := bb44_8.alloc (.cells #[.int .i64 0, .int .i64 0, .int .i64 0, .int .i64 0, .int .i64 0, .int .i64 0, .int .i64 0, .int .i64 0, .int .i64 0] 56)
            have n78 := bb44_8.lt
            refine hK.out _ _ (kk54) (fun hHeld => ?_)
            clear hK K
            try simp only [Act.put, List.getElem_toArray, List.getElem_cons_zero, List.getElem_cons_succ, List.setIfInBounds_toArray, List.set_cons_zero, List.set_cons_succ]
            generalize hq54 : wa44.heap.size = q54 at *
            generalize wa44.alloc (.cells #[.int .i64 0, .int .i64 0, .int .i64 0, .int .i64 0, .int .i64 0, .int .i64 0, .int .i64 0, .int .i64 0, .int .i64 0] 56) = wa54 at *
            refine wpAnyH_ready (rs := [2]) (by kernel_rfl) (by simp) (AllReadyH.cons rfl (fun K hK => ?_) AllReadyH.nil)
            have lb55_8 := bb54_8.lt
            have lb55_7 := bb54_7.lt
            go_simp
            go_at_call 38
            refine (HGV.out _ kk54).mono ?_
            rintro e wc55 ⟨u55, rfl, ⟨a0, a1, a2, a3, a4, a5, a6, a7, rfl, _, hta⟩, k55⟩
            go_wp2_with fail
            have kk55 : Keep noneOf w5 wc55 := kk54.trans k55 (fun _ _ h => h)
            have bb55_8 := bb54_8.keep k55 id
            have bb55_7 := bb54_7.keep k55 id
            have hs55 := k55.size
            clear k55
            refine hK.out _ _ (kk55) (fun hHeld => ?_)
            clear hK K
            try simp only [Act.put, List.getElem_toArray, List.getElem_cons_zero, List.getElem_cons_succ, List.setIfInBounds_toArray, List.set_cons_zero, List.set_cons_succ]
            refine wpAnyH_ready (rs := [5]) (by kernel_rfl) (by simp) (AllReadyH.cons rfl (fun K hK => ?_) AllReadyH.nil)
            have lb56_8 := bb55_8.lt
            have lb56_7 := bb55_7.lt
            go_simp
            go_at_call 38
            refine (HGL.out _ kk55).mono ?_
            rintro e wc56 ⟨u56, rfl, ⟨b0, b1, b2, b3, b4, b5, b6, b7, rfl, _, htb⟩, k56⟩
            go_wp2_with fail
            have kk56 : Keep noneOf w5 wc56 := kk55.trans k56 (fun _ _ h => h)
            have bb56_8 := bb55_8.keep k56 id
            have bb56_7 := bb55_7.keep k56 id
            have hs56 := k56.size
            clear k56
            refine hK.out _ _ (kk56) (fun hHeld => ?_)
            clear hK K
            try simp only [Act.put, List.getElem_toArray, List.getElem_cons_zero, List.getElem_cons_succ, List.setIfInBounds_toArray, List.set_cons_zero, List.set_cons_succ]
            have z57_0 := bb56_7.cell 0
            have f57_0 := bb56_7.free 0
            have z57_1 := bb56_7.cell 1
            have f57_1 := bb56_7.free 1
            have z57_2 := bb56_7.cell 2
            have f57_2 := bb56_7.free 2
            have z57_3 := bb56_7.cell 3
            have f57_3 := bb56_7.free 3
            have z57_4 := bb56_7.cell 4
            have f57_4 := bb56_7.free 4
            have z57_5 := bb56_7.cell 5
            have f57_5 := bb56_7.free 5
            have z57_6 := bb56_7.cell 6
            have f57_6 := bb56_7.free 6
            have z57_7 := bb56_7.cell 7
            have f57_7 := bb56_7.free 7
            have z57_8 := bb56_7.cell 8
            have f57_8 := bb56_7.free 8
            refine wpAnyH_ready (rs := [8]) (by kernel_rfl) (by simp) (AllReadyH.cons rfl (fun K hK => ?_) AllReadyH.nil)
            go_simp
            have kk57 : Keep noneOf w5 (((((((((wc56.setCell ⟨q54, 0, none⟩ (.int .i64 a0)).setCell ⟨q54, 1, none⟩ (.int .i64 a1)).setCell ⟨q54, 2, none⟩ (.int .i64 a2)).setCell ⟨q54, 3, none⟩ (.int .i64 a3)).setCell ⟨q54, 4, none⟩ (.int .i64 a4)).setCell ⟨q54, 5, none⟩ (.int .i64 a5)).setCell ⟨q54, 6, none⟩ (.int .i64 a6)).setCell ⟨q54, 7, none⟩ (.int .i64 a7)).setCell ⟨q54, 8, none⟩ (.int .i64 (c.v.length : Int))) := (keep_nine (q := q54) kk56 (fun hh => absurd hh (by omega)) (.int .i64 a0) (.int .i64 a1) (.int .i64 a2) (.int .i64 a3) (.int .i64 a4) (.int .i64 a5) (.int .i64 a6) (.int .i64 a7) (.int .i64 (c.v.length : Int)))
            have bb57 : Box (((((((((wc56.setCell ⟨q54, 0, none⟩ (.int .i64 a0)).setCell ⟨q54, 1, none⟩ (.int .i64 a1)).setCell ⟨q54, 2, none⟩ (.int .i64 a2)).setCell ⟨q54, 3, none⟩ (.int .i64 a3)).setCell ⟨q54, 4, none⟩ (.int .i64 a4)).setCell ⟨q54, 5, none⟩ (.int .i64 a5)).setCell ⟨q54, 6, none⟩ (.int .i64 a6)).setCell ⟨q54, 7, none⟩ (.int .i64 a7)).setCell ⟨q54, 8, none⟩ (.int .i64 (c.v.length : Int))) q54 56 #[.int .i64 a0, .int .i64 a1, .int .i64 a2, .int .i64 a3, .int .i64 a4, .int .i64 a5, .int .i64 a6, .int .i64 a7, .int .i64 (c.v.length : Int)] := (box_nine bb56_7 (.int .i64 a0) (.int .i64 a1) (.int .i64 a2) (.int .i64 a3) (.int .i64 a4) (.int .i64 a5) (.int .i64 a6) (.int .i64 a7) (.int .i64 (c.v.length : Int)))
            have bo57 := (far_nine (q := q54) bb56_8 (by omega) (.int .i64 a0) (.int .i64 a1) (.int .i64 a2) (.int .i64 a3) (.int .i64 a4) (.int .i64 a5) (.int .i64 a6) (.int .i64 a7) (.int .i64 (c.v.length : Int)))
            refine hK.out _ _ (kk57) (fun hHeld => ?_)
            clear hK K
            try simp only [Act.put, List.getElem_toArray, List.getElem_cons_zero, List.getElem_cons_succ, List.setIfInBounds_toArray, List.set_cons_zero, List.set_cons_succ]
            generalize (((((((((wc56.setCell ⟨q54, 0, none⟩ (.int .i64 a0)).setCell ⟨q54, 1, none⟩ (.int .i64 a1)).setCell ⟨q54, 2, none⟩ (.int .i64 a2)).setCell ⟨q54, 3, none⟩ (.int .i64 a3)).setCell ⟨q54, 4, none⟩ (.int .i64 a4)).setCell ⟨q54, 5, none⟩ (.int .i64 a5)).setCell ⟨q54, 6, none⟩ (.int .i64 a6)).setCell ⟨q54, 7, none⟩ (.int .i64 a7)).setCell ⟨q54, 8, none⟩ (.int .i64 (c.v.length : Int))) = ws57 at *
            have z58_0 := bo57.cell 0
            have f58_0 := bo57.free 0
            have z58_1 := bo57.cell 1
            have f58_1 := bo57.free 1
            have z58_2 := bo57.cell 2
            have f58_2 := bo57.free 2
            have z58_3 := bo57.cell 3
            have f58_3 := bo57.free 3
            have z58_4 := bo57.cell 4
            have f58_4 := bo57.free 4
            have z58_5 := bo57.cell 5
            have f58_5 := bo57.free 5
            have z58_6 := bo57.cell 6
            have f58_6 := bo57.free 6
            have z58_7 := bo57.cell 7
            have f58_7 := bo57.free 7
            have z58_8 := bo57.cell 8
            have f58_8 := bo57.free 8
            refine wpAnyH_ready (rs := [9]) (by kernel_rfl) (by simp) (AllReadyH.cons rfl (fun K hK => ?_) AllReadyH.nil)
            go_simp
            have kk58 : Keep noneOf w5 (((((((((ws57.setCell ⟨q44, 0, none⟩ (.int .i64 b0)).setCell ⟨q44, 1, none⟩ (.int .i64 b1)).setCell ⟨q44, 2, none⟩ (.int .i64 b2)).setCell ⟨q44, 3, none⟩ (.int .i64 b3)).setCell ⟨q44, 4, none⟩ (.int .i64 b4)).setCell ⟨q44, 5, none⟩ (.int .i64 b5)).setCell ⟨q44, 6, none⟩ (.int .i64 b6)).setCell ⟨q44, 7, none⟩ (.int .i64 b7)).setCell ⟨q44, 8, none⟩ (.int .i64 (c.l.length : Int))) := (keep_nine (q := q44) kk57 (fun hh => absurd hh (by omega)) (.int .i64 b0) (.int .i64 b1) (.int .i64 b2) (.int .i64 b3) (.int .i64 b4) (.int .i64 b5) (.int .i64 b6) (.int .i64 b7) (.int .i64 (c.l.length : Int)))
            have bb58 : Box (((((((((ws57.setCell ⟨q44, 0, none⟩ (.int .i64 b0)).setCell ⟨q44, 1, none⟩ (.int .i64 b1)).setCell ⟨q44, 2, none⟩ (.int .i64 b2)).setCell ⟨q44, 3, none⟩ (.int .i64 b3)).setCell ⟨q44, 4, none⟩ (.int .i64 b4)).setCell ⟨q44, 5, none⟩ (.int .i64 b5)).setCell ⟨q44, 6, none⟩ (.int .i64 b6)).setCell ⟨q44, 7, none⟩ (.int .i64 b7)).setCell ⟨q44, 8, none⟩ (.int .i64 (c.l.length : Int))) q44 56 #[.int .i64 b0, .int .i64 b1, .int .i64 b2, .int .i64 b3, .int .i64 b4, .int .i64 b5, .int .i64 b6, .int .i64 b7, .int .i64 (c.l.length : Int)] := (box_nine bo57 (.int .i64 b0) (.int .i64 b1) (.int .i64 b2) (.int .i64 b3) (.int .i64 b4) (.int .i64 b5) (.int .i64 b6) (.int .i64 b7) (.int .i64 (c.l.length : Int)))
            have bo58 := (far_nine (q := q44) bb57 (by omega) (.int .i64 b0) (.int .i64 b1) (.int .i64 b2) (.int .i64 b3) (.int .i64 b4) (.int .i64 b5) (.int .i64 b6) (.int .i64 b7) (.int .i64 (c.l.length : Int)))
            refine hK.out _ _ (kk58) (fun hHeld => ?_)
            clear hK K
            try simp only [Act.put, List.getElem_toArray, List.getElem_cons_zero, List.getElem_cons_succ, List.setIfInBounds_toArray, List.set_cons_zero, List.set_cons_succ]
            generalize (((((((((ws57.setCell ⟨q44, 0, none⟩ (.int .i64 b0)).setCell ⟨q44, 1, none⟩ (.int .i64 b1)).setCell ⟨q44, 2, none⟩ (.int .i64 b2)).setCell ⟨q44, 3, none⟩ (.int .i64 b3)).setCell ⟨q44, 4, none⟩ (.int .i64 b4)).setCell ⟨q44, 5, none⟩ (.int .i64 b5)).setCell ⟨q44, 6, none⟩ (.int .i64 b6)).setCell ⟨q44, 7, none⟩ (.int .i64 b7)).setCell ⟨q44, 8, none⟩ (.int .i64 (c.l.length : Int))) = ws58 at *
            refine wpAnyH_done (by kernel_rfl) ?_ _
            go_wp2_with fail
            go_meet
            exact ⟨_, _, rfl, rfl, kk58, n7, n8, (by omega), ⟨_, _, _, _, _, _, _, _, bo58, h8v, hta⟩, ⟨_, _, _, _, _, _, _, _, bb58, h8l, htb⟩⟩
      case rest =>
        obtain ⟨q7, q8, rfl, rfl, KF, n7, n8, n78, hg7, hg8⟩ := hcut
        have HKF := Lib.hid KF
        have HK6 := Lib.hid (HK5.out.trans KF (fun _ _ h => h))
        have HU1 := Lib.hid (HZ1.out.keep KF id)
        have HU2 := Lib.hid (HZ2.out.keep KF id)
        have HG7 := Lib.hid hg7
        have HG8 := Lib.hid hg8
        have hp2 : w.heap.size + 1 + 1 < w5.heap.size := HZ2.out.lt
        have hq7 : q7 < wc.heap.size := by obtain ⟨_, _, _, _, _, _, _, _, hb, _⟩ := hg7; exact hb.lt
        have hq8 : q8 < wc.heap.size := by obtain ⟨_, _, _, _, _, _, _, _, hb, _⟩ := hg8; exact hb.lt
        have y0 : wc.cell? ⟨w.heap.size + 1, 0, none⟩ = some (.int .i64 kind) := HU1.out.cell 0
        have y1 : wc.cell? ⟨w.heap.size + 1, 1, none⟩ = some (.int .i64 node) := HU1.out.cell 1
        clear KF MC HGV HGL KZ HZ0 HZ1 HZ2 HK5 HKF hg7 hg8
        rcases HRY.out with ⟨rfl, hr, hn, h7⟩ | ⟨rfl, hr, hn, h7⟩ | ⟨rfl, hr⟩
        · subst hr
          obtain ⟨b0, b1, b2, b3, b4, b5, b6, b7, hb8, _, htb⟩ := HG8.out
          have x0 : wc.cell? ⟨q8, 0, none⟩ = some (.int .i64 b0) := hb8.cell 0
          have x1 : wc.cell? ⟨q8, 1, none⟩ = some (.int .i64 b1) := hb8.cell 1
          have x2 : wc.cell? ⟨q8, 2, none⟩ = some (.int .i64 b2) := hb8.cell 2
          have x3 : wc.cell? ⟨q8, 3, none⟩ = some (.int .i64 b3) := hb8.cell 3
          have x4 : wc.cell? ⟨q8, 4, none⟩ = some (.int .i64 b4) := hb8.cell 4
          have x5 : wc.cell? ⟨q8, 5, none⟩ = some (.int .i64 b5) := hb8.cell 5
          have x6 : wc.cell? ⟨q8, 6, none⟩ = some (.int .i64 b6) := hb8.cell 6
          have x7 : wc.cell? ⟨q8, 7, none⟩ = some (.int .i64 b7) := hb8.cell 7
          have x8 : wc.cell? ⟨q8, 8, none⟩ = some (.int .i64 (c.l.length : Int)) := hb8.cell 8
          have f0 := hb8.free 0
          have f1 := hb8.free 1
          have f2 := hb8.free 2
          have f3 := hb8.free 3
          have f4 := hb8.free 4
          have f5 := hb8.free 5
          have f6 := hb8.free 6
          have f7 := hb8.free 7
          have f8 := hb8.free 8
          have HGW := Lib.hid (gwith_any wc _ c.l node ⟨b0, b1, b2, b3, b4, b5, b6, b7, rfl, by omega, htb⟩ h7)
          rw [sort_with HV.out.ls hn] at HGW
          have HB8 := Lib.hid hb8
          clear hb8
          go_wp2_with fail
          refine HGW.out.mono ?_
          rintro e w6 ⟨u6, rfl, ⟨a0, a1, a2, a3, a4, a5, a6, a7, rfl, h8w, htw⟩, k6⟩
          have hy8 := HB8.out.keep k6 id
          clear x0 x1 x2 x3 x4 x5 x6 x7 x8 f0 f1 f2 f3 f4 f5 f6 f7 f8
          have x0 : w6.cell? ⟨q8, 0, none⟩ = some (.int .i64 b0) := hy8.cell 0
          have x1 : w6.cell? ⟨q8, 1, none⟩ = some (.int .i64 b1) := hy8.cell 1
          have x2 : w6.cell? ⟨q8, 2, none⟩ = some (.int .i64 b2) := hy8.cell 2
          have x3 : w6.cell? ⟨q8, 3, none⟩ = some (.int .i64 b3) := hy8.cell 3
          have x4 : w6.cell? ⟨q8, 4, none⟩ = some (.int .i64 b4) := hy8.cell 4
          have x5 : w6.cell? ⟨q8, 5, none⟩ = some (.int .i64 b5) := hy8.cell 5
          have x6 : w6.cell? ⟨q8, 6, none⟩ = some (.int .i64 b6) := hy8.cell 6
          have x7 : w6.cell? ⟨q8, 7, none⟩ = some (.int .i64 b7) := hy8.cell 7
          have x8 : w6.cell? ⟨q8, 8, none⟩ = some (.int .i64 (c.l.length : Int)) := hy8.cell 8
          have f0 := hy8.free 0
          have f1 := hy8.free 1
          have f2 := hy8.free 2
          have f3 := hy8.free 3
          have f4 := hy8.free 4
          have f5 := hy8.free 5
          have f6 := hy8.free 6
          have f7 := hy8.free 7
          have f8 := hy8.free 8
          have HB9 := Lib.hid (box_nine hy8 (.int .i64 a0) (.int .i64 a1) (.int .i64 a2) (.int .i64 a3) (.int .i64 a4) (.int .i64 a5) (.int .i64 a6) (.int .i64 a7) (.int .i64 ((withP c.l node).length : Int)))
          have HK7 := Lib.hid (keep_nine (q := q8) (HK6.out.trans k6 (fun _ _ h => h)) (fun hh => absurd hh (by omega)) (.int .i64 a0) (.int .i64 a1) (.int .i64 a2) (.int .i64 a3) (.int .i64 a4) (.int .i64 a5) (.int .i64 a6) (.int .i64 a7) (.int .i64 ((withP c.l node).length : Int)))
          have KQ := (keep_nine (q := q8) (k6.mono (T := fun i => i = q8) (fun _ _ h => h.elim)) (fun _ => rfl) (.int .i64 a0) (.int .i64 a1) (.int .i64 a2) (.int .i64 a3) (.int .i64 a4) (.int .i64 a5) (.int .i64 a6) (.int .i64 a7) (.int .i64 ((withP c.l node).length : Int)))
          have HG7' := Lib.hid (HG7.out.keep KQ n78)
          have HV1 := Lib.hid (HU1.out.keep KQ (by omega))
          have HV2 := Lib.hid (HU2.out.keep KQ (by omega))
          clear KQ k6 hy8 y0 y1 HU1 HU2
          go_upto_region 14 with fail
          generalize (((((((((w6.setCell ⟨q8, 0, none⟩ (.int .i64 a0)).setCell ⟨q8, 1, none⟩ (.int .i64 a1)).setCell ⟨q8, 2, none⟩ (.int .i64 a2)).setCell ⟨q8, 3, none⟩ (.int .i64 a3)).setCell ⟨q8, 4, none⟩ (.int .i64 a4)).setCell ⟨q8, 5, none⟩ (.int .i64 a5)).setCell ⟨q8, 6, none⟩ (.int .i64 a6)).setCell ⟨q8, 7, none⟩ (.int .i64 a7)).setCell ⟨q8, 8, none⟩ (.int .i64 ((withP c.l node).length : Int))) = w7 at *
          clear x0 x1 x2 x3 x4 x5 x6 x7 x8 f0 f1 f2 f3 f4 f5 f6 f7 f8
          have y0 := HV1.out.cell 0
          have y1 := HV1.out.cell 1
          have HG8' : Hid (GAt w7 q8 (withP c.l node)) := ⟨a0, a1, a2, a3, a4, a5, a6, a7, HB9.out, h8w, htw⟩
          obtain ⟨c0, c1, c2, c3, c4, c5, c6, c7, hc, hc8, hct⟩ := HG7'.out
          obtain ⟨d0, d1, d2, d3, d4, d5, d6, d7, hd, hd8, hdt⟩ := HG8'.out
          have HC7 := Lib.hid hc
          have HD8 := Lib.hid hd
          have HLV : Hid (∀ w', Keep (fun i => i = w.heap.size + 1 + 1) w7 w' → Calls Try.prog 41 #[.agg #[.int .i64 c0, .int .i64 c1, .int .i64 c2, .int .i64 c3, .int .i64 c4, .int .i64 c5, .int .i64 c6, .int .i64 c7, .int .i64 ((c.v).length : Int)]] w' (ToldZ (c.v) w')) := fun w' _ => glist_any w' _ _ ⟨c0, c1, c2, c3, c4, c5, c6, c7, rfl, hc8, hct⟩
          have HLL : Hid (∀ w', Keep (fun i => i = w.heap.size + 1 + 1) w7 w' → Calls Try.prog 41 #[.agg #[.int .i64 d0, .int .i64 d1, .int .i64 d2, .int .i64 d3, .int .i64 d4, .int .i64 d5, .int .i64 d6, .int .i64 d7, .int .i64 ((withP c.l node).length : Int)]] w' (ToldZ (withP c.l node) w')) := fun w' _ => glist_any w' _ _ ⟨d0, d1, d2, d3, d4, d5, d6, d7, rfl, hd8, hdt⟩
          have MC : Hid (∀ w', Keep (fun i => i = w.heap.size + 1 + 1) w7 w' → w'.cell? ⟨q7, 0, none⟩ = some (.int .i64 c0) ∧ w'.cell? ⟨q7, 1, none⟩ = some (.int .i64 c1) ∧ w'.cell? ⟨q7, 2, none⟩ = some (.int .i64 c2) ∧ w'.cell? ⟨q7, 3, none⟩ = some (.int .i64 c3) ∧ w'.cell? ⟨q7, 4, none⟩ = some (.int .i64 c4) ∧ w'.cell? ⟨q7, 5, none⟩ = some (.int .i64 c5) ∧ w'.cell? ⟨q7, 6, none⟩ = some (.int .i64 c6) ∧ w'.cell? ⟨q7, 7, none⟩ = some (.int .i64 c7) ∧ w'.cell? ⟨q7, 8, none⟩ = some (.int .i64 ((c.v).length : Int)) ∧ w'.cell? ⟨q8, 0, none⟩ = some (.int .i64 d0) ∧ w'.cell? ⟨q8, 1, none⟩ = some (.int .i64 d1) ∧ w'.cell? ⟨q8, 2, none⟩ = some (.int .i64 d2) ∧ w'.cell? ⟨q8, 3, none⟩ = some (.int .i64 d3) ∧ w'.cell? ⟨q8, 4, none⟩ = some (.int .i64 d4) ∧ w'.cell? ⟨q8, 5, none⟩ = some (.int .i64 d5) ∧ w'.cell? ⟨q8, 6, none⟩ = some (.int .i64 d6) ∧ w'.cell? ⟨q8, 7, none⟩ = some (.int .i64 d7) ∧ w'.cell? ⟨q8, 8, none⟩ = some (.int .i64 ((withP c.l node).length : Int))) := fun w' k => by
            have e7 := HC7.out.keep k (by omega)
            have e8 := HD8.out.keep k (by omega)
            exact ⟨e7.cell 0, e7.cell 1, e7.cell 2, e7.cell 3, e7.cell 4, e7.cell 5, e7.cell 6, e7.cell 7, e7.cell 8, e8.cell 0, e8.cell 1, e8.cell 2, e8.cell 3, e8.cell 4, e8.cell 5, e8.cell 6, e8.cell 7, e8.cell 8⟩
          have MK : Hid (∀ w', Keep (fun i => i = w.heap.size + 1 + 1) w7 w' → Keep noneOf w w') := fun w' k => HK7.out.trans k (fun i hi e => by omega)
          have KZ := (Keep.refl (fun i => i = w.heap.size + 1 + 1) w7).drew
          clear hc hd y0 y1
          go_wp2
          refine wp_region_held_drew (S := fun w' => Keep (fun i => i = w.heap.size + 1 + 1) w7 w') (by kernel_rfl) (KZ) (fun hHeld => ?_)
          refine' wpAnyH_take (i := 0) (v := _) rfl (by kernel_rfl) (by kernel_rfl) (by kernel_rfl) (fun _ _ _ h => h) (Or.inl ⟨by kernel_rfl, ?hy0⟩) (by assumption) ?_
          case hy0 => intro w' hSw; obtain ⟨_, _, _, _, _, _, _, _, _, _, _, _, _, _, _, _, _, _⟩ := MC.out w' hSw; go_simp; try with_reducible rfl
          simp only [Act.put, List.getElem_toArray, List.getElem_cons_zero, List.getElem_cons_succ, List.setIfInBounds_toArray, List.set_cons_zero, List.set_cons_succ]
          refine' wpAnyH_take (i := 2) (v := _) rfl (by kernel_rfl) (by kernel_rfl) (by kernel_rfl) (fun _ _ _ h => h) (Or.inl ⟨by kernel_rfl, ?hy2⟩) (by assumption) ?_
          case hy2 => intro w' hSw; obtain ⟨_, _, _, _, _, _, _, _, _, _, _, _, _, _, _, _, _, _⟩ := MC.out w' hSw; go_simp; try with_reducible rfl
          simp only [Act.put, List.getElem_toArray, List.getElem_cons_zero, List.getElem_cons_succ, List.setIfInBounds_toArray, List.set_cons_zero, List.set_cons_succ]
          refine wpAnyH_ready (rs := [1]) (by kernel_rfl) (by simp) (AllReadyH.cons rfl (fun K hK => ?_) AllReadyH.nil)
          go_simp
          go_at_call 41
          refine (HLV.out _ KZ).mono ?_
          rintro e wl ⟨vl, rfl, hol, kl⟩
          obtain ⟨Al, cl, rfl⟩ := own_shape hol
          go_wp2_with fail
          have KL := KZ.trans kl (fun _ _ h => h.elim)
          refine hK.out _ _ (KL) (fun hHeld => ?_)
          clear hK K
          try simp only [Act.put, List.getElem_toArray, List.getElem_cons_zero, List.getElem_cons_succ, List.setIfInBounds_toArray, List.set_cons_zero, List.set_cons_succ]
          refine wpAnyH_ready (rs := [3]) (by kernel_rfl) (by simp) (AllReadyH.cons rfl (fun K hK => ?_) AllReadyH.nil)
          go_simp
          go_at_call 41
          refine (HLL.out _ KL).mono ?_
          rintro e wm ⟨vm, rfl, hom, km⟩
          obtain ⟨Am, cm, rfl⟩ := own_shape hom
          go_wp2_with fail
          have KM := KL.trans km (fun _ _ h => h.elim)
          refine hK.out _ _ (KM) (fun hHeld => ?_)
          clear hK K
          try simp only [Act.put, List.getElem_toArray, List.getElem_cons_zero, List.getElem_cons_succ, List.setIfInBounds_toArray, List.set_cons_zero, List.set_cons_succ]
          refine' wpAnyH_take (i := 4) (v := _) rfl (by kernel_rfl) (by kernel_rfl) (by kernel_rfl) (fun _ _ _ h => h) (Or.inl ⟨by kernel_rfl, ?hy4⟩) (by assumption) ?_
          case hy4 => intro w' hSw; obtain ⟨_, _, _, _, _, _, _, _, _, _, _, _, _, _, _, _, _, _⟩ := MC.out w' hSw; go_simp; try with_reducible rfl
          simp only [Act.put, List.getElem_toArray, List.getElem_cons_zero, List.getElem_cons_succ, List.setIfInBounds_toArray, List.set_cons_zero, List.set_cons_succ]
          have U9 := (HV2.out.drew.keep kl id).keep km id
          have z0 := U9.cell 0
          have z1 := U9.cell 1
          have f0 := U9.free 0
          have f1 := U9.free 1
          refine wpAnyH_ready (rs := [5]) (by kernel_rfl) (by simp) (AllReadyH.cons rfl (fun K hK => ?_) AllReadyH.nil)
          go_simp
          have UE := (U9.put 0 (.slice Al (c.v).length cl)).put 1 (.slice Am (withP c.l node).length cm)
          have KE := (KM.setCell (p := ⟨w.heap.size + 1 + 1, 0, none⟩) (fun _ => rfl) (.slice Al (c.v).length cl)).setCell (p := ⟨w.heap.size + 1 + 1, 1, none⟩) (fun _ => rfl) (.slice Am (withP c.l node).length cm)
          have KX := ((Keep.refl (fun i => i = w.heap.size + 1 + 1) wm).setCell (p := ⟨w.heap.size + 1 + 1, 0, none⟩) (fun _ => rfl) (.slice Al (c.v).length cl)).setCell (p := ⟨w.heap.size + 1 + 1, 1, none⟩) (fun _ => rfl) (.slice Am (withP c.l node).length cm)
          refine hK.out _ _ (KE) (fun hHeld => ?_)
          clear hK K
          try simp only [Act.put, List.getElem_toArray, List.getElem_cons_zero, List.getElem_cons_succ, List.setIfInBounds_toArray, List.set_cons_zero, List.set_cons_succ]
          generalize (wm.setCell ⟨w.heap.size + 1 + 1, 0, none⟩ (.slice Al (c.v).length cl)).setCell ⟨w.heap.size + 1 + 1, 1, none⟩ (.slice Am (withP c.l node).length cm) = we at *
          refine wpAnyH_ready (rs := [6]) (by kernel_rfl) (by simp) (AllReadyH.cons rfl (fun K hK => ?_) AllReadyH.nil)
          go_simp
          refine hK.out _ _ (hHeld) (fun hHeld => ?_)
          clear hK K
          try simp only [Act.put, List.getElem_toArray, List.getElem_cons_zero, List.getElem_cons_succ, List.setIfInBounds_toArray, List.set_cons_zero, List.set_cons_succ]
          refine wpAnyH_done (by kernel_rfl) ?_ _
          have r0 := UE.cell 0
          have r1 := UE.cell 1
          have HKE := Lib.hid (MK.out we KE)
          have hpl := HV2.out.lt
          have hsl := kl.size
          have hds : w7.drew.heap.size = w7.heap.size := rfl
          have hzv := (((Zs.of_own hol).keepN km).keep KX (fun i _ hi e => by omega)).any
          have hzw := ((Zs.of_own hom).keep KX (fun i _ hi e => by omega)).any
          have HCE : Hid (CfAt we (fun _ => True) (.agg #[.slice Al (c.v).length cl, .slice Am (withP c.l node).length cm]) ⟨c.v, withP c.l node⟩) := ⟨_, _, rfl, hzv, hzw⟩
          clear hHeld UE KE KX U9 z0 z1 f0 f1 MC MK HLV HLL hol hom kl km KL KM KZ hzv hzw
          go_wp2
          exact bodyPost_ret (v := .tuple #[.agg #[.slice Al (c.v).length cl, .slice Am (withP c.l node).length cm], .int .i64 0]) (by simp [results, Try.results20, go_sem, r0, r1]) rfl ⟨_, rfl, HCE.out, HKE.out⟩
        · subst hr
          obtain ⟨a0, a1, a2, a3, a4, a5, a6, a7, ha7, _, hta⟩ := HG7.out
          obtain ⟨b0, b1, b2, b3, b4, b5, b6, b7, hb8, _, htb⟩ := HG8.out
          have HGA : Hid (∀ w', Calls Try.prog 39 #[.agg #[.int .i64 a0, .int .i64 a1, .int .i64 a2, .int .i64 a3, .int .i64 a4, .int .i64 a5, .int .i64 a6, .int .i64 a7, .int .i64 (c.v.length : Int)], .int .i64 node] w' fun e w'' => ∃ u, e = .returned u ∧ GroupV u (withP c.v node) ∧ Keep noneOf w' w'') := fun w' => by
            have := gwith_any w' _ c.v node ⟨a0, a1, a2, a3, a4, a5, a6, a7, rfl, by omega, hta⟩ h7
            rw [sort_with HV.out.vs hn] at this
            exact this
          have HGB : Hid (∀ w', Calls Try.prog 40 #[.agg #[.int .i64 b0, .int .i64 b1, .int .i64 b2, .int .i64 b3, .int .i64 b4, .int .i64 b5, .int .i64 b6, .int .i64 b7, .int .i64 (c.l.length : Int)], .int .i64 node] w' fun e w'' => ∃ u, e = .returned u ∧ GroupV u (woP c.l node) ∧ Keep noneOf w' w'') := fun w' => gwithout_any w' _ c.l node ⟨b0, b1, b2, b3, b4, b5, b6, b7, rfl, h8l, htb⟩
          have HA7 := Lib.hid ha7
          have HB8 := Lib.hid hb8
          have KZ := (Keep.refl (fun i => i = q7 ∨ i = q8) wc).drew
          have MC : Hid (∀ w', Keep (fun i => i = q7 ∨ i = q8) wc w' → w'.cell? ⟨w.heap.size + 1, 0, none⟩ = some (.int .i64 2) ∧ w'.cell? ⟨w.heap.size + 1, 1, none⟩ = some (.int .i64 node)) := fun w' k => by
            have e7 := HU1.out.keep k (by omega)
            exact ⟨e7.cell 0, e7.cell 1⟩
          clear ha7 hb8
          go_wp2
          · skip
            refine wp_region_held_drew (S := fun w' => Keep (fun i => i = q7 ∨ i = q8) wc w') (by kernel_rfl) (KZ) (fun hHeld => ?_)
            refine' wpAnyH_take (i := 1) (v := _) rfl (by kernel_rfl) (by kernel_rfl) (by kernel_rfl) (fun _ _ _ h => h) (Or.inl ⟨by kernel_rfl, ?hy1⟩) (by assumption) ?_
            case hy1 => intro w' hSw; obtain ⟨_, _⟩ := MC.out w' hSw; go_simp; try with_reducible rfl
            simp only [Act.put, List.getElem_toArray, List.getElem_cons_zero, List.getElem_cons_succ, List.setIfInBounds_toArray, List.set_cons_zero, List.set_cons_succ]
            refine' wpAnyH_take (i := 2) (v := _) rfl (by kernel_rfl) (by kernel_rfl) (by kernel_rfl) (fun _ _ _ h => h) (Or.inl ⟨by kernel_rfl, ?hy2⟩) (by assumption) ?_
            case hy2 => intro w' hSw; obtain ⟨_, _⟩ := MC.out w' hSw; go_simp; try with_reducible rfl
            simp only [Act.put, List.getElem_toArray, List.getElem_cons_zero, List.getElem_cons_succ, List.setIfInBounds_toArray, List.set_cons_zero, List.set_cons_succ]
            refine' wpAnyH_take (i := 5) (v := _) rfl (by kernel_rfl) (by kernel_rfl) (by kernel_rfl) (fun _ _ _ h => h) (Or.inl ⟨by kernel_rfl, ?hy5⟩) (by assumption) ?_
            case hy5 => intro w' hSw; obtain ⟨_, _⟩ := MC.out w' hSw; go_simp; try with_reducible rfl
            simp only [Act.put, List.getElem_toArray, List.getElem_cons_zero, List.getElem_cons_succ, List.setIfInBounds_toArray, List.set_cons_zero, List.set_cons_succ]
            refine' wpAnyH_take (i := 6) (v := _) rfl (by kernel_rfl) (by kernel_rfl) (by kernel_rfl) (fun _ _ _ h => h) (Or.inl ⟨by kernel_rfl, ?hy6⟩) (by assumption) ?_
            case hy6 => intro w' hSw; obtain ⟨_, _⟩ := MC.out w' hSw; go_simp; try with_reducible rfl
            simp only [Act.put, List.getElem_toArray, List.getElem_cons_zero, List.getElem_cons_succ, List.setIfInBounds_toArray, List.set_cons_zero, List.set_cons_succ]
            generalize hwz : wc.drew = wz at *
            have hx7 : Box wz q7 56 #[.int .i64 a0, .int .i64 a1, .int .i64 a2, .int .i64 a3, .int .i64 a4, .int .i64 a5, .int .i64 a6, .int .i64 a7, .int .i64 (c.v.length : Int)] := by rw [← hwz]; exact HA7.out
            have hx8 : Box wz q8 56 #[.int .i64 b0, .int .i64 b1, .int .i64 b2, .int .i64 b3, .int .i64 b4, .int .i64 b5, .int .i64 b6, .int .i64 b7, .int .i64 (c.l.length : Int)] := by rw [← hwz]; exact HB8.out
            refine wpAnyH_ready (rs := [0, 4]) (by kernel_rfl) (by simp) (AllReadyH.cons rfl (fun K hK => ?_) (AllReadyH.cons rfl (fun K hK => ?_) AllReadyH.nil))
            · skip
              have t0 : wz.cell? ⟨q7, 0, none⟩ = some (.int .i64 a0) := hx7.cell 0
              have t1 : wz.cell? ⟨q7, 1, none⟩ = some (.int .i64 a1) := hx7.cell 1
              have t2 : wz.cell? ⟨q7, 2, none⟩ = some (.int .i64 a2) := hx7.cell 2
              have t3 : wz.cell? ⟨q7, 3, none⟩ = some (.int .i64 a3) := hx7.cell 3
              have t4 : wz.cell? ⟨q7, 4, none⟩ = some (.int .i64 a4) := hx7.cell 4
              have t5 : wz.cell? ⟨q7, 5, none⟩ = some (.int .i64 a5) := hx7.cell 5
              have t6 : wz.cell? ⟨q7, 6, none⟩ = some (.int .i64 a6) := hx7.cell 6
              have t7 : wz.cell? ⟨q7, 7, none⟩ = some (.int .i64 a7) := hx7.cell 7
              have t8 : wz.cell? ⟨q7, 8, none⟩ = some (.int .i64 (c.v.length : Int)) := hx7.cell 8
              go_simp
              refine hK.out _ _ (KZ) (fun hHeld => ?_)
              clear hK K
              try simp only [Act.put, List.getElem_toArray, List.getElem_cons_zero, List.getElem_cons_succ, List.setIfInBounds_toArray, List.set_cons_zero, List.set_cons_succ]
              clear t0 t1 t2 t3 t4 t5 t6 t7 t8
              refine wpAnyH_ready (rs := [3, 4]) (by kernel_rfl) (by simp) (AllReadyH.cons rfl (fun K hK => ?_) (AllReadyH.cons rfl (fun K hK => ?_) AllReadyH.nil))
              · skip
                go_simp
                go_at_call 39
                refine (HGA.out _).mono ?_
                rintro e wa ⟨ua, rfl, ⟨xb0, xb1, xb2, xb3, xb4, xb5, xb6, xb7, rfl, g8a, gta⟩, ka⟩
                go_wp2_with fail
                have KA := KZ.trans ka (fun _ _ h => h.elim)
                replace hx7 := hx7.keep ka id
                replace hx8 := hx8.keep ka id
                refine hK.out _ _ (KA) (fun hHeld => ?_)
                clear hK K
                try simp only [Act.put, List.getElem_toArray, List.getElem_cons_zero, List.getElem_cons_succ, List.setIfInBounds_toArray, List.set_cons_zero, List.set_cons_succ]
                refine wpAnyH_ready (rs := [4]) (by kernel_rfl) (by simp) (AllReadyH.cons rfl (fun K hK => ?_) AllReadyH.nil)
                have t0 : wa.cell? ⟨q8, 0, none⟩ = some (.int .i64 b0) := hx8.cell 0
                have t1 : wa.cell? ⟨q8, 1, none⟩ = some (.int .i64 b1) := hx8.cell 1
                have t2 : wa.cell? ⟨q8, 2, none⟩ = some (.int .i64 b2) := hx8.cell 2
                have t3 : wa.cell? ⟨q8, 3, none⟩ = some (.int .i64 b3) := hx8.cell 3
                have t4 : wa.cell? ⟨q8, 4, none⟩ = some (.int .i64 b4) := hx8.cell 4
                have t5 : wa.cell? ⟨q8, 5, none⟩ = some (.int .i64 b5) := hx8.cell 5
                have t6 : wa.cell? ⟨q8, 6, none⟩ = some (.int .i64 b6) := hx8.cell 6
                have t7 : wa.cell? ⟨q8, 7, none⟩ = some (.int .i64 b7) := hx8.cell 7
                have t8 : wa.cell? ⟨q8, 8, none⟩ = some (.int .i64 (c.l.length : Int)) := hx8.cell 8
                go_simp
                refine hK.out _ _ (KA) (fun hHeld => ?_)
                clear hK K
                try simp only [Act.put, List.getElem_toArray, List.getElem_cons_zero, List.getElem_cons_succ, List.setIfInBounds_toArray, List.set_cons_zero, List.set_cons_succ]
                clear t0 t1 t2 t3 t4 t5 t6 t7 t8
                refine wpAnyH_ready (rs := [7]) (by kernel_rfl) (by simp) (AllReadyH.cons rfl (fun K hK => ?_) AllReadyH.nil)
                go_simp
                go_at_call 40
                refine (HGB.out _).mono ?_
                rintro e wb ⟨ub, rfl, ⟨yb0, yb1, yb2, yb3, yb4, yb5, yb6, yb7, rfl, g8b, gtb⟩, kb⟩
                go_wp2_with fail
                have KB := KA.trans kb (fun _ _ h => h.elim)
                replace hx7 := hx7.keep kb id
                replace hx8 := hx8.keep kb id
                refine hK.out _ _ (KB) (fun hHeld => ?_)
                clear hK K
                try simp only [Act.put, List.getElem_toArray, List.getElem_cons_zero, List.getElem_cons_succ, List.setIfInBounds_toArray, List.set_cons_zero, List.set_cons_succ]
                have t0 : wb.cell? ⟨q7, 0, none⟩ = some (.int .i64 a0) := hx7.cell 0
                have t1 : wb.cell? ⟨q7, 1, none⟩ = some (.int .i64 a1) := hx7.cell 1
                have t2 : wb.cell? ⟨q7, 2, none⟩ = some (.int .i64 a2) := hx7.cell 2
                have t3 : wb.cell? ⟨q7, 3, none⟩ = some (.int .i64 a3) := hx7.cell 3
                have t4 : wb.cell? ⟨q7, 4, none⟩ = some (.int .i64 a4) := hx7.cell 4
                have t5 : wb.cell? ⟨q7, 5, none⟩ = some (.int .i64 a5) := hx7.cell 5
                have t6 : wb.cell? ⟨q7, 6, none⟩ = some (.int .i64 a6) := hx7.cell 6
                have t7 : wb.cell? ⟨q7, 7, none⟩ = some (.int .i64 a7) := hx7.cell 7
                have t8 : wb.cell? ⟨q7, 8, none⟩ = some (.int .i64 (c.v.length : Int)) := hx7.cell 8
                have f0 := hx7.free 0
                have f1 := hx7.free 1
                have f2 := hx7.free 2
                have f3 := hx7.free 3
                have f4 := hx7.free 4
                have f5 := hx7.free 5
                have f6 := hx7.free 6
                have f7 := hx7.free 7
                have f8 := hx7.free 8
                refine wpAnyH_ready (rs := [8]) (by kernel_rfl) (by simp) (AllReadyH.cons rfl (fun K hK => ?_) AllReadyH.nil)
                go_simp
                have KC := (keep_nine (q := q7) KB (fun _ => .inl rfl) (.int .i64 xb0) (.int .i64 xb1) (.int .i64 xb2) (.int .i64 xb3) (.int .i64 xb4) (.int .i64 xb5) (.int .i64 xb6) (.int .i64 xb7) (.int .i64 ((withP c.v node).length : Int)))
                have hy7 := (box_nine hx7 (.int .i64 xb0) (.int .i64 xb1) (.int .i64 xb2) (.int .i64 xb3) (.int .i64 xb4) (.int .i64 xb5) (.int .i64 xb6) (.int .i64 xb7) (.int .i64 ((withP c.v node).length : Int)))
                have hy8 := (far_nine (q := q7) hx8 (by omega) (.int .i64 xb0) (.int .i64 xb1) (.int .i64 xb2) (.int .i64 xb3) (.int .i64 xb4) (.int .i64 xb5) (.int .i64 xb6) (.int .i64 xb7) (.int .i64 ((withP c.v node).length : Int)))
                refine hK.out _ _ (KC) (fun hHeld => ?_)
                clear hK K
                try simp only [Act.put, List.getElem_toArray, List.getElem_cons_zero, List.getElem_cons_succ, List.setIfInBounds_toArray, List.set_cons_zero, List.set_cons_succ]
                generalize (((((((((wb.setCell ⟨q7, 0, none⟩ (.int .i64 xb0)).setCell ⟨q7, 1, none⟩ (.int .i64 xb1)).setCell ⟨q7, 2, none⟩ (.int .i64 xb2)).setCell ⟨q7, 3, none⟩ (.int .i64 xb3)).setCell ⟨q7, 4, none⟩ (.int .i64 xb4)).setCell ⟨q7, 5, none⟩ (.int .i64 xb5)).setCell ⟨q7, 6, none⟩ (.int .i64 xb6)).setCell ⟨q7, 7, none⟩ (.int .i64 xb7)).setCell ⟨q7, 8, none⟩ (.int .i64 ((withP c.v node).length : Int))) = wd at *
                clear t0 t1 t2 t3 t4 t5 t6 t7 t8 f0 f1 f2 f3 f4 f5 f6 f7 f8
                have t0 : wd.cell? ⟨q8, 0, none⟩ = some (.int .i64 b0) := hy8.cell 0
                have t1 : wd.cell? ⟨q8, 1, none⟩ = some (.int .i64 b1) := hy8.cell 1
                have t2 : wd.cell? ⟨q8, 2, none⟩ = some (.int .i64 b2) := hy8.cell 2
                have t3 : wd.cell? ⟨q8, 3, none⟩ = some (.int .i64 b3) := hy8.cell 3
                have t4 : wd.cell? ⟨q8, 4, none⟩ = some (.int .i64 b4) := hy8.cell 4
                have t5 : wd.cell? ⟨q8, 5, none⟩ = some (.int .i64 b5) := hy8.cell 5
                have t6 : wd.cell? ⟨q8, 6, none⟩ = some (.int .i64 b6) := hy8.cell 6
                have t7 : wd.cell? ⟨q8, 7, none⟩ = some (.int .i64 b7) := hy8.cell 7
                have t8 : wd.cell? ⟨q8, 8, none⟩ = some (.int .i64 (c.l.length : Int)) := hy8.cell 8
                have f0 := hy8.free 0
                have f1 := hy8.free 1
                have f2 := hy8.free 2
                have f3 := hy8.free 3
                have f4 := hy8.free 4
                have f5 := hy8.free 5
                have f6 := hy8.free 6
                have f7 := hy8.free 7
                have f8 := hy8.free 8
                refine wpAnyH_ready (rs := [9]) (by kernel_rfl) (by simp) (AllReadyH.cons rfl (fun K hK => ?_) AllReadyH.nil)
                go_simp
                have KD := (keep_nine (q := q8) KC (fun _ => .inr rfl) (.int .i64 yb0) (.int .i64 yb1) (.int .i64 yb2) (.int .i64 yb3) (.int .i64 yb4) (.int .i64 yb5) (.int .i64 yb6) (.int .i64 yb7) (.int .i64 ((woP c.l node).length : Int)))
                have hv8 := (box_nine hy8 (.int .i64 yb0) (.int .i64 yb1) (.int .i64 yb2) (.int .i64 yb3) (.int .i64 yb4) (.int .i64 yb5) (.int .i64 yb6) (.int .i64 yb7) (.int .i64 ((woP c.l node).length : Int)))
                have hv7 := (far_nine (q := q8) hy7 (by omega) (.int .i64 yb0) (.int .i64 yb1) (.int .i64 yb2) (.int .i64 yb3) (.int .i64 yb4) (.int .i64 yb5) (.int .i64 yb6) (.int .i64 yb7) (.int .i64 ((woP c.l node).length : Int)))
                refine hK.out _ _ (KD) (fun hHeld => ?_)
                clear hK K
                try simp only [Act.put, List.getElem_toArray, List.getElem_cons_zero, List.getElem_cons_succ, List.setIfInBounds_toArray, List.set_cons_zero, List.set_cons_succ]
                generalize (((((((((wd.setCell ⟨q8, 0, none⟩ (.int .i64 yb0)).setCell ⟨q8, 1, none⟩ (.int .i64 yb1)).setCell ⟨q8, 2, none⟩ (.int .i64 yb2)).setCell ⟨q8, 3, none⟩ (.int .i64 yb3)).setCell ⟨q8, 4, none⟩ (.int .i64 yb4)).setCell ⟨q8, 5, none⟩ (.int .i64 yb5)).setCell ⟨q8, 6, none⟩ (.int .i64 yb6)).setCell ⟨q8, 7, none⟩ (.int .i64 yb7)).setCell ⟨q8, 8, none⟩ (.int .i64 ((woP c.l node).length : Int))) = wf at *
                refine wpAnyH_done (by kernel_rfl) ?_ _
                have HK7 := Lib.hid (HK6.out.trans KD (fun i hi e => by omega))
                have HV2 := Lib.hid (HU2.out.keep KD (by omega))
                have HG7' : Hid (GAt wf q7 (withP c.v node)) := ⟨_, _, _, _, _, _, _, _, hv7, g8a, gta⟩
                have HG8' : Hid (GAt wf q8 (woP c.l node)) := ⟨_, _, _, _, _, _, _, _, hv8, g8b, gtb⟩
                have HV1 := Lib.hid (HU1.out.keep KD (by omega))
                clear hHeld MC HGA HGB KA KB KC KD HA7 HB8 hv7 hv8 hy7 hy8 g8a gta g8b gtb hx7 hx8 ka kb t0 t1 t2 t3 t4 t5 t6 t7 t8 f0 f1 f2 f3 f4 f5 f6 f7 f8 y0 y1 KZ
                have y0 := HV1.out.cell 0
                have y1 := HV1.out.cell 1
                go_upto_region 14 with fail
                obtain ⟨c0, c1, c2, c3, c4, c5, c6, c7, hc, hc8, hct⟩ := HG7'.out
                obtain ⟨d0, d1, d2, d3, d4, d5, d6, d7, hd, hd8, hdt⟩ := HG8'.out
                have HC7 := Lib.hid hc
                have HD8 := Lib.hid hd
                have HLV : Hid (∀ w', Keep (fun i => i = w.heap.size + 1 + 1) wf w' → Calls Try.prog 41 #[.agg #[.int .i64 c0, .int .i64 c1, .int .i64 c2, .int .i64 c3, .int .i64 c4, .int .i64 c5, .int .i64 c6, .int .i64 c7, .int .i64 ((withP c.v node).length : Int)]] w' (ToldZ (withP c.v node) w')) := fun w' _ => glist_any w' _ _ ⟨c0, c1, c2, c3, c4, c5, c6, c7, rfl, hc8, hct⟩
                have HLL : Hid (∀ w', Keep (fun i => i = w.heap.size + 1 + 1) wf w' → Calls Try.prog 41 #[.agg #[.int .i64 d0, .int .i64 d1, .int .i64 d2, .int .i64 d3, .int .i64 d4, .int .i64 d5, .int .i64 d6, .int .i64 d7, .int .i64 ((woP c.l node).length : Int)]] w' (ToldZ (woP c.l node) w')) := fun w' _ => glist_any w' _ _ ⟨d0, d1, d2, d3, d4, d5, d6, d7, rfl, hd8, hdt⟩
                have MC : Hid (∀ w', Keep (fun i => i = w.heap.size + 1 + 1) wf w' → w'.cell? ⟨q7, 0, none⟩ = some (.int .i64 c0) ∧ w'.cell? ⟨q7, 1, none⟩ = some (.int .i64 c1) ∧ w'.cell? ⟨q7, 2, none⟩ = some (.int .i64 c2) ∧ w'.cell? ⟨q7, 3, none⟩ = some (.int .i64 c3) ∧ w'.cell? ⟨q7, 4, none⟩ = some (.int .i64 c4) ∧ w'.cell? ⟨q7, 5, none⟩ = some (.int .i64 c5) ∧ w'.cell? ⟨q7, 6, none⟩ = some (.int .i64 c6) ∧ w'.cell? ⟨q7, 7, none⟩ = some (.int .i64 c7) ∧ w'.cell? ⟨q7, 8, none⟩ = some (.int .i64 ((withP c.v node).length : Int)) ∧ w'.cell? ⟨q8, 0, none⟩ = some (.int .i64 d0) ∧ w'.cell? ⟨q8, 1, none⟩ = some (.int .i64 d1) ∧ w'.cell? ⟨q8, 2, none⟩ = some (.int .i64 d2) ∧ w'.cell? ⟨q8, 3, none⟩ = some (.int .i64 d3) ∧ w'.cell? ⟨q8, 4, none⟩ = some (.int .i64 d4) ∧ w'.cell? ⟨q8, 5, none⟩ = some (.int .i64 d5) ∧ w'.cell? ⟨q8, 6, none⟩ = some (.int .i64 d6) ∧ w'.cell? ⟨q8, 7, none⟩ = some (.int .i64 d7) ∧ w'.cell? ⟨q8, 8, none⟩ = some (.int .i64 ((woP c.l node).length : Int))) := fun w' k => by
                  have e7 := HC7.out.keep k (by omega)
                  have e8 := HD8.out.keep k (by omega)
                  exact ⟨e7.cell 0, e7.cell 1, e7.cell 2, e7.cell 3, e7.cell 4, e7.cell 5, e7.cell 6, e7.cell 7, e7.cell 8, e8.cell 0, e8.cell 1, e8.cell 2, e8.cell 3, e8.cell 4, e8.cell 5, e8.cell 6, e8.cell 7, e8.cell 8⟩
                have MK : Hid (∀ w', Keep (fun i => i = w.heap.size + 1 + 1) wf w' → Keep noneOf w w') := fun w' k => HK7.out.trans k (fun i hi e => by omega)
                have KZ := (Keep.refl (fun i => i = w.heap.size + 1 + 1) wf).drew
                clear hc hd y0 y1
                go_wp2
                refine wp_region_held_drew (S := fun w' => Keep (fun i => i = w.heap.size + 1 + 1) wf w') (by kernel_rfl) (KZ) (fun hHeld => ?_)
                refine' wpAnyH_take (i := 0) (v := _) rfl (by kernel_rfl) (by kernel_rfl) (by kernel_rfl) (fun _ _ _ h => h) (Or.inl ⟨by kernel_rfl, ?hy0⟩) (by assumption) ?_
                case hy0 => intro w' hSw; obtain ⟨_, _, _, _, _, _, _, _, _, _, _, _, _, _, _, _, _, _⟩ := MC.out w' hSw; go_simp; try with_reducible rfl
                simp only [Act.put, List.getElem_toArray, List.getElem_cons_zero, List.getElem_cons_succ, List.setIfInBounds_toArray, List.set_cons_zero, List.set_cons_succ]
                refine' wpAnyH_take (i := 2) (v := _) rfl (by kernel_rfl) (by kernel_rfl) (by kernel_rfl) (fun _ _ _ h => h) (Or.inl ⟨by kernel_rfl, ?hy2⟩) (by assumption) ?_
                case hy2 => intro w' hSw; obtain ⟨_, _, _, _, _, _, _, _, _, _, _, _, _, _, _, _, _, _⟩ := MC.out w' hSw; go_simp; try with_reducible rfl
                simp only [Act.put, List.getElem_toArray, List.getElem_cons_zero, List.getElem_cons_succ, List.setIfInBounds_toArray, List.set_cons_zero, List.set_cons_succ]
                refine wpAnyH_ready (rs := [1]) (by kernel_rfl) (by simp) (AllReadyH.cons rfl (fun K hK => ?_) AllReadyH.nil)
                go_simp
                go_at_call 41
                refine (HLV.out _ KZ).mono ?_
                rintro e wl ⟨vl, rfl, hol, kl⟩
                obtain ⟨Al, cl, rfl⟩ := own_shape hol
                go_wp2_with fail
                have KL := KZ.trans kl (fun _ _ h => h.elim)
                refine hK.out _ _ (KL) (fun hHeld => ?_)
                clear hK K
                try simp only [Act.put, List.getElem_toArray, List.getElem_cons_zero, List.getElem_cons_succ, List.setIfInBounds_toArray, List.set_cons_zero, List.set_cons_succ]
                refine wpAnyH_ready (rs := [3]) (by kernel_rfl) (by simp) (AllReadyH.cons rfl (fun K hK => ?_) AllReadyH.nil)
                go_simp
                go_at_call 41
                refine (HLL.out _ KL).mono ?_
                rintro e wm ⟨vm, rfl, hom, km⟩
                obtain ⟨Am, cm, rfl⟩ := own_shape hom
                go_wp2_with fail
                have KM := KL.trans km (fun _ _ h => h.elim)
                refine hK.out _ _ (KM) (fun hHeld => ?_)
                clear hK K
                try simp only [Act.put, List.getElem_toArray, List.getElem_cons_zero, List.getElem_cons_succ, List.setIfInBounds_toArray, List.set_cons_zero, List.set_cons_succ]
                refine' wpAnyH_take (i := 4) (v := _) rfl (by kernel_rfl) (by kernel_rfl) (by kernel_rfl) (fun _ _ _ h => h) (Or.inl ⟨by kernel_rfl, ?hy4⟩) (by assumption) ?_
                case hy4 => intro w' hSw; obtain ⟨_, _, _, _, _, _, _, _, _, _, _, _, _, _, _, _, _, _⟩ := MC.out w' hSw; go_simp; try with_reducible rfl
                simp only [Act.put, List.getElem_toArray, List.getElem_cons_zero, List.getElem_cons_succ, List.setIfInBounds_toArray, List.set_cons_zero, List.set_cons_succ]
                have U9 := (HV2.out.drew.keep kl id).keep km id
                have z0 := U9.cell 0
                have z1 := U9.cell 1
                have f0 := U9.free 0
                have f1 := U9.free 1
                refine wpAnyH_ready (rs := [5]) (by kernel_rfl) (by simp) (AllReadyH.cons rfl (fun K hK => ?_) AllReadyH.nil)
                go_simp
                have UE := (U9.put 0 (.slice Al (withP c.v node).length cl)).put 1 (.slice Am (woP c.l node).length cm)
                have KE := (KM.setCell (p := ⟨w.heap.size + 1 + 1, 0, none⟩) (fun _ => rfl) (.slice Al (withP c.v node).length cl)).setCell (p := ⟨w.heap.size + 1 + 1, 1, none⟩) (fun _ => rfl) (.slice Am (woP c.l node).length cm)
                have KX := ((Keep.refl (fun i => i = w.heap.size + 1 + 1) wm).setCell (p := ⟨w.heap.size + 1 + 1, 0, none⟩) (fun _ => rfl) (.slice Al (withP c.v node).length cl)).setCell (p := ⟨w.heap.size + 1 + 1, 1, none⟩) (fun _ => rfl) (.slice Am (woP c.l node).length cm)
                refine hK.out _ _ (KE) (fun hHeld => ?_)
                clear hK K
                try simp only [Act.put, List.getElem_toArray, List.getElem_cons_zero, List.getElem_cons_succ, List.setIfInBounds_toArray, List.set_cons_zero, List.set_cons_succ]
                generalize (wm.setCell ⟨w.heap.size + 1 + 1, 0, none⟩ (.slice Al (withP c.v node).length cl)).setCell ⟨w.heap.size + 1 + 1, 1, none⟩ (.slice Am (woP c.l node).length cm) = we at *
                refine wpAnyH_ready (rs := [6]) (by kernel_rfl) (by simp) (AllReadyH.cons rfl (fun K hK => ?_) AllReadyH.nil)
                go_simp
                refine hK.out _ _ (hHeld) (fun hHeld => ?_)
                clear hK K
                try simp only [Act.put, List.getElem_toArray, List.getElem_cons_zero, List.getElem_cons_succ, List.setIfInBounds_toArray, List.set_cons_zero, List.set_cons_succ]
                refine wpAnyH_done (by kernel_rfl) ?_ _
                have r0 := UE.cell 0
                have r1 := UE.cell 1
                have HKE := Lib.hid (MK.out we KE)
                have hpl := HV2.out.lt
                have hsl := kl.size
                have hds : wf.drew.heap.size = wf.heap.size := rfl
                have hzv := (((Zs.of_own hol).keepN km).keep KX (fun i _ hi e => by omega)).any
                have hzw := ((Zs.of_own hom).keep KX (fun i _ hi e => by omega)).any
                have HCE : Hid (CfAt we (fun _ => True) (.agg #[.slice Al (withP c.v node).length cl, .slice Am (woP c.l node).length cm]) ⟨withP c.v node, woP c.l node⟩) := ⟨_, _, rfl, hzv, hzw⟩
                clear hHeld UE KE KX U9 z0 z1 f0 f1 MC MK HLV HLL hol hom kl km KL KM KZ hzv hzw
                go_wp2
                exact bodyPost_ret (v := .tuple #[.agg #[.slice Al (withP c.v node).length cl, .slice Am (woP c.l node).length cm], .int .i64 0]) (by simp [results, Try.results20, go_sem, r0, r1]) rfl ⟨_, rfl, HCE.out, HKE.out⟩
              · skip
                have t0 : wz.cell? ⟨q8, 0, none⟩ = some (.int .i64 b0) := hx8.cell 0
                have t1 : wz.cell? ⟨q8, 1, none⟩ = some (.int .i64 b1) := hx8.cell 1
                have t2 : wz.cell? ⟨q8, 2, none⟩ = some (.int .i64 b2) := hx8.cell 2
                have t3 : wz.cell? ⟨q8, 3, none⟩ = some (.int .i64 b3) := hx8.cell 3
                have t4 : wz.cell? ⟨q8, 4, none⟩ = some (.int .i64 b4) := hx8.cell 4
                have t5 : wz.cell? ⟨q8, 5, none⟩ = some (.int .i64 b5) := hx8.cell 5
                have t6 : wz.cell? ⟨q8, 6, none⟩ = some (.int .i64 b6) := hx8.cell 6
                have t7 : wz.cell? ⟨q8, 7, none⟩ = some (.int .i64 b7) := hx8.cell 7
                have t8 : wz.cell? ⟨q8, 8, none⟩ = some (.int .i64 (c.l.length : Int)) := hx8.cell 8
                go_simp
                refine hK.out _ _ (KZ) (fun hHeld => ?_)
                clear hK K
                try simp only [Act.put, List.getElem_toArray, List.getElem_cons_zero, List.getElem_cons_succ, List.setIfInBounds_toArray, List.set_cons_zero, List.set_cons_succ]
                clear t0 t1 t2 t3 t4 t5 t6 t7 t8
                refine wpAnyH_ready (rs := [3]) (by kernel_rfl) (by simp) (AllReadyH.cons rfl (fun K hK => ?_) AllReadyH.nil)
                go_simp
                go_at_call 39
                refine (HGA.out _).mono ?_
                rintro e wa ⟨ua, rfl, ⟨xb0, xb1, xb2, xb3, xb4, xb5, xb6, xb7, rfl, g8a, gta⟩, ka⟩
                go_wp2_with fail
                have KA := KZ.trans ka (fun _ _ h => h.elim)
                replace hx7 := hx7.keep ka id
                replace hx8 := hx8.keep ka id
                refine hK.out _ _ (KA) (fun hHeld => ?_)
                clear hK K
                try simp only [Act.put, List.getElem_toArray, List.getElem_cons_zero, List.getElem_cons_succ, List.setIfInBounds_toArray, List.set_cons_zero, List.set_cons_succ]
                refine wpAnyH_ready (rs := [7]) (by kernel_rfl) (by simp) (AllReadyH.cons rfl (fun K hK => ?_) AllReadyH.nil)
                go_simp
                go_at_call 40
                refine (HGB.out _).mono ?_
                rintro e wb ⟨ub, rfl, ⟨yb0, yb1, yb2, yb3, yb4, yb5, yb6, yb7, rfl, g8b, gtb⟩, kb⟩
                go_wp2_with fail
                have KB := KA.trans kb (fun _ _ h => h.elim)
                replace hx7 := hx7.keep kb id
                replace hx8 := hx8.keep kb id
                refine hK.out _ _ (KB) (fun hHeld => ?_)
                clear hK K
                try simp only [Act.put, List.getElem_toArray, List.getElem_cons_zero, List.getElem_cons_succ, List.setIfInBounds_toArray, List.set_cons_zero, List.set_cons_succ]
                have t0 : wb.cell? ⟨q7, 0, none⟩ = some (.int .i64 a0) := hx7.cell 0
                have t1 : wb.cell? ⟨q7, 1, none⟩ = some (.int .i64 a1) := hx7.cell 1
                have t2 : wb.cell? ⟨q7, 2, none⟩ = some (.int .i64 a2) := hx7.cell 2
                have t3 : wb.cell? ⟨q7, 3, none⟩ = some (.int .i64 a3) := hx7.cell 3
                have t4 : wb.cell? ⟨q7, 4, none⟩ = some (.int .i64 a4) := hx7.cell 4
                have t5 : wb.cell? ⟨q7, 5, none⟩ = some (.int .i64 a5) := hx7.cell 5
                have t6 : wb.cell? ⟨q7, 6, none⟩ = some (.int .i64 a6) := hx7.cell 6
                have t7 : wb.cell? ⟨q7, 7, none⟩ = some (.int .i64 a7) := hx7.cell 7
                have t8 : wb.cell? ⟨q7, 8, none⟩ = some (.int .i64 (c.v.length : Int)) := hx7.cell 8
                have f0 := hx7.free 0
                have f1 := hx7.free 1
                have f2 := hx7.free 2
                have f3 := hx7.free 3
                have f4 := hx7.free 4
                have f5 := hx7.free 5
                have f6 := hx7.free 6
                have f7 := hx7.free 7
                have f8 := hx7.free 8
                refine wpAnyH_ready (rs := [8]) (by kernel_rfl) (by simp) (AllReadyH.cons rfl (fun K hK => ?_) AllReadyH.nil)
                go_simp
                have KC := (keep_nine (q := q7) KB (fun _ => .inl rfl) (.int .i64 xb0) (.int .i64 xb1) (.int .i64 xb2) (.int .i64 xb3) (.int .i64 xb4) (.int .i64 xb5) (.int .i64 xb6) (.int .i64 xb7) (.int .i64 ((withP c.v node).length : Int)))
                have hy7 := (box_nine hx7 (.int .i64 xb0) (.int .i64 xb1) (.int .i64 xb2) (.int .i64 xb3) (.int .i64 xb4) (.int .i64 xb5) (.int .i64 xb6) (.int .i64 xb7) (.int .i64 ((withP c.v node).length : Int)))
                have hy8 := (far_nine (q := q7) hx8 (by omega) (.int .i64 xb0) (.int .i64 xb1) (.int .i64 xb2) (.int .i64 xb3) (.int .i64 xb4) (.int .i64 xb5) (.int .i64 xb6) (.int .i64 xb7) (.int .i64 ((withP c.v node).length : Int)))
                refine hK.out _ _ (KC) (fun hHeld => ?_)
                clear hK K
                try simp only [Act.put, List.getElem_toArray, List.getElem_cons_zero, List.getElem_cons_succ, List.setIfInBounds_toArray, List.set_cons_zero, List.set_cons_succ]
                generalize (((((((((wb.setCell ⟨q7, 0, none⟩ (.int .i64 xb0)).setCell ⟨q7, 1, none⟩ (.int .i64 xb1)).setCell ⟨q7, 2, none⟩ (.int .i64 xb2)).setCell ⟨q7, 3, none⟩ (.int .i64 xb3)).setCell ⟨q7, 4, none⟩ (.int .i64 xb4)).setCell ⟨q7, 5, none⟩ (.int .i64 xb5)).setCell ⟨q7, 6, none⟩ (.int .i64 xb6)).setCell ⟨q7, 7, none⟩ (.int .i64 xb7)).setCell ⟨q7, 8, none⟩ (.int .i64 ((withP c.v node).length : Int))) = wd at *
                clear t0 t1 t2 t3 t4 t5 t6 t7 t8 f0 f1 f2 f3 f4 f5 f6 f7 f8
                have t0 : wd.cell? ⟨q8, 0, none⟩ = some (.int .i64 b0) := hy8.cell 0
                have t1 : wd.cell? ⟨q8, 1, none⟩ = some (.int .i64 b1) := hy8.cell 1
                have t2 : wd.cell? ⟨q8, 2, none⟩ = some (.int .i64 b2) := hy8.cell 2
                have t3 : wd.cell? ⟨q8, 3, none⟩ = some (.int .i64 b3) := hy8.cell 3
                have t4 : wd.cell? ⟨q8, 4, none⟩ = some (.int .i64 b4) := hy8.cell 4
                have t5 : wd.cell? ⟨q8, 5, none⟩ = some (.int .i64 b5) := hy8.cell 5
                have t6 : wd.cell? ⟨q8, 6, none⟩ = some (.int .i64 b6) := hy8.cell 6
                have t7 : wd.cell? ⟨q8, 7, none⟩ = some (.int .i64 b7) := hy8.cell 7
                have t8 : wd.cell? ⟨q8, 8, none⟩ = some (.int .i64 (c.l.length : Int)) := hy8.cell 8
                have f0 := hy8.free 0
                have f1 := hy8.free 1
                have f2 := hy8.free 2
                have f3 := hy8.free 3
                have f4 := hy8.free 4
                have f5 := hy8.free 5
                have f6 := hy8.free 6
                have f7 := hy8.free 7
                have f8 := hy8.free 8
                refine wpAnyH_ready (rs := [9]) (by kernel_rfl) (by simp) (AllReadyH.cons rfl (fun K hK => ?_) AllReadyH.nil)
                go_simp
                have KD := (keep_nine (q := q8) KC (fun _ => .inr rfl) (.int .i64 yb0) (.int .i64 yb1) (.int .i64 yb2) (.int .i64 yb3) (.int .i64 yb4) (.int .i64 yb5) (.int .i64 yb6) (.int .i64 yb7) (.int .i64 ((woP c.l node).length : Int)))
                have hv8 := (box_nine hy8 (.int .i64 yb0) (.int .i64 yb1) (.int .i64 yb2) (.int .i64 yb3) (.int .i64 yb4) (.int .i64 yb5) (.int .i64 yb6) (.int .i64 yb7) (.int .i64 ((woP c.l node).length : Int)))
                have hv7 := (far_nine (q := q8) hy7 (by omega) (.int .i64 yb0) (.int .i64 yb1) (.int .i64 yb2) (.int .i64 yb3) (.int .i64 yb4) (.int .i64 yb5) (.int .i64 yb6) (.int .i64 yb7) (.int .i64 ((woP c.l node).length : Int)))
                refine hK.out _ _ (KD) (fun hHeld => ?_)
                clear hK K
                try simp only [Act.put, List.getElem_toArray, List.getElem_cons_zero, List.getElem_cons_succ, List.setIfInBounds_toArray, List.set_cons_zero, List.set_cons_succ]
                generalize (((((((((wd.setCell ⟨q8, 0, none⟩ (.int .i64 yb0)).setCell ⟨q8, 1, none⟩ (.int .i64 yb1)).setCell ⟨q8, 2, none⟩ (.int .i64 yb2)).setCell ⟨q8, 3, none⟩ (.int .i64 yb3)).setCell ⟨q8, 4, none⟩ (.int .i64 yb4)).setCell ⟨q8, 5, none⟩ (.int .i64 yb5)).setCell ⟨q8, 6, none⟩ (.int .i64 yb6)).setCell ⟨q8, 7, none⟩ (.int .i64 yb7)).setCell ⟨q8, 8, none⟩ (.int .i64 ((woP c.l node).length : Int))) = wf at *
                refine wpAnyH_done (by kernel_rfl) ?_ _
                have HK7 := Lib.hid (HK6.out.trans KD (fun i hi e => by omega))
                have HV2 := Lib.hid (HU2.out.keep KD (by omega))
                have HG7' : Hid (GAt wf q7 (withP c.v node)) := ⟨_, _, _, _, _, _, _, _, hv7, g8a, gta⟩
                have HG8' : Hid (GAt wf q8 (woP c.l node)) := ⟨_, _, _, _, _, _, _, _, hv8, g8b, gtb⟩
                have HV1 := Lib.hid (HU1.out.keep KD (by omega))
                clear hHeld MC HGA HGB KA KB KC KD HA7 HB8 hv7 hv8 hy7 hy8 g8a gta g8b gtb hx7 hx8 ka kb t0 t1 t2 t3 t4 t5 t6 t7 t8 f0 f1 f2 f3 f4 f5 f6 f7 f8 y0 y1 KZ
                have y0 := HV1.out.cell 0
                have y1 := HV1.out.cell 1
                go_upto_region 14 with fail
                obtain ⟨c0, c1, c2, c3, c4, c5, c6, c7, hc, hc8, hct⟩ := HG7'.out
                obtain ⟨d0, d1, d2, d3, d4, d5, d6, d7, hd, hd8, hdt⟩ := HG8'.out
                have HC7 := Lib.hid hc
                have HD8 := Lib.hid hd
                have HLV : Hid (∀ w', Keep (fun i => i = w.heap.size + 1 + 1) wf w' → Calls Try.prog 41 #[.agg #[.int .i64 c0, .int .i64 c1, .int .i64 c2, .int .i64 c3, .int .i64 c4, .int .i64 c5, .int .i64 c6, .int .i64 c7, .int .i64 ((withP c.v node).length : Int)]] w' (ToldZ (withP c.v node) w')) := fun w' _ => glist_any w' _ _ ⟨c0, c1, c2, c3, c4, c5, c6, c7, rfl, hc8, hct⟩
                have HLL : Hid (∀ w', Keep (fun i => i = w.heap.size + 1 + 1) wf w' → Calls Try.prog 41 #[.agg #[.int .i64 d0, .int .i64 d1, .int .i64 d2, .int .i64 d3, .int .i64 d4, .int .i64 d5, .int .i64 d6, .int .i64 d7, .int .i64 ((woP c.l node).length : Int)]] w' (ToldZ (woP c.l node) w')) := fun w' _ => glist_any w' _ _ ⟨d0, d1, d2, d3, d4, d5, d6, d7, rfl, hd8, hdt⟩
                have MC : Hid (∀ w', Keep (fun i => i = w.heap.size + 1 + 1) wf w' → w'.cell? ⟨q7, 0, none⟩ = some (.int .i64 c0) ∧ w'.cell? ⟨q7, 1, none⟩ = some (.int .i64 c1) ∧ w'.cell? ⟨q7, 2, none⟩ = some (.int .i64 c2) ∧ w'.cell? ⟨q7, 3, none⟩ = some (.int .i64 c3) ∧ w'.cell? ⟨q7, 4, none⟩ = some (.int .i64 c4) ∧ w'.cell? ⟨q7, 5, none⟩ = some (.int .i64 c5) ∧ w'.cell? ⟨q7, 6, none⟩ = some (.int .i64 c6) ∧ w'.cell? ⟨q7, 7, none⟩ = some (.int .i64 c7) ∧ w'.cell? ⟨q7, 8, none⟩ = some (.int .i64 ((withP c.v node).length : Int)) ∧ w'.cell? ⟨q8, 0, none⟩ = some (.int .i64 d0) ∧ w'.cell? ⟨q8, 1, none⟩ = some (.int .i64 d1) ∧ w'.cell? ⟨q8, 2, none⟩ = some (.int .i64 d2) ∧ w'.cell? ⟨q8, 3, none⟩ = some (.int .i64 d3) ∧ w'.cell? ⟨q8, 4, none⟩ = some (.int .i64 d4) ∧ w'.cell? ⟨q8, 5, none⟩ = some (.int .i64 d5) ∧ w'.cell? ⟨q8, 6, none⟩ = some (.int .i64 d6) ∧ w'.cell? ⟨q8, 7, none⟩ = some (.int .i64 d7) ∧ w'.cell? ⟨q8, 8, none⟩ = some (.int .i64 ((woP c.l node).length : Int))) := fun w' k => by
                  have e7 := HC7.out.keep k (by omega)
                  have e8 := HD8.out.keep k (by omega)
                  exact ⟨e7.cell 0, e7.cell 1, e7.cell 2, e7.cell 3, e7.cell 4, e7.cell 5, e7.cell 6, e7.cell 7, e7.cell 8, e8.cell 0, e8.cell 1, e8.cell 2, e8.cell 3, e8.cell 4, e8.cell 5, e8.cell 6, e8.cell 7, e8.cell 8⟩
                have MK : Hid (∀ w', Keep (fun i => i = w.heap.size + 1 + 1) wf w' → Keep noneOf w w') := fun w' k => HK7.out.trans k (fun i hi e => by omega)
                have KZ := (Keep.refl (fun i => i = w.heap.size + 1 + 1) wf).drew
                clear hc hd y0 y1
                go_wp2
                refine wp_region_held_drew (S := fun w' => Keep (fun i => i = w.heap.size + 1 + 1) wf w') (by kernel_rfl) (KZ) (fun hHeld => ?_)
                refine' wpAnyH_take (i := 0) (v := _) rfl (by kernel_rfl) (by kernel_rfl) (by kernel_rfl) (fun _ _ _ h => h) (Or.inl ⟨by kernel_rfl, ?hy0⟩) (by assumption) ?_
                case hy0 => intro w' hSw; obtain ⟨_, _, _, _, _, _, _, _, _, _, _, _, _, _, _, _, _, _⟩ := MC.out w' hSw; go_simp; try with_reducible rfl
                simp only [Act.put, List.getElem_toArray, List.getElem_cons_zero, List.getElem_cons_succ, List.setIfInBounds_toArray, List.set_cons_zero, List.set_cons_succ]
                refine' wpAnyH_take (i := 2) (v := _) rfl (by kernel_rfl) (by kernel_rfl) (by kernel_rfl) (fun _ _ _ h => h) (Or.inl ⟨by kernel_rfl, ?hy2⟩) (by assumption) ?_
                case hy2 => intro w' hSw; obtain ⟨_, _, _, _, _, _, _, _, _, _, _, _, _, _, _, _, _, _⟩ := MC.out w' hSw; go_simp; try with_reducible rfl
                simp only [Act.put, List.getElem_toArray, List.getElem_cons_zero, List.getElem_cons_succ, List.setIfInBounds_toArray, List.set_cons_zero, List.set_cons_succ]
                refine wpAnyH_ready (rs := [1]) (by kernel_rfl) (by simp) (AllReadyH.cons rfl (fun K hK => ?_) AllReadyH.nil)
                go_simp
                go_at_call 41
                refine (HLV.out _ KZ).mono ?_
                rintro e wl ⟨vl, rfl, hol, kl⟩
                obtain ⟨Al, cl, rfl⟩ := own_shape hol
                go_wp2_with fail
                have KL := KZ.trans kl (fun _ _ h => h.elim)
                refine hK.out _ _ (KL) (fun hHeld => ?_)
                clear hK K
                try simp only [Act.put, List.getElem_toArray, List.getElem_cons_zero, List.getElem_cons_succ, List.setIfInBounds_toArray, List.set_cons_zero, List.set_cons_succ]
                refine wpAnyH_ready (rs := [3]) (by kernel_rfl) (by simp) (AllReadyH.cons rfl (fun K hK => ?_) AllReadyH.nil)
                go_simp
                go_at_call 41
                refine (HLL.out _ KL).mono ?_
                rintro e wm ⟨vm, rfl, hom, km⟩
                obtain ⟨Am, cm, rfl⟩ := own_shape hom
                go_wp2_with fail
                have KM := KL.trans km (fun _ _ h => h.elim)
                refine hK.out _ _ (KM) (fun hHeld => ?_)
                clear hK K
                try simp only [Act.put, List.getElem_toArray, List.getElem_cons_zero, List.getElem_cons_succ, List.setIfInBounds_toArray, List.set_cons_zero, List.set_cons_succ]
                refine' wpAnyH_take (i := 4) (v := _) rfl (by kernel_rfl) (by kernel_rfl) (by kernel_rfl) (fun _ _ _ h => h) (Or.inl ⟨by kernel_rfl, ?hy4⟩) (by assumption) ?_
                case hy4 => intro w' hSw; obtain ⟨_, _, _, _, _, _, _, _, _, _, _, _, _, _, _, _, _, _⟩ := MC.out w' hSw; go_simp; try with_reducible rfl
                simp only [Act.put, List.getElem_toArray, List.getElem_cons_zero, List.getElem_cons_succ, List.setIfInBounds_toArray, List.set_cons_zero, List.set_cons_succ]
                have U9 := (HV2.out.drew.keep kl id).keep km id
                have z0 := U9.cell 0
                have z1 := U9.cell 1
                have f0 := U9.free 0
                have f1 := U9.free 1
                refine wpAnyH_ready (rs := [5]) (by kernel_rfl) (by simp) (AllReadyH.cons rfl (fun K hK => ?_) AllReadyH.nil)
                go_simp
                have UE := (U9.put 0 (.slice Al (withP c.v node).length cl)).put 1 (.slice Am (woP c.l node).length cm)
                have KE := (KM.setCell (p := ⟨w.heap.size + 1 + 1, 0, none⟩) (fun _ => rfl) (.slice Al (withP c.v node).length cl)).setCell (p := ⟨w.heap.size + 1 + 1, 1, none⟩) (fun _ => rfl) (.slice Am (woP c.l node).length cm)
                have KX := ((Keep.refl (fun i => i = w.heap.size + 1 + 1) wm).setCell (p := ⟨w.heap.size + 1 + 1, 0, none⟩) (fun _ => rfl) (.slice Al (withP c.v node).length cl)).setCell (p := ⟨w.heap.size + 1 + 1, 1, none⟩) (fun _ => rfl) (.slice Am (woP c.l node).length cm)
                refine hK.out _ _ (KE) (fun hHeld => ?_)
                clear hK K
                try simp only [Act.put, List.getElem_toArray, List.getElem_cons_zero, List.getElem_cons_succ, List.setIfInBounds_toArray, List.set_cons_zero, List.set_cons_succ]
                generalize (wm.setCell ⟨w.heap.size + 1 + 1, 0, none⟩ (.slice Al (withP c.v node).length cl)).setCell ⟨w.heap.size + 1 + 1, 1, none⟩ (.slice Am (woP c.l node).length cm) = we at *
                refine wpAnyH_ready (rs := [6]) (by kernel_rfl) (by simp) (AllReadyH.cons rfl (fun K hK => ?_) AllReadyH.nil)
                go_simp
                refine hK.out _ _ (hHeld) (fun hHeld => ?_)
                clear hK K
                try simp only [Act.put, List.getElem_toArray, List.getElem_cons_zero, List.getElem_cons_succ, List.setIfInBounds_toArray, List.set_cons_zero, List.set_cons_succ]
                refine wpAnyH_done (by kernel_rfl) ?_ _
                have r0 := UE.cell 0
                have r1 := UE.cell 1
                have HKE := Lib.hid (MK.out we KE)
                have hpl := HV2.out.lt
                have hsl := kl.size
                have hds : wf.drew.heap.size = wf.heap.size := rfl
                have hzv := (((Zs.of_own hol).keepN km).keep KX (fun i _ hi e => by omega)).any
                have hzw := ((Zs.of_own hom).keep KX (fun i _ hi e => by omega)).any
                have HCE : Hid (CfAt we (fun _ => True) (.agg #[.slice Al (withP c.v node).length cl, .slice Am (woP c.l node).length cm]) ⟨withP c.v node, woP c.l node⟩) := ⟨_, _, rfl, hzv, hzw⟩
                clear hHeld UE KE KX U9 z0 z1 f0 f1 MC MK HLV HLL hol hom kl km KL KM KZ hzv hzw
                go_wp2
                exact bodyPost_ret (v := .tuple #[.agg #[.slice Al (withP c.v node).length cl, .slice Am (woP c.l node).length cm], .int .i64 0]) (by simp [results, Try.results20, go_sem, r0, r1]) rfl ⟨_, rfl, HCE.out, HKE.out⟩
            · skip
              have t0 : wz.cell? ⟨q8, 0, none⟩ = some (.int .i64 b0) := hx8.cell 0
              have t1 : wz.cell? ⟨q8, 1, none⟩ = some (.int .i64 b1) := hx8.cell 1
              have t2 : wz.cell? ⟨q8, 2, none⟩ = some (.int .i64 b2) := hx8.cell 2
              have t3 : wz.cell? ⟨q8, 3, none⟩ = some (.int .i64 b3) := hx8.cell 3
              have t4 : wz.cell? ⟨q8, 4, none⟩ = some (.int .i64 b4) := hx8.cell 4
              have t5 : wz.cell? ⟨q8, 5, none⟩ = some (.int .i64 b5) := hx8.cell 5
              have t6 : wz.cell? ⟨q8, 6, none⟩ = some (.int .i64 b6) := hx8.cell 6
              have t7 : wz.cell? ⟨q8, 7, none⟩ = some (.int .i64 b7) := hx8.cell 7
              have t8 : wz.cell? ⟨q8, 8, none⟩ = some (.int .i64 (c.l.length : Int)) := hx8.cell 8
              go_simp
              refine hK.out _ _ (KZ) (fun hHeld => ?_)
              clear hK K
              try simp only [Act.put, List.getElem_toArray, List.getElem_cons_zero, List.getElem_cons_succ, List.setIfInBounds_toArray, List.set_cons_zero, List.set_cons_succ]
              clear t0 t1 t2 t3 t4 t5 t6 t7 t8
              refine wpAnyH_ready (rs := [0]) (by kernel_rfl) (by simp) (AllReadyH.cons rfl (fun K hK => ?_) AllReadyH.nil)
              have t0 : wz.cell? ⟨q7, 0, none⟩ = some (.int .i64 a0) := hx7.cell 0
              have t1 : wz.cell? ⟨q7, 1, none⟩ = some (.int .i64 a1) := hx7.cell 1
              have t2 : wz.cell? ⟨q7, 2, none⟩ = some (.int .i64 a2) := hx7.cell 2
              have t3 : wz.cell? ⟨q7, 3, none⟩ = some (.int .i64 a3) := hx7.cell 3
              have t4 : wz.cell? ⟨q7, 4, none⟩ = some (.int .i64 a4) := hx7.cell 4
              have t5 : wz.cell? ⟨q7, 5, none⟩ = some (.int .i64 a5) := hx7.cell 5
              have t6 : wz.cell? ⟨q7, 6, none⟩ = some (.int .i64 a6) := hx7.cell 6
              have t7 : wz.cell? ⟨q7, 7, none⟩ = some (.int .i64 a7) := hx7.cell 7
              have t8 : wz.cell? ⟨q7, 8, none⟩ = some (.int .i64 (c.v.length : Int)) := hx7.cell 8
              go_simp
              refine hK.out _ _ (KZ) (fun hHeld => ?_)
              clear hK K
              try simp only [Act.put, List.getElem_toArray, List.getElem_cons_zero, List.getElem_cons_succ, List.setIfInBounds_toArray, List.set_cons_zero, List.set_cons_succ]
              clear t0 t1 t2 t3 t4 t5 t6 t7 t8
              refine wpAnyH_ready (rs := [3]) (by kernel_rfl) (by simp) (AllReadyH.cons rfl (fun K hK => ?_) AllReadyH.nil)
              go_simp
              go_at_call 39
              refine (HGA.out _).mono ?_
              rintro e wa ⟨ua, rfl, ⟨xb0, xb1, xb2, xb3, xb4, xb5, xb6, xb7, rfl, g8a, gta⟩, ka⟩
              go_wp2_with fail
              have KA := KZ.trans ka (fun _ _ h => h.elim)
              replace hx7 := hx7.keep ka id
              replace hx8 := hx8.keep ka id
              refine hK.out _ _ (KA) (fun hHeld => ?_)
              clear hK K
              try simp only [Act.put, List.getElem_toArray, List.getElem_cons_zero, List.getElem_cons_succ, List.setIfInBounds_toArray, List.set_cons_zero, List.set_cons_succ]
              refine wpAnyH_ready (rs := [7]) (by kernel_rfl) (by simp) (AllReadyH.cons rfl (fun K hK => ?_) AllReadyH.nil)
              go_simp
              go_at_call 40
              refine (HGB.out _).mono ?_
              rintro e wb ⟨ub, rfl, ⟨yb0, yb1, yb2, yb3, yb4, yb5, yb6, yb7, rfl, g8b, gtb⟩, kb⟩
              go_wp2_with fail
              have KB := KA.trans kb (fun _ _ h => h.elim)
              replace hx7 := hx7.keep kb id
              replace hx8 := hx8.keep kb id
              refine hK.out _ _ (KB) (fun hHeld => ?_)
              clear hK K
              try simp only [Act.put, List.getElem_toArray, List.getElem_cons_zero, List.getElem_cons_succ, List.setIfInBounds_toArray, List.set_cons_zero, List.set_cons_succ]
              have t0 : wb.cell? ⟨q7, 0, none⟩ = some (.int .i64 a0) := hx7.cell 0
              have t1 : wb.cell? ⟨q7, 1, none⟩ = some (.int .i64 a1) := hx7.cell 1
              have t2 : wb.cell? ⟨q7, 2, none⟩ = some (.int .i64 a2) := hx7.cell 2
              have t3 : wb.cell? ⟨q7, 3, none⟩ = some (.int .i64 a3) := hx7.cell 3
              have t4 : wb.cell? ⟨q7, 4, none⟩ = some (.int .i64 a4) := hx7.cell 4
              have t5 : wb.cell? ⟨q7, 5, none⟩ = some (.int .i64 a5) := hx7.cell 5
              have t6 : wb.cell? ⟨q7, 6, none⟩ = some (.int .i64 a6) := hx7.cell 6
              have t7 : wb.cell? ⟨q7, 7, none⟩ = some (.int .i64 a7) := hx7.cell 7
              have t8 : wb.cell? ⟨q7, 8, none⟩ = some (.int .i64 (c.v.length : Int)) := hx7.cell 8
              have f0 := hx7.free 0
              have f1 := hx7.free 1
              have f2 := hx7.free 2
              have f3 := hx7.free 3
              have f4 := hx7.free 4
              have f5 := hx7.free 5
              have f6 := hx7.free 6
              have f7 := hx7.free 7
              have f8 := hx7.free 8
              refine wpAnyH_ready (rs := [8]) (by kernel_rfl) (by simp) (AllReadyH.cons rfl (fun K hK => ?_) AllReadyH.nil)
              go_simp
              have KC := (keep_nine (q := q7) KB (fun _ => .inl rfl) (.int .i64 xb0) (.int .i64 xb1) (.int .i64 xb2) (.int .i64 xb3) (.int .i64 xb4) (.int .i64 xb5) (.int .i64 xb6) (.int .i64 xb7) (.int .i64 ((withP c.v node).length : Int)))
              have hy7 := (box_nine hx7 (.int .i64 xb0) (.int .i64 xb1) (.int .i64 xb2) (.int .i64 xb3) (.int .i64 xb4) (.int .i64 xb5) (.int .i64 xb6) (.int .i64 xb7) (.int .i64 ((withP c.v node).length : Int)))
              have hy8 := (far_nine (q := q7) hx8 (by omega) (.int .i64 xb0) (.int .i64 xb1) (.int .i64 xb2) (.int .i64 xb3) (.int .i64 xb4) (.int .i64 xb5) (.int .i64 xb6) (.int .i64 xb7) (.int .i64 ((withP c.v node).length : Int)))
              refine hK.out _ _ (KC) (fun hHeld => ?_)
              clear hK K
              try simp only [Act.put, List.getElem_toArray, List.getElem_cons_zero, List.getElem_cons_succ, List.setIfInBounds_toArray, List.set_cons_zero, List.set_cons_succ]
              generalize (((((((((wb.setCell ⟨q7, 0, none⟩ (.int .i64 xb0)).setCell ⟨q7, 1, none⟩ (.int .i64 xb1)).setCell ⟨q7, 2, none⟩ (.int .i64 xb2)).setCell ⟨q7, 3, none⟩ (.int .i64 xb3)).setCell ⟨q7, 4, none⟩ (.int .i64 xb4)).setCell ⟨q7, 5, none⟩ (.int .i64 xb5)).setCell ⟨q7, 6, none⟩ (.int .i64 xb6)).setCell ⟨q7, 7, none⟩ (.int .i64 xb7)).setCell ⟨q7, 8, none⟩ (.int .i64 ((withP c.v node).length : Int))) = wd at *
              clear t0 t1 t2 t3 t4 t5 t6 t7 t8 f0 f1 f2 f3 f4 f5 f6 f7 f8
              have t0 : wd.cell? ⟨q8, 0, none⟩ = some (.int .i64 b0) := hy8.cell 0
              have t1 : wd.cell? ⟨q8, 1, none⟩ = some (.int .i64 b1) := hy8.cell 1
              have t2 : wd.cell? ⟨q8, 2, none⟩ = some (.int .i64 b2) := hy8.cell 2
              have t3 : wd.cell? ⟨q8, 3, none⟩ = some (.int .i64 b3) := hy8.cell 3
              have t4 : wd.cell? ⟨q8, 4, none⟩ = some (.int .i64 b4) := hy8.cell 4
              have t5 : wd.cell? ⟨q8, 5, none⟩ = some (.int .i64 b5) := hy8.cell 5
              have t6 : wd.cell? ⟨q8, 6, none⟩ = some (.int .i64 b6) := hy8.cell 6
              have t7 : wd.cell? ⟨q8, 7, none⟩ = some (.int .i64 b7) := hy8.cell 7
              have t8 : wd.cell? ⟨q8, 8, none⟩ = some (.int .i64 (c.l.length : Int)) := hy8.cell 8
              have f0 := hy8.free 0
              have f1 := hy8.free 1
              have f2 := hy8.free 2
              have f3 := hy8.free 3
              have f4 := hy8.free 4
              have f5 := hy8.free 5
              have f6 := hy8.free 6
              have f7 := hy8.free 7
              have f8 := hy8.free 8
              refine wpAnyH_ready (rs := [9]) (by kernel_rfl) (by simp) (AllReadyH.cons rfl (fun K hK => ?_) AllReadyH.nil)
              go_simp
              have KD := (keep_nine (q := q8) KC (fun _ => .inr rfl) (.int .i64 yb0) (.int .i64 yb1) (.int .i64 yb2) (.int .i64 yb3) (.int .i64 yb4) (.int .i64 yb5) (.int .i64 yb6) (.int .i64 yb7) (.int .i64 ((woP c.l node).length : Int)))
              have hv8 := (box_nine hy8 (.int .i64 yb0) (.int .i64 yb1) (.int .i64 yb2) (.int .i64 yb3) (.int .i64 yb4) (.int .i64 yb5) (.int .i64 yb6) (.int .i64 yb7) (.int .i64 ((woP c.l node).length : Int)))
              have hv7 := (far_nine (q := q8) hy7 (by omega) (.int .i64 yb0) (.int .i64 yb1) (.int .i64 yb2) (.int .i64 yb3) (.int .i64 yb4) (.int .i64 yb5) (.int .i64 yb6) (.int .i64 yb7) (.int .i64 ((woP c.l node).length : Int)))
              refine hK.out _ _ (KD) (fun hHeld => ?_)
              clear hK K
              try simp only [Act.put, List.getElem_toArray, List.getElem_cons_zero, List.getElem_cons_succ, List.setIfInBounds_toArray, List.set_cons_zero, List.set_cons_succ]
              generalize (((((((((wd.setCell ⟨q8, 0, none⟩ (.int .i64 yb0)).setCell ⟨q8, 1, none⟩ (.int .i64 yb1)).setCell ⟨q8, 2, none⟩ (.int .i64 yb2)).setCell ⟨q8, 3, none⟩ (.int .i64 yb3)).setCell ⟨q8, 4, none⟩ (.int .i64 yb4)).setCell ⟨q8, 5, none⟩ (.int .i64 yb5)).setCell ⟨q8, 6, none⟩ (.int .i64 yb6)).setCell ⟨q8, 7, none⟩ (.int .i64 yb7)).setCell ⟨q8, 8, none⟩ (.int .i64 ((woP c.l node).length : Int))) = wf at *
              refine wpAnyH_done (by kernel_rfl) ?_ _
              have HK7 := Lib.hid (HK6.out.trans KD (fun i hi e => by omega))
              have HV2 := Lib.hid (HU2.out.keep KD (by omega))
              have HG7' : Hid (GAt wf q7 (withP c.v node)) := ⟨_, _, _, _, _, _, _, _, hv7, g8a, gta⟩
              have HG8' : Hid (GAt wf q8 (woP c.l node)) := ⟨_, _, _, _, _, _, _, _, hv8, g8b, gtb⟩
              have HV1 := Lib.hid (HU1.out.keep KD (by omega))
              clear hHeld MC HGA HGB KA KB KC KD HA7 HB8 hv7 hv8 hy7 hy8 g8a gta g8b gtb hx7 hx8 ka kb t0 t1 t2 t3 t4 t5 t6 t7 t8 f0 f1 f2 f3 f4 f5 f6 f7 f8 y0 y1 KZ
              have y0 := HV1.out.cell 0
              have y1 := HV1.out.cell 1
              go_upto_region 14 with fail
              obtain ⟨c0, c1, c2, c3, c4, c5, c6, c7, hc, hc8, hct⟩ := HG7'.out
              obtain ⟨d0, d1, d2, d3, d4, d5, d6, d7, hd, hd8, hdt⟩ := HG8'.out
              have HC7 := Lib.hid hc
              have HD8 := Lib.hid hd
              have HLV : Hid (∀ w', Keep (fun i => i = w.heap.size + 1 + 1) wf w' → Calls Try.prog 41 #[.agg #[.int .i64 c0, .int .i64 c1, .int .i64 c2, .int .i64 c3, .int .i64 c4, .int .i64 c5, .int .i64 c6, .int .i64 c7, .int .i64 ((withP c.v node).length : Int)]] w' (ToldZ (withP c.v node) w')) := fun w' _ => glist_any w' _ _ ⟨c0, c1, c2, c3, c4, c5, c6, c7, rfl, hc8, hct⟩
              have HLL : Hid (∀ w', Keep (fun i => i = w.heap.size + 1 + 1) wf w' → Calls Try.prog 41 #[.agg #[.int .i64 d0, .int .i64 d1, .int .i64 d2, .int .i64 d3, .int .i64 d4, .int .i64 d5, .int .i64 d6, .int .i64 d7, .int .i64 ((woP c.l node).length : Int)]] w' (ToldZ (woP c.l node) w')) := fun w' _ => glist_any w' _ _ ⟨d0, d1, d2, d3, d4, d5, d6, d7, rfl, hd8, hdt⟩
              have MC : Hid (∀ w', Keep (fun i => i = w.heap.size + 1 + 1) wf w' → w'.cell? ⟨q7, 0, none⟩ = some (.int .i64 c0) ∧ w'.cell? ⟨q7, 1, none⟩ = some (.int .i64 c1) ∧ w'.cell? ⟨q7, 2, none⟩ = some (.int .i64 c2) ∧ w'.cell? ⟨q7, 3, none⟩ = some (.int .i64 c3) ∧ w'.cell? ⟨q7, 4, none⟩ = some (.int .i64 c4) ∧ w'.cell? ⟨q7, 5, none⟩ = some (.int .i64 c5) ∧ w'.cell? ⟨q7, 6, none⟩ = some (.int .i64 c6) ∧ w'.cell? ⟨q7, 7, none⟩ = some (.int .i64 c7) ∧ w'.cell? ⟨q7, 8, none⟩ = some (.int .i64 ((withP c.v node).length : Int)) ∧ w'.cell? ⟨q8, 0, none⟩ = some (.int .i64 d0) ∧ w'.cell? ⟨q8, 1, none⟩ = some (.int .i64 d1) ∧ w'.cell? ⟨q8, 2, none⟩ = some (.int .i64 d2) ∧ w'.cell? ⟨q8, 3, none⟩ = some (.int .i64 d3) ∧ w'.cell? ⟨q8, 4, none⟩ = some (.int .i64 d4) ∧ w'.cell? ⟨q8, 5, none⟩ = some (.int .i64 d5) ∧ w'.cell? ⟨q8, 6, none⟩ = some (.int .i64 d6) ∧ w'.cell? ⟨q8, 7, none⟩ = some (.int .i64 d7) ∧ w'.cell? ⟨q8, 8, none⟩ = some (.int .i64 ((woP c.l node).length : Int))) := fun w' k => by
                have e7 := HC7.out.keep k (by omega)
                have e8 := HD8.out.keep k (by omega)
                exact ⟨e7.cell 0, e7.cell 1, e7.cell 2, e7.cell 3, e7.cell 4, e7.cell 5, e7.cell 6, e7.cell 7, e7.cell 8, e8.cell 0, e8.cell 1, e8.cell 2, e8.cell 3, e8.cell 4, e8.cell 5, e8.cell 6, e8.cell 7, e8.cell 8⟩
              have MK : Hid (∀ w', Keep (fun i => i = w.heap.size + 1 + 1) wf w' → Keep noneOf w w') := fun w' k => HK7.out.trans k (fun i hi e => by omega)
              have KZ := (Keep.refl (fun i => i = w.heap.size + 1 + 1) wf).drew
              clear hc hd y0 y1
              go_wp2
              refine wp_region_held_drew (S := fun w' => Keep (fun i => i = w.heap.size + 1 + 1) wf w') (by kernel_rfl) (KZ) (fun hHeld => ?_)
              refine' wpAnyH_take (i := 0) (v := _) rfl (by kernel_rfl) (by kernel_rfl) (by kernel_rfl) (fun _ _ _ h => h) (Or.inl ⟨by kernel_rfl, ?hy0⟩) (by assumption) ?_
              case hy0 => intro w' hSw; obtain ⟨_, _, _, _, _, _, _, _, _, _, _, _, _, _, _, _, _, _⟩ := MC.out w' hSw; go_simp; try with_reducible rfl
              simp only [Act.put, List.getElem_toArray, List.getElem_cons_zero, List.getElem_cons_succ, List.setIfInBounds_toArray, List.set_cons_zero, List.set_cons_succ]
              refine' wpAnyH_take (i := 2) (v := _) rfl (by kernel_rfl) (by kernel_rfl) (by kernel_rfl) (fun _ _ _ h => h) (Or.inl ⟨by kernel_rfl, ?hy2⟩) (by assumption) ?_
              case hy2 => intro w' hSw; obtain ⟨_, _, _, _, _, _, _, _, _, _, _, _, _, _, _, _, _, _⟩ := MC.out w' hSw; go_simp; try with_reducible rfl
              simp only [Act.put, List.getElem_toArray, List.getElem_cons_zero, List.getElem_cons_succ, List.setIfInBounds_toArray, List.set_cons_zero, List.set_cons_succ]
              refine wpAnyH_ready (rs := [1]) (by kernel_rfl) (by simp) (AllReadyH.cons rfl (fun K hK => ?_) AllReadyH.nil)
              go_simp
              go_at_call 41
              refine (HLV.out _ KZ).mono ?_
              rintro e wl ⟨vl, rfl, hol, kl⟩
              obtain ⟨Al, cl, rfl⟩ := own_shape hol
              go_wp2_with fail
              have KL := KZ.trans kl (fun _ _ h => h.elim)
              refine hK.out _ _ (KL) (fun hHeld => ?_)
              clear hK K
              try simp only [Act.put, List.getElem_toArray, List.getElem_cons_zero, List.getElem_cons_succ, List.setIfInBounds_toArray, List.set_cons_zero, List.set_cons_succ]
              refine wpAnyH_ready (rs := [3]) (by kernel_rfl) (by simp) (AllReadyH.cons rfl (fun K hK => ?_) AllReadyH.nil)
              go_simp
              go_at_call 41
              refine (HLL.out _ KL).mono ?_
              rintro e wm ⟨vm, rfl, hom, km⟩
              obtain ⟨Am, cm, rfl⟩ := own_shape hom
              go_wp2_with fail
              have KM := KL.trans km (fun _ _ h => h.elim)
              refine hK.out _ _ (KM) (fun hHeld => ?_)
              clear hK K
              try simp only [Act.put, List.getElem_toArray, List.getElem_cons_zero, List.getElem_cons_succ, List.setIfInBounds_toArray, List.set_cons_zero, List.set_cons_succ]
              refine' wpAnyH_take (i := 4) (v := _) rfl (by kernel_rfl) (by kernel_rfl) (by kernel_rfl) (fun _ _ _ h => h) (Or.inl ⟨by kernel_rfl, ?hy4⟩) (by assumption) ?_
              case hy4 => intro w' hSw; obtain ⟨_, _, _, _, _, _, _, _, _, _, _, _, _, _, _, _, _, _⟩ := MC.out w' hSw; go_simp; try with_reducible rfl
              simp only [Act.put, List.getElem_toArray, List.getElem_cons_zero, List.getElem_cons_succ, List.setIfInBounds_toArray, List.set_cons_zero, List.set_cons_succ]
              have U9 := (HV2.out.drew.keep kl id).keep km id
              have z0 := U9.cell 0
              have z1 := U9.cell 1
              have f0 := U9.free 0
              have f1 := U9.free 1
              refine wpAnyH_ready (rs := [5]) (by kernel_rfl) (by simp) (AllReadyH.cons rfl (fun K hK => ?_) AllReadyH.nil)
              go_simp
              have UE := (U9.put 0 (.slice Al (withP c.v node).length cl)).put 1 (.slice Am (woP c.l node).length cm)
              have KE := (KM.setCell (p := ⟨w.heap.size + 1 + 1, 0, none⟩) (fun _ => rfl) (.slice Al (withP c.v node).length cl)).setCell (p := ⟨w.heap.size + 1 + 1, 1, none⟩) (fun _ => rfl) (.slice Am (woP c.l node).length cm)
              have KX := ((Keep.refl (fun i => i = w.heap.size + 1 + 1) wm).setCell (p := ⟨w.heap.size + 1 + 1, 0, none⟩) (fun _ => rfl) (.slice Al (withP c.v node).length cl)).setCell (p := ⟨w.heap.size + 1 + 1, 1, none⟩) (fun _ => rfl) (.slice Am (woP c.l node).length cm)
              refine hK.out _ _ (KE) (fun hHeld => ?_)
              clear hK K
              try simp only [Act.put, List.getElem_toArray, List.getElem_cons_zero, List.getElem_cons_succ, List.setIfInBounds_toArray, List.set_cons_zero, List.set_cons_succ]
              generalize (wm.setCell ⟨w.heap.size + 1 + 1, 0, none⟩ (.slice Al (withP c.v node).length cl)).setCell ⟨w.heap.size + 1 + 1, 1, none⟩ (.slice Am (woP c.l node).length cm) = we at *
              refine wpAnyH_ready (rs := [6]) (by kernel_rfl) (by simp) (AllReadyH.cons rfl (fun K hK => ?_) AllReadyH.nil)
              go_simp
              refine hK.out _ _ (hHeld) (fun hHeld => ?_)
              clear hK K
              try simp only [Act.put, List.getElem_toArray, List.getElem_cons_zero, List.getElem_cons_succ, List.setIfInBounds_toArray, List.set_cons_zero, List.set_cons_succ]
              refine wpAnyH_done (by kernel_rfl) ?_ _
              have r0 := UE.cell 0
              have r1 := UE.cell 1
              have HKE := Lib.hid (MK.out we KE)
              have hpl := HV2.out.lt
              have hsl := kl.size
              have hds : wf.drew.heap.size = wf.heap.size := rfl
              have hzv := (((Zs.of_own hol).keepN km).keep KX (fun i _ hi e => by omega)).any
              have hzw := ((Zs.of_own hom).keep KX (fun i _ hi e => by omega)).any
              have HCE : Hid (CfAt we (fun _ => True) (.agg #[.slice Al (withP c.v node).length cl, .slice Am (woP c.l node).length cm]) ⟨withP c.v node, woP c.l node⟩) := ⟨_, _, rfl, hzv, hzw⟩
              clear hHeld UE KE KX U9 z0 z1 f0 f1 MC MK HLV HLL hol hom kl km KL KM KZ hzv hzw
              go_wp2
              exact bodyPost_ret (v := .tuple #[.agg #[.slice Al (withP c.v node).length cl, .slice Am (woP c.l node).length cm], .int .i64 0]) (by simp [results, Try.results20, go_sem, r0, r1]) rfl ⟨_, rfl, HCE.out, HKE.out⟩
        · subst hr
          obtain ⟨a0, a1, a2, a3, a4, a5, a6, a7, ha7, _, hta⟩ := HG7.out
          obtain ⟨b0, b1, b2, b3, b4, b5, b6, b7, hb8, _, htb⟩ := HG8.out
          have HGA : Hid (∀ w', Calls Try.prog 40 #[.agg #[.int .i64 a0, .int .i64 a1, .int .i64 a2, .int .i64 a3, .int .i64 a4, .int .i64 a5, .int .i64 a6, .int .i64 a7, .int .i64 (c.v.length : Int)], .int .i64 node] w' fun e w'' => ∃ u, e = .returned u ∧ GroupV u (woP c.v node) ∧ Keep noneOf w' w'') := fun w' => gwithout_any w' _ c.v node ⟨a0, a1, a2, a3, a4, a5, a6, a7, rfl, h8v, hta⟩
          have HGB : Hid (∀ w', Calls Try.prog 40 #[.agg #[.int .i64 b0, .int .i64 b1, .int .i64 b2, .int .i64 b3, .int .i64 b4, .int .i64 b5, .int .i64 b6, .int .i64 b7, .int .i64 (c.l.length : Int)], .int .i64 node] w' fun e w'' => ∃ u, e = .returned u ∧ GroupV u (woP c.l node) ∧ Keep noneOf w' w'') := fun w' => gwithout_any w' _ c.l node ⟨b0, b1, b2, b3, b4, b5, b6, b7, rfl, h8l, htb⟩
          have HA7 := Lib.hid ha7
          have HB8 := Lib.hid hb8
          have KZ := (Keep.refl (fun i => i = q7 ∨ i = q8) wc).drew
          have MC : Hid (∀ w', Keep (fun i => i = q7 ∨ i = q8) wc w' → w'.cell? ⟨w.heap.size + 1, 0, none⟩ = some (.int .i64 3) ∧ w'.cell? ⟨w.heap.size + 1, 1, none⟩ = some (.int .i64 node)) := fun w' k => by
            have e7 := HU1.out.keep k (by omega)
            exact ⟨e7.cell 0, e7.cell 1⟩
          clear ha7 hb8
          go_wp2
          · skip
            refine wp_region_held_drew (S := fun w' => Keep (fun i => i = q7 ∨ i = q8) wc w') (by kernel_rfl) (KZ) (fun hHeld => ?_)
            refine' wpAnyH_take (i := 1) (v := _) rfl (by kernel_rfl) (by kernel_rfl) (by kernel_rfl) (fun _ _ _ h => h) (Or.inl ⟨by kernel_rfl, ?hy1⟩) (by assumption) ?_
            case hy1 => intro w' hSw; obtain ⟨_, _⟩ := MC.out w' hSw; go_simp; try with_reducible rfl
            simp only [Act.put, List.getElem_toArray, List.getElem_cons_zero, List.getElem_cons_succ, List.setIfInBounds_toArray, List.set_cons_zero, List.set_cons_succ]
            refine' wpAnyH_take (i := 2) (v := _) rfl (by kernel_rfl) (by kernel_rfl) (by kernel_rfl) (fun _ _ _ h => h) (Or.inl ⟨by kernel_rfl, ?hy2⟩) (by assumption) ?_
            case hy2 => intro w' hSw; obtain ⟨_, _⟩ := MC.out w' hSw; go_simp; try with_reducible rfl
            simp only [Act.put, List.getElem_toArray, List.getElem_cons_zero, List.getElem_cons_succ, List.setIfInBounds_toArray, List.set_cons_zero, List.set_cons_succ]
            refine' wpAnyH_take (i := 5) (v := _) rfl (by kernel_rfl) (by kernel_rfl) (by kernel_rfl) (fun _ _ _ h => h) (Or.inl ⟨by kernel_rfl, ?hy5⟩) (by assumption) ?_
            case hy5 => intro w' hSw; obtain ⟨_, _⟩ := MC.out w' hSw; go_simp; try with_reducible rfl
            simp only [Act.put, List.getElem_toArray, List.getElem_cons_zero, List.getElem_cons_succ, List.setIfInBounds_toArray, List.set_cons_zero, List.set_cons_succ]
            refine' wpAnyH_take (i := 6) (v := _) rfl (by kernel_rfl) (by kernel_rfl) (by kernel_rfl) (fun _ _ _ h => h) (Or.inl ⟨by kernel_rfl, ?hy6⟩) (by assumption) ?_
            case hy6 => intro w' hSw; obtain ⟨_, _⟩ := MC.out w' hSw; go_simp; try with_reducible rfl
            simp only [Act.put, List.getElem_toArray, List.getElem_cons_zero, List.getElem_cons_succ, List.setIfInBounds_toArray, List.set_cons_zero, List.set_cons_succ]
            generalize hwz : wc.drew = wz at *
            have hx7 : Box wz q7 56 #[.int .i64 a0, .int .i64 a1, .int .i64 a2, .int .i64 a3, .int .i64 a4, .int .i64 a5, .int .i64 a6, .int .i64 a7, .int .i64 (c.v.length : Int)] := by rw [← hwz]; exact HA7.out
            have hx8 : Box wz q8 56 #[.int .i64 b0, .int .i64 b1, .int .i64 b2, .int .i64 b3, .int .i64 b4, .int .i64 b5, .int .i64 b6, .int .i64 b7, .int .i64 (c.l.length : Int)] := by rw [← hwz]; exact HB8.out
            refine wpAnyH_ready (rs := [0, 4]) (by kernel_rfl) (by simp) (AllReadyH.cons rfl (fun K hK => ?_) (AllReadyH.cons rfl (fun K hK => ?_) AllReadyH.nil))
            · skip
              have t0 : wz.cell? ⟨q7, 0, none⟩ = some (.int .i64 a0) := hx7.cell 0
              have t1 : wz.cell? ⟨q7, 1, none⟩ = some (.int .i64 a1) := hx7.cell 1
              have t2 : wz.cell? ⟨q7, 2, none⟩ = some (.int .i64 a2) := hx7.cell 2
              have t3 : wz.cell? ⟨q7, 3, none⟩ = some (.int .i64 a3) := hx7.cell 3
              have t4 : wz.cell? ⟨q7, 4, none⟩ = some (.int .i64 a4) := hx7.cell 4
              have t5 : wz.cell? ⟨q7, 5, none⟩ = some (.int .i64 a5) := hx7.cell 5
              have t6 : wz.cell? ⟨q7, 6, none⟩ = some (.int .i64 a6) := hx7.cell 6
              have t7 : wz.cell? ⟨q7, 7, none⟩ = some (.int .i64 a7) := hx7.cell 7
              have t8 : wz.cell? ⟨q7, 8, none⟩ = some (.int .i64 (c.v.length : Int)) := hx7.cell 8
              go_simp
              refine hK.out _ _ (KZ) (fun hHeld => ?_)
              clear hK K
              try simp only [Act.put, List.getElem_toArray, List.getElem_cons_zero, List.getElem_cons_succ, List.setIfInBounds_toArray, List.set_cons_zero, List.set_cons_succ]
              clear t0 t1 t2 t3 t4 t5 t6 t7 t8
              refine wpAnyH_ready (rs := [3, 4]) (by kernel_rfl) (by simp) (AllReadyH.cons rfl (fun K hK => ?_) (AllReadyH.cons rfl (fun K hK => ?_) AllReadyH.nil))
              · skip
                go_simp
                go_at_call 40
                refine (HGA.out _).mono ?_
                rintro e wa ⟨ua, rfl, ⟨xb0, xb1, xb2, xb3, xb4, xb5, xb6, xb7, rfl, g8a, gta⟩, ka⟩
                go_wp2_with fail
                have KA := KZ.trans ka (fun _ _ h => h.elim)
                replace hx7 := hx7.keep ka id
                replace hx8 := hx8.keep ka id
                refine hK.out _ _ (KA) (fun hHeld => ?_)
                clear hK K
                try simp only [Act.put, List.getElem_toArray, List.getElem_cons_zero, List.getElem_cons_succ, List.setIfInBounds_toArray, List.set_cons_zero, List.set_cons_succ]
                refine wpAnyH_ready (rs := [4]) (by kernel_rfl) (by simp) (AllReadyH.cons rfl (fun K hK => ?_) AllReadyH.nil)
                have t0 : wa.cell? ⟨q8, 0, none⟩ = some (.int .i64 b0) := hx8.cell 0
                have t1 : wa.cell? ⟨q8, 1, none⟩ = some (.int .i64 b1) := hx8.cell 1
                have t2 : wa.cell? ⟨q8, 2, none⟩ = some (.int .i64 b2) := hx8.cell 2
                have t3 : wa.cell? ⟨q8, 3, none⟩ = some (.int .i64 b3) := hx8.cell 3
                have t4 : wa.cell? ⟨q8, 4, none⟩ = some (.int .i64 b4) := hx8.cell 4
                have t5 : wa.cell? ⟨q8, 5, none⟩ = some (.int .i64 b5) := hx8.cell 5
                have t6 : wa.cell? ⟨q8, 6, none⟩ = some (.int .i64 b6) := hx8.cell 6
                have t7 : wa.cell? ⟨q8, 7, none⟩ = some (.int .i64 b7) := hx8.cell 7
                have t8 : wa.cell? ⟨q8, 8, none⟩ = some (.int .i64 (c.l.length : Int)) := hx8.cell 8
                go_simp
                refine hK.out _ _ (KA) (fun hHeld => ?_)
                clear hK K
                try simp only [Act.put, List.getElem_toArray, List.getElem_cons_zero, List.getElem_cons_succ, List.setIfInBounds_toArray, List.set_cons_zero, List.set_cons_succ]
                clear t0 t1 t2 t3 t4 t5 t6 t7 t8
                refine wpAnyH_ready (rs := [7]) (by kernel_rfl) (by simp) (AllReadyH.cons rfl (fun K hK => ?_) AllReadyH.nil)
                go_simp
                go_at_call 40
                refine (HGB.out _).mono ?_
                rintro e wb ⟨ub, rfl, ⟨yb0, yb1, yb2, yb3, yb4, yb5, yb6, yb7, rfl, g8b, gtb⟩, kb⟩
                go_wp2_with fail
                have KB := KA.trans kb (fun _ _ h => h.elim)
                replace hx7 := hx7.keep kb id
                replace hx8 := hx8.keep kb id
                refine hK.out _ _ (KB) (fun hHeld => ?_)
                clear hK K
                try simp only [Act.put, List.getElem_toArray, List.getElem_cons_zero, List.getElem_cons_succ, List.setIfInBounds_toArray, List.set_cons_zero, List.set_cons_succ]
                have t0 : wb.cell? ⟨q7, 0, none⟩ = some (.int .i64 a0) := hx7.cell 0
                have t1 : wb.cell? ⟨q7, 1, none⟩ = some (.int .i64 a1) := hx7.cell 1
                have t2 : wb.cell? ⟨q7, 2, none⟩ = some (.int .i64 a2) := hx7.cell 2
                have t3 : wb.cell? ⟨q7, 3, none⟩ = some (.int .i64 a3) := hx7.cell 3
                have t4 : wb.cell? ⟨q7, 4, none⟩ = some (.int .i64 a4) := hx7.cell 4
                have t5 : wb.cell? ⟨q7, 5, none⟩ = some (.int .i64 a5) := hx7.cell 5
                have t6 : wb.cell? ⟨q7, 6, none⟩ = some (.int .i64 a6) := hx7.cell 6
                have t7 : wb.cell? ⟨q7, 7, none⟩ = some (.int .i64 a7) := hx7.cell 7
                have t8 : wb.cell? ⟨q7, 8, none⟩ = some (.int .i64 (c.v.length : Int)) := hx7.cell 8
                have f0 := hx7.free 0
                have f1 := hx7.free 1
                have f2 := hx7.free 2
                have f3 := hx7.free 3
                have f4 := hx7.free 4
                have f5 := hx7.free 5
                have f6 := hx7.free 6
                have f7 := hx7.free 7
                have f8 := hx7.free 8
                refine wpAnyH_ready (rs := [8]) (by kernel_rfl) (by simp) (AllReadyH.cons rfl (fun K hK => ?_) AllReadyH.nil)
                go_simp
                have KC := (keep_nine (q := q7) KB (fun _ => .inl rfl) (.int .i64 xb0) (.int .i64 xb1) (.int .i64 xb2) (.int .i64 xb3) (.int .i64 xb4) (.int .i64 xb5) (.int .i64 xb6) (.int .i64 xb7) (.int .i64 ((woP c.v node).length : Int)))
                have hy7 := (box_nine hx7 (.int .i64 xb0) (.int .i64 xb1) (.int .i64 xb2) (.int .i64 xb3) (.int .i64 xb4) (.int .i64 xb5) (.int .i64 xb6) (.int .i64 xb7) (.int .i64 ((woP c.v node).length : Int)))
                have hy8 := (far_nine (q := q7) hx8 (by omega) (.int .i64 xb0) (.int .i64 xb1) (.int .i64 xb2) (.int .i64 xb3) (.int .i64 xb4) (.int .i64 xb5) (.int .i64 xb6) (.int .i64 xb7) (.int .i64 ((woP c.v node).length : Int)))
                refine hK.out _ _ (KC) (fun hHeld => ?_)
                clear hK K
                try simp only [Act.put, List.getElem_toArray, List.getElem_cons_zero, List.getElem_cons_succ, List.setIfInBounds_toArray, List.set_cons_zero, List.set_cons_succ]
                generalize (((((((((wb.setCell ⟨q7, 0, none⟩ (.int .i64 xb0)).setCell ⟨q7, 1, none⟩ (.int .i64 xb1)).setCell ⟨q7, 2, none⟩ (.int .i64 xb2)).setCell ⟨q7, 3, none⟩ (.int .i64 xb3)).setCell ⟨q7, 4, none⟩ (.int .i64 xb4)).setCell ⟨q7, 5, none⟩ (.int .i64 xb5)).setCell ⟨q7, 6, none⟩ (.int .i64 xb6)).setCell ⟨q7, 7, none⟩ (.int .i64 xb7)).setCell ⟨q7, 8, none⟩ (.int .i64 ((woP c.v node).length : Int))) = wd at *
                clear t0 t1 t2 t3 t4 t5 t6 t7 t8 f0 f1 f2 f3 f4 f5 f6 f7 f8
                have t0 : wd.cell? ⟨q8, 0, none⟩ = some (.int .i64 b0) := hy8.cell 0
                have t1 : wd.cell? ⟨q8, 1, none⟩ = some (.int .i64 b1) := hy8.cell 1
                have t2 : wd.cell? ⟨q8, 2, none⟩ = some (.int .i64 b2) := hy8.cell 2
                have t3 : wd.cell? ⟨q8, 3, none⟩ = some (.int .i64 b3) := hy8.cell 3
                have t4 : wd.cell? ⟨q8, 4, none⟩ = some (.int .i64 b4) := hy8.cell 4
                have t5 : wd.cell? ⟨q8, 5, none⟩ = some (.int .i64 b5) := hy8.cell 5
                have t6 : wd.cell? ⟨q8, 6, none⟩ = some (.int .i64 b6) := hy8.cell 6
                have t7 : wd.cell? ⟨q8, 7, none⟩ = some (.int .i64 b7) := hy8.cell 7
                have t8 : wd.cell? ⟨q8, 8, none⟩ = some (.int .i64 (c.l.length : Int)) := hy8.cell 8
                have f0 := hy8.free 0
                have f1 := hy8.free 1
                have f2 := hy8.free 2
                have f3 := hy8.free 3
                have f4 := hy8.free 4
                have f5 := hy8.free 5
                have f6 := hy8.free 6
                have f7 := hy8.free 7
                have f8 := hy8.free 8
                refine wpAnyH_ready (rs := [9]) (by kernel_rfl) (by simp) (AllReadyH.cons rfl (fun K hK => ?_) AllReadyH.nil)
                go_simp
                have KD := (keep_nine (q := q8) KC (fun _ => .inr rfl) (.int .i64 yb0) (.int .i64 yb1) (.int .i64 yb2) (.int .i64 yb3) (.int .i64 yb4) (.int .i64 yb5) (.int .i64 yb6) (.int .i64 yb7) (.int .i64 ((woP c.l node).length : Int)))
                have hv8 := (box_nine hy8 (.int .i64 yb0) (.int .i64 yb1) (.int .i64 yb2) (.int .i64 yb3) (.int .i64 yb4) (.int .i64 yb5) (.int .i64 yb6) (.int .i64 yb7) (.int .i64 ((woP c.l node).length : Int)))
                have hv7 := (far_nine (q := q8) hy7 (by omega) (.int .i64 yb0) (.int .i64 yb1) (.int .i64 yb2) (.int .i64 yb3) (.int .i64 yb4) (.int .i64 yb5) (.int .i64 yb6) (.int .i64 yb7) (.int .i64 ((woP c.l node).length : Int)))
                refine hK.out _ _ (KD) (fun hHeld => ?_)
                clear hK K
                try simp only [Act.put, List.getElem_toArray, List.getElem_cons_zero, List.getElem_cons_succ, List.setIfInBounds_toArray, List.set_cons_zero, List.set_cons_succ]
                generalize (((((((((wd.setCell ⟨q8, 0, none⟩ (.int .i64 yb0)).setCell ⟨q8, 1, none⟩ (.int .i64 yb1)).setCell ⟨q8, 2, none⟩ (.int .i64 yb2)).setCell ⟨q8, 3, none⟩ (.int .i64 yb3)).setCell ⟨q8, 4, none⟩ (.int .i64 yb4)).setCell ⟨q8, 5, none⟩ (.int .i64 yb5)).setCell ⟨q8, 6, none⟩ (.int .i64 yb6)).setCell ⟨q8, 7, none⟩ (.int .i64 yb7)).setCell ⟨q8, 8, none⟩ (.int .i64 ((woP c.l node).length : Int))) = wf at *
                refine wpAnyH_done (by kernel_rfl) ?_ _
                have HK7 := Lib.hid (HK6.out.trans KD (fun i hi e => by omega))
                have HV2 := Lib.hid (HU2.out.keep KD (by omega))
                have HG7' : Hid (GAt wf q7 (woP c.v node)) := ⟨_, _, _, _, _, _, _, _, hv7, g8a, gta⟩
                have HG8' : Hid (GAt wf q8 (woP c.l node)) := ⟨_, _, _, _, _, _, _, _, hv8, g8b, gtb⟩
                have HV1 := Lib.hid (HU1.out.keep KD (by omega))
                clear hHeld MC HGA HGB KA KB KC KD HA7 HB8 hv7 hv8 hy7 hy8 g8a gta g8b gtb hx7 hx8 ka kb t0 t1 t2 t3 t4 t5 t6 t7 t8 f0 f1 f2 f3 f4 f5 f6 f7 f8 y0 y1 KZ
                have y0 := HV1.out.cell 0
                have y1 := HV1.out.cell 1
                go_upto_region 14 with fail
                obtain ⟨c0, c1, c2, c3, c4, c5, c6, c7, hc, hc8, hct⟩ := HG7'.out
                obtain ⟨d0, d1, d2, d3, d4, d5, d6, d7, hd, hd8, hdt⟩ := HG8'.out
                have HC7 := Lib.hid hc
                have HD8 := Lib.hid hd
                have HLV : Hid (∀ w', Keep (fun i => i = w.heap.size + 1 + 1) wf w' → Calls Try.prog 41 #[.agg #[.int .i64 c0, .int .i64 c1, .int .i64 c2, .int .i64 c3, .int .i64 c4, .int .i64 c5, .int .i64 c6, .int .i64 c7, .int .i64 ((woP c.v node).length : Int)]] w' (ToldZ (woP c.v node) w')) := fun w' _ => glist_any w' _ _ ⟨c0, c1, c2, c3, c4, c5, c6, c7, rfl, hc8, hct⟩
                have HLL : Hid (∀ w', Keep (fun i => i = w.heap.size + 1 + 1) wf w' → Calls Try.prog 41 #[.agg #[.int .i64 d0, .int .i64 d1, .int .i64 d2, .int .i64 d3, .int .i64 d4, .int .i64 d5, .int .i64 d6, .int .i64 d7, .int .i64 ((woP c.l node).length : Int)]] w' (ToldZ (woP c.l node) w')) := fun w' _ => glist_any w' _ _ ⟨d0, d1, d2, d3, d4, d5, d6, d7, rfl, hd8, hdt⟩
                have MC : Hid (∀ w', Keep (fun i => i = w.heap.size + 1 + 1) wf w' → w'.cell? ⟨q7, 0, none⟩ = some (.int .i64 c0) ∧ w'.cell? ⟨q7, 1, none⟩ = some (.int .i64 c1) ∧ w'.cell? ⟨q7, 2, none⟩ = some (.int .i64 c2) ∧ w'.cell? ⟨q7, 3, none⟩ = some (.int .i64 c3) ∧ w'.cell? ⟨q7, 4, none⟩ = some (.int .i64 c4) ∧ w'.cell? ⟨q7, 5, none⟩ = some (.int .i64 c5) ∧ w'.cell? ⟨q7, 6, none⟩ = some (.int .i64 c6) ∧ w'.cell? ⟨q7, 7, none⟩ = some (.int .i64 c7) ∧ w'.cell? ⟨q7, 8, none⟩ = some (.int .i64 ((woP c.v node).length : Int)) ∧ w'.cell? ⟨q8, 0, none⟩ = some (.int .i64 d0) ∧ w'.cell? ⟨q8, 1, none⟩ = some (.int .i64 d1) ∧ w'.cell? ⟨q8, 2, none⟩ = some (.int .i64 d2) ∧ w'.cell? ⟨q8, 3, none⟩ = some (.int .i64 d3) ∧ w'.cell? ⟨q8, 4, none⟩ = some (.int .i64 d4) ∧ w'.cell? ⟨q8, 5, none⟩ = some (.int .i64 d5) ∧ w'.cell? ⟨q8, 6, none⟩ = some (.int .i64 d6) ∧ w'.cell? ⟨q8, 7, none⟩ = some (.int .i64 d7) ∧ w'.cell? ⟨q8, 8, none⟩ = some (.int .i64 ((woP c.l node).length : Int))) := fun w' k => by
                  have e7 := HC7.out.keep k (by omega)
                  have e8 := HD8.out.keep k (by omega)
                  exact ⟨e7.cell 0, e7.cell 1, e7.cell 2, e7.cell 3, e7.cell 4, e7.cell 5, e7.cell 6, e7.cell 7, e7.cell 8, e8.cell 0, e8.cell 1, e8.cell 2, e8.cell 3, e8.cell 4, e8.cell 5, e8.cell 6, e8.cell 7, e8.cell 8⟩
                have MK : Hid (∀ w', Keep (fun i => i = w.heap.size + 1 + 1) wf w' → Keep noneOf w w') := fun w' k => HK7.out.trans k (fun i hi e => by omega)
                have KZ := (Keep.refl (fun i => i = w.heap.size + 1 + 1) wf).drew
                clear hc hd y0 y1
                go_wp2
                refine wp_region_held_drew (S := fun w' => Keep (fun i => i = w.heap.size + 1 + 1) wf w') (by kernel_rfl) (KZ) (fun hHeld => ?_)
                refine' wpAnyH_take (i := 0) (v := _) rfl (by kernel_rfl) (by kernel_rfl) (by kernel_rfl) (fun _ _ _ h => h) (Or.inl ⟨by kernel_rfl, ?hy0⟩) (by assumption) ?_
                case hy0 => intro w' hSw; obtain ⟨_, _, _, _, _, _, _, _, _, _, _, _, _, _, _, _, _, _⟩ := MC.out w' hSw; go_simp; try with_reducible rfl
                simp only [Act.put, List.getElem_toArray, List.getElem_cons_zero, List.getElem_cons_succ, List.setIfInBounds_toArray, List.set_cons_zero, List.set_cons_succ]
                refine' wpAnyH_take (i := 2) (v := _) rfl (by kernel_rfl) (by kernel_rfl) (by kernel_rfl) (fun _ _ _ h => h) (Or.inl ⟨by kernel_rfl, ?hy2⟩) (by assumption) ?_
                case hy2 => intro w' hSw; obtain ⟨_, _, _, _, _, _, _, _, _, _, _, _, _, _, _, _, _, _⟩ := MC.out w' hSw; go_simp; try with_reducible rfl
                simp only [Act.put, List.getElem_toArray, List.getElem_cons_zero, List.getElem_cons_succ, List.setIfInBounds_toArray, List.set_cons_zero, List.set_cons_succ]
                refine wpAnyH_ready (rs := [1]) (by kernel_rfl) (by simp) (AllReadyH.cons rfl (fun K hK => ?_) AllReadyH.nil)
                go_simp
                go_at_call 41
                refine (HLV.out _ KZ).mono ?_
                rintro e wl ⟨vl, rfl, hol, kl⟩
                obtain ⟨Al, cl, rfl⟩ := own_shape hol
                go_wp2_with fail
                have KL := KZ.trans kl (fun _ _ h => h.elim)
                refine hK.out _ _ (KL) (fun hHeld => ?_)
                clear hK K
                try simp only [Act.put, List.getElem_toArray, List.getElem_cons_zero, List.getElem_cons_succ, List.setIfInBounds_toArray, List.set_cons_zero, List.set_cons_succ]
                refine wpAnyH_ready (rs := [3]) (by kernel_rfl) (by simp) (AllReadyH.cons rfl (fun K hK => ?_) AllReadyH.nil)
                go_simp
                go_at_call 41
                refine (HLL.out _ KL).mono ?_
                rintro e wm ⟨vm, rfl, hom, km⟩
                obtain ⟨Am, cm, rfl⟩ := own_shape hom
                go_wp2_with fail
                have KM := KL.trans km (fun _ _ h => h.elim)
                refine hK.out _ _ (KM) (fun hHeld => ?_)
                clear hK K
                try simp only [Act.put, List.getElem_toArray, List.getElem_cons_zero, List.getElem_cons_succ, List.setIfInBounds_toArray, List.set_cons_zero, List.set_cons_succ]
                refine' wpAnyH_take (i := 4) (v := _) rfl (by kernel_rfl) (by kernel_rfl) (by kernel_rfl) (fun _ _ _ h => h) (Or.inl ⟨by kernel_rfl, ?hy4⟩) (by assumption) ?_
                case hy4 => intro w' hSw; obtain ⟨_, _, _, _, _, _, _, _, _, _, _, _, _, _, _, _, _, _⟩ := MC.out w' hSw; go_simp; try with_reducible rfl
                simp only [Act.put, List.getElem_toArray, List.getElem_cons_zero, List.getElem_cons_succ, List.setIfInBounds_toArray, List.set_cons_zero, List.set_cons_succ]
                have U9 := (HV2.out.drew.keep kl id).keep km id
                have z0 := U9.cell 0
                have z1 := U9.cell 1
                have f0 := U9.free 0
                have f1 := U9.free 1
                refine wpAnyH_ready (rs := [5]) (by kernel_rfl) (by simp) (AllReadyH.cons rfl (fun K hK => ?_) AllReadyH.nil)
                go_simp
                have UE := (U9.put 0 (.slice Al (woP c.v node).length cl)).put 1 (.slice Am (woP c.l node).length cm)
                have KE := (KM.setCell (p := ⟨w.heap.size + 1 + 1, 0, none⟩) (fun _ => rfl) (.slice Al (woP c.v node).length cl)).setCell (p := ⟨w.heap.size + 1 + 1, 1, none⟩) (fun _ => rfl) (.slice Am (woP c.l node).length cm)
                have KX := ((Keep.refl (fun i => i = w.heap.size + 1 + 1) wm).setCell (p := ⟨w.heap.size + 1 + 1, 0, none⟩) (fun _ => rfl) (.slice Al (woP c.v node).length cl)).setCell (p := ⟨w.heap.size + 1 + 1, 1, none⟩) (fun _ => rfl) (.slice Am (woP c.l node).length cm)
                refine hK.out _ _ (KE) (fun hHeld => ?_)
                clear hK K
                try simp only [Act.put, List.getElem_toArray, List.getElem_cons_zero, List.getElem_cons_succ, List.setIfInBounds_toArray, List.set_cons_zero, List.set_cons_succ]
                generalize (wm.setCell ⟨w.heap.size + 1 + 1, 0, none⟩ (.slice Al (woP c.v node).length cl)).setCell ⟨w.heap.size + 1 + 1, 1, none⟩ (.slice Am (woP c.l node).length cm) = we at *
                refine wpAnyH_ready (rs := [6]) (by kernel_rfl) (by simp) (AllReadyH.cons rfl (fun K hK => ?_) AllReadyH.nil)
                go_simp
                refine hK.out _ _ (hHeld) (fun hHeld => ?_)
                clear hK K
                try simp only [Act.put, List.getElem_toArray, List.getElem_cons_zero, List.getElem_cons_succ, List.setIfInBounds_toArray, List.set_cons_zero, List.set_cons_succ]
                refine wpAnyH_done (by kernel_rfl) ?_ _
                have r0 := UE.cell 0
                have r1 := UE.cell 1
                have HKE := Lib.hid (MK.out we KE)
                have hpl := HV2.out.lt
                have hsl := kl.size
                have hds : wf.drew.heap.size = wf.heap.size := rfl
                have hzv := (((Zs.of_own hol).keepN km).keep KX (fun i _ hi e => by omega)).any
                have hzw := ((Zs.of_own hom).keep KX (fun i _ hi e => by omega)).any
                have HCE : Hid (CfAt we (fun _ => True) (.agg #[.slice Al (woP c.v node).length cl, .slice Am (woP c.l node).length cm]) ⟨woP c.v node, woP c.l node⟩) := ⟨_, _, rfl, hzv, hzw⟩
                clear hHeld UE KE KX U9 z0 z1 f0 f1 MC MK HLV HLL hol hom kl km KL KM KZ hzv hzw
                go_wp2
                exact bodyPost_ret (v := .tuple #[.agg #[.slice Al (woP c.v node).length cl, .slice Am (woP c.l node).length cm], .int .i64 0]) (by simp [results, Try.results20, go_sem, r0, r1]) rfl ⟨_, rfl, HCE.out, HKE.out⟩
              · skip
                have t0 : wz.cell? ⟨q8, 0, none⟩ = some (.int .i64 b0) := hx8.cell 0
                have t1 : wz.cell? ⟨q8, 1, none⟩ = some (.int .i64 b1) := hx8.cell 1
                have t2 : wz.cell? ⟨q8, 2, none⟩ = some (.int .i64 b2) := hx8.cell 2
                have t3 : wz.cell? ⟨q8, 3, none⟩ = some (.int .i64 b3) := hx8.cell 3
                have t4 : wz.cell? ⟨q8, 4, none⟩ = some (.int .i64 b4) := hx8.cell 4
                have t5 : wz.cell? ⟨q8, 5, none⟩ = some (.int .i64 b5) := hx8.cell 5
                have t6 : wz.cell? ⟨q8, 6, none⟩ = some (.int .i64 b6) := hx8.cell 6
                have t7 : wz.cell? ⟨q8, 7, none⟩ = some (.int .i64 b7) := hx8.cell 7
                have t8 : wz.cell? ⟨q8, 8, none⟩ = some (.int .i64 (c.l.length : Int)) := hx8.cell 8
                go_simp
                refine hK.out _ _ (KZ) (fun hHeld => ?_)
                clear hK K
                try simp only [Act.put, List.getElem_toArray, List.getElem_cons_zero, List.getElem_cons_succ, List.setIfInBounds_toArray, List.set_cons_zero, List.set_cons_succ]
                clear t0 t1 t2 t3 t4 t5 t6 t7 t8
                refine wpAnyH_ready (rs := [3]) (by kernel_rfl) (by simp) (AllReadyH.cons rfl (fun K hK => ?_) AllReadyH.nil)
                go_simp
                go_at_call 40
                refine (HGA.out _).mono ?_
                rintro e wa ⟨ua, rfl, ⟨xb0, xb1, xb2, xb3, xb4, xb5, xb6, xb7, rfl, g8a, gta⟩, ka⟩
                go_wp2_with fail
                have KA := KZ.trans ka (fun _ _ h => h.elim)
                replace hx7 := hx7.keep ka id
                replace hx8 := hx8.keep ka id
                refine hK.out _ _ (KA) (fun hHeld => ?_)
                clear hK K
                try simp only [Act.put, List.getElem_toArray, List.getElem_cons_zero, List.getElem_cons_succ, List.setIfInBounds_toArray, List.set_cons_zero, List.set_cons_succ]
                refine wpAnyH_ready (rs := [7]) (by kernel_rfl) (by simp) (AllReadyH.cons rfl (fun K hK => ?_) AllReadyH.nil)
                go_simp
                go_at_call 40
                refine (HGB.out _).mono ?_
                rintro e wb ⟨ub, rfl, ⟨yb0, yb1, yb2, yb3, yb4, yb5, yb6, yb7, rfl, g8b, gtb⟩, kb⟩
                go_wp2_with fail
                have KB := KA.trans kb (fun _ _ h => h.elim)
                replace hx7 := hx7.keep kb id
                replace hx8 := hx8.keep kb id
                refine hK.out _ _ (KB) (fun hHeld => ?_)
                clear hK K
                try simp only [Act.put, List.getElem_toArray, List.getElem_cons_zero, List.getElem_cons_succ, List.setIfInBounds_toArray, List.set_cons_zero, List.set_cons_succ]
                have t0 : wb.cell? ⟨q7, 0, none⟩ = some (.int .i64 a0) := hx7.cell 0
                have t1 : wb.cell? ⟨q7, 1, none⟩ = some (.int .i64 a1) := hx7.cell 1
                have t2 : wb.cell? ⟨q7, 2, none⟩ = some (.int .i64 a2) := hx7.cell 2
                have t3 : wb.cell? ⟨q7, 3, none⟩ = some (.int .i64 a3) := hx7.cell 3
                have t4 : wb.cell? ⟨q7, 4, none⟩ = some (.int .i64 a4) := hx7.cell 4
                have t5 : wb.cell? ⟨q7, 5, none⟩ = some (.int .i64 a5) := hx7.cell 5
                have t6 : wb.cell? ⟨q7, 6, none⟩ = some (.int .i64 a6) := hx7.cell 6
                have t7 : wb.cell? ⟨q7, 7, none⟩ = some (.int .i64 a7) := hx7.cell 7
                have t8 : wb.cell? ⟨q7, 8, none⟩ = some (.int .i64 (c.v.length : Int)) := hx7.cell 8
                have f0 := hx7.free 0
                have f1 := hx7.free 1
                have f2 := hx7.free 2
                have f3 := hx7.free 3
                have f4 := hx7.free 4
                have f5 := hx7.free 5
                have f6 := hx7.free 6
                have f7 := hx7.free 7
                have f8 := hx7.free 8
                refine wpAnyH_ready (rs := [8]) (by kernel_rfl) (by simp) (AllReadyH.cons rfl (fun K hK => ?_) AllReadyH.nil)
                go_simp
                have KC := (keep_nine (q := q7) KB (fun _ => .inl rfl) (.int .i64 xb0) (.int .i64 xb1) (.int .i64 xb2) (.int .i64 xb3) (.int .i64 xb4) (.int .i64 xb5) (.int .i64 xb6) (.int .i64 xb7) (.int .i64 ((woP c.v node).length : Int)))
                have hy7 := (box_nine hx7 (.int .i64 xb0) (.int .i64 xb1) (.int .i64 xb2) (.int .i64 xb3) (.int .i64 xb4) (.int .i64 xb5) (.int .i64 xb6) (.int .i64 xb7) (.int .i64 ((woP c.v node).length : Int)))
                have hy8 := (far_nine (q := q7) hx8 (by omega) (.int .i64 xb0) (.int .i64 xb1) (.int .i64 xb2) (.int .i64 xb3) (.int .i64 xb4) (.int .i64 xb5) (.int .i64 xb6) (.int .i64 xb7) (.int .i64 ((woP c.v node).length : Int)))
                refine hK.out _ _ (KC) (fun hHeld => ?_)
                clear hK K
                try simp only [Act.put, List.getElem_toArray, List.getElem_cons_zero, List.getElem_cons_succ, List.setIfInBounds_toArray, List.set_cons_zero, List.set_cons_succ]
                generalize (((((((((wb.setCell ⟨q7, 0, none⟩ (.int .i64 xb0)).setCell ⟨q7, 1, none⟩ (.int .i64 xb1)).setCell ⟨q7, 2, none⟩ (.int .i64 xb2)).setCell ⟨q7, 3, none⟩ (.int .i64 xb3)).setCell ⟨q7, 4, none⟩ (.int .i64 xb4)).setCell ⟨q7, 5, none⟩ (.int .i64 xb5)).setCell ⟨q7, 6, none⟩ (.int .i64 xb6)).setCell ⟨q7, 7, none⟩ (.int .i64 xb7)).setCell ⟨q7, 8, none⟩ (.int .i64 ((woP c.v node).length : Int))) = wd at *
                clear t0 t1 t2 t3 t4 t5 t6 t7 t8 f0 f1 f2 f3 f4 f5 f6 f7 f8
                have t0 : wd.cell? ⟨q8, 0, none⟩ = some (.int .i64 b0) := hy8.cell 0
                have t1 : wd.cell? ⟨q8, 1, none⟩ = some (.int .i64 b1) := hy8.cell 1
                have t2 : wd.cell? ⟨q8, 2, none⟩ = some (.int .i64 b2) := hy8.cell 2
                have t3 : wd.cell? ⟨q8, 3, none⟩ = some (.int .i64 b3) := hy8.cell 3
                have t4 : wd.cell? ⟨q8, 4, none⟩ = some (.int .i64 b4) := hy8.cell 4
                have t5 : wd.cell? ⟨q8, 5, none⟩ = some (.int .i64 b5) := hy8.cell 5
                have t6 : wd.cell? ⟨q8, 6, none⟩ = some (.int .i64 b6) := hy8.cell 6
                have t7 : wd.cell? ⟨q8, 7, none⟩ = some (.int .i64 b7) := hy8.cell 7
                have t8 : wd.cell? ⟨q8, 8, none⟩ = some (.int .i64 (c.l.length : Int)) := hy8.cell 8
                have f0 := hy8.free 0
                have f1 := hy8.free 1
                have f2 := hy8.free 2
                have f3 := hy8.free 3
                have f4 := hy8.free 4
                have f5 := hy8.free 5
                have f6 := hy8.free 6
                have f7 := hy8.free 7
                have f8 := hy8.free 8
                refine wpAnyH_ready (rs := [9]) (by kernel_rfl) (by simp) (AllReadyH.cons rfl (fun K hK => ?_) AllReadyH.nil)
                go_simp
                have KD := (keep_nine (q := q8) KC (fun _ => .inr rfl) (.int .i64 yb0) (.int .i64 yb1) (.int .i64 yb2) (.int .i64 yb3) (.int .i64 yb4) (.int .i64 yb5) (.int .i64 yb6) (.int .i64 yb7) (.int .i64 ((woP c.l node).length : Int)))
                have hv8 := (box_nine hy8 (.int .i64 yb0) (.int .i64 yb1) (.int .i64 yb2) (.int .i64 yb3) (.int .i64 yb4) (.int .i64 yb5) (.int .i64 yb6) (.int .i64 yb7) (.int .i64 ((woP c.l node).length : Int)))
                have hv7 := (far_nine (q := q8) hy7 (by omega) (.int .i64 yb0) (.int .i64 yb1) (.int .i64 yb2) (.int .i64 yb3) (.int .i64 yb4) (.int .i64 yb5) (.int .i64 yb6) (.int .i64 yb7) (.int .i64 ((woP c.l node).length : Int)))
                refine hK.out _ _ (KD) (fun hHeld => ?_)
                clear hK K
                try simp only [Act.put, List.getElem_toArray, List.getElem_cons_zero, List.getElem_cons_succ, List.setIfInBounds_toArray, List.set_cons_zero, List.set_cons_succ]
                generalize (((((((((wd.setCell ⟨q8, 0, none⟩ (.int .i64 yb0)).setCell ⟨q8, 1, none⟩ (.int .i64 yb1)).setCell ⟨q8, 2, none⟩ (.int .i64 yb2)).setCell ⟨q8, 3, none⟩ (.int .i64 yb3)).setCell ⟨q8, 4, none⟩ (.int .i64 yb4)).setCell ⟨q8, 5, none⟩ (.int .i64 yb5)).setCell ⟨q8, 6, none⟩ (.int .i64 yb6)).setCell ⟨q8, 7, none⟩ (.int .i64 yb7)).setCell ⟨q8, 8, none⟩ (.int .i64 ((woP c.l node).length : Int))) = wf at *
                refine wpAnyH_done (by kernel_rfl) ?_ _
                have HK7 := Lib.hid (HK6.out.trans KD (fun i hi e => by omega))
                have HV2 := Lib.hid (HU2.out.keep KD (by omega))
                have HG7' : Hid (GAt wf q7 (woP c.v node)) := ⟨_, _, _, _, _, _, _, _, hv7, g8a, gta⟩
                have HG8' : Hid (GAt wf q8 (woP c.l node)) := ⟨_, _, _, _, _, _, _, _, hv8, g8b, gtb⟩
                have HV1 := Lib.hid (HU1.out.keep KD (by omega))
                clear hHeld MC HGA HGB KA KB KC KD HA7 HB8 hv7 hv8 hy7 hy8 g8a gta g8b gtb hx7 hx8 ka kb t0 t1 t2 t3 t4 t5 t6 t7 t8 f0 f1 f2 f3 f4 f5 f6 f7 f8 y0 y1 KZ
                have y0 := HV1.out.cell 0
                have y1 := HV1.out.cell 1
                go_upto_region 14 with fail
                obtain ⟨c0, c1, c2, c3, c4, c5, c6, c7, hc, hc8, hct⟩ := HG7'.out
                obtain ⟨d0, d1, d2, d3, d4, d5, d6, d7, hd, hd8, hdt⟩ := HG8'.out
                have HC7 := Lib.hid hc
                have HD8 := Lib.hid hd
                have HLV : Hid (∀ w', Keep (fun i => i = w.heap.size + 1 + 1) wf w' → Calls Try.prog 41 #[.agg #[.int .i64 c0, .int .i64 c1, .int .i64 c2, .int .i64 c3, .int .i64 c4, .int .i64 c5, .int .i64 c6, .int .i64 c7, .int .i64 ((woP c.v node).length : Int)]] w' (ToldZ (woP c.v node) w')) := fun w' _ => glist_any w' _ _ ⟨c0, c1, c2, c3, c4, c5, c6, c7, rfl, hc8, hct⟩
                have HLL : Hid (∀ w', Keep (fun i => i = w.heap.size + 1 + 1) wf w' → Calls Try.prog 41 #[.agg #[.int .i64 d0, .int .i64 d1, .int .i64 d2, .int .i64 d3, .int .i64 d4, .int .i64 d5, .int .i64 d6, .int .i64 d7, .int .i64 ((woP c.l node).length : Int)]] w' (ToldZ (woP c.l node) w')) := fun w' _ => glist_any w' _ _ ⟨d0, d1, d2, d3, d4, d5, d6, d7, rfl, hd8, hdt⟩
                have MC : Hid (∀ w', Keep (fun i => i = w.heap.size + 1 + 1) wf w' → w'.cell? ⟨q7, 0, none⟩ = some (.int .i64 c0) ∧ w'.cell? ⟨q7, 1, none⟩ = some (.int .i64 c1) ∧ w'.cell? ⟨q7, 2, none⟩ = some (.int .i64 c2) ∧ w'.cell? ⟨q7, 3, none⟩ = some (.int .i64 c3) ∧ w'.cell? ⟨q7, 4, none⟩ = some (.int .i64 c4) ∧ w'.cell? ⟨q7, 5, none⟩ = some (.int .i64 c5) ∧ w'.cell? ⟨q7, 6, none⟩ = some (.int .i64 c6) ∧ w'.cell? ⟨q7, 7, none⟩ = some (.int .i64 c7) ∧ w'.cell? ⟨q7, 8, none⟩ = some (.int .i64 ((woP c.v node).length : Int)) ∧ w'.cell? ⟨q8, 0, none⟩ = some (.int .i64 d0) ∧ w'.cell? ⟨q8, 1, none⟩ = some (.int .i64 d1) ∧ w'.cell? ⟨q8, 2, none⟩ = some (.int .i64 d2) ∧ w'.cell? ⟨q8, 3, none⟩ = some (.int .i64 d3) ∧ w'.cell? ⟨q8, 4, none⟩ = some (.int .i64 d4) ∧ w'.cell? ⟨q8, 5, none⟩ = some (.int .i64 d5) ∧ w'.cell? ⟨q8, 6, none⟩ = some (.int .i64 d6) ∧ w'.cell? ⟨q8, 7, none⟩ = some (.int .i64 d7) ∧ w'.cell? ⟨q8, 8, none⟩ = some (.int .i64 ((woP c.l node).length : Int))) := fun w' k => by
                  have e7 := HC7.out.keep k (by omega)
                  have e8 := HD8.out.keep k (by omega)
                  exact ⟨e7.cell 0, e7.cell 1, e7.cell 2, e7.cell 3, e7.cell 4, e7.cell 5, e7.cell 6, e7.cell 7, e7.cell 8, e8.cell 0, e8.cell 1, e8.cell 2, e8.cell 3, e8.cell 4, e8.cell 5, e8.cell 6, e8.cell 7, e8.cell 8⟩
                have MK : Hid (∀ w', Keep (fun i => i = w.heap.size + 1 + 1) wf w' → Keep noneOf w w') := fun w' k => HK7.out.trans k (fun i hi e => by omega)
                have KZ := (Keep.refl (fun i => i = w.heap.size + 1 + 1) wf).drew
                clear hc hd y0 y1
                go_wp2
                refine wp_region_held_drew (S := fun w' => Keep (fun i => i = w.heap.size + 1 + 1) wf w') (by kernel_rfl) (KZ) (fun hHeld => ?_)
                refine' wpAnyH_take (i := 0) (v := _) rfl (by kernel_rfl) (by kernel_rfl) (by kernel_rfl) (fun _ _ _ h => h) (Or.inl ⟨by kernel_rfl, ?hy0⟩) (by assumption) ?_
                case hy0 => intro w' hSw; obtain ⟨_, _, _, _, _, _, _, _, _, _, _, _, _, _, _, _, _, _⟩ := MC.out w' hSw; go_simp; try with_reducible rfl
                simp only [Act.put, List.getElem_toArray, List.getElem_cons_zero, List.getElem_cons_succ, List.setIfInBounds_toArray, List.set_cons_zero, List.set_cons_succ]
                refine' wpAnyH_take (i := 2) (v := _) rfl (by kernel_rfl) (by kernel_rfl) (by kernel_rfl) (fun _ _ _ h => h) (Or.inl ⟨by kernel_rfl, ?hy2⟩) (by assumption) ?_
                case hy2 => intro w' hSw; obtain ⟨_, _, _, _, _, _, _, _, _, _, _, _, _, _, _, _, _, _⟩ := MC.out w' hSw; go_simp; try with_reducible rfl
                simp only [Act.put, List.getElem_toArray, List.getElem_cons_zero, List.getElem_cons_succ, List.setIfInBounds_toArray, List.set_cons_zero, List.set_cons_succ]
                refine wpAnyH_ready (rs := [1]) (by kernel_rfl) (by simp) (AllReadyH.cons rfl (fun K hK => ?_) AllReadyH.nil)
                go_simp
                go_at_call 41
                refine (HLV.out _ KZ).mono ?_
                rintro e wl ⟨vl, rfl, hol, kl⟩
                obtain ⟨Al, cl, rfl⟩ := own_shape hol
                go_wp2_with fail
                have KL := KZ.trans kl (fun _ _ h => h.elim)
                refine hK.out _ _ (KL) (fun hHeld => ?_)
                clear hK K
                try simp only [Act.put, List.getElem_toArray, List.getElem_cons_zero, List.getElem_cons_succ, List.setIfInBounds_toArray, List.set_cons_zero, List.set_cons_succ]
                refine wpAnyH_ready (rs := [3]) (by kernel_rfl) (by simp) (AllReadyH.cons rfl (fun K hK => ?_) AllReadyH.nil)
                go_simp
                go_at_call 41
                refine (HLL.out _ KL).mono ?_
                rintro e wm ⟨vm, rfl, hom, km⟩
                obtain ⟨Am, cm, rfl⟩ := own_shape hom
                go_wp2_with fail
                have KM := KL.trans km (fun _ _ h => h.elim)
                refine hK.out _ _ (KM) (fun hHeld => ?_)
                clear hK K
                try simp only [Act.put, List.getElem_toArray, List.getElem_cons_zero, List.getElem_cons_succ, List.setIfInBounds_toArray, List.set_cons_zero, List.set_cons_succ]
                refine' wpAnyH_take (i := 4) (v := _) rfl (by kernel_rfl) (by kernel_rfl) (by kernel_rfl) (fun _ _ _ h => h) (Or.inl ⟨by kernel_rfl, ?hy4⟩) (by assumption) ?_
                case hy4 => intro w' hSw; obtain ⟨_, _, _, _, _, _, _, _, _, _, _, _, _, _, _, _, _, _⟩ := MC.out w' hSw; go_simp; try with_reducible rfl
                simp only [Act.put, List.getElem_toArray, List.getElem_cons_zero, List.getElem_cons_succ, List.setIfInBounds_toArray, List.set_cons_zero, List.set_cons_succ]
                have U9 := (HV2.out.drew.keep kl id).keep km id
                have z0 := U9.cell 0
                have z1 := U9.cell 1
                have f0 := U9.free 0
                have f1 := U9.free 1
                refine wpAnyH_ready (rs := [5]) (by kernel_rfl) (by simp) (AllReadyH.cons rfl (fun K hK => ?_) AllReadyH.nil)
                go_simp
                have UE := (U9.put 0 (.slice Al (woP c.v node).length cl)).put 1 (.slice Am (woP c.l node).length cm)
                have KE := (KM.setCell (p := ⟨w.heap.size + 1 + 1, 0, none⟩) (fun _ => rfl) (.slice Al (woP c.v node).length cl)).setCell (p := ⟨w.heap.size + 1 + 1, 1, none⟩) (fun _ => rfl) (.slice Am (woP c.l node).length cm)
                have KX := ((Keep.refl (fun i => i = w.heap.size + 1 + 1) wm).setCell (p := ⟨w.heap.size + 1 + 1, 0, none⟩) (fun _ => rfl) (.slice Al (woP c.v node).length cl)).setCell (p := ⟨w.heap.size + 1 + 1, 1, none⟩) (fun _ => rfl) (.slice Am (woP c.l node).length cm)
                refine hK.out _ _ (KE) (fun hHeld => ?_)
                clear hK K
                try simp only [Act.put, List.getElem_toArray, List.getElem_cons_zero, List.getElem_cons_succ, List.setIfInBounds_toArray, List.set_cons_zero, List.set_cons_succ]
                generalize (wm.setCell ⟨w.heap.size + 1 + 1, 0, none⟩ (.slice Al (woP c.v node).length cl)).setCell ⟨w.heap.size + 1 + 1, 1, none⟩ (.slice Am (woP c.l node).length cm) = we at *
                refine wpAnyH_ready (rs := [6]) (by kernel_rfl) (by simp) (AllReadyH.cons rfl (fun K hK => ?_) AllReadyH.nil)
                go_simp
                refine hK.out _ _ (hHeld) (fun hHeld => ?_)
                clear hK K
                try simp only [Act.put, List.getElem_toArray, List.getElem_cons_zero, List.getElem_cons_succ, List.setIfInBounds_toArray, List.set_cons_zero, List.set_cons_succ]
                refine wpAnyH_done (by kernel_rfl) ?_ _
                have r0 := UE.cell 0
                have r1 := UE.cell 1
                have HKE := Lib.hid (MK.out we KE)
                have hpl := HV2.out.lt
                have hsl := kl.size
                have hds : wf.drew.heap.size = wf.heap.size := rfl
                have hzv := (((Zs.of_own hol).keepN km).keep KX (fun i _ hi e => by omega)).any
                have hzw := ((Zs.of_own hom).keep KX (fun i _ hi e => by omega)).any
                have HCE : Hid (CfAt we (fun _ => True) (.agg #[.slice Al (woP c.v node).length cl, .slice Am (woP c.l node).length cm]) ⟨woP c.v node, woP c.l node⟩) := ⟨_, _, rfl, hzv, hzw⟩
                clear hHeld UE KE KX U9 z0 z1 f0 f1 MC MK HLV HLL hol hom kl km KL KM KZ hzv hzw
                go_wp2
                exact bodyPost_ret (v := .tuple #[.agg #[.slice Al (woP c.v node).length cl, .slice Am (woP c.l node).length cm], .int .i64 0]) (by simp [results, Try.results20, go_sem, r0, r1]) rfl ⟨_, rfl, HCE.out, HKE.out⟩
            · skip
              have t0 : wz.cell? ⟨q8, 0, none⟩ = some (.int .i64 b0) := hx8.cell 0
              have t1 : wz.cell? ⟨q8, 1, none⟩ = some (.int .i64 b1) := hx8.cell 1
              have t2 : wz.cell? ⟨q8, 2, none⟩ = some (.int .i64 b2) := hx8.cell 2
              have t3 : wz.cell? ⟨q8, 3, none⟩ = some (.int .i64 b3) := hx8.cell 3
              have t4 : wz.cell? ⟨q8, 4, none⟩ = some (.int .i64 b4) := hx8.cell 4
              have t5 : wz.cell? ⟨q8, 5, none⟩ = some (.int .i64 b5) := hx8.cell 5
              have t6 : wz.cell? ⟨q8, 6, none⟩ = some (.int .i64 b6) := hx8.cell 6
              have t7 : wz.cell? ⟨q8, 7, none⟩ = some (.int .i64 b7) := hx8.cell 7
              have t8 : wz.cell? ⟨q8, 8, none⟩ = some (.int .i64 (c.l.length : Int)) := hx8.cell 8
              go_simp
              refine hK.out _ _ (KZ) (fun hHeld => ?_)
              clear hK K
              try simp only [Act.put, List.getElem_toArray, List.getElem_cons_zero, List.getElem_cons_succ, List.setIfInBounds_toArray, List.set_cons_zero, List.set_cons_succ]
              clear t0 t1 t2 t3 t4 t5 t6 t7 t8
              refine wpAnyH_ready (rs := [0]) (by kernel_rfl) (by simp) (AllReadyH.cons rfl (fun K hK => ?_) AllReadyH.nil)
              have t0 : wz.cell? ⟨q7, 0, none⟩ = some (.int .i64 a0) := hx7.cell 0
              have t1 : wz.cell? ⟨q7, 1, none⟩ = some (.int .i64 a1) := hx7.cell 1
              have t2 : wz.cell? ⟨q7, 2, none⟩ = some (.int .i64 a2) := hx7.cell 2
              have t3 : wz.cell? ⟨q7, 3, none⟩ = some (.int .i64 a3) := hx7.cell 3
              have t4 : wz.cell? ⟨q7, 4, none⟩ = some (.int .i64 a4) := hx7.cell 4
              have t5 : wz.cell? ⟨q7, 5, none⟩ = some (.int .i64 a5) := hx7.cell 5
              have t6 : wz.cell? ⟨q7, 6, none⟩ = some (.int .i64 a6) := hx7.cell 6
              have t7 : wz.cell? ⟨q7, 7, none⟩ = some (.int .i64 a7) := hx7.cell 7
              have t8 : wz.cell? ⟨q7, 8, none⟩ = some (.int .i64 (c.v.length : Int)) := hx7.cell 8
              go_simp
              refine hK.out _ _ (KZ) (fun hHeld => ?_)
              clear hK K
              try simp only [Act.put, List.getElem_toArray, List.getElem_cons_zero, List.getElem_cons_succ, List.setIfInBounds_toArray, List.set_cons_zero, List.set_cons_succ]
              clear t0 t1 t2 t3 t4 t5 t6 t7 t8
              refine wpAnyH_ready (rs := [3]) (by kernel_rfl) (by simp) (AllReadyH.cons rfl (fun K hK => ?_) AllReadyH.nil)
              go_simp
              go_at_call 40
              refine (HGA.out _).mono ?_
              rintro e wa ⟨ua, rfl, ⟨xb0, xb1, xb2, xb3, xb4, xb5, xb6, xb7, rfl, g8a, gta⟩, ka⟩
              go_wp2_with fail
              have KA := KZ.trans ka (fun _ _ h => h.elim)
              replace hx7 := hx7.keep ka id
              replace hx8 := hx8.keep ka id
              refine hK.out _ _ (KA) (fun hHeld => ?_)
              clear hK K
              try simp only [Act.put, List.getElem_toArray, List.getElem_cons_zero, List.getElem_cons_succ, List.setIfInBounds_toArray, List.set_cons_zero, List.set_cons_succ]
              refine wpAnyH_ready (rs := [7]) (by kernel_rfl) (by simp) (AllReadyH.cons rfl (fun K hK => ?_) AllReadyH.nil)
              go_simp
              go_at_call 40
              refine (HGB.out _).mono ?_
              rintro e wb ⟨ub, rfl, ⟨yb0, yb1, yb2, yb3, yb4, yb5, yb6, yb7, rfl, g8b, gtb⟩, kb⟩
              go_wp2_with fail
              have KB := KA.trans kb (fun _ _ h => h.elim)
              replace hx7 := hx7.keep kb id
              replace hx8 := hx8.keep kb id
              refine hK.out _ _ (KB) (fun hHeld => ?_)
              clear hK K
              try simp only [Act.put, List.getElem_toArray, List.getElem_cons_zero, List.getElem_cons_succ, List.setIfInBounds_toArray, List.set_cons_zero, List.set_cons_succ]
              have t0 : wb.cell? ⟨q7, 0, none⟩ = some (.int .i64 a0) := hx7.cell 0
              have t1 : wb.cell? ⟨q7, 1, none⟩ = some (.int .i64 a1) := hx7.cell 1
              have t2 : wb.cell? ⟨q7, 2, none⟩ = some (.int .i64 a2) := hx7.cell 2
              have t3 : wb.cell? ⟨q7, 3, none⟩ = some (.int .i64 a3) := hx7.cell 3
              have t4 : wb.cell? ⟨q7, 4, none⟩ = some (.int .i64 a4) := hx7.cell 4
              have t5 : wb.cell? ⟨q7, 5, none⟩ = some (.int .i64 a5) := hx7.cell 5
              have t6 : wb.cell? ⟨q7, 6, none⟩ = some (.int .i64 a6) := hx7.cell 6
              have t7 : wb.cell? ⟨q7, 7, none⟩ = some (.int .i64 a7) := hx7.cell 7
              have t8 : wb.cell? ⟨q7, 8, none⟩ = some (.int .i64 (c.v.length : Int)) := hx7.cell 8
              have f0 := hx7.free 0
              have f1 := hx7.free 1
              have f2 := hx7.free 2
              have f3 := hx7.free 3
              have f4 := hx7.free 4
              have f5 := hx7.free 5
              have f6 := hx7.free 6
              have f7 := hx7.free 7
              have f8 := hx7.free 8
              refine wpAnyH_ready (rs := [8]) (by kernel_rfl) (by simp) (AllReadyH.cons rfl (fun K hK => ?_) AllReadyH.nil)
              go_simp
              have KC := (keep_nine (q := q7) KB (fun _ => .inl rfl) (.int .i64 xb0) (.int .i64 xb1) (.int .i64 xb2) (.int .i64 xb3) (.int .i64 xb4) (.int .i64 xb5) (.int .i64 xb6) (.int .i64 xb7) (.int .i64 ((woP c.v node).length : Int)))
              have hy7 := (box_nine hx7 (.int .i64 xb0) (.int .i64 xb1) (.int .i64 xb2) (.int .i64 xb3) (.int .i64 xb4) (.int .i64 xb5) (.int .i64 xb6) (.int .i64 xb7) (.int .i64 ((woP c.v node).length : Int)))
              have hy8 := (far_nine (q := q7) hx8 (by omega) (.int .i64 xb0) (.int .i64 xb1) (.int .i64 xb2) (.int .i64 xb3) (.int .i64 xb4) (.int .i64 xb5) (.int .i64 xb6) (.int .i64 xb7) (.int .i64 ((woP c.v node).length : Int)))
              refine hK.out _ _ (KC) (fun hHeld => ?_)
              clear hK K
              try simp only [Act.put, List.getElem_toArray, List.getElem_cons_zero, List.getElem_cons_succ, List.setIfInBounds_toArray, List.set_cons_zero, List.set_cons_succ]
              generalize (((((((((wb.setCell ⟨q7, 0, none⟩ (.int .i64 xb0)).setCell ⟨q7, 1, none⟩ (.int .i64 xb1)).setCell ⟨q7, 2, none⟩ (.int .i64 xb2)).setCell ⟨q7, 3, none⟩ (.int .i64 xb3)).setCell ⟨q7, 4, none⟩ (.int .i64 xb4)).setCell ⟨q7, 5, none⟩ (.int .i64 xb5)).setCell ⟨q7, 6, none⟩ (.int .i64 xb6)).setCell ⟨q7, 7, none⟩ (.int .i64 xb7)).setCell ⟨q7, 8, none⟩ (.int .i64 ((woP c.v node).length : Int))) = wd at *
              clear t0 t1 t2 t3 t4 t5 t6 t7 t8 f0 f1 f2 f3 f4 f5 f6 f7 f8
              have t0 : wd.cell? ⟨q8, 0, none⟩ = some (.int .i64 b0) := hy8.cell 0
              have t1 : wd.cell? ⟨q8, 1, none⟩ = some (.int .i64 b1) := hy8.cell 1
              have t2 : wd.cell? ⟨q8, 2, none⟩ = some (.int .i64 b2) := hy8.cell 2
              have t3 : wd.cell? ⟨q8, 3, none⟩ = some (.int .i64 b3) := hy8.cell 3
              have t4 : wd.cell? ⟨q8, 4, none⟩ = some (.int .i64 b4) := hy8.cell 4
              have t5 : wd.cell? ⟨q8, 5, none⟩ = some (.int .i64 b5) := hy8.cell 5
              have t6 : wd.cell? ⟨q8, 6, none⟩ = some (.int .i64 b6) := hy8.cell 6
              have t7 : wd.cell? ⟨q8, 7, none⟩ = some (.int .i64 b7) := hy8.cell 7
              have t8 : wd.cell? ⟨q8, 8, none⟩ = some (.int .i64 (c.l.length : Int)) := hy8.cell 8
              have f0 := hy8.free 0
              have f1 := hy8.free 1
              have f2 := hy8.free 2
              have f3 := hy8.free 3
              have f4 := hy8.free 4
              have f5 := hy8.free 5
              have f6 := hy8.free 6
              have f7 := hy8.free 7
              have f8 := hy8.free 8
              refine wpAnyH_ready (rs := [9]) (by kernel_rfl) (by simp) (AllReadyH.cons rfl (fun K hK => ?_) AllReadyH.nil)
              go_simp
              have KD := (keep_nine (q := q8) KC (fun _ => .inr rfl) (.int .i64 yb0) (.int .i64 yb1) (.int .i64 yb2) (.int .i64 yb3) (.int .i64 yb4) (.int .i64 yb5) (.int .i64 yb6) (.int .i64 yb7) (.int .i64 ((woP c.l node).length : Int)))
              have hv8 := (box_nine hy8 (.int .i64 yb0) (.int .i64 yb1) (.int .i64 yb2) (.int .i64 yb3) (.int .i64 yb4) (.int .i64 yb5) (.int .i64 yb6) (.int .i64 yb7) (.int .i64 ((woP c.l node).length : Int)))
              have hv7 := (far_nine (q := q8) hy7 (by omega) (.int .i64 yb0) (.int .i64 yb1) (.int .i64 yb2) (.int .i64 yb3) (.int .i64 yb4) (.int .i64 yb5) (.int .i64 yb6) (.int .i64 yb7) (.int .i64 ((woP c.l node).length : Int)))
              refine hK.out _ _ (KD) (fun hHeld => ?_)
              clear hK K
              try simp only [Act.put, List.getElem_toArray, List.getElem_cons_zero, List.getElem_cons_succ, List.setIfInBounds_toArray, List.set_cons_zero, List.set_cons_succ]
              generalize (((((((((wd.setCell ⟨q8, 0, none⟩ (.int .i64 yb0)).setCell ⟨q8, 1, none⟩ (.int .i64 yb1)).setCell ⟨q8, 2, none⟩ (.int .i64 yb2)).setCell ⟨q8, 3, none⟩ (.int .i64 yb3)).setCell ⟨q8, 4, none⟩ (.int .i64 yb4)).setCell ⟨q8, 5, none⟩ (.int .i64 yb5)).setCell ⟨q8, 6, none⟩ (.int .i64 yb6)).setCell ⟨q8, 7, none⟩ (.int .i64 yb7)).setCell ⟨q8, 8, none⟩ (.int .i64 ((woP c.l node).length : Int))) = wf at *
              refine wpAnyH_done (by kernel_rfl) ?_ _
              have HK7 := Lib.hid (HK6.out.trans KD (fun i hi e => by omega))
              have HV2 := Lib.hid (HU2.out.keep KD (by omega))
              have HG7' : Hid (GAt wf q7 (woP c.v node)) := ⟨_, _, _, _, _, _, _, _, hv7, g8a, gta⟩
              have HG8' : Hid (GAt wf q8 (woP c.l node)) := ⟨_, _, _, _, _, _, _, _, hv8, g8b, gtb⟩
              have HV1 := Lib.hid (HU1.out.keep KD (by omega))
              clear hHeld MC HGA HGB KA KB KC KD HA7 HB8 hv7 hv8 hy7 hy8 g8a gta g8b gtb hx7 hx8 ka kb t0 t1 t2 t3 t4 t5 t6 t7 t8 f0 f1 f2 f3 f4 f5 f6 f7 f8 y0 y1 KZ
              have y0 := HV1.out.cell 0
              have y1 := HV1.out.cell 1
              go_upto_region 14 with fail
              obtain ⟨c0, c1, c2, c3, c4, c5, c6, c7, hc, hc8, hct⟩ := HG7'.out
              obtain ⟨d0, d1, d2, d3, d4, d5, d6, d7, hd, hd8, hdt⟩ := HG8'.out
              have HC7 := Lib.hid hc
              have HD8 := Lib.hid hd
              have HLV : Hid (∀ w', Keep (fun i => i = w.heap.size + 1 + 1) wf w' → Calls Try.prog 41 #[.agg #[.int .i64 c0, .int .i64 c1, .int .i64 c2, .int .i64 c3, .int .i64 c4, .int .i64 c5, .int .i64 c6, .int .i64 c7, .int .i64 ((woP c.v node).length : Int)]] w' (ToldZ (woP c.v node) w')) := fun w' _ => glist_any w' _ _ ⟨c0, c1, c2, c3, c4, c5, c6, c7, rfl, hc8, hct⟩
              have HLL : Hid (∀ w', Keep (fun i => i = w.heap.size + 1 + 1) wf w' → Calls Try.prog 41 #[.agg #[.int .i64 d0, .int .i64 d1, .int .i64 d2, .int .i64 d3, .int .i64 d4, .int .i64 d5, .int .i64 d6, .int .i64 d7, .int .i64 ((woP c.l node).length : Int)]] w' (ToldZ (woP c.l node) w')) := fun w' _ => glist_any w' _ _ ⟨d0, d1, d2, d3, d4, d5, d6, d7, rfl, hd8, hdt⟩
              have MC : Hid (∀ w', Keep (fun i => i = w.heap.size + 1 + 1) wf w' → w'.cell? ⟨q7, 0, none⟩ = some (.int .i64 c0) ∧ w'.cell? ⟨q7, 1, none⟩ = some (.int .i64 c1) ∧ w'.cell? ⟨q7, 2, none⟩ = some (.int .i64 c2) ∧ w'.cell? ⟨q7, 3, none⟩ = some (.int .i64 c3) ∧ w'.cell? ⟨q7, 4, none⟩ = some (.int .i64 c4) ∧ w'.cell? ⟨q7, 5, none⟩ = some (.int .i64 c5) ∧ w'.cell? ⟨q7, 6, none⟩ = some (.int .i64 c6) ∧ w'.cell? ⟨q7, 7, none⟩ = some (.int .i64 c7) ∧ w'.cell? ⟨q7, 8, none⟩ = some (.int .i64 ((woP c.v node).length : Int)) ∧ w'.cell? ⟨q8, 0, none⟩ = some (.int .i64 d0) ∧ w'.cell? ⟨q8, 1, none⟩ = some (.int .i64 d1) ∧ w'.cell? ⟨q8, 2, none⟩ = some (.int .i64 d2) ∧ w'.cell? ⟨q8, 3, none⟩ = some (.int .i64 d3) ∧ w'.cell? ⟨q8, 4, none⟩ = some (.int .i64 d4) ∧ w'.cell? ⟨q8, 5, none⟩ = some (.int .i64 d5) ∧ w'.cell? ⟨q8, 6, none⟩ = some (.int .i64 d6) ∧ w'.cell? ⟨q8, 7, none⟩ = some (.int .i64 d7) ∧ w'.cell? ⟨q8, 8, none⟩ = some (.int .i64 ((woP c.l node).length : Int))) := fun w' k => by
                have e7 := HC7.out.keep k (by omega)
                have e8 := HD8.out.keep k (by omega)
                exact ⟨e7.cell 0, e7.cell 1, e7.cell 2, e7.cell 3, e7.cell 4, e7.cell 5, e7.cell 6, e7.cell 7, e7.cell 8, e8.cell 0, e8.cell 1, e8.cell 2, e8.cell 3, e8.cell 4, e8.cell 5, e8.cell 6, e8.cell 7, e8.cell 8⟩
              have MK : Hid (∀ w', Keep (fun i => i = w.heap.size + 1 + 1) wf w' → Keep noneOf w w') := fun w' k => HK7.out.trans k (fun i hi e => by omega)
              have KZ := (Keep.refl (fun i => i = w.heap.size + 1 + 1) wf).drew
              clear hc hd y0 y1
              go_wp2
              refine wp_region_held_drew (S := fun w' => Keep (fun i => i = w.heap.size + 1 + 1) wf w') (by kernel_rfl) (KZ) (fun hHeld => ?_)
              refine' wpAnyH_take (i := 0) (v := _) rfl (by kernel_rfl) (by kernel_rfl) (by kernel_rfl) (fun _ _ _ h => h) (Or.inl ⟨by kernel_rfl, ?hy0⟩) (by assumption) ?_
              case hy0 => intro w' hSw; obtain ⟨_, _, _, _, _, _, _, _, _, _, _, _, _, _, _, _, _, _⟩ := MC.out w' hSw; go_simp; try with_reducible rfl
              simp only [Act.put, List.getElem_toArray, List.getElem_cons_zero, List.getElem_cons_succ, List.setIfInBounds_toArray, List.set_cons_zero, List.set_cons_succ]
              refine' wpAnyH_take (i := 2) (v := _) rfl (by kernel_rfl) (by kernel_rfl) (by kernel_rfl) (fun _ _ _ h => h) (Or.inl ⟨by kernel_rfl, ?hy2⟩) (by assumption) ?_
              case hy2 => intro w' hSw; obtain ⟨_, _, _, _, _, _, _, _, _, _, _, _, _, _, _, _, _, _⟩ := MC.out w' hSw; go_simp; try with_reducible rfl
              simp only [Act.put, List.getElem_toArray, List.getElem_cons_zero, List.getElem_cons_succ, List.setIfInBounds_toArray, List.set_cons_zero, List.set_cons_succ]
              refine wpAnyH_ready (rs := [1]) (by kernel_rfl) (by simp) (AllReadyH.cons rfl (fun K hK => ?_) AllReadyH.nil)
              go_simp
              go_at_call 41
              refine (HLV.out _ KZ).mono ?_
              rintro e wl ⟨vl, rfl, hol, kl⟩
              obtain ⟨Al, cl, rfl⟩ := own_shape hol
              go_wp2_with fail
              have KL := KZ.trans kl (fun _ _ h => h.elim)
              refine hK.out _ _ (KL) (fun hHeld => ?_)
              clear hK K
              try simp only [Act.put, List.getElem_toArray, List.getElem_cons_zero, List.getElem_cons_succ, List.setIfInBounds_toArray, List.set_cons_zero, List.set_cons_succ]
              refine wpAnyH_ready (rs := [3]) (by kernel_rfl) (by simp) (AllReadyH.cons rfl (fun K hK => ?_) AllReadyH.nil)
              go_simp
              go_at_call 41
              refine (HLL.out _ KL).mono ?_
              rintro e wm ⟨vm, rfl, hom, km⟩
              obtain ⟨Am, cm, rfl⟩ := own_shape hom
              go_wp2_with fail
              have KM := KL.trans km (fun _ _ h => h.elim)
              refine hK.out _ _ (KM) (fun hHeld => ?_)
              clear hK K
              try simp only [Act.put, List.getElem_toArray, List.getElem_cons_zero, List.getElem_cons_succ, List.setIfInBounds_toArray, List.set_cons_zero, List.set_cons_succ]
              refine' wpAnyH_take (i := 4) (v := _) rfl (by kernel_rfl) (by kernel_rfl) (by kernel_rfl) (fun _ _ _ h => h) (Or.inl ⟨by kernel_rfl, ?hy4⟩) (by assumption) ?_
              case hy4 => intro w' hSw; obtain ⟨_, _, _, _, _, _, _, _, _, _, _, _, _, _, _, _, _, _⟩ := MC.out w' hSw; go_simp; try with_reducible rfl
              simp only [Act.put, List.getElem_toArray, List.getElem_cons_zero, List.getElem_cons_succ, List.setIfInBounds_toArray, List.set_cons_zero, List.set_cons_succ]
              have U9 := (HV2.out.drew.keep kl id).keep km id
              have z0 := U9.cell 0
              have z1 := U9.cell 1
              have f0 := U9.free 0
              have f1 := U9.free 1
              refine wpAnyH_ready (rs := [5]) (by kernel_rfl) (by simp) (AllReadyH.cons rfl (fun K hK => ?_) AllReadyH.nil)
              go_simp
              have UE := (U9.put 0 (.slice Al (woP c.v node).length cl)).put 1 (.slice Am (woP c.l node).length cm)
              have KE := (KM.setCell (p := ⟨w.heap.size + 1 + 1, 0, none⟩) (fun _ => rfl) (.slice Al (woP c.v node).length cl)).setCell (p := ⟨w.heap.size + 1 + 1, 1, none⟩) (fun _ => rfl) (.slice Am (woP c.l node).length cm)
              have KX := ((Keep.refl (fun i => i = w.heap.size + 1 + 1) wm).setCell (p := ⟨w.heap.size + 1 + 1, 0, none⟩) (fun _ => rfl) (.slice Al (woP c.v node).length cl)).setCell (p := ⟨w.heap.size + 1 + 1, 1, none⟩) (fun _ => rfl) (.slice Am (woP c.l node).length cm)
              refine hK.out _ _ (KE) (fun hHeld => ?_)
              clear hK K
              try simp only [Act.put, List.getElem_toArray, List.getElem_cons_zero, List.getElem_cons_succ, List.setIfInBounds_toArray, List.set_cons_zero, List.set_cons_succ]
              generalize (wm.setCell ⟨w.heap.size + 1 + 1, 0, none⟩ (.slice Al (woP c.v node).length cl)).setCell ⟨w.heap.size + 1 + 1, 1, none⟩ (.slice Am (woP c.l node).length cm) = we at *
              refine wpAnyH_ready (rs := [6]) (by kernel_rfl) (by simp) (AllReadyH.cons rfl (fun K hK => ?_) AllReadyH.nil)
              go_simp
              refine hK.out _ _ (hHeld) (fun hHeld => ?_)
              clear hK K
              try simp only [Act.put, List.getElem_toArray, List.getElem_cons_zero, List.getElem_cons_succ, List.setIfInBounds_toArray, List.set_cons_zero, List.set_cons_succ]
              refine wpAnyH_done (by kernel_rfl) ?_ _
              have r0 := UE.cell 0
              have r1 := UE.cell 1
              have HKE := Lib.hid (MK.out we KE)
              have hpl := HV2.out.lt
              have hsl := kl.size
              have hds : wf.drew.heap.size = wf.heap.size := rfl
              have hzv := (((Zs.of_own hol).keepN km).keep KX (fun i _ hi e => by omega)).any
              have hzw := ((Zs.of_own hom).keep KX (fun i _ hi e => by omega)).any
              have HCE : Hid (CfAt we (fun _ => True) (.agg #[.slice Al (woP c.v node).length cl, .slice Am (woP c.l node).length cm]) ⟨woP c.v node, woP c.l node⟩) := ⟨_, _, rfl, hzv, hzw⟩
              clear hHeld UE KE KX U9 z0 z1 f0 f1 MC MK HLV HLL hol hom kl km KL KM KZ hzv hzw
              go_wp2
              exact bodyPost_ret (v := .tuple #[.agg #[.slice Al (woP c.v node).length cl, .slice Am (woP c.l node).length cm], .int .i64 0]) (by simp [results, Try.results20, go_sem, r0, r1]) rfl ⟨_, rfl, HCE.out, HKE.out⟩
  · have hr := HR.out
    unfold apP at hr
    rw [if_neg hz] at hr
    have HRN := Lib.hid hr
    clear hr HR
    rw [(chk_range c).resolve_left hz]
    clear hz
    have hr : R = (⟨[], []⟩, 140) := HRN.out.symm
    subst hr
    have z0 := HY2.out.cell 0
    have z1 := HY2.out.cell 1
    have f0 := HY2.out.free 0
    have f1 := HY2.out.free 1
    have HBX := Lib.hid ((HY2.out.put 0 (.slice none 0 0)).put 1 (.slice none 0 0))
    have HKE := Lib.hid ((HK4.out.setCell (p := ⟨w.heap.size + 1 + 1, 0, none⟩) (fun hh => absurd hh (by show ¬ w.heap.size + 1 + 1 < w.heap.size; omega)) (.slice none 0 0)).setCell (p := ⟨w.heap.size + 1 + 1, 1, none⟩) (fun hh => absurd hh (by show ¬ w.heap.size + 1 + 1 < w.heap.size; omega)) (.slice none 0 0))
    go_wp2
    have r0 := HBX.out.cell 0
    have r1 := HBX.out.cell 1
    generalize (w4.setCell ⟨w.heap.size + 1 + 1, 0, none⟩ (.slice none 0 0)).setCell ⟨w.heap.size + 1 + 1, 1, none⟩ (.slice none 0 0) = we at *
    go_wp2
    exact bodyPost_ret (v := .tuple #[.agg #[.slice none 0 0, .slice none 0 0], .int .i64 140]) (by simp [results, Try.results20, go_sem, r0, r1]) rfl ⟨_, rfl, CfAt.nil _ _, HKE.out⟩
end Go.Proofs.Ytmncjibokpieoaa
