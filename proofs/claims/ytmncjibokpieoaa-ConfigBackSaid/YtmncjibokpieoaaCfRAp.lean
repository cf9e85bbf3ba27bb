/-
  The document's answers for configurations: Apply.
-/
import Derived.Test.YtmncjibokpieoaaCfRap
namespace Go.Proofs.Ytmncjibokpieoaa
open Go.RowKit

/-- What is behind a change: a configuration, and why it may not be. -/
def Applied (r : Cf × Int) (w : World) (e : Ending) (w' : World) : Prop := ∃ v, e = .returned (.tuple #[v, .int .i64 r.2]) ∧ CfAt w' (fun _ => True) v r.1 ∧ Keep noneOf w w'

set_option maxRecDepth 100000 in
set_option maxHeartbeats 1000000 in
set_option linter.unusedSimpArgs false in
theorem rapply_any (w : World) (D : Nat → Prop) (v : Value) (c : Cf) (kind node : Int) (h : CfAt w D v c) (hfv : c.v.length ≤ 17592186043904) (hfl : c.l.length ≤ 17592186043904) :
    Calls Try.prog 21 #[v, .agg #[.int .i64 kind, .int .i64 node]] w (Applied (apP c kind node) w) := by
  obtain ⟨R, hR⟩ : ∃ R, apP c kind node = R := ⟨_, rfl⟩
  rw [hR]
  unfold apP at hR
  have HR := Lib.hid hR
  have HH := Lib.hid h
  obtain ⟨a, b, rfl, h1, h2⟩ := h
  obtain ⟨A, ca, rfl, hla, hma, _⟩ := h1.shape
  obtain ⟨B, cb, rfl, hlb, hmb, _⟩ := h2.shape
  have H1 := Lib.hid h1
  have H2 := Lib.hid h2
  unfold maxLen at hma hmb
  have K3 := (((Keep.refl noneOf w).alloc (.cells #[.slice A c.v.length ca, .slice B c.l.length cb] 24)).alloc (.cells #[.int .i64 kind, .int .i64 node] 33)).alloc (.cells #[.slice none 0 0, .slice none 0 0] 24)
  have X0 := ((Box.new w 24 #[.slice A c.v.length ca, .slice B c.l.length cb]).alloc (.cells #[.int .i64 kind, .int .i64 node] 33)).alloc (.cells #[.slice none 0 0, .slice none 0 0] 24)
  have X1 := (Box.new (w.alloc (.cells #[.slice A c.v.length ca, .slice B c.l.length cb] 24)) 33 #[.int .i64 kind, .int .i64 node]).alloc (.cells #[.slice none 0 0, .slice none 0 0] 24)
  have X2 := Box.new ((w.alloc (.cells #[.slice A c.v.length ca, .slice B c.l.length cb] 24)).alloc (.cells #[.int .i64 kind, .int .i64 node] 33)) 24 #[.slice none 0 0, .slice none 0 0]
  rw [show (w.alloc (.cells #[.slice A c.v.length ca, .slice B c.l.length cb] 24)).heap.size = w.heap.size + 1 from by simp] at X1
  rw [show ((w.alloc (.cells #[.slice A c.v.length ca, .slice B c.l.length cb] 24)).alloc (.cells #[.int .i64 kind, .int .i64 node] 33)).heap.size = w.heap.size + 1 + 1 from by simp] at X2
  have HK3 := Lib.hid K3
  have HX0 := Lib.hid X0
  have HX1 := Lib.hid X1
  have HX2 := Lib.hid X2
  have HC := Lib.hid (rcheck_any _ D _ c (HH.out.keepN K3))
  clear h1 h2 X0 X1 X2 K3 hR
  go_enter Try.func21, Try.ntmps21
  go_wp2_with fail
  refine HC.out.mono ?_
  rintro e w4 ⟨rfl, k4⟩
  have HK4 := Lib.hid (HK3.out.trans k4 (fun _ _ h => h))
  have HY0 := Lib.hid (HX0.out.keep k4 id)
  have HY1 := Lib.hid (HX1.out.keep k4 id)
  have HY2 := Lib.hid (HX2.out.keep k4 id)
  clear k4 HC HX0 HX1 HX2 HK3
  by_cases hz : chkP c = 0
  · rw [if_pos hz] at HR
    rw [hz]
    clear hz
    have x0 : w4.cell? ⟨w.heap.size, 0, none⟩ = some (.slice A c.v.length ca) := HY0.out.cell 0
    have x1 : w4.cell? ⟨w.heap.size, 1, none⟩ = some (.slice B c.l.length cb) := HY0.out.cell 1
    have y0 : w4.cell? ⟨w.heap.size + 1, 0, none⟩ = some (.int .i64 kind) := HY1.out.cell 0
    have y1 : w4.cell? ⟨w.heap.size + 1, 1, none⟩ = some (.int .i64 node) := HY1.out.cell 1
    have HHS := Lib.hid (rhas_any w4 D _ c node (HH.out.keepN HK4.out))
    generalize hhas : hasP c node = has at *
    clear hhas
    go_wp2_with fail
    refine HHS.out.mono ?_
    rintro e w5 ⟨rfl, k5⟩
    have HK5 := Lib.hid (HK4.out.trans k5 (fun _ _ h => h))
    have HZ0 := Lib.hid (HY0.out.keep k5 id)
    have HZ1 := Lib.hid (HY1.out.keep k5 id)
    have HZ2 := Lib.hid (HY2.out.keep k5 id)
    clear x0 x1 y0 y1 k5 HHS HK4 HY0 HY1 HY2
    have x0 : w5.cell? ⟨w.heap.size, 0, none⟩ = some (.slice A c.v.length ca) := HZ0.out.cell 0
    have x1 : w5.cell? ⟨w.heap.size, 1, none⟩ = some (.slice B c.l.length cb) := HZ0.out.cell 1
    have y0 : w5.cell? ⟨w.heap.size + 1, 0, none⟩ = some (.int .i64 kind) := HZ1.out.cell 0
    have y1 : w5.cell? ⟨w.heap.size + 1, 1, none⟩ = some (.int .i64 node) := HZ1.out.cell 1
    have HVS := Lib.hid (rvotes_any w5 D _ c node (HH.out.keepN HK5.out))
    generalize hvot : inP c.v node = vot at *
    clear hvot
    go_wp2_with fail
    refine HVS.out.mono ?_
    rintro e w6 ⟨rfl, k6⟩
    have HK6 := Lib.hid (HK5.out.trans k6 (fun _ _ h => h))
    have HU0 := Lib.hid (HZ0.out.keep k6 id)
    have HU1 := Lib.hid (HZ1.out.keep k6 id)
    have HU2 := Lib.hid (HZ2.out.keep k6 id)
    clear x0 x1 y0 y1 k6 HVS HK5 HZ0 HZ1 HZ2
    have x0 : w6.cell? ⟨w.heap.size, 0, none⟩ = some (.slice A c.v.length ca) := HU0.out.cell 0
    have x1 : w6.cell? ⟨w.heap.size, 1, none⟩ = some (.slice B c.l.length cb) := HU0.out.cell 1
    have y0 : w6.cell? ⟨w.heap.size + 1, 0, none⟩ = some (.int .i64 kind) := HU1.out.cell 0
    have y1 : w6.cell? ⟨w.heap.size + 1, 1, none⟩ = some (.int .i64 node) := HU1.out.cell 1
    have MC : Hid (∀ w', Keep (fun i => i = w.heap.size + 1 + 1) w6 w' → w'.cell? ⟨w.heap.size, 0, none⟩ = some (.slice A c.v.length ca) ∧ w'.cell? ⟨w.heap.size, 1, none⟩ = some (.slice B c.l.length cb) ∧ w'.cell? ⟨w.heap.size + 1, 0, none⟩ = some (.int .i64 kind) ∧ w'.cell? ⟨w.heap.size + 1, 1, none⟩ = some (.int .i64 node)) := fun w' k => by
      have a := HU0.out.keep k (by omega)
      have b := HU1.out.keep k (by omega)
      exact ⟨a.cell 0, a.cell 1, b.cell 0, b.cell 1⟩
    have MK : Hid (∀ w', Keep (fun i => i = w.heap.size + 1 + 1) w6 w' → Keep noneOf w w') := fun w' k => HK6.out.trans k (fun i hi e => by omega)
    have CW : Hid (∀ (w' : World) (u : Value) (l : List Int), (u = .slice A c.v.length ca ∧ l = c.v ∨ u = .slice B c.l.length cb ∧ l = c.l) → Keep (fun i => i = w.heap.size + 1 + 1) w6 w' → Calls Try.prog 42 #[u, .int .i64 node] w' (ToldZ (withP l node) w')) := fun w' u l hu k => by
      rcases hu with ⟨rfl, rfl⟩ | ⟨rfl, rfl⟩
      · exact rwith_any w' D _ c.v node (H1.out.keepN (MK.out w' k)) (by omega)
      · exact rwith_any w' D _ c.l node (H2.out.keepN (MK.out w' k)) (by omega)
    have CO : Hid (∀ (w' : World) (u : Value) (l : List Int), (u = .slice A c.v.length ca ∧ l = c.v ∨ u = .slice B c.l.length cb ∧ l = c.l) → Keep (fun i => i = w.heap.size + 1 + 1) w6 w' → Calls Try.prog 43 #[u, .int .i64 node] w' (ToldZ (woP l node) w')) := fun w' u l hu k => by
      rcases hu with ⟨rfl, rfl⟩ | ⟨rfl, rfl⟩
      · exact rwo_any w' D _ c.v node (H1.out.keepN (MK.out w' k)) (by omega)
      · exact rwo_any w' D _ c.l node (H2.out.keepN (MK.out w' k)) (by omega)
    have KZ := (Keep.refl (fun i => i = w.heap.size + 1 + 1) w6).drew
    by_cases e1 : kind = 1
    · subst e1
      cases has with
      | true =>
        clear MC MK CW CO KZ
        obtain rfl : R = (⟨[], []⟩, 141) := by rw [← HR.out]; simp
        have z0 := HU2.out.cell 0
        have z1 := HU2.out.cell 1
        have f0 := HU2.out.free 0
        have f1 := HU2.out.free 1
        have HBX := Lib.hid ((HU2.out.put 0 (.slice none 0 0)).put 1 (.slice none 0 0))
        have HKE := Lib.hid ((HK6.out.setCell (p := ⟨w.heap.size + 1 + 1, 0, none⟩) (fun hh => absurd hh (by show ¬ w.heap.size + 1 + 1 < w.heap.size; omega)) (.slice none 0 0)).setCell (p := ⟨w.heap.size + 1 + 1, 1, none⟩) (fun hh => absurd hh (by show ¬ w.heap.size + 1 + 1 < w.heap.size; omega)) (.slice none 0 0))
        go_wp2
        have r0 := HBX.out.cell 0
        have r1 := HBX.out.cell 1
        generalize (w6.setCell ⟨w.heap.size + 1 + 1, 0, none⟩ (.slice none 0 0)).setCell ⟨w.heap.size + 1 + 1, 1, none⟩ (.slice none 0 0) = we at *
        go_wp2
        exact bodyPost_ret (v := .tuple #[.agg #[.slice none 0 0, .slice none 0 0], .int .i64 141]) (by simp [results, Try.results21, go_sem, r0, r1]) rfl ⟨_, rfl, CfAt.nil _ _, HKE.out⟩
      | false =>
        by_cases n0 : 0 ≤ node
        · by_cases n7 : node ≤ 7
          · skip
            obtain rfl : R = (⟨c.v, withP c.l node⟩, 0) := by rw [← HR.out, if_pos ⟨rfl, rfl, n0, n7⟩]
            go_wp2
            refine wp_region_held_drew (S := fun w' => Keep (fun i => i = w.heap.size + 1 + 1) w6 w') (by kernel_rfl) (KZ) (fun hHeld => ?_)
            refine' wpAnyH_take (i := 0) (v := _) rfl (by kernel_rfl) (by kernel_rfl) (by kernel_rfl) (fun _ _ _ h => h) (Or.inl ⟨by kernel_rfl, ?hy0⟩) (by assumption) ?_
            case hy0 => intro w' hSw; obtain ⟨_, _, _, _⟩ := MC.out w' hSw; go_simp; try with_reducible rfl
            simp only [Act.put, List.getElem_toArray, List.getElem_cons_zero, List.getElem_cons_succ, List.setIfInBounds_toArray, List.set_cons_zero, List.set_cons_succ]
            refine' wpAnyH_take (i := 1) (v := _) rfl (by kernel_rfl) (by kernel_rfl) (by kernel_rfl) (fun _ _ _ h => h) (Or.inl ⟨by kernel_rfl, ?hy1⟩) (by assumption) ?_
            case hy1 => intro w' hSw; obtain ⟨_, _, _, _⟩ := MC.out w' hSw; go_simp; try with_reducible rfl
            simp only [Act.put, List.getElem_toArray, List.getElem_cons_zero, List.getElem_cons_succ, List.setIfInBounds_toArray, List.set_cons_zero, List.set_cons_succ]
            refine' wpAnyH_take (i := 2) (v := _) rfl (by kernel_rfl) (by kernel_rfl) (by kernel_rfl) (fun _ _ _ h => h) (Or.inl ⟨by kernel_rfl, ?hy2⟩) (by assumption) ?_
            case hy2 => intro w' hSw; obtain ⟨_, _, _, _⟩ := MC.out w' hSw; go_simp; try with_reducible rfl
            simp only [Act.put, List.getElem_toArray, List.getElem_cons_zero, List.getElem_cons_succ, List.setIfInBounds_toArray, List.set_cons_zero, List.set_cons_succ]
            refine' wpAnyH_take (i := 3) (v := _) rfl (by kernel_rfl) (by kernel_rfl) (by kernel_rfl) (fun _ _ _ h => h) (Or.inl ⟨by kernel_rfl, ?hy3⟩) (by assumption) ?_
            case hy3 => intro w' hSw; obtain ⟨_, _, _, _⟩ := MC.out w' hSw; go_simp; try with_reducible rfl
            simp only [Act.put, List.getElem_toArray, List.getElem_cons_zero, List.getElem_cons_succ, List.setIfInBounds_toArray, List.set_cons_zero, List.set_cons_succ]
            refine' wpAnyH_take (i := 4) (v := _) rfl (by kernel_rfl) (by kernel_rfl) (by kernel_rfl) (fun _ _ _ h => h) (Or.inl ⟨by kernel_rfl, ?hy4⟩) (by assumption) ?_
            case hy4 => intro w' hSw; obtain ⟨_, _, _, _⟩ := MC.out w' hSw; go_simp; try with_reducible rfl
            simp only [Act.put, List.getElem_toArray, List.getElem_cons_zero, List.getElem_cons_succ, List.setIfInBounds_toArray, List.set_cons_zero, List.set_cons_succ]
            refine' wpAnyH_take (i := 5) (v := _) rfl (by kernel_rfl) (by kernel_rfl) (by kernel_rfl) (fun _ _ _ h => h) (Or.inl ⟨by kernel_rfl, ?hy5⟩) (by assumption) ?_
            case hy5 => intro w' hSw; obtain ⟨_, _, _, _⟩ := MC.out w' hSw; go_simp; try with_reducible rfl
            simp only [Act.put, List.getElem_toArray, List.getElem_cons_zero, List.getElem_cons_succ, List.setIfInBounds_toArray, List.set_cons_zero, List.set_cons_succ]
            refine wpAnyH_ready (rs := [6]) (by kernel_rfl) (by simp) (AllReadyH.cons rfl (fun K hK => ?_) AllReadyH.nil)
            go_simp
            go_at_call 42
            refine (CW.out _ _ c.l (.inr ⟨rfl, rfl⟩) KZ).mono ?_
            rintro e w7 ⟨v7, rfl, hown7, k7⟩
            obtain ⟨A7, c7, rfl⟩ := own_shape hown7
            go_wp2_with fail
            have KK7 : Keep (fun i => i = w.heap.size + 1 + 1) w6 w7 := KZ.trans k7 (fun _ _ h => h.elim)
            refine hK.out _ _ (KK7) (fun hHeld => ?_)
            clear hK K
            try simp only [Act.put, List.getElem_toArray, List.getElem_cons_zero, List.getElem_cons_succ, List.setIfInBounds_toArray, List.set_cons_zero, List.set_cons_succ]
            refine' wpAnyH_take (i := 7) (v := _) rfl (by kernel_rfl) (by kernel_rfl) (by kernel_rfl) (fun _ _ _ h => h) (Or.inl ⟨by kernel_rfl, ?hy7⟩) (by assumption) ?_
            case hy7 => intro w' hSw; obtain ⟨_, _, _, _⟩ := MC.out w' hSw; go_simp; try with_reducible rfl
            simp only [Act.put, List.getElem_toArray, List.getElem_cons_zero, List.getElem_cons_succ, List.setIfInBounds_toArray, List.set_cons_zero, List.set_cons_succ]
            have U2 : Box w7 (w.heap.size + 1 + 1) 24 #[.slice none 0 0, .slice none 0 0] := HU2.out.drew.keep k7 id
            have z0 := U2.cell 0
            have z1 := U2.cell 1
            have f0 := U2.free 0
            have f1 := U2.free 1
            refine wpAnyH_ready (rs := [8]) (by kernel_rfl) (by simp) (AllReadyH.cons rfl (fun K hK => ?_) AllReadyH.nil)
            go_simp
            have UE := (U2.put 0 (.slice A c.v.length ca)).put 1 (.slice A7 (withP c.l node).length c7)
            have KE := (KK7.setCell (p := ⟨w.heap.size + 1 + 1, 0, none⟩) (fun _ => rfl) (.slice A c.v.length ca)).setCell (p := ⟨w.heap.size + 1 + 1, 1, none⟩) (fun _ => rfl) (.slice A7 (withP c.l node).length c7)
            have KX := ((Keep.refl (fun i => i = w.heap.size + 1 + 1) w7).setCell (p := ⟨w.heap.size + 1 + 1, 0, none⟩) (fun _ => rfl) (.slice A c.v.length ca)).setCell (p := ⟨w.heap.size + 1 + 1, 1, none⟩) (fun _ => rfl) (.slice A7 (withP c.l node).length c7)
            refine hK.out _ _ (KE) (fun hHeld => ?_)
            clear hK K
            try simp only [Act.put, List.getElem_toArray, List.getElem_cons_zero, List.getElem_cons_succ, List.setIfInBounds_toArray, List.set_cons_zero, List.set_cons_succ]
            generalize (w7.setCell ⟨w.heap.size + 1 + 1, 0, none⟩ (.slice A c.v.length ca)).setCell ⟨w.heap.size + 1 + 1, 1, none⟩ (.slice A7 (withP c.l node).length c7) = we at *
            refine wpAnyH_ready (rs := [9]) (by kernel_rfl) (by simp) (AllReadyH.cons rfl (fun K hK => ?_) AllReadyH.nil)
            go_simp
            refine hK.out _ _ (hHeld) (fun hHeld => ?_)
            clear hK K
            try simp only [Act.put, List.getElem_toArray, List.getElem_cons_zero, List.getElem_cons_succ, List.setIfInBounds_toArray, List.set_cons_zero, List.set_cons_succ]
            refine wpAnyH_done (by kernel_rfl) ?_ _
            have r0 := UE.cell 0
            have r1 := UE.cell 1
            have HKE := Lib.hid (MK.out we KE)
            have hp2 := HU2.out.lt
            have hds : w6.drew.heap.size = w6.heap.size := rfl
            have hzw := ((Zs.of_own hown7).keep KX (fun i _ hi e => by omega)).any
            have HCE : Hid (CfAt we (fun _ => True) (.agg #[.slice A c.v.length ca, .slice A7 (withP c.l node).length c7]) ⟨c.v, withP c.l node⟩) := ⟨_, _, rfl, (H1.out.keepN (MK.out we KE)).any, hzw⟩
            clear hHeld UE KE KX U2 z0 z1 f0 f1 MC MK CW CO x0 x1 y0 y1
            go_wp2
            exact bodyPost_ret (v := .tuple #[.agg #[.slice A c.v.length ca, .slice A7 (withP c.l node).length c7], .int .i64 0]) (by simp [results, Try.results21, go_sem, r0, r1]) rfl ⟨_, rfl, HCE.out, HKE.out⟩
          · skip
            clear MC MK CW CO KZ
            obtain rfl : R = (⟨[], []⟩, 141) := by rw [← HR.out]; simp [n7]
            have z0 := HU2.out.cell 0
            have z1 := HU2.out.cell 1
            have f0 := HU2.out.free 0
            have f1 := HU2.out.free 1
            have HBX := Lib.hid ((HU2.out.put 0 (.slice none 0 0)).put 1 (.slice none 0 0))
            have HKE := Lib.hid ((HK6.out.setCell (p := ⟨w.heap.size + 1 + 1, 0, none⟩) (fun hh => absurd hh (by show ¬ w.heap.size + 1 + 1 < w.heap.size; omega)) (.slice none 0 0)).setCell (p := ⟨w.heap.size + 1 + 1, 1, none⟩) (fun hh => absurd hh (by show ¬ w.heap.size + 1 + 1 < w.heap.size; omega)) (.slice none 0 0))
            go_wp2
            have r0 := HBX.out.cell 0
            have r1 := HBX.out.cell 1
            generalize (w6.setCell ⟨w.heap.size + 1 + 1, 0, none⟩ (.slice none 0 0)).setCell ⟨w.heap.size + 1 + 1, 1, none⟩ (.slice none 0 0) = we at *
            go_wp2
            exact bodyPost_ret (v := .tuple #[.agg #[.slice none 0 0, .slice none 0 0], .int .i64 141]) (by simp [results, Try.results21, go_sem, r0, r1]) rfl ⟨_, rfl, CfAt.nil _ _, HKE.out⟩
        · skip
          clear MC MK CW CO KZ
          obtain rfl : R = (⟨[], []⟩, 141) := by rw [← HR.out]; simp [n0]
          have z0 := HU2.out.cell 0
          have z1 := HU2.out.cell 1
          have f0 := HU2.out.free 0
          have f1 := HU2.out.free 1
          have HBX := Lib.hid ((HU2.out.put 0 (.slice none 0 0)).put 1 (.slice none 0 0))
          have HKE := Lib.hid ((HK6.out.setCell (p := ⟨w.heap.size + 1 + 1, 0, none⟩) (fun hh => absurd hh (by show ¬ w.heap.size + 1 + 1 < w.heap.size; omega)) (.slice none 0 0)).setCell (p := ⟨w.heap.size + 1 + 1, 1, none⟩) (fun hh => absurd hh (by show ¬ w.heap.size + 1 + 1 < w.heap.size; omega)) (.slice none 0 0))
          go_wp2
          have r0 := HBX.out.cell 0
          have r1 := HBX.out.cell 1
          generalize (w6.setCell ⟨w.heap.size + 1 + 1, 0, none⟩ (.slice none 0 0)).setCell ⟨w.heap.size + 1 + 1, 1, none⟩ (.slice none 0 0) = we at *
          go_wp2
          exact bodyPost_ret (v := .tuple #[.agg #[.slice none 0 0, .slice none 0 0], .int .i64 141]) (by simp [results, Try.results21, go_sem, r0, r1]) rfl ⟨_, rfl, CfAt.nil _ _, HKE.out⟩
    · have g1 : (kind == 1) = false := by simp [e1]
      by_cases e2 : kind = 2
      · subst e2
        cases has with
        | false =>
          clear MC MK CW CO KZ
          obtain rfl : R = (⟨[], []⟩, 141) := by rw [← HR.out]; simp
          have z0 := HU2.out.cell 0
          have z1 := HU2.out.cell 1
          have f0 := HU2.out.free 0
          have f1 := HU2.out.free 1
          have HBX := Lib.hid ((HU2.out.put 0 (.slice none 0 0)).put 1 (.slice none 0 0))
          have HKE := Lib.hid ((HK6.out.setCell (p := ⟨w.heap.size + 1 + 1, 0, none⟩) (fun hh => absurd hh (by show ¬ w.heap.size + 1 + 1 < w.heap.size; omega)) (.slice none 0 0)).setCell (p := ⟨w.heap.size + 1 + 1, 1, none⟩) (fun hh => absurd hh (by show ¬ w.heap.size + 1 + 1 < w.heap.size; omega)) (.slice none 0 0))
          go_wp2
          have r0 := HBX.out.cell 0
          have r1 := HBX.out.cell 1
          generalize (w6.setCell ⟨w.heap.size + 1 + 1, 0, none⟩ (.slice none 0 0)).setCell ⟨w.heap.size + 1 + 1, 1, none⟩ (.slice none 0 0) = we at *
          go_wp2
          exact bodyPost_ret (v := .tuple #[.agg #[.slice none 0 0, .slice none 0 0], .int .i64 141]) (by simp [results, Try.results21, go_sem, r0, r1]) rfl ⟨_, rfl, CfAt.nil _ _, HKE.out⟩
        | true =>
          cases vot with
          | true =>
            clear MC MK CW CO KZ
            obtain rfl : R = (⟨[], []⟩, 141) := by rw [← HR.out]; simp
            have z0 := HU2.out.cell 0
            have z1 := HU2.out.cell 1
            have f0 := HU2.out.free 0
            have f1 := HU2.out.free 1
            have HBX := Lib.hid ((HU2.out.put 0 (.slice none 0 0)).put 1 (.slice none 0 0))
            have HKE := Lib.hid ((HK6.out.setCell (p := ⟨w.heap.size + 1 + 1, 0, none⟩) (fun hh => absurd hh (by show ¬ w.heap.size + 1 + 1 < w.heap.size; omega)) (.slice none 0 0)).setCell (p := ⟨w.heap.size + 1 + 1, 1, none⟩) (fun hh => absurd hh (by show ¬ w.heap.size + 1 + 1 < w.heap.size; omega)) (.slice none 0 0))
            go_wp2
            have r0 := HBX.out.cell 0
            have r1 := HBX.out.cell 1
            generalize (w6.setCell ⟨w.heap.size + 1 + 1, 0, none⟩ (.slice none 0 0)).setCell ⟨w.heap.size + 1 + 1, 1, none⟩ (.slice none 0 0) = we at *
            go_wp2
            exact bodyPost_ret (v := .tuple #[.agg #[.slice none 0 0, .slice none 0 0], .int .i64 141]) (by simp [results, Try.results21, go_sem, r0, r1]) rfl ⟨_, rfl, CfAt.nil _ _, HKE.out⟩
          | false =>
            obtain rfl : R = (⟨withP c.v node, woP c.l node⟩, 0) := by rw [← HR.out]; simp
            go_wp2
            refine wp_region_held_drew (S := fun w' => Keep (fun i => i = w.heap.size + 1 + 1) w6 w') (by kernel_rfl) (KZ) (fun hHeld => ?_)
            refine' wpAnyH_take (i := 0) (v := _) rfl (by kernel_rfl) (by kernel_rfl) (by kernel_rfl) (fun _ _ _ h => h) (Or.inl ⟨by kernel_rfl, ?hy0⟩) (by assumption) ?_
            case hy0 => intro w' hSw; obtain ⟨_, _, _, _⟩ := MC.out w' hSw; go_simp; try with_reducible rfl
            simp only [Act.put, List.getElem_toArray, List.getElem_cons_zero, List.getElem_cons_succ, List.setIfInBounds_toArray, List.set_cons_zero, List.set_cons_succ]
            refine' wpAnyH_take (i := 1) (v := _) rfl (by kernel_rfl) (by kernel_rfl) (by kernel_rfl) (fun _ _ _ h => h) (Or.inl ⟨by kernel_rfl, ?hy1⟩) (by assumption) ?_
            case hy1 => intro w' hSw; obtain ⟨_, _, _, _⟩ := MC.out w' hSw; go_simp; try with_reducible rfl
            simp only [Act.put, List.getElem_toArray, List.getElem_cons_zero, List.getElem_cons_succ, List.setIfInBounds_toArray, List.set_cons_zero, List.set_cons_succ]
            refine' wpAnyH_take (i := 2) (v := _) rfl (by kernel_rfl) (by kernel_rfl) (by kernel_rfl) (fun _ _ _ h => h) (Or.inl ⟨by kernel_rfl, ?hy2⟩) (by assumption) ?_
            case hy2 => intro w' hSw; obtain ⟨_, _, _, _⟩ := MC.out w' hSw; go_simp; try with_reducible rfl
            simp only [Act.put, List.getElem_toArray, List.getElem_cons_zero, List.getElem_cons_succ, List.setIfInBounds_toArray, List.set_cons_zero, List.set_cons_succ]
            refine' wpAnyH_take (i := 3) (v := _) rfl (by kernel_rfl) (by kernel_rfl) (by kernel_rfl) (fun _ _ _ h => h) (Or.inl ⟨by kernel_rfl, ?hy3⟩) (by assumption) ?_
            case hy3 => intro w' hSw; obtain ⟨_, _, _, _⟩ := MC.out w' hSw; go_simp; try with_reducible rfl
            simp only [Act.put, List.getElem_toArray, List.getElem_cons_zero, List.getElem_cons_succ, List.setIfInBounds_toArray, List.set_cons_zero, List.set_cons_succ]
            refine' wpAnyH_take (i := 5) (v := _) rfl (by kernel_rfl) (by kernel_rfl) (by kernel_rfl) (fun _ _ _ h => h) (Or.inl ⟨by kernel_rfl, ?hy5⟩) (by assumption) ?_
            case hy5 => intro w' hSw; obtain ⟨_, _, _, _⟩ := MC.out w' hSw; go_simp; try with_reducible rfl
            simp only [Act.put, List.getElem_toArray, List.getElem_cons_zero, List.getElem_cons_succ, List.setIfInBounds_toArray, List.set_cons_zero, List.set_cons_succ]
            refine' wpAnyH_take (i := 6) (v := _) rfl (by kernel_rfl) (by kernel_rfl) (by kernel_rfl) (fun _ _ _ h => h) (Or.inl ⟨by kernel_rfl, ?hy6⟩) (by assumption) ?_
            case hy6 => intro w' hSw; obtain ⟨_, _, _, _⟩ := MC.out w' hSw; go_simp; try with_reducible rfl
            simp only [Act.put, List.getElem_toArray, List.getElem_cons_zero, List.getElem_cons_succ, List.setIfInBounds_toArray, List.set_cons_zero, List.set_cons_succ]
            refine' wpAnyH_take (i := 7) (v := _) rfl (by kernel_rfl) (by kernel_rfl) (by kernel_rfl) (fun _ _ _ h => h) (Or.inl ⟨by kernel_rfl, ?hy7⟩) (by assumption) ?_
            case hy7 => intro w' hSw; obtain ⟨_, _, _, _⟩ := MC.out w' hSw; go_simp; try with_reducible rfl
            simp only [Act.put, List.getElem_toArray, List.getElem_cons_zero, List.getElem_cons_succ, List.setIfInBounds_toArray, List.set_cons_zero, List.set_cons_succ]
            refine' wpAnyH_take (i := 8) (v := _) rfl (by kernel_rfl) (by kernel_rfl) (by kernel_rfl) (fun _ _ _ h => h) (Or.inl ⟨by kernel_rfl, ?hy8⟩) (by assumption) ?_
            case hy8 => intro w' hSw; obtain ⟨_, _, _, _⟩ := MC.out w' hSw; go_simp; try with_reducible rfl
            simp only [Act.put, List.getElem_toArray, List.getElem_cons_zero, List.getElem_cons_succ, List.setIfInBounds_toArray, List.set_cons_zero, List.set_cons_succ]
            refine wpAnyH_ready (rs := [4]) (by kernel_rfl) (by simp) (AllReadyH.cons rfl (fun K hK => ?_) AllReadyH.nil)
            go_simp
            go_at_call 42
            refine (CW.out _ _ c.v (.inl ⟨rfl, rfl⟩) KZ).mono ?_
            rintro e w7 ⟨v7, rfl, hown7, k7⟩
            obtain ⟨A7, c7, rfl⟩ := own_shape hown7
            go_wp2_with fail
            have KK7 : Keep (fun i => i = w.heap.size + 1 + 1) w6 w7 := KZ.trans k7 (fun _ _ h => h.elim)
            refine hK.out _ _ (KK7) (fun hHeld => ?_)
            clear hK K
            try simp only [Act.put, List.getElem_toArray, List.getElem_cons_zero, List.getElem_cons_succ, List.setIfInBounds_toArray, List.set_cons_zero, List.set_cons_succ]
            refine wpAnyH_ready (rs := [9]) (by kernel_rfl) (by simp) (AllReadyH.cons rfl (fun K hK => ?_) AllReadyH.nil)
            go_simp
            go_at_call 43
            refine (CO.out _ _ c.l (.inr ⟨rfl, rfl⟩) KK7).mono ?_
            rintro e w8 ⟨v8, rfl, hown8, k8⟩
            obtain ⟨A8, c8, rfl⟩ := own_shape hown8
            go_wp2_with fail
            have KK8 : Keep (fun i => i = w.heap.size + 1 + 1) w6 w8 := KK7.trans k8 (fun _ _ h => h.elim)
            refine hK.out _ _ (KK8) (fun hHeld => ?_)
            clear hK K
            try simp only [Act.put, List.getElem_toArray, List.getElem_cons_zero, List.getElem_cons_succ, List.setIfInBounds_toArray, List.set_cons_zero, List.set_cons_succ]
            refine' wpAnyH_take (i := 10) (v := _) rfl (by kernel_rfl) (by kernel_rfl) (by kernel_rfl) (fun _ _ _ h => h) (Or.inl ⟨by kernel_rfl, ?hy10⟩) (by assumption) ?_
            case hy10 => intro w' hSw; obtain ⟨_, _, _, _⟩ := MC.out w' hSw; go_simp; try with_reducible rfl
            simp only [Act.put, List.getElem_toArray, List.getElem_cons_zero, List.getElem_cons_succ, List.setIfInBounds_toArray, List.set_cons_zero, List.set_cons_succ]
            have U2 : Box w8 (w.heap.size + 1 + 1) 24 #[.slice none 0 0, .slice none 0 0] := (HU2.out.drew.keep k7 id).keep k8 id
            have z0 := U2.cell 0
            have z1 := U2.cell 1
            have f0 := U2.free 0
            have f1 := U2.free 1
            refine wpAnyH_ready (rs := [11]) (by kernel_rfl) (by simp) (AllReadyH.cons rfl (fun K hK => ?_) AllReadyH.nil)
            go_simp
            have UE := (U2.put 0 (.slice A7 (withP c.v node).length c7)).put 1 (.slice A8 (woP c.l node).length c8)
            have KE := (KK8.setCell (p := ⟨w.heap.size + 1 + 1, 0, none⟩) (fun _ => rfl) (.slice A7 (withP c.v node).length c7)).setCell (p := ⟨w.heap.size + 1 + 1, 1, none⟩) (fun _ => rfl) (.slice A8 (woP c.l node).length c8)
            have KX := ((Keep.refl (fun i => i = w.heap.size + 1 + 1) w8).setCell (p := ⟨w.heap.size + 1 + 1, 0, none⟩) (fun _ => rfl) (.slice A7 (withP c.v node).length c7)).setCell (p := ⟨w.heap.size + 1 + 1, 1, none⟩) (fun _ => rfl) (.slice A8 (woP c.l node).length c8)
            refine hK.out _ _ (KE) (fun hHeld => ?_)
            clear hK K
            try simp only [Act.put, List.getElem_toArray, List.getElem_cons_zero, List.getElem_cons_succ, List.setIfInBounds_toArray, List.set_cons_zero, List.set_cons_succ]
            generalize (w8.setCell ⟨w.heap.size + 1 + 1, 0, none⟩ (.slice A7 (withP c.v node).length c7)).setCell ⟨w.heap.size + 1 + 1, 1, none⟩ (.slice A8 (woP c.l node).length c8) = we at *
            refine wpAnyH_ready (rs := [12]) (by kernel_rfl) (by simp) (AllReadyH.cons rfl (fun K hK => ?_) AllReadyH.nil)
            go_simp
            refine hK.out _ _ (hHeld) (fun hHeld => ?_)
            clear hK K
            try simp only [Act.put, List.getElem_toArray, List.getElem_cons_zero, List.getElem_cons_succ, List.setIfInBounds_toArray, List.set_cons_zero, List.set_cons_succ]
            refine wpAnyH_done (by kernel_rfl) ?_ _
            have r0 := UE.cell 0
            have r1 := UE.cell 1
            have HKE := Lib.hid (MK.out we KE)
            have hp2 := HU2.out.lt
            have hds : w6.drew.heap.size = w6.heap.size := rfl
            have h78 := k7.size
            have hzv := (((Zs.of_own hown7).keepN k8).keep KX (fun i _ hi e => by omega)).any
            have hzw := ((Zs.of_own hown8).keep KX (fun i _ hi e => by omega)).any
            have HCE : Hid (CfAt we (fun _ => True) (.agg #[.slice A7 (withP c.v node).length c7, .slice A8 (woP c.l node).length c8]) ⟨withP c.v node, woP c.l node⟩) := ⟨_, _, rfl, hzv, hzw⟩
            clear hHeld UE KE KX U2 z0 z1 f0 f1 MC MK CW CO x0 x1 y0 y1
            go_wp2
            exact bodyPost_ret (v := .tuple #[.agg #[.slice A7 (withP c.v node).length c7, .slice A8 (woP c.l node).length c8], .int .i64 0]) (by simp [results, Try.results21, go_sem, r0, r1]) rfl ⟨_, rfl, HCE.out, HKE.out⟩
      · have g2 : (kind == 2) = false := by simp [e2]
        by_cases e3 : kind = 3
        · subst e3
          cases has with
          | false =>
            clear MC MK CW CO KZ
            obtain rfl : R = (⟨[], []⟩, 141) := by rw [← HR.out]; simp
            have z0 := HU2.out.cell 0
            have z1 := HU2.out.cell 1
            have f0 := HU2.out.free 0
            have f1 := HU2.out.free 1
            have HBX := Lib.hid ((HU2.out.put 0 (.slice none 0 0)).put 1 (.slice none 0 0))
            have HKE := Lib.hid ((HK6.out.setCell (p := ⟨w.heap.size + 1 + 1, 0, none⟩) (fun hh => absurd hh (by show ¬ w.heap.size + 1 + 1 < w.heap.size; omega)) (.slice none 0 0)).setCell (p := ⟨w.heap.size + 1 + 1, 1, none⟩) (fun hh => absurd hh (by show ¬ w.heap.size + 1 + 1 < w.heap.size; omega)) (.slice none 0 0))
            go_wp2
            have r0 := HBX.out.cell 0
            have r1 := HBX.out.cell 1
            generalize (w6.setCell ⟨w.heap.size + 1 + 1, 0, none⟩ (.slice none 0 0)).setCell ⟨w.heap.size + 1 + 1, 1, none⟩ (.slice none 0 0) = we at *
            go_wp2
            exact bodyPost_ret (v := .tuple #[.agg #[.slice none 0 0, .slice none 0 0], .int .i64 141]) (by simp [results, Try.results21, go_sem, r0, r1]) rfl ⟨_, rfl, CfAt.nil _ _, HKE.out⟩
          | true =>
            cases vot with
            | false =>
              obtain rfl : R = (⟨woP c.v node, woP c.l node⟩, 0) := by rw [← HR.out]; simp
              go_wp2
              refine wp_region_held_drew (S := fun w' => Keep (fun i => i = w.heap.size + 1 + 1) w6 w') (by kernel_rfl) (KZ) (fun hHeld => ?_)
              refine' wpAnyH_take (i := 0) (v := _) rfl (by kernel_rfl) (by kernel_rfl) (by kernel_rfl) (fun _ _ _ h => h) (Or.inl ⟨by kernel_rfl, ?hy0⟩) (by assumption) ?_
              case hy0 => intro w' hSw; obtain ⟨_, _, _, _⟩ := MC.out w' hSw; go_simp; try with_reducible rfl
              simp only [Act.put, List.getElem_toArray, List.getElem_cons_zero, List.getElem_cons_succ, List.setIfInBounds_toArray, List.set_cons_zero, List.set_cons_succ]
              refine' wpAnyH_take (i := 1) (v := _) rfl (by kernel_rfl) (by kernel_rfl) (by kernel_rfl) (fun _ _ _ h => h) (Or.inl ⟨by kernel_rfl, ?hy1⟩) (by assumption) ?_
              case hy1 => intro w' hSw; obtain ⟨_, _, _, _⟩ := MC.out w' hSw; go_simp; try with_reducible rfl
              simp only [Act.put, List.getElem_toArray, List.getElem_cons_zero, List.getElem_cons_succ, List.setIfInBounds_toArray, List.set_cons_zero, List.set_cons_succ]
              refine' wpAnyH_take (i := 2) (v := _) rfl (by kernel_rfl) (by kernel_rfl) (by kernel_rfl) (fun _ _ _ h => h) (Or.inl ⟨by kernel_rfl, ?hy2⟩) (by assumption) ?_
              case hy2 => intro w' hSw; obtain ⟨_, _, _, _⟩ := MC.out w' hSw; go_simp; try with_reducible rfl
              simp only [Act.put, List.getElem_toArray, List.getElem_cons_zero, List.getElem_cons_succ, List.setIfInBounds_toArray, List.set_cons_zero, List.set_cons_succ]
              refine' wpAnyH_take (i := 3) (v := _) rfl (by kernel_rfl) (by kernel_rfl) (by kernel_rfl) (fun _ _ _ h => h) (Or.inl ⟨by kernel_rfl, ?hy3⟩) (by assumption) ?_
              case hy3 => intro w' hSw; obtain ⟨_, _, _, _⟩ := MC.out w' hSw; go_simp; try with_reducible rfl
              simp only [Act.put, List.getElem_toArray, List.getElem_cons_zero, List.getElem_cons_succ, List.setIfInBounds_toArray, List.set_cons_zero, List.set_cons_succ]
              refine' wpAnyH_take (i := 5) (v := _) rfl (by kernel_rfl) (by kernel_rfl) (by kernel_rfl) (fun _ _ _ h => h) (Or.inl ⟨by kernel_rfl, ?hy5⟩) (by assumption) ?_
              case hy5 => intro w' hSw; obtain ⟨_, _, _, _⟩ := MC.out w' hSw; go_simp; try with_reducible rfl
              simp only [Act.put, List.getElem_toArray, List.getElem_cons_zero, List.getElem_cons_succ, List.setIfInBounds_toArray, List.set_cons_zero, List.set_cons_succ]
              refine' wpAnyH_take (i := 6) (v := _) rfl (by kernel_rfl) (by kernel_rfl) (by kernel_rfl) (fun _ _ _ h => h) (Or.inl ⟨by kernel_rfl, ?hy6⟩) (by assumption) ?_
              case hy6 => intro w' hSw; obtain ⟨_, _, _, _⟩ := MC.out w' hSw; go_simp; try with_reducible rfl
              simp only [Act.put, List.getElem_toArray, List.getElem_cons_zero, List.getElem_cons_succ, List.setIfInBounds_toArray, List.set_cons_zero, List.set_cons_succ]
              refine' wpAnyH_take (i := 7) (v := _) rfl (by kernel_rfl) (by kernel_rfl) (by kernel_rfl) (fun _ _ _ h => h) (Or.inl ⟨by kernel_rfl, ?hy7⟩) (by assumption) ?_
              case hy7 => intro w' hSw; obtain ⟨_, _, _, _⟩ := MC.out w' hSw; go_simp; try with_reducible rfl
              simp only [Act.put, List.getElem_toArray, List.getElem_cons_zero, List.getElem_cons_succ, List.setIfInBounds_toArray, List.set_cons_zero, List.set_cons_succ]
              refine' wpAnyH_take (i := 8) (v := _) rfl (by kernel_rfl) (by kernel_rfl) (by kernel_rfl) (fun _ _ _ h => h) (Or.inl ⟨by kernel_rfl, ?hy8⟩) (by assumption) ?_
              case hy8 => intro w' hSw; obtain ⟨_, _, _, _⟩ := MC.out w' hSw; go_simp; try with_reducible rfl
              simp only [Act.put, List.getElem_toArray, List.getElem_cons_zero, List.getElem_cons_succ, List.setIfInBounds_toArray, List.set_cons_zero, List.set_cons_succ]
              refine wpAnyH_ready (rs := [4]) (by kernel_rfl) (by simp) (AllReadyH.cons rfl (fun K hK => ?_) AllReadyH.nil)
              go_simp
              go_at_call 43
              refine (CO.out _ _ c.v (.inl ⟨rfl, rfl⟩) KZ).mono ?_
              rintro e w7 ⟨v7, rfl, hown7, k7⟩
              obtain ⟨A7, c7, rfl⟩ := own_shape hown7
              go_wp2_with fail
              have KK7 : Keep (fun i => i = w.heap.size + 1 + 1) w6 w7 := KZ.trans k7 (fun _ _ h => h.elim)
              refine hK.out _ _ (KK7) (fun hHeld => ?_)
              clear hK K
              try simp only [Act.put, List.getElem_toArray, List.getElem_cons_zero, List.getElem_cons_succ, List.setIfInBounds_toArray, List.set_cons_zero, List.set_cons_succ]
              refine wpAnyH_ready (rs := [9]) (by kernel_rfl) (by simp) (AllReadyH.cons rfl (fun K hK => ?_) AllReadyH.nil)
              go_simp
              go_at_call 43
              refine (CO.out _ _ c.l (.inr ⟨rfl, rfl⟩) KK7).mono ?_
              rintro e w8 ⟨v8, rfl, hown8, k8⟩
              obtain ⟨A8, c8, rfl⟩ := own_shape hown8
              go_wp2_with fail
              have KK8 : Keep (fun i => i = w.heap.size + 1 + 1) w6 w8 := KK7.trans k8 (fun _ _ h => h.elim)
              refine hK.out _ _ (KK8) (fun hHeld => ?_)
              clear hK K
              try simp only [Act.put, List.getElem_toArray, List.getElem_cons_zero, List.getElem_cons_succ, List.setIfInBounds_toArray, List.set_cons_zero, List.set_cons_succ]
              refine' wpAnyH_take (i := 10) (v := _) rfl (by kernel_rfl) (by kernel_rfl) (by kernel_rfl) (fun _ _ _ h => h) (Or.inl ⟨by kernel_rfl, ?hy10⟩) (by assumption) ?_
              case hy10 => intro w' hSw; obtain ⟨_, _, _, _⟩ := MC.out w' hSw; go_simp; try with_reducible rfl
              simp only [Act.put, List.getElem_toArray, List.getElem_cons_zero, List.getElem_cons_succ, List.setIfInBounds_toArray, List.set_cons_zero, List.set_cons_succ]
              have U2 : Box w8 (w.heap.size + 1 + 1) 24 #[.slice none 0 0, .slice none 0 0] := (HU2.out.drew.keep k7 id).keep k8 id
              have z0 := U2.cell 0
              have z1 := U2.cell 1
              have f0 := U2.free 0
              have f1 := U2.free 1
              refine wpAnyH_ready (rs := [11]) (by kernel_rfl) (by simp) (AllReadyH.cons rfl (fun K hK => ?_) AllReadyH.nil)
              go_simp
              have UE := (U2.put 0 (.slice A7 (woP c.v node).length c7)).put 1 (.slice A8 (woP c.l node).length c8)
              have KE := (KK8.setCell (p := ⟨w.heap.size + 1 + 1, 0, none⟩) (fun _ => rfl) (.slice A7 (woP c.v node).length c7)).setCell (p := ⟨w.heap.size + 1 + 1, 1, none⟩) (fun _ => rfl) (.slice A8 (woP c.l node).length c8)
              have KX := ((Keep.refl (fun i => i = w.heap.size + 1 + 1) w8).setCell (p := ⟨w.heap.size + 1 + 1, 0, none⟩) (fun _ => rfl) (.slice A7 (woP c.v node).length c7)).setCell (p := ⟨w.heap.size + 1 + 1, 1, none⟩) (fun _ => rfl) (.slice A8 (woP c.l node).length c8)
              refine hK.out _ _ (KE) (fun hHeld => ?_)
              clear hK K
              try simp only [Act.put, List.getElem_toArray, List.getElem_cons_zero, List.getElem_cons_succ, List.setIfInBounds_toArray, List.set_cons_zero, List.set_cons_succ]
              generalize (w8.setCell ⟨w.heap.size + 1 + 1, 0, none⟩ (.slice A7 (woP c.v node).length c7)).setCell ⟨w.heap.size + 1 + 1, 1, none⟩ (.slice A8 (woP c.l node).length c8) = we at *
              refine wpAnyH_ready (rs := [12]) (by kernel_rfl) (by simp) (AllReadyH.cons rfl (fun K hK => ?_) AllReadyH.nil)
              go_simp
              refine hK.out _ _ (hHeld) (fun hHeld => ?_)
              clear hK K
              try simp only [Act.put, List.getElem_toArray, List.getElem_cons_zero, List.getElem_cons_succ, List.setIfInBounds_toArray, List.set_cons_zero, List.set_cons_succ]
              refine wpAnyH_done (by kernel_rfl) ?_ _
              have r0 := UE.cell 0
              have r1 := UE.cell 1
              have HKE := Lib.hid (MK.out we KE)
              have hp2 := HU2.out.lt
              have hds : w6.drew.heap.size = w6.heap.size := rfl
              have h78 := k7.size
              have hzv := (((Zs.of_own hown7).keepN k8).keep KX (fun i _ hi e => by omega)).any
              have hzw := ((Zs.of_own hown8).keep KX (fun i _ hi e => by omega)).any
              have HCE : Hid (CfAt we (fun _ => True) (.agg #[.slice A7 (woP c.v node).length c7, .slice A8 (woP c.l node).length c8]) ⟨woP c.v node, woP c.l node⟩) := ⟨_, _, rfl, hzv, hzw⟩
              clear hHeld UE KE KX U2 z0 z1 f0 f1 MC MK CW CO x0 x1 y0 y1
              go_wp2
              exact bodyPost_ret (v := .tuple #[.agg #[.slice A7 (woP c.v node).length c7, .slice A8 (woP c.l node).length c8], .int .i64 0]) (by simp [results, Try.results21, go_sem, r0, r1]) rfl ⟨_, rfl, HCE.out, HKE.out⟩
            | true =>
              by_cases hl : 1 < c.v.length
              · have q1 : ((c.v.length : Int) > 1) := by omega
                obtain rfl : R = (⟨woP c.v node, woP c.l node⟩, 0) := by rw [← HR.out]; simp [hl]
                go_wp2
                refine wp_region_held_drew (S := fun w' => Keep (fun i => i = w.heap.size + 1 + 1) w6 w') (by kernel_rfl) (KZ) (fun hHeld => ?_)
                refine' wpAnyH_take (i := 0) (v := _) rfl (by kernel_rfl) (by kernel_rfl) (by kernel_rfl) (fun _ _ _ h => h) (Or.inl ⟨by kernel_rfl, ?hy0⟩) (by assumption) ?_
                case hy0 => intro w' hSw; obtain ⟨_, _, _, _⟩ := MC.out w' hSw; go_simp; try with_reducible rfl
                simp only [Act.put, List.getElem_toArray, List.getElem_cons_zero, List.getElem_cons_succ, List.setIfInBounds_toArray, List.set_cons_zero, List.set_cons_succ]
                refine' wpAnyH_take (i := 1) (v := _) rfl (by kernel_rfl) (by kernel_rfl) (by kernel_rfl) (fun _ _ _ h => h) (Or.inl ⟨by kernel_rfl, ?hy1⟩) (by assumption) ?_
                case hy1 => intro w' hSw; obtain ⟨_, _, _, _⟩ := MC.out w' hSw; go_simp; try with_reducible rfl
                simp only [Act.put, List.getElem_toArray, List.getElem_cons_zero, List.getElem_cons_succ, List.setIfInBounds_toArray, List.set_cons_zero, List.set_cons_succ]
                refine' wpAnyH_take (i := 2) (v := _) rfl (by kernel_rfl) (by kernel_rfl) (by kernel_rfl) (fun _ _ _ h => h) (Or.inl ⟨by kernel_rfl, ?hy2⟩) (by assumption) ?_
                case hy2 => intro w' hSw; obtain ⟨_, _, _, _⟩ := MC.out w' hSw; go_simp; try with_reducible rfl
                simp only [Act.put, List.getElem_toArray, List.getElem_cons_zero, List.getElem_cons_succ, List.setIfInBounds_toArray, List.set_cons_zero, List.set_cons_succ]
                refine' wpAnyH_take (i := 3) (v := _) rfl (by kernel_rfl) (by kernel_rfl) (by kernel_rfl) (fun _ _ _ h => h) (Or.inl ⟨by kernel_rfl, ?hy3⟩) (by assumption) ?_
                case hy3 => intro w' hSw; obtain ⟨_, _, _, _⟩ := MC.out w' hSw; go_simp; try with_reducible rfl
                simp only [Act.put, List.getElem_toArray, List.getElem_cons_zero, List.getElem_cons_succ, List.setIfInBounds_toArray, List.set_cons_zero, List.set_cons_succ]
                refine' wpAnyH_take (i := 5) (v := _) rfl (by kernel_rfl) (by kernel_rfl) (by kernel_rfl) (fun _ _ _ h => h) (Or.inl ⟨by kernel_rfl, ?hy5⟩) (by assumption) ?_
                case hy5 => intro w' hSw; obtain ⟨_, _, _, _⟩ := MC.out w' hSw; go_simp; try with_reducible rfl
                simp only [Act.put, List.getElem_toArray, List.getElem_cons_zero, List.getElem_cons_succ, List.setIfInBounds_toArray, List.set_cons_zero, List.set_cons_succ]
                refine' wpAnyH_take (i := 6) (v := _) rfl (by kernel_rfl) (by kernel_rfl) (by kernel_rfl) (fun _ _ _ h => h) (Or.inl ⟨by kernel_rfl, ?hy6⟩) (by assumption) ?_
                case hy6 => intro w' hSw; obtain ⟨_, _, _, _⟩ := MC.out w' hSw; go_simp; try with_reducible rfl
                simp only [Act.put, List.getElem_toArray, List.getElem_cons_zero, List.getElem_cons_succ, List.setIfInBounds_toArray, List.set_cons_zero, List.set_cons_succ]
                refine' wpAnyH_take (i := 7) (v := _) rfl (by kernel_rfl) (by kernel_rfl) (by kernel_rfl) (fun _ _ _ h => h) (Or.inl ⟨by kernel_rfl, ?hy7⟩) (by assumption) ?_
                case hy7 => intro w' hSw; obtain ⟨_, _, _, _⟩ := MC.out w' hSw; go_simp; try with_reducible rfl
                simp only [Act.put, List.getElem_toArray, List.getElem_cons_zero, List.getElem_cons_succ, List.setIfInBounds_toArray, List.set_cons_zero, List.set_cons_succ]
                refine' wpAnyH_take (i := 8) (v := _) rfl (by kernel_rfl) (by kernel_rfl) (by kernel_rfl) (fun _ _ _ h => h) (Or.inl ⟨by kernel_rfl, ?hy8⟩) (by assumption) ?_
                case hy8 => intro w' hSw; obtain ⟨_, _, _, _⟩ := MC.out w' hSw; go_simp; try with_reducible rfl
                simp only [Act.put, List.getElem_toArray, List.getElem_cons_zero, List.getElem_cons_succ, List.setIfInBounds_toArray, List.set_cons_zero, List.set_cons_succ]
                refine wpAnyH_ready (rs := [4]) (by kernel_rfl) (by simp) (AllReadyH.cons rfl (fun K hK => ?_) AllReadyH.nil)
                go_simp
                go_at_call 43
                refine (CO.out _ _ c.v (.inl ⟨rfl, rfl⟩) KZ).mono ?_
                rintro e w7 ⟨v7, rfl, hown7, k7⟩
                obtain ⟨A7, c7, rfl⟩ := own_shape hown7
                go_wp2_with fail
                have KK7 : Keep (fun i => i = w.heap.size + 1 + 1) w6 w7 := KZ.trans k7 (fun _ _ h => h.elim)
                refine hK.out _ _ (KK7) (fun hHeld => ?_)
                clear hK K
                try simp only [Act.put, List.getElem_toArray, List.getElem_cons_zero, List.getElem_cons_succ, List.setIfInBounds_toArray, List.set_cons_zero, List.set_cons_succ]
                refine wpAnyH_ready (rs := [9]) (by kernel_rfl) (by simp) (AllReadyH.cons rfl (fun K hK => ?_) AllReadyH.nil)
                go_simp
                go_at_call 43
                refine (CO.out _ _ c.l (.inr ⟨rfl, rfl⟩) KK7).mono ?_
                rintro e w8 ⟨v8, rfl, hown8, k8⟩
                obtain ⟨A8, c8, rfl⟩ := own_shape hown8
                go_wp2_with fail
                have KK8 : Keep (fun i => i = w.heap.size + 1 + 1) w6 w8 := KK7.trans k8 (fun _ _ h => h.elim)
                refine hK.out _ _ (KK8) (fun hHeld => ?_)
                clear hK K
                try simp only [Act.put, List.getElem_toArray, List.getElem_cons_zero, List.getElem_cons_succ, List.setIfInBounds_toArray, List.set_cons_zero, List.set_cons_succ]
                refine' wpAnyH_take (i := 10) (v := _) rfl (by kernel_rfl) (by kernel_rfl) (by kernel_rfl) (fun _ _ _ h => h) (Or.inl ⟨by kernel_rfl, ?hy10⟩) (by assumption) ?_
                case hy10 => intro w' hSw; obtain ⟨_, _, _, _⟩ := MC.out w' hSw; go_simp; try with_reducible rfl
                simp only [Act.put, List.getElem_toArray, List.getElem_cons_zero, List.getElem_cons_succ, List.setIfInBounds_toArray, List.set_cons_zero, List.set_cons_succ]
                have U2 : Box w8 (w.heap.size + 1 + 1) 24 #[.slice none 0 0, .slice none 0 0] := (HU2.out.drew.keep k7 id).keep k8 id
                have z0 := U2.cell 0
                have z1 := U2.cell 1
                have f0 := U2.free 0
                have f1 := U2.free 1
                refine wpAnyH_ready (rs := [11]) (by kernel_rfl) (by simp) (AllReadyH.cons rfl (fun K hK => ?_) AllReadyH.nil)
                go_simp
                have UE := (U2.put 0 (.slice A7 (woP c.v node).length c7)).put 1 (.slice A8 (woP c.l node).length c8)
                have KE := (KK8.setCell (p := ⟨w.heap.size + 1 + 1, 0, none⟩) (fun _ => rfl) (.slice A7 (woP c.v node).length c7)).setCell (p := ⟨w.heap.size + 1 + 1, 1, none⟩) (fun _ => rfl) (.slice A8 (woP c.l node).length c8)
                have KX := ((Keep.refl (fun i => i = w.heap.size + 1 + 1) w8).setCell (p := ⟨w.heap.size + 1 + 1, 0, none⟩) (fun _ => rfl) (.slice A7 (woP c.v node).length c7)).setCell (p := ⟨w.heap.size + 1 + 1, 1, none⟩) (fun _ => rfl) (.slice A8 (woP c.l node).length c8)
                refine hK.out _ _ (KE) (fun hHeld => ?_)
                clear hK K
                try simp only [Act.put, List.getElem_toArray, List.getElem_cons_zero, List.getElem_cons_succ, List.setIfInBounds_toArray, List.set_cons_zero, List.set_cons_succ]
                generalize (w8.setCell ⟨w.heap.size + 1 + 1, 0, none⟩ (.slice A7 (woP c.v node).length c7)).setCell ⟨w.heap.size + 1 + 1, 1, none⟩ (.slice A8 (woP c.l node).length c8) = we at *
                refine wpAnyH_ready (rs := [12]) (by kernel_rfl) (by simp) (AllReadyH.cons rfl (fun K hK => ?_) AllReadyH.nil)
                go_simp
                refine hK.out _ _ (hHeld) (fun hHeld => ?_)
                clear hK K
                try simp only [Act.put, List.getElem_toArray, List.getElem_cons_zero, List.getElem_cons_succ, List.setIfInBounds_toArray, List.set_cons_zero, List.set_cons_succ]
                refine wpAnyH_done (by kernel_rfl) ?_ _
                have r0 := UE.cell 0
                have r1 := UE.cell 1
                have HKE := Lib.hid (MK.out we KE)
                have hp2 := HU2.out.lt
                have hds : w6.drew.heap.size = w6.heap.size := rfl
                have h78 := k7.size
                have hzv := (((Zs.of_own hown7).keepN k8).keep KX (fun i _ hi e => by omega)).any
                have hzw := ((Zs.of_own hown8).keep KX (fun i _ hi e => by omega)).any
                have HCE : Hid (CfAt we (fun _ => True) (.agg #[.slice A7 (woP c.v node).length c7, .slice A8 (woP c.l node).length c8]) ⟨woP c.v node, woP c.l node⟩) := ⟨_, _, rfl, hzv, hzw⟩
                clear hHeld UE KE KX U2 z0 z1 f0 f1 MC MK CW CO x0 x1 y0 y1
                go_wp2
                exact bodyPost_ret (v := .tuple #[.agg #[.slice A7 (woP c.v node).length c7, .slice A8 (woP c.l node).length c8], .int .i64 0]) (by simp [results, Try.results21, go_sem, r0, r1]) rfl ⟨_, rfl, HCE.out, HKE.out⟩
              · have q1 : ¬ ((c.v.length : Int) > 1) := by omega
                clear MC MK CW CO KZ
                obtain rfl : R = (⟨[], []⟩, 141) := by rw [← HR.out]; simp [hl]
                have z0 := HU2.out.cell 0
                have z1 := HU2.out.cell 1
                have f0 := HU2.out.free 0
                have f1 := HU2.out.free 1
                have HBX := Lib.hid ((HU2.out.put 0 (.slice none 0 0)).put 1 (.slice none 0 0))
                have HKE := Lib.hid ((HK6.out.setCell (p := ⟨w.heap.size + 1 + 1, 0, none⟩) (fun hh => absurd hh (by show ¬ w.heap.size + 1 + 1 < w.heap.size; omega)) (.slice none 0 0)).setCell (p := ⟨w.heap.size + 1 + 1, 1, none⟩) (fun hh => absurd hh (by show ¬ w.heap.size + 1 + 1 < w.heap.size; omega)) (.slice none 0 0))
                go_wp2
                have r0 := HBX.out.cell 0
                have r1 := HBX.out.cell 1
                generalize (w6.setCell ⟨w.heap.size + 1 + 1, 0, none⟩ (.slice none 0 0)).setCell ⟨w.heap.size + 1 + 1, 1, none⟩ (.slice none 0 0) = we at *
                go_wp2
                exact bodyPost_ret (v := .tuple #[.agg #[.slice none 0 0, .slice none 0 0], .int .i64 141]) (by simp [results, Try.results21, go_sem, r0, r1]) rfl ⟨_, rfl, CfAt.nil _ _, HKE.out⟩
        · have g3 : (kind == 3) = false := by simp [e3]
          clear MC MK CW CO KZ
          obtain rfl : R = (⟨[], []⟩, 141) := by rw [← HR.out]; simp [e1, e2, e3]
          have z0 := HU2.out.cell 0
          have z1 := HU2.out.cell 1
          have f0 := HU2.out.free 0
          have f1 := HU2.out.free 1
          have HBX := Lib.hid ((HU2.out.put 0 (.slice none 0 0)).put 1 (.slice none 0 0))
          have HKE := Lib.hid ((HK6.out.setCell (p := ⟨w.heap.size + 1 + 1, 0, none⟩) (fun hh => absurd hh (by show ¬ w.heap.size + 1 + 1 < w.heap.size; omega)) (.slice none 0 0)).setCell (p := ⟨w.heap.size + 1 + 1, 1, none⟩) (fun hh => absurd hh (by show ¬ w.heap.size + 1 + 1 < w.heap.size; omega)) (.slice none 0 0))
          go_wp2
          have r0 := HBX.out.cell 0
          have r1 := HBX.out.cell 1
          generalize (w6.setCell ⟨w.heap.size + 1 + 1, 0, none⟩ (.slice none 0 0)).setCell ⟨w.heap.size + 1 + 1, 1, none⟩ (.slice none 0 0) = we at *
          go_wp2
          exact bodyPost_ret (v := .tuple #[.agg #[.slice none 0 0, .slice none 0 0], .int .i64 141]) (by simp [results, Try.results21, go_sem, r0, r1]) rfl ⟨_, rfl, CfAt.nil _ _, HKE.out⟩
  · rw [if_neg hz] at HR
    rw [(chk_range c).resolve_left hz]
    clear hz
    obtain rfl : R = (⟨[], []⟩, 140) := HR.out.symm
    have z0 := HY2.out.cell 0
    have z1 := HY2.out.cell 1
    have f0 := HY2.out.free 0
    have f1 := HY2.out.free 1
    have HBX := Lib.hid ((HY2.out.put 0 (.slice none 0 0)).put 1 (.slice none 0 0))
    have HKE := Lib.hid ((HK4.out.setCell (p := ⟨w.heap.size + 1 + 1, 0, none⟩) (fun hh => absurd hh (by show ¬ w.heap.size + 1 + 1 < w.heap.size; omega)) (.slice none 0 0)).setCell (p := ⟨w.heap.size + 1 + 1, 1, none⟩) (fun hh => absurd hh (by show ¬ w.heap.size + 1 + 1 < w.heap.size; omega)) (.slice none 0 0))
    go_wp2
    have r0 := HBX.out.cell 0
    have r1 := HBX.out.cell 1
    generalize (w4.setCell ⟨w.heap.size + 1 + 1, 0, none⟩ (.slice none 0 0)).setCell ⟨w.heap.size + 1 + 1, 1, none⟩ (.slice none 0 0) = we at *
    go_wp2
    exact bodyPost_ret (v := .tuple #[.agg #[.slice none 0 0, .slice none 0 0], .int .i64 140]) (by simp [results, Try.results21, go_sem, r0, r1]) rfl ⟨_, rfl, CfAt.nil _ _, HKE.out⟩
end Go.Proofs.Ytmncjibokpieoaa
