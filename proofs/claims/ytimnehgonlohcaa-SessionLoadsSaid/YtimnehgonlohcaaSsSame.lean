/-
  Package session: Clone; the document's Same.
-/
import Derived.Test.YtimnehgonlohcaaSsRows
namespace Go.Proofs.Ytimnehgonlohcaa
open Go.Shelf Go.RowKit Go.Maps

set_option maxRecDepth 100000 in
theorem clone_any (w : World) (p m : Nat) (l : List Ro) (h : TabAt w p m l) : Calls Try.prog 21 #[.pointer (some ⟨p, 0, none⟩)] w fun e w' => ∃ p' m', e = .returned (.pointer (some ⟨p', 0, none⟩)) ∧ w.heap.size ≤ p' ∧ w.heap.size ≤ m' ∧ TabAt w' p' m' l ∧ Keep noneOf w w' := by
  have hcon : Calls Try.prog 26 #[.map (some m)] w _ := AnyW.maps_Clone_owns Try.cloneTab 29 lastElem m l.length (datum l) w h.map
  have HC := Lib.hid hcon
  have HSZ : Hid (∀ w1 : World, w1.ownsMap Try.prog 29 lastElem w.heap.size l.length (datum l) → Below w.heap.size w w1 → w.heap.size ≤ w1.heap.size ∧ TabAt (w1.alloc (.cells #[.map (some w.heap.size)] 52)) w1.heap.size w.heap.size l ∧ Keep noneOf w (w1.alloc (.cells #[.map (some w.heap.size)] 52))) := Lib.hid fun w1 ho hb => ⟨hb.size, ⟨Box.new w1 _ _, ho.alloc _, fun e => by have := ho.lt; omega⟩, (show Keep noneOf w w1 from ⟨hb.os, hb.tape, hb.output, hb.size, fun i hi _ => hb.block i hi⟩).alloc _⟩
  have c0 : w.cell? ⟨p, 0, none⟩ = some (.map (some m)) := h.box.cell 0
  clear h hcon
  go_enter Try.func21, Try.ntmps21
  go_wp2_with fail
  refine HC.out.mono ?_
  rintro e w1 ⟨rfl, ho, _, hb⟩
  have HF := Lib.hid (HSZ.out w1 ho hb)
  clear HC HSZ ho hb
  go_wp2
  go_ret
  exact ⟨_, _, rfl, HF.out.1, Nat.le_refl _, HF.out.2.1, HF.out.2.2⟩

theorem list_same {l L : List Ro} (h : ∀ j : Nat, j < l.length → l[j]? = L[j]?) (hl : l.length = L.length) : l = L := by
  apply List.ext_getElem? 
  intro j
  rcases Nat.lt_or_ge j l.length with hj | hj
  · exact h j hj
  · rw [List.getElem?_eq_none hj, List.getElem?_eq_none (by omega)]
theorem ro_cells (b o k : Nat) (w : World) (r : Ro) (h : ∀ j, j < 8 → w.cell? ⟨b, o + (k * 8 + j), none⟩ = (Ro.cells r)[j]?) :
    w.cell? ⟨b, o + k * 8, none⟩ = some (.int .u64 r.id) ∧ w.cell? ⟨b, o + k * 8 + 1, none⟩ = some (.int .u64 r.seq) ∧ w.cell? ⟨b, o + k * 8 + 2, none⟩ = some (.int .i64 r.ans.code) ∧ w.cell? ⟨b, o + k * 8 + 3, none⟩ = some (.int .u64 r.ans.id) ∧ w.cell? ⟨b, o + k * 8 + 4, none⟩ = some (.int .u64 r.ans.tok) ∧ w.cell? ⟨b, o + k * 8 + 5, none⟩ = some (.int .u64 r.ans.unt) ∧ w.cell? ⟨b, o + k * 8 + 6, none⟩ = some (.string r.ans.tgt) ∧ w.cell? ⟨b, o + k * 8 + 7, none⟩ = some (.string r.ans.cmd) :=
  ⟨h 0 (by decide), h 1 (by decide), h 2 (by decide), h 3 (by decide), h 4 (by decide), h 5 (by decide), h 6 (by decide), h 7 (by decide)⟩

set_option maxRecDepth 100000 in
set_option maxHeartbeats 2000000 in
set_option linter.unusedSimpArgs false in
theorem same_any (w : World) (D D' : Nat → Prop) (v u : Value) (l L : List Ro) (h : Many Ro.cells 8 w D v l) (H : Many Ro.cells 8 w D' u L) : Calls Try.prog 10 #[v, u] w (TellsB (decide (l = L)) w) := by
  obtain ⟨A, c, rfl⟩ := h.shape
  obtain ⟨B, d, rfl⟩ := H.shape
  have hfew := h.few
  unfold maxLen at hfew
  by_cases hl : l.length = L.length
  · have HH := Lib.hid h
    have HHH := Lib.hid H
    have HE := Lib.hid hl
    clear h H
    have hl' : ((l.length : Int) != (L.length : Int)) = false := by rw [hl, bne_self_eq_false]
    go_enter Try.func10, Try.ntmps10
    go_wp2
    go_loopw [5] (fun i wr => ∃ (k : Nat), k ≤ l.length ∧ i = .int .i64 k ∧ Keep noneOf w wr ∧ ∀ j : Nat, j < k → l[j]? = L[j]?) (fun i _ => l.length - (intOf i).toNat)
    case atStart => exact ⟨0, Nat.zero_le _, rfl, Keep.refl _ _, fun j hj => absurd hj (Nat.not_lt_zero _)⟩
    case round =>
      obtain ⟨k, hk, rfl, hkeep, hsame⟩ := hrel
      have HKP := Lib.hid hkeep
      have HS := Lib.hid hsame
      clear hsame
      by_cases hlt : k < l.length
      · have hx : l[k]? = some l[k] := List.getElem?_eq_getElem hlt
        have hy : L[k]? = some (L[k]'(by omega)) := List.getElem?_eq_getElem (by omega)
        obtain ⟨b, o, rfl, hblk, _, hcell⟩ := HH.out.cell (fun _ => rfl) hx
        obtain ⟨b', o', rfl, hblk', _, hcell'⟩ := HHH.out.cell (fun _ => rfl) hy
        have HXY : Hid (l[k]? = some l[k] ∧ L[k]? = some (L[k]'(by omega))) := Lib.hid ⟨hx, hy⟩
        generalize l[k] = x at *
        generalize (L[k]'(by omega)) = y at *
        have q0 : (0 : Int) ≤ (k : Int) := by omega
        have q1 : (k : Int) < (l.length : Int) := by omega
        have q2 : (k : Int) < (L.length : Int) := by omega
        have q3 : k < L.length := by omega
        have MC : Hid (∀ w', Keep noneOf wr w' → _) := Lib.hid fun w' k' => And.intro (ro_cells b o k w' x (fun j hj => ((hkeep.trans k' (fun _ _ h => h)).cell (p := ⟨b, o + (k * 8 + j), none⟩) hblk id).trans (hcell j hj))) (ro_cells b' o' k w' y (fun j hj => ((hkeep.trans k' (fun _ _ h => h)).cell (p := ⟨b', o' + (k * 8 + j), none⟩) hblk' id).trans (hcell' j hj)))
        obtain ⟨nq, hnq⟩ : ∃ nq, (!decide (x = y)) = nq := ⟨_, rfl⟩
        have hneq : ∀ w', (binOp .neq 58 x.agg y.agg).run Try.prog w' = .ok (.bool nq) w' := fun w' => by rw [← hnq]; exact run_neqR w' x y
        have HNQ := Lib.hid hnq
        clear hnq
        obtain ⟨x1, x2, ⟨x3, x4, x5, x6, x7, x8⟩⟩ := x
        obtain ⟨y1, y2, ⟨y3, y4, y5, y6, y7, y8⟩⟩ := y
        unfold Ro.agg at hneq
        dsimp only at MC hneq
        clear hx hy hcell hcell' hkeep
        go_upto_region 6 with fail
        refine wp_region_held_drew (S := fun w' => Keep noneOf wr w') (by kernel_rfl) (Keep.refl noneOf wr).drew (fun hHeld => ?_)
        refine' wpAnyH_take (i := 0) (v := _) rfl (by kernel_rfl) (by kernel_rfl) (by kernel_rfl) (fun _ _ _ h => h) (Or.inl ⟨by kernel_rfl, ?hy0⟩) (by assumption) ?_
        case hy0 => intro w' hSw; obtain ⟨⟨_, _, _, _, _, _, _, _⟩, _, _, _, _, _, _, _, _⟩ := MC.out w' hSw; go_simp; try with_reducible rfl
        simp only [Act.put, List.getElem_toArray, List.getElem_cons_zero, List.getElem_cons_succ, List.setIfInBounds_toArray, List.set_cons_zero, List.set_cons_succ]
        refine' wpAnyH_take (i := 1) (v := _) rfl (by kernel_rfl) (by kernel_rfl) (by kernel_rfl) (fun _ _ _ h => h) (Or.inl ⟨by kernel_rfl, ?hy1⟩) (by assumption) ?_
        case hy1 => intro w' hSw; obtain ⟨⟨_, _, _, _, _, _, _, _⟩, _, _, _, _, _, _, _, _⟩ := MC.out w' hSw; go_simp; try with_reducible rfl
        simp only [Act.put, List.getElem_toArray, List.getElem_cons_zero, List.getElem_cons_succ, List.setIfInBounds_toArray, List.set_cons_zero, List.set_cons_succ]
        refine' wpAnyH_take (i := 2) (v := _) rfl (by kernel_rfl) (by kernel_rfl) (by kernel_rfl) (fun _ _ _ h => h) (Or.inl ⟨by kernel_rfl, ?hy2⟩) (by assumption) ?_
        case hy2 => intro w' hSw; obtain ⟨⟨_, _, _, _, _, _, _, _⟩, _, _, _, _, _, _, _, _⟩ := MC.out w' hSw; go_simp; try with_reducible rfl
        simp only [Act.put, List.getElem_toArray, List.getElem_cons_zero, List.getElem_cons_succ, List.setIfInBounds_toArray, List.set_cons_zero, List.set_cons_succ]
        refine' wpAnyH_take (i := 3) (v := _) rfl (by kernel_rfl) (by kernel_rfl) (by kernel_rfl) (fun _ _ _ h => h) (Or.inl ⟨by kernel_rfl, ?hy3⟩) (by assumption) ?_
        case hy3 => intro w' hSw; obtain ⟨⟨_, _, _, _, _, _, _, _⟩, _, _, _, _, _, _, _, _⟩ := MC.out w' hSw; go_simp; try with_reducible rfl
        simp only [Act.put, List.getElem_toArray, List.getElem_cons_zero, List.getElem_cons_succ, List.setIfInBounds_toArray, List.set_cons_zero, List.set_cons_succ]
        refine' wpAnyH_take (i := 4) (v := _) rfl (by kernel_rfl) (by kernel_rfl) (by kernel_rfl) (fun _ _ _ h => h) (Or.inl ⟨by kernel_rfl, ?hy4⟩) (by assumption) ?_
        case hy4 => intro w' hSw; obtain ⟨⟨_, _, _, _, _, _, _, _⟩, _, _, _, _, _, _, _, _⟩ := MC.out w' hSw; go_simp; try with_reducible rfl
        simp only [Act.put, List.getElem_toArray, List.getElem_cons_zero, List.getElem_cons_succ, List.setIfInBounds_toArray, List.set_cons_zero, List.set_cons_succ]
        refine' wpAnyH_take (i := 5) (v := _) rfl (by kernel_rfl) (by kernel_rfl) (by kernel_rfl) (fun _ _ _ h => h) (Or.inl ⟨by kernel_rfl, ?hy5⟩) (by assumption) ?_
        case hy5 => intro w' hSw; obtain ⟨⟨_, _, _, _, _, _, _, _⟩, _, _, _, _, _, _, _, _⟩ := MC.out w' hSw; go_simp; try with_reducible rfl
        simp only [Act.put, List.getElem_toArray, List.getElem_cons_zero, List.getElem_cons_succ, List.setIfInBounds_toArray, List.set_cons_zero, List.set_cons_succ]
        refine' wpAnyH_take (i := 6) (v := _) rfl (by kernel_rfl) (by kernel_rfl) (by kernel_rfl) (fun _ _ _ h => h) (Or.inl ⟨by kernel_rfl, ?hy6⟩) (by assumption) ?_
        case hy6 => intro w' hSw; obtain ⟨⟨_, _, _, _, _, _, _, _⟩, _, _, _, _, _, _, _, _⟩ := MC.out w' hSw; go_simp; try with_reducible rfl
        simp only [Act.put, List.getElem_toArray, List.getElem_cons_zero, List.getElem_cons_succ, List.setIfInBounds_toArray, List.set_cons_zero, List.set_cons_succ]
        refine' wpAnyH_take (i := 7) (v := _) rfl (by kernel_rfl) (by kernel_rfl) (by kernel_rfl) (fun _ _ _ h => h) (Or.inl ⟨by kernel_rfl, ?hy7⟩) (by assumption) ?_
        case hy7 => intro w' hSw; obtain ⟨⟨_, _, _, _, _, _, _, _⟩, _, _, _, _, _, _, _, _⟩ := MC.out w' hSw; go_simp; try with_reducible rfl
        simp only [Act.put, List.getElem_toArray, List.getElem_cons_zero, List.getElem_cons_succ, List.setIfInBounds_toArray, List.set_cons_zero, List.set_cons_succ]
        refine' wpAnyH_take (i := 8) (v := _) rfl (by kernel_rfl) (by kernel_rfl) (by kernel_rfl) (fun _ _ _ h => h) (Or.inl ⟨by kernel_rfl, ?hy8⟩) (by assumption) ?_
        case hy8 => intro w' hSw; obtain ⟨⟨_, _, _, _, _, _, _, _⟩, _, _, _, _, _, _, _, _⟩ := MC.out w' hSw; go_simp; try with_reducible rfl
        simp only [Act.put, List.getElem_toArray, List.getElem_cons_zero, List.getElem_cons_succ, List.setIfInBounds_toArray, List.set_cons_zero, List.set_cons_succ]
        refine wpAnyH_done (by kernel_rfl) ?_ _
        have HW := Lib.hid hHeld
        clear hHeld hneq MC
        cases nq with
        | true =>
          have e : decide (l = L) = false := decide_eq_false (fun e => by
            have h1 := HXY.out
            rw [e, h1.2] at h1
            have h2 := HNQ.out
            injection h1.1 with h1
            rw [h1] at h2
            simp at h2)
          have HE2 := Lib.hid e
          clear e
          go_wp2
          go_ret
          exact ⟨ret_bool HE2.out.symm, HKP.out.trans HW.out (fun _ _ h => h)⟩
        | false =>
          have e : l[k]? = L[k]? := by
            have h1 := HXY.out
            have h2 := HNQ.out
            rw [h1.1, h1.2]
            simpa using h2
          have HEQ := Lib.hid e
          clear e
          go_wp2
          go_roundw
          case rel => exact ⟨k + 1, by omega, by go_num, HKP.out.trans HW.out (fun _ _ h => h), fun j hj => by
            rcases Nat.lt_or_ge j k with h1 | h1
            · exact HS.out j h1
            · obtain rfl : j = k := by omega
              exact HEQ.out⟩
          case measure => simp [intOf]; omega
      · have hkn : ¬ ((k : Int) < (l.length : Int)) := by omega
        have e : decide (l = L) = true := decide_eq_true (list_same (fun j hj => HS.out j (by omega)) HE.out)
        have HE2 := Lib.hid e
        clear hkeep e
        go_wp2
        go_ret
        exact ⟨ret_bool HE2.out.symm, HKP.out⟩
  · have e : decide (l = L) = false := decide_eq_false (fun e => hl (by rw [e]))
    rw [e]
    have hl' : ((l.length : Int) != (L.length : Int)) = true := bne_iff_ne.2 (by omega)
    clear h H e hl
    go_enter Try.func10, Try.ntmps10
    go_wp2
    go_ret
    exact ⟨rfl, Keep.refl _ _⟩
end Go.Proofs.Ytimnehgonlohcaa
