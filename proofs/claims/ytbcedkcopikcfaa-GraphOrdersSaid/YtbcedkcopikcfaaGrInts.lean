/-
  dockyardlaw07.ints: are two lists of places the same?
-/
import Derived.Test.YtbcedkcopikcfaaGrNeeds
namespace Go.Proofs.Ytbcedkcopikcfaa
open Go.RowKit

theorem Keep.drewN {w w' : World} {S : Nat → Prop} (h : Keep S w w') (n : Nat) : Keep S w (w'.drewN n) := ⟨h.os, h.tape, h.output, h.size, h.block⟩

set_option maxRecDepth 100000 in
set_option maxHeartbeats 1000000 in
theorem ints_any (w : World) (D D' : Nat → Prop) (v v' : Value) (ss ss' : List Nat) (h : Ints w D v ss) (h' : Ints w D' v' ss') :
    Calls Try.prog 13 #[v, v'] w fun e w' => e = .returned (.bool (decide (ss = ss'))) ∧ Keep noneOf w w' := by
  obtain ⟨A, c, rfl, hlc, hcm, hn, hxl, hc⟩ := h
  obtain ⟨A', c', rfl, hlc', hcm', hn', hxl', hc'⟩ := h'
  unfold maxLen at hcm hcm'
  by_cases hl : ss.length = ss'.length
  · have HC := Lib.hid hc
    have HC' := Lib.hid hc'
    have HL := Lib.hid hl
    rw [← hl] at hlc' ⊢
    clear hc hc' hxl hxl' hl
    generalize hR : decide (ss = ss') = R
    have HR := Lib.hid hR
    clear hR
    go_enter Try.func13, Try.ntmps13
    go_wp2
    go_loopw [13] (fun i wr => ∃ k n : Nat, k ≤ ss.length ∧ i = .int .i64 k ∧ wr = w.drewN n ∧ ss.take k = ss'.take k) (fun i _ => ss.length - (intOf i).toNat)
    case atStart => exact ⟨0, 0, Nat.zero_le _, rfl, rfl, rfl⟩
    case round =>
      obtain ⟨k, n, hk, rfl, rfl, hall⟩ := hrel
      have HA := Lib.hid hall
      clear hall
      by_cases hlt : k < ss.length
      · have hlt' : k < ss'.length := by rw [← HL.out]; exact hlt
        obtain ⟨ad, rfl, hsp, hblk, _, hcell⟩ := HC.out (by omega)
        obtain ⟨b, o, sp⟩ := ad
        obtain ⟨ad', rfl, hsp', hblk', _, hcell'⟩ := HC'.out (by omega)
        obtain ⟨b', o', sp'⟩ := ad'
        simp only at hsp hblk hsp' hblk'
        subst hsp hsp'
        have q1 : w.cell? ⟨b, o + k, none⟩ = some (.int .i64 (ss[k] : Int)) := hcell k _ (by rw [List.getElem?_map, List.getElem?_eq_getElem hlt]; rfl)
        have q2 : w.cell? ⟨b', o' + k, none⟩ = some (.int .i64 (ss'[k] : Int)) := hcell' k _ (by rw [List.getElem?_map, List.getElem?_eq_getElem hlt']; rfl)
        have HS := Lib.hid (List.getElem?_eq_getElem hlt)
        have HS' := Lib.hid (List.getElem?_eq_getElem hlt')
        clear hcell hcell'
        generalize ss[k] = s at *
        generalize ss'[k] = s' at *
        clear hlt'
        by_cases hs : s = s'
        · subst hs
          go_wp2
          go_quiet (fail)
          go_wp2
          go_roundw
          case rel =>
            refine ⟨k + 1, _, by omega, by go_num, rfl, ?_⟩
            rw [List.take_add_one, List.take_add_one, HA.out, HS.out, HS'.out]
          case measure => simp [intOf]; omega
        · have g : ((s : Int) != (s' : Int)) = true := by rw [bne_iff_ne]; omega
          have g' : ((s : Int) == (s' : Int)) = false := by rw [beq_eq_false_iff_ne]; omega
          have hR : R = false := by
            rw [← HR.out, decide_eq_false_iff_not]
            rintro rfl
            have := HS.out.symm.trans HS'.out
            injection this with this
            exact hs this
          subst hR
          clear hs
          go_wp2
          go_quiet (fail)
          go_wp2
          go_ret
          exact ⟨rfl, (((Keep.refl noneOf w).drewN _).drewN _)⟩
      · have hR : R = true := by
          rw [← HR.out, decide_eq_true_eq]
          have e1 := HA.out
          rwa [List.take_of_length_le (by omega), List.take_of_length_le (by have := HL.out; omega)] at e1
        subst hR
        go_wp2
        go_ret
        exact ⟨rfl, (Keep.refl noneOf w).drewN n⟩
  · have hR : decide (ss = ss') = false := by
      rw [decide_eq_false_iff_not]
      rintro rfl
      exact hl rfl
    rw [hR]
    clear hR
    go_enter Try.func13, Try.ntmps13
    go_wp2
    go_ret
    exact ⟨rfl, Keep.refl _ _⟩
end Go.Proofs.Ytbcedkcopikcfaa
