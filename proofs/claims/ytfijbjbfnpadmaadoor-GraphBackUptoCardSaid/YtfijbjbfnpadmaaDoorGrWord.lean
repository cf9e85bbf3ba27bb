/-
  graph.isWord: a name or a need in a text, by runes.
-/
import Derived.Test.YtfijbjbfnpadmaaDoorGrNames
namespace Go.Proofs.YtfijbjbfnpadmaaDoor
open Go.RowKit

/-- A rune of several bytes: all of them are 128 or more, and they lie within the text. -/
theorem decode_bytes (s : ByteArray) (pos : Nat) (h : pos < s.size) (ha : 128 ≤ (s[pos]'h).toNat) :
    1 ≤ (Utf8.decode s pos).2 ∧ pos + (Utf8.decode s pos).2 ≤ s.size ∧ ∀ j, j < (Utf8.decode s pos).2 → 128 ≤ (s.get! (pos + j)).toNat := by
  have hn : ¬ (s[pos]'h).toNat < 128 := by omega
  have h0 : 128 ≤ (s.get! (pos + 0)).toNat := by rw [get_at s pos h]; exact ha
  simp only [Utf8.decode, get_at s pos h, hn, if_false]
  repeat' split
  all_goals simp_all
  all_goals first | omega | (refine ⟨by omega, fun j hj => ?_⟩; rcases (show j = 0 ∨ j = 1 ∨ j = 2 ∨ j = 3 from by omega) with rfl | rfl | rfl | rfl <;> first | assumption | omega) | trace_state

/-- What may stand in a word. -/
def wordB (b : UInt8) : Bool := decide (b.toNat ≠ 58) && decide (b.toNat ≠ 32) && decide (b.toNat ≠ 9)
def isWordB (s : ByteArray) : Bool := s.data.toList.all wordB && decide (s.size ≠ 0)
theorem wordB_high {b : UInt8} (h : 128 ≤ b.toNat) : wordB b = true := by
  unfold wordB
  simp
  omega

set_option maxRecDepth 100000 in
set_option maxHeartbeats 1000000 in
theorem isWord_any (w : World) (s : ByteArray) :
    Calls Tryd.prog 49 #[.string s] w fun e w' => e = .returned (.bool (isWordB s)) ∧ Keep noneOf w w' := by
  generalize hR : isWordB s = R
  have HR := Lib.hid hR
  clear hR
  have HK : Hid (∀ p, Keep noneOf w (w.iter s p)) := fun p => (Keep.refl noneOf w).alloc _
  go_enter Tryd.func49, Tryd.ntmps49
  go_wp2
  go_loopw [] (fun wr => ∃ pos : Nat, pos ≤ s.size ∧ wr = w.iter s pos ∧ ∀ j b, j < pos → s.data.toList[j]? = some b → wordB b = true) (fun wr => s.size - wr.iterPos w.heap.size)
  case atStart => exact ⟨0, Nat.zero_le _, rfl, fun j _ hj => absurd hj (by omega)⟩
  case round =>
    obtain ⟨pos, hpos, rfl, hall⟩ := hrel
    have HA := Lib.hid hall
    clear hall
    by_cases hp : pos < s.size
    · by_cases hasc : s[pos].toNat < 128
      · have hnx : ∀ ty, (Instr.next (.pointer (some ⟨w.heap.size, 0, none⟩)) true ty).run Tryd.prog (w.iter s pos) = _ := fun ty => run_next_ascii w s pos ty hp hasc
        by_cases hb : wordB s[pos] = true
        · have hb' : s[pos].toNat ≠ 58 ∧ s[pos].toNat ≠ 32 ∧ s[pos].toNat ≠ 9 := by
            unfold wordB at hb
            simpa [and_assoc] using hb
          obtain ⟨b1, b2, b3⟩ := hb'
          have HM := Lib.hid (bytes_more hp HA.out hb)
          clear hb
          generalize s[pos].toNat = n at *
          have g1 : ((n : Int) == 58) = false := by rw [beq_eq_false_iff_ne]; omega
          have g2 : ((n : Int) == 32) = false := by rw [beq_eq_false_iff_ne]; omega
          have g3 : ((n : Int) == 9) = false := by rw [beq_eq_false_iff_ne]; omega
          clear b1 b2 b3
          go_wp2
          go_roundw
          case rel => exact ⟨pos + 1, by omega, rfl, HM.out⟩
          case measure => simp only [World.iterPos_iter]; omega
        · have hR : R = false := by
            rw [← HR.out]
            unfold isWordB
            rw [not_all_bytes hp (by simpa using hb)]
            rfl
          subst hR
          have hb' : s[pos].toNat = 58 ∨ s[pos].toNat = 32 ∨ s[pos].toNat = 9 := by
            unfold wordB at hb
            simp at hb
            omega
          clear hb
          generalize s[pos].toNat = n at *
          rcases hb' with rfl | rfl | rfl
          all_goals
            go_wp2
            go_ret
            exact ⟨rfl, HK.out _⟩
      · have h1 := decode_high s pos hp (by omega)
        have h2 := decode_le s pos
        obtain ⟨d1, d2, d3⟩ := decode_bytes s pos hp (by omega)
        have HM := Lib.hid (show ∀ j b, j < pos + (Utf8.decode s pos).2 → s.data.toList[j]? = some b → wordB b = true from fun j b hj e => by
          rcases Nat.lt_or_ge j pos with h | h
          · exact HA.out j b h e
          · have hjl : j < s.size := by omega
            have h4 := d3 (j - pos) (by omega)
            rw [show pos + (j - pos) = j + 0 from by omega, get_at s j hjl] at h4
            rw [byte_at hjl] at e
            injection e with e
            rw [← e]
            exact wordB_high h4)
        have hnx : ∀ ty, (Instr.next (.pointer (some ⟨w.heap.size, 0, none⟩)) true ty).run Tryd.prog (w.iter s pos) = _ := fun ty => run_next_any w s pos ty hp
        clear d3 hasc
        generalize (Utf8.decode s pos).1 = n at *
        generalize (Utf8.decode s pos).2 = p' at *
        have g1 : ((n : Int) == 58) = false := by rw [beq_eq_false_iff_ne]; omega
        have g2 : ((n : Int) == 32) = false := by rw [beq_eq_false_iff_ne]; omega
        have g3 : ((n : Int) == 9) = false := by rw [beq_eq_false_iff_ne]; omega
        go_wp2
        go_roundw
        case rel => exact ⟨pos + p', by omega, rfl, HM.out⟩
        case measure => simp only [World.iterPos_iter]; omega
    · have hnx : ∀ ty, (Instr.next (.pointer (some ⟨w.heap.size, 0, none⟩)) true ty).run Tryd.prog (w.iter s pos) = _ := fun ty => run_next_end w s pos ty hp
      have hR : R = decide (s.size ≠ 0) := by
        rw [← HR.out]
        unfold isWordB
        rw [all_bytes (fun j b hj => HA.out j b (by have := (List.getElem?_eq_some_iff.1 hj).1; simp at this; omega) hj), Bool.true_and]
      have HR2 := Lib.hid hR
      clear hR
      go_wp2
      go_ret
      refine ⟨ret_bool ?_, HK.out _⟩
      rw [HR2.out]
      exact str_some s
end Go.Proofs.YtfijbjbfnpadmaaDoor
