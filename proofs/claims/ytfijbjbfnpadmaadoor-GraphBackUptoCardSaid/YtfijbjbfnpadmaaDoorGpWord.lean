/-
  dockyardref07.word.
-/
import Derived.Test.YtfijbjbfnpadmaaDoorGpM
namespace Go.Proofs.YtfijbjbfnpadmaaDoor
open Go.RowKit

theorem takeWhile_len {f : UInt8 → Bool} {l : List UInt8} {n : Nat} (h : ∀ j b, j < n → l[j]? = some b → f b = true) (hn : n ≤ l.length) (he : ∀ b, l[n]? = some b → f b = false) : (l.takeWhile f).length = n := by
  induction l generalizing n with
  | nil =>
    have : n = 0 := by simpa using hn
    subst this
    rfl
  | cons a l ih =>
    cases n with
    | zero =>
      have := he a rfl
      rw [List.takeWhile_cons_of_neg (by rw [this]; decide)]
      rfl
    | succ n =>
      have := h 0 a (by omega) rfl
      rw [List.takeWhile_cons_of_pos this, List.length_cons, ih (fun j b hj e => h (j + 1) b (Nat.succ_lt_succ hj) (by simpa using e)) (by simpa using hn) (fun b e => he b (by simpa using e))]
/-- How many bytes from a place on are a word. -/
def wlen (s : ByteArray) (at_ : Nat) : Nat := (((bl s).drop at_).takeWhile wordB).length
theorem wlen_is {s : ByteArray} {p n : Nat} (hp : p + n ≤ s.size) (h : ∀ j b, j < n → (bl s)[p + j]? = some b → wordB b = true) (he : ∀ b, (bl s)[p + n]? = some b → wordB b = false) : wlen s p = n := by
  unfold wlen
  refine takeWhile_len (fun j b hj e => h j b hj (by rw [List.getElem?_drop] at e; exact e)) (by rw [List.length_drop, bl_length]; omega) (fun b e => he b (by rw [List.getElem?_drop] at e; exact e))

set_option maxRecDepth 100000 in
set_option maxHeartbeats 1000000 in
theorem refWord_any (w : World) (s : ByteArray) (hs : s.size ≤ maxLen) (p : Nat) (hp : p ≤ s.size) :
    Calls Tryd.prog 32 #[.string s, .int .i64 (p : Int)] w fun e w' => e = .returned (.int .i64 (wlen s p : Int)) ∧ w = w' := by
  unfold maxLen at hs
  generalize hR : wlen s p = R
  have HR := Lib.hid hR
  clear hR
  go_enter Tryd.func32, Tryd.ntmps32
  go_wp2
  go_loop [5] (fun i => ∃ n : Nat, p + n ≤ s.size ∧ i = .int .i64 n ∧ ∀ j b, j < n → (bl s)[p + j]? = some b → wordB b = true) (fun i => s.size - (intOf i).toNat)
  case atStart => exact ⟨0, by omega, rfl, fun j _ hj => absurd hj (by omega)⟩
  case round =>
    obtain ⟨n, hn, rfl, hall⟩ := hrel
    have HA := Lib.hid hall
    clear hall
    by_cases hlt : p + n < s.size
    · have hat : (bl s)[p + n]? = some s[p + n] := byte_at hlt
      by_cases hb : wordB s[p + n] = true
      · have hb' : s[p + n].toNat ≠ 58 ∧ s[p + n].toNat ≠ 32 ∧ s[p + n].toNat ≠ 9 := by
          unfold wordB at hb
          simpa [and_assoc] using hb
        obtain ⟨b1, b2, b3⟩ := hb'
        have HM := Lib.hid (show ∀ j b, j < n + 1 → (bl s)[p + j]? = some b → wordB b = true from fun j b hj e => by
          rcases Nat.lt_or_ge j n with h | h
          · exact HA.out j b h e
          · have : j = n := by omega
            subst this
            rw [hat] at e
            injection e with e
            rw [← e]
            exact hb)
        have g1 : ((s[p + n].toNat : Int) != 58) = true := by rw [bne_iff_ne]; omega
        have g2 : ((s[p + n].toNat : Int) != 32) = true := by rw [bne_iff_ne]; omega
        have g3 : ((s[p + n].toNat : Int) != 9) = true := by rw [bne_iff_ne]; omega
        clear hb hat
        go_wp2
        go_round
        case rel => exact ⟨n + 1, by omega, by go_num, HM.out⟩
        case measure => simp [intOf]; omega
      · have hRn : R = n := by
          rw [← HR.out]
          exact wlen_is hn HA.out (fun b e => by
            rw [hat] at e
            injection e with e
            rw [← e]
            simpa using hb)
        have hb' : s[p + n].toNat = 58 ∨ (s[p + n].toNat ≠ 58 ∧ s[p + n].toNat = 32) ∨ (s[p + n].toNat ≠ 58 ∧ s[p + n].toNat ≠ 32 ∧ s[p + n].toNat = 9) := by
          unfold wordB at hb
          simp at hb
          omega
        have HRN := Lib.hid hRn
        clear hb hat hRn
        rcases hb' with b1 | ⟨b1, b2⟩ | ⟨b1, b2, b3⟩
        · have g1 : ((s[p + n].toNat : Int) != 58) = false := by rw [bne_eq_false_iff_eq]; omega
          clear b1
          go_wp2
          go_ret
          exact ⟨by rw [HRN.out]; rfl, rfl⟩
        · have g1 : ((s[p + n].toNat : Int) != 58) = true := by rw [bne_iff_ne]; omega
          have g2 : ((s[p + n].toNat : Int) != 32) = false := by rw [bne_eq_false_iff_eq]; omega
          clear b1 b2
          go_wp2
          go_ret
          exact ⟨by rw [HRN.out]; rfl, rfl⟩
        · have g1 : ((s[p + n].toNat : Int) != 58) = true := by rw [bne_iff_ne]; omega
          have g2 : ((s[p + n].toNat : Int) != 32) = true := by rw [bne_iff_ne]; omega
          have g3 : ((s[p + n].toNat : Int) != 9) = false := by rw [bne_eq_false_iff_eq]; omega
          clear b1 b2 b3
          go_wp2
          go_ret
          exact ⟨by rw [HRN.out]; rfl, rfl⟩
    · have hRn : R = n := by
        rw [← HR.out]
        exact wlen_is hn HA.out (fun b e => by
          have := (List.getElem?_eq_some_iff.1 e).1
          rw [bl_length] at this
          omega)
      have HRN := Lib.hid hRn
      have q : ¬ ((p : Int) + (n : Int) < (s.size : Int)) := by omega
      clear hRn
      go_wp2
      go_ret
      exact ⟨by rw [HRN.out]; rfl, rfl⟩
end Go.Proofs.YtfijbjbfnpadmaaDoor
