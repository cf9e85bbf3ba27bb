import Derived.Deep.QuietTactic
import Derived.Test.YtdikmmdkpfmocaaBs15
namespace Go.Proofs.Ytdikmmdkpfmocaa
open Go.RowKit
def IndexedZ (ss : List Int) (s : Int) (w : World) (e : Ending) (w' : World) : Prop := ∃ r : Int, e = .returned (.int .i64 r) ∧ (0 ≤ r ↔ s ∈ ss) ∧ w = w'
set_option maxRecDepth 100000 in
set_option maxHeartbeats 1000000 in
theorem indexZ_any (w : World) (D : Nat → Prop) (v : Value) (ss : List Int) (s : Int) (h : Zs w D v ss) :
    Calls Try.prog 62 #[v, .int .i64 s] w (IndexedZ ss s w) := by
  obtain ⟨A, c, rfl, hlc, hcm, _⟩ := h.shape
  unfold maxLen at hcm
  have HC := Lib.hid h
  clear h
  go_enter Try.func62, Try.ntmps62
  go_wp2
  go_loop [8] (fun i => ∃ k : Nat, k ≤ ss.length ∧ i = .int .i64 k ∧ ∀ j x, j < k → ss[j]? = some x → x ≠ s) (fun i => ss.length - (intOf i).toNat)
  case atStart => exact ⟨0, Nat.zero_le _, rfl, fun j _ hj => absurd hj (by omega)⟩
  case round =>
    obtain ⟨k, hk, rfl, hall⟩ := hrel
    have HA := Lib.hid hall
    clear hall
    by_cases hlt : k < ss.length
    · obtain ⟨b, o, rfl, hblk, hD, c0⟩ := HC.out.cell hlt
      have HS := Lib.hid (List.getElem?_eq_getElem hlt)
      generalize ss[k] = m at *
      by_cases hs : s = m
      · subst hs
        have HM := Lib.hid (List.mem_of_getElem? HS.out)
        go_wp2
        go_ret
        exact ⟨_, rfl, ⟨fun _ => HM.out, fun _ => by omega⟩, rfl⟩
      · have g : (s == m) = false := by simpa using hs
        have HS2 := Lib.hid hs
        clear hs
        go_wp2
        go_round
        case rel =>
          refine ⟨k + 1, by omega, by go_num, fun j t hj e => ?_⟩
          rcases Nat.lt_or_ge j k with h | h
          · exact HA.out j t h e
          · have : j = k := by omega
            subst this
            rw [HS.out] at e
            injection e with e
            rw [← e]
            exact fun h => HS2.out h.symm
        case measure => simp [intOf]; omega
    · have HM := Lib.hid (show s ∉ ss from fun hm => by
        obtain ⟨j, hj⟩ := List.getElem?_of_mem hm
        exact HA.out j s (by have := (List.getElem?_eq_some_iff.1 hj).1; omega) hj rfl)
      go_wp2
      go_ret
      exact ⟨_, rfl, ⟨fun h => absurd h (by decide), fun h => absurd h HM.out⟩, rfl⟩
set_option maxRecDepth 100000 in
set_option maxHeartbeats 1000000 in
theorem containsZ_any (w : World) (D : Nat → Prop) (v : Value) (ss : List Int) (s : Int) (h : Zs w D v ss) :
    Calls Try.prog 61 #[v, .int .i64 s] w fun e w' => e = .returned (.bool (inP ss s)) ∧ w = w' := by
  have HI := Lib.hid (indexZ_any w D v ss s h)
  obtain ⟨A, c, rfl, _⟩ := h.shape
  generalize hR : inP ss s = R
  have HR := Lib.hid hR
  clear hR h
  go_enter Try.func61, Try.ntmps61
  go_wp2_with fail
  refine HI.out.mono ?_
  rintro e w1 ⟨r, rfl, hr, rfl⟩
  have HRR := Lib.hid hr
  clear hr
  go_wp2
  go_ret
  refine ⟨ret_bool ?_, rfl⟩
  rw [← HR.out]
  rw [Bool.eq_iff_iff, decide_eq_true_eq, inP_true]
  exact HRR.out
end Go.Proofs.Ytdikmmdkpfmocaa
namespace Go.Proofs.Ytdikmmdkpfmocaa
open Go.RowKit
def TellsB (b : Bool) (w : World) (e : Ending) (w' : World) : Prop := e = .returned (.bool b) ∧ Keep noneOf w w'
def TellsN (z : Int) (w : World) (e : Ending) (w' : World) : Prop := e = .returned (.int .i64 z) ∧ Keep noneOf w w'
set_option maxRecDepth 100000 in
set_option maxHeartbeats 1000000 in
theorem votes_any (w : World) (D : Nat → Prop) (v : Value) (c : Cf) (z : Int) (h : CfAt w D v c) :
    Calls Try.prog 57 #[v, .int .i64 z] w (TellsB (inP c.v z) w) := by
  obtain ⟨a, b, rfl, h1, h2⟩ := h
  obtain ⟨A, ca, rfl, _⟩ := h1.shape
  obtain ⟨B, cb, rfl, _⟩ := h2.shape
  have K0 := (Keep.refl noneOf w).alloc (.cells #[.slice A c.v.length ca, .slice B c.l.length cb] 26)
  have HC := Lib.hid (containsZ_any _ D _ c.v z (h1.keepN K0))
  have HK0 := Lib.hid K0
  clear h1 h2 K0
  go_enter Try.func57, Try.ntmps57
  go_wp2_with fail
  refine HC.out.mono ?_
  rintro e w1 ⟨rfl, rfl⟩
  go_wp2
  go_ret
  exact ⟨rfl, HK0.out⟩
set_option maxRecDepth 100000 in
set_option maxHeartbeats 1000000 in
theorem ascend_any (w : World) (D : Nat → Prop) (v : Value) (l : List Int) (h : Zs w D v l) :
    Calls Try.prog 52 #[v] w fun e w' => e = .returned (.bool (ascP l)) ∧ w = w' := by
  obtain ⟨A, c, rfl, hlc, hcm, _⟩ := h.shape
  unfold maxLen at hcm
  have HC := Lib.hid h
  generalize hR : ascP l = R
  have HR := Lib.hid hR
  clear h hR
  go_enter Try.func52, Try.ntmps52
  go_wp2
  go_loop [3, 8] (fun x i => ∃ (k : Nat) (b : Int), k ≤ l.length ∧ i = .int .i64 k ∧ x = .int .i64 b ∧ ascP l = ascFrom b (l.drop k)) (fun _ i => l.length - (intOf i).toNat)
  case atStart => exact ⟨0, -1, Nat.zero_le _, rfl, rfl, rfl⟩
  case round =>
    obtain ⟨k, b, hk, rfl, rfl, hall⟩ := hrel
    have HA := Lib.hid hall
    clear hall
    by_cases hlt : k < l.length
    · obtain ⟨g, o, rfl, hblk, hD, c0⟩ := HC.out.cell hlt
      have HS := Lib.hid (asc_step (b := b) hlt)
      generalize l[k] = m at *
      by_cases h1 : b < m
      · have n1 : ¬ m ≤ b := by omega
        by_cases h2 : m < 8
        · have n2 : ¬ m ≥ 8 := by omega
          rw [decide_eq_true h1, decide_eq_true h2, Bool.and_self, Bool.true_and] at HS
          clear h1 h2
          go_wp2
          go_round
          case rel => exact ⟨k + 1, m, by omega, by go_num, rfl, HA.out.trans HS.out⟩
          case measure => simp [intOf]; omega
        · have n2 : m ≥ 8 := by omega
          have hR : R = false := by rw [← HR.out, HA.out, HS.out, decide_eq_false h2]; simp
          subst hR
          clear h1 h2
          go_wp2
          go_ret
          exact ⟨rfl, rfl⟩
      · have n1 : m ≤ b := by omega
        have hR : R = false := by rw [← HR.out, HA.out, HS.out, decide_eq_false h1]; simp
        subst hR
        clear h1
        go_wp2
        go_ret
        exact ⟨rfl, rfl⟩
    · have hR : R = true := by rw [← HR.out, HA.out, asc_end (by omega)]
      subst hR
      go_wp2
      go_ret
      exact ⟨rfl, rfl⟩
end Go.Proofs.Ytdikmmdkpfmocaa
