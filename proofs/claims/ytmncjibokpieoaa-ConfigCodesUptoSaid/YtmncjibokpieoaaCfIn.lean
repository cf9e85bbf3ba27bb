/-
  slices.Index and Contains at numbers; dockyardref07.In.
-/
import Derived.Test.YtmncjibokpieoaaCfM
namespace Go.Proofs.Ytmncjibokpieoaa
open Go.RowKit

def IndexedZ (ss : List Int) (s : Int) (w : World) (e : Ending) (w' : World) : Prop := ∃ r : Int, e = .returned (.int .i64 r) ∧ (0 ≤ r ↔ s ∈ ss) ∧ w = w'

set_option maxRecDepth 100000 in
set_option maxHeartbeats 1000000 in
theorem indexZ_any (w : World) (D : Nat → Prop) (v : Value) (ss : List Int) (s : Int) (h : Zs w D v ss) :
    Calls Try.prog 57 #[v, .int .i64 s] w (IndexedZ ss s w) := by
  obtain ⟨A, c, rfl, hlc, hcm, _⟩ := h.shape
  unfold maxLen at hcm
  have HC := Lib.hid h
  clear h
  go_enter Try.func57, Try.ntmps57
  go_wp2
  go_loop [8] (fun i => ∃ k : Nat, k ≤ ss.length ∧ i = .int .i64 k ∧ ∀ j x, j < k → ss[j]? = some x → x ≠ s) (fun i => ss.length - (intOf i).toNat)
  case atStart => exact ⟨0, Nat.zero_le _, rfl, fun j _ hj => absurd hj (by omega)⟩
  case round =>
    obtain ⟨k, hk, rfl, hall⟩ := hrel
    have HA := Lib.hid hall
    clear hall
    by_cases hlt : k < ss.length
    · obtain ⟨b, o, rfl, hblk, hD, c0⟩ := HC.out.cell hlt
      have HS := Lib.hid (List.getElem?_eq_getElem hlt)
      generalize ss[k] = m at *
      by_cases hs : s = m
      · subst hs
        have HM := Lib.hid (List.mem_of_getElem? HS.out)
        go_wp2
        go_ret
        exact ⟨_, rfl, ⟨fun _ => HM.out, fun _ => by omega⟩, rfl⟩
      · have g : (s == m) = false := by simpa using hs
        have HS2 := Lib.hid hs
        clear hs
        go_wp2
        go_round
        case rel =>
          refine ⟨k + 1, by omega, by go_num, fun j t hj e => ?_⟩
          rcases Nat.lt_or_ge j k with h | h
          · exact HA.out j t h e
          · have : j = k := by omega
            subst this
            rw [HS.out] at e
            injection e with e
            rw [← e]
            exact fun h => HS2.out h.symm
        case measure => simp [intOf]; omega
    · have HM := Lib.hid (show s ∉ ss from fun hm => by
        obtain ⟨j, hj⟩ := List.getElem?_of_mem hm
        exact HA.out j s (by have := (List.getElem?_eq_some_iff.1 hj).1; omega) hj rfl)
      go_wp2
      go_ret
      exact ⟨_, rfl, ⟨fun h => absurd h (by decide), fun h => absurd h HM.out⟩, rfl⟩

set_option maxRecDepth 100000 in
set_option maxHeartbeats 1000000 in
theorem containsZ_any (w : World) (D : Nat → Prop) (v : Value) (ss : List Int) (s : Int) (h : Zs w D v ss) :
    Calls Try.prog 35 #[v, .int .i64 s] w fun e w' => e = .returned (.bool (inP ss s)) ∧ w = w' := by
  have HI := Lib.hid (indexZ_any w D v ss s h)
  obtain ⟨A, c, rfl, _⟩ := h.shape
  generalize hR : inP ss s = R
  have HR := Lib.hid hR
  clear hR h
  go_enter Try.func35, Try.ntmps35
  go_wp2_with fail
  refine HI.out.mono ?_
  rintro e w1 ⟨r, rfl, hr, rfl⟩
  have HRR := Lib.hid hr
  clear hr
  go_wp2
  go_ret
  refine ⟨ret_bool ?_, rfl⟩
  rw [← HR.out]
  rw [Bool.eq_iff_iff, decide_eq_true_eq, inP_true]
  exact HRR.out

set_option maxRecDepth 100000 in
set_option maxHeartbeats 1000000 in
theorem inZ_any (w : World) (D : Nat → Prop) (v : Value) (ns : List Int) (n : Int) (h : Zs w D v ns) :
    Calls Try.prog 23 #[v, .int .i64 n] w fun e w' => e = .returned (.bool (inP ns n)) ∧ w = w' := by
  obtain ⟨A, c, rfl, hlc, hcm, _⟩ := h.shape
  unfold maxLen at hcm
  have HC := Lib.hid h
  generalize hR : inP ns n = R
  have HR := Lib.hid hR
  clear h hR
  go_enter Try.func23, Try.ntmps23
  go_wp2
  go_loop [5] (fun i => ∃ k : Nat, k ≤ ns.length ∧ i = .int .i64 k ∧ ∀ j m, j < k → ns[j]? = some m → m ≠ n) (fun i => ns.length - (intOf i).toNat)
  case atStart => exact ⟨0, Nat.zero_le _, rfl, fun j _ hj => absurd hj (by omega)⟩
  case round =>
    obtain ⟨k, hk, rfl, hall⟩ := hrel
    have HA := Lib.hid hall
    clear hall
    by_cases hlt : k < ns.length
    · obtain ⟨b, o, rfl, hblk, hD, c0⟩ := HC.out.cell hlt
      have HS := Lib.hid (List.getElem?_eq_getElem hlt)
      generalize ns[k] = m at *
      by_cases hs : m = n
      · subst hs
        have hR : R = true := by
          rw [← HR.out, inP_true]
          exact List.mem_of_getElem? HS.out
        subst hR
        go_wp2
        go_ret
        exact ⟨rfl, rfl⟩
      · have g : (m == n) = false := by rw [beq_eq_false_iff_ne]; omega
        have HS2 := Lib.hid hs
        clear hs
        go_wp2
        go_round
        case rel =>
          refine ⟨k + 1, by omega, by go_num, fun j t hj e => ?_⟩
          rcases Nat.lt_or_ge j k with h | h
          · exact HA.out j t h e
          · have : j = k := by omega
            subst this
            rw [HS.out] at e
            injection e with e
            rw [← e]
            exact HS2.out
        case measure => simp [intOf]; omega
    · have hR : R = false := by
        rw [← HR.out, inP_false]
        intro hb
        obtain ⟨j, hj⟩ := List.getElem?_of_mem hb
        exact absurd rfl (HA.out j n (by have := (List.getElem?_eq_some_iff.1 hj).1; omega) hj)
      subst hR
      go_wp2
      go_ret
      exact ⟨rfl, rfl⟩
end Go.Proofs.Ytmncjibokpieoaa
