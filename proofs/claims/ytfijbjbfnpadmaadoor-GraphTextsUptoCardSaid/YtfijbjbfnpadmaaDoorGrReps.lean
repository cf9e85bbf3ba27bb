/-
  slices.Index and Contains at strings; graph.repeats, fits.
-/
import Derived.Test.YtfijbjbfnpadmaaDoorGrFind
namespace Go.Proofs.YtfijbjbfnpadmaaDoor
open Go.RowKit

/-- Does a text stand among some? -/
def memB (ss : List ByteArray) (s : ByteArray) : Bool := ss.any (fun x => decide (x = s))
theorem memB_iff (ss : List ByteArray) (s : ByteArray) : memB ss s = true ↔ s ∈ ss := by
  unfold memB
  rw [List.any_eq_true]
  exact ⟨fun ⟨x, hx, e⟩ => of_decide_eq_true e ▸ hx, fun h => ⟨s, h, decide_eq_true rfl⟩⟩

/-- What is behind slices.Index: a place that is not below nought just if it is there. -/
def Indexed (ss : List ByteArray) (s : ByteArray) (w : World) (e : Ending) (w' : World) : Prop := ∃ r : Int, e = .returned (.int .i64 r) ∧ (0 ≤ r ↔ s ∈ ss) ∧ w = w'

set_option maxRecDepth 100000 in
set_option maxHeartbeats 1000000 in
theorem index_any (w : World) (D : Nat → Prop) (v : Value) (ss : List ByteArray) (s : ByteArray) (h : Strs w D v ss) :
    Calls Tryd.prog 50 #[v, .string s] w (Indexed ss s w) := by
  obtain ⟨⟨A, c, rfl, hlc, hcm, hn, hxl, hc⟩, h4⟩ := h
  unfold maxLen at hcm
  have HC := Lib.hid hc
  clear hc hxl h4
  go_enter Tryd.func50, Tryd.ntmps50
  go_wp2
  go_loop [8] (fun i => ∃ k : Nat, k ≤ ss.length ∧ i = .int .i64 k ∧ ∀ j x, j < k → ss[j]? = some x → x ≠ s) (fun i => ss.length - (intOf i).toNat)
  case atStart => exact ⟨0, Nat.zero_le _, rfl, fun j _ hj => absurd hj (by omega)⟩
  case round =>
    obtain ⟨k, hk, rfl, hall⟩ := hrel
    have HA := Lib.hid hall
    clear hall
    by_cases hlt : k < ss.length
    · obtain ⟨ad, rfl, hsp, hblk, hD, hcell⟩ := HC.out (by omega)
      obtain ⟨b, o, sp⟩ := ad
      simp only at hsp hblk hD hcell
      subst hsp
      have HS := Lib.hid (List.getElem?_eq_getElem hlt)
      have c0 : w.cell? ⟨b, o + k, none⟩ = some (.string ss[k]) := hcell k _ (by rw [List.getElem?_map, List.getElem?_eq_getElem hlt]; rfl)
      generalize ss[k] = m at *
      clear hcell
      by_cases hs : s = m
      · subst hs
        have HM := Lib.hid (List.mem_of_getElem? HS.out)
        go_wp2
        go_ret
        exact ⟨_, rfl, ⟨fun _ => HM.out, fun _ => by omega⟩, rfl⟩
      · have g : (s.toList == m.toList) = false := by rw [str_beq]; simp [hs]
        have HS2 := Lib.hid hs
        clear hs
        go_wp2
        go_round
        case rel =>
          refine ⟨k + 1, by omega, by go_num, fun j t hj e => ?_⟩
          rcases Nat.lt_or_ge j k with h | h
          · exact HA.out j t h e
          · have : j = k := by omega
            subst this
            rw [HS.out] at e
            injection e with e
            rw [← e]
            exact fun h => HS2.out h.symm
        case measure => simp [intOf]; omega
    · have HM := Lib.hid (show s ∉ ss from fun hm => by
        obtain ⟨j, hj⟩ := List.getElem?_of_mem hm
        exact HA.out j s (by have := (List.getElem?_eq_some_iff.1 hj).1; omega) hj rfl)
      go_wp2
      go_ret
      exact ⟨_, rfl, ⟨fun h => absurd h (by decide), fun h => absurd h HM.out⟩, rfl⟩

set_option maxRecDepth 100000 in
set_option maxHeartbeats 1000000 in
theorem contains_any (w : World) (D : Nat → Prop) (v : Value) (ss : List ByteArray) (s : ByteArray) (h : Strs w D v ss) :
    Calls Tryd.prog 45 #[v, .string s] w fun e w' => e = .returned (.bool (memB ss s)) ∧ w = w' := by
  have HI := Lib.hid (index_any w D v ss s h)
  obtain ⟨⟨A, c, rfl, _⟩, _⟩ := h
  generalize hR : memB ss s = R
  have HR := Lib.hid hR
  clear hR
  go_enter Tryd.func45, Tryd.ntmps45
  go_wp2_with fail
  refine HI.out.mono ?_
  rintro e w1 ⟨r, rfl, hr, rfl⟩
  have HRR := Lib.hid hr
  clear hr
  go_wp2
  go_ret
  refine ⟨ret_bool ?_, rfl⟩
  rw [← HR.out]
  rw [Bool.eq_iff_iff, decide_eq_true_eq, memB_iff]
  exact HRR.out

theorem Strs.take {w : World} {D : Nat → Prop} {A : Option Addr} {n c : Nat} {ss : List ByteArray} (h : Strs w D (.slice A n c) ss) (k : Nat) (hk : k ≤ ss.length) : Strs w D (.slice A k c) (ss.take k) := by
  obtain ⟨⟨A', c', hv, hlc, hcm, hn, hxl, hc⟩, h4⟩ := h
  obtain ⟨rfl, _, rfl⟩ : A = A' ∧ n = ss.length ∧ c = c' := by simpa using hv
  have hl : (ss.take k).length = k := by rw [List.length_take]; omega
  refine ⟨⟨A, c, by rw [hl], by omega, hcm, hn, by simp, fun h0 => ?_⟩, fun s hs => h4 s (List.mem_of_mem_take hs)⟩
  rw [hl] at h0
  obtain ⟨ad, rfl, hsp, hblk, hD, hcell⟩ := hc (by omega)
  refine ⟨ad, rfl, hsp, hblk, hD, fun j x hx => hcell j x ?_⟩
  rw [List.getElem?_map] at hx ⊢
  rw [List.getElem?_take] at hx
  split at hx
  · exact hx
  · cases hx

theorem nodup_more {ss : List ByteArray} {k : Nat} {s : ByteArray} (hs : ss[k]? = some s) (h : (ss.take k).Nodup) (hn : s ∉ ss.take k) : (ss.take (k + 1)).Nodup := by
  rw [List.take_add_one, hs, List.nodup_append]
  refine ⟨h, by simp, fun a ha b hb => ?_⟩
  simp at hb
  subst hb
  exact fun e => hn (e ▸ ha)
theorem nodup_not {ss : List ByteArray} {k : Nat} {s : ByteArray} (hs : ss[k]? = some s) (hn : s ∈ ss.take k) : ¬ ss.Nodup := by
  intro h
  have h2 : (ss.take (k + 1)).Nodup := h.sublist (List.take_sublist _ _)
  rw [List.take_add_one, hs, List.nodup_append] at h2
  exact h2.2.2 s hn s (by simp) rfl

set_option maxRecDepth 100000 in
set_option maxHeartbeats 1000000 in
theorem repeats_any (w : World) (D : Nat → Prop) (v : Value) (ss : List ByteArray) (h : Strs w D v ss) :
    Calls Tryd.prog 36 #[v] w fun e w' => e = .returned (.bool (!decide ss.Nodup)) ∧ w = w' := by
  have HH := Lib.hid h
  obtain ⟨⟨A, c, rfl, hlc, hcm, hn, hxl, hc⟩, h4⟩ := h
  unfold maxLen at hcm
  have HC := Lib.hid hc
  generalize hR : (!decide ss.Nodup) = R
  have HR := Lib.hid hR
  clear hc hxl h4 hR
  go_enter Tryd.func36, Tryd.ntmps36
  go_wp2
  go_loop [7] (fun i => ∃ k : Nat, k ≤ ss.length ∧ i = .int .i64 k ∧ (ss.take k).Nodup) (fun i => ss.length - (intOf i).toNat)
  case atStart => exact ⟨0, Nat.zero_le _, rfl, List.nodup_nil⟩
  case round =>
    obtain ⟨k, hk, rfl, hall⟩ := hrel
    have HA := Lib.hid hall
    clear hall
    by_cases hlt : k < ss.length
    · obtain ⟨ad, rfl, hsp, hblk, hD, hcell⟩ := HC.out (by omega)
      obtain ⟨b, o, sp⟩ := ad
      simp only at hsp hblk hD hcell
      subst hsp
      have HS := Lib.hid (List.getElem?_eq_getElem hlt)
      have c0 : w.cell? ⟨b, o + k, none⟩ = some (.string ss[k]) := hcell k _ (by rw [List.getElem?_map, List.getElem?_eq_getElem hlt]; rfl)
      have HCN := Lib.hid (contains_any w D _ (ss.take k) ss[k] (HH.out.take k hk))
      generalize ss[k] = m at *
      clear hcell
      cases hq : memB (ss.take k) m with
      | false =>
        rw [hq] at HCN
        have HM := Lib.hid (nodup_more HS.out HA.out (fun h => by rw [(memB_iff _ _).2 h] at hq; cases hq))
        clear hq
        go_wp2_with fail
        refine HCN.out.mono ?_
        rintro e w1 ⟨rfl, rfl⟩
        go_wp2
        go_round
        case rel => exact ⟨k + 1, by omega, by go_num, HM.out⟩
        case measure => simp [intOf]; omega
      | true =>
        rw [hq] at HCN
        have hR : R = true := by
          rw [← HR.out]
          simpa using nodup_not HS.out ((memB_iff _ _).1 hq)
        subst hR
        clear hq
        go_wp2_with fail
        refine HCN.out.mono ?_
        rintro e w1 ⟨rfl, rfl⟩
        go_wp2
        go_ret
        exact ⟨rfl, rfl⟩
    · have hR : R = false := by
        rw [← HR.out]
        have h1 := HA.out
        rw [List.take_of_length_le (by omega)] at h1
        simpa using h1
      subst hR
      go_wp2
      go_ret
      exact ⟨rfl, rfl⟩
end Go.Proofs.YtfijbjbfnpadmaaDoor
