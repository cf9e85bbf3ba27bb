/-
  graph.Find and dockyardref07.Find: the first target of a name.
-/
import Derived.Test.YtfijbjbfnpadmaaDoorGrPlain
namespace Go.Proofs.YtfijbjbfnpadmaaDoor
open Go.RowKit

/-- What is behind a call that tells a place, and whether there is one. -/
def FoundAt (r : Option Nat) (w : World) (e : Ending) (w' : World) : Prop := e = .returned (.tuple #[.int .i64 ((r.getD 0 : Nat) : Int), .bool r.isSome]) ∧ Keep noneOf w w'

theorem plain_at {ts : List Tg} {k : Nat} {t : Tg} (h : ts[k]? = some t) : (ts.map Tg.plain)[k]? = some t.plain := by rw [List.getElem?_map, h]; rfl
theorem plain_of {ts : List Tg} {k : Nat} {p : Pt} (h : (ts.map Tg.plain)[k]? = some p) : ∃ t, ts[k]? = some t ∧ t.plain = p := by
  rw [List.getElem?_map] at h
  cases ht : ts[k]? with
  | none => rw [ht] at h; cases h
  | some t => rw [ht] at h; exact ⟨t, rfl, by simpa using h⟩

set_option maxRecDepth 100000 in
set_option maxHeartbeats 1000000 in
theorem find_any (w : World) (D : Nat → Prop) (v : Value) (ts : List Tg) (s : ByteArray) (h : Tgs w D v ts) :
    Calls Tryd.prog 33 #[.agg #[v], .string s] w (FoundAt (findIx (ts.map Tg.plain) s) w) := by
  obtain ⟨A, c, rfl, hlc, hcm, hn, hxl, hc⟩ := h.1
  unfold maxLen at hcm
  have HC := Lib.hid hc
  have HT := Lib.hid h.2
  have HK0 := Lib.hid ((Keep.refl noneOf w).alloc (.cells #[.slice A ts.length c] 24))
  generalize hR : findIx (ts.map Tg.plain) s = R
  have HR := Lib.hid hR
  clear hc hxl h hR
  go_enter Tryd.func33, Tryd.ntmps33
  go_wp2
  go_loopw [11] (fun i wr => ∃ k : Nat, k ≤ ts.length ∧ i = .int .i64 k ∧ Keep noneOf w wr ∧ ∀ j t, j < k → ts[j]? = some t → t.name ≠ s) (fun i _ => ts.length - (intOf i).toNat)
  case atStart => exact ⟨0, Nat.zero_le _, rfl, HK0.out, fun j _ hj => absurd hj (by omega)⟩
  case round =>
    obtain ⟨k, hk, rfl, hkeep, hall⟩ := hrel
    have HA := Lib.hid hall
    have HKP := Lib.hid hkeep
    clear hall HK0
    by_cases hlt : k < ts.length
    · obtain ⟨ad, rfl, hsp, hblk, hD, hcell⟩ := HC.out (by omega)
      obtain ⟨b, o, sp⟩ := ad
      simp only at hsp hblk hD hcell
      subst hsp
      have HS := Lib.hid (List.getElem?_eq_getElem hlt)
      have hlies := HT.out _ (List.getElem_mem hlt)
      generalize ts[k] = t at *
      obtain ⟨c0, c1, c2⟩ := tgs_at hkeep hblk hcell HS.out
      clear hcell hkeep
      obtain ⟨nm, cm, nv, ss⟩ := t
      obtain ⟨_, _, ⟨A2, cp2, hnv, _⟩, _⟩ := hlies
      simp only at c0 c1 c2 hnv
      subst hnv
      by_cases hs : nm = s
      · subst hs
        have hR : R = some k := by
          rw [← HR.out]
          refine findIx_some (plain_at HS.out) rfl (fun j q hj hq => ?_)
          obtain ⟨t, ht, rfl⟩ := plain_of hq
          exact HA.out j t hj ht
        subst hR
        go_wp2
        go_ret2
        exact ⟨rfl, HKP.out.alloc _⟩
      · have g : (nm.toList == s.toList) = false := by rw [str_beq]; simp [hs]
        have HS2 := Lib.hid hs
        clear hs
        go_wp2
        go_roundw
        case rel =>
          refine ⟨k + 1, by omega, by go_num, HKP.out.alloc _, fun j t hj e => ?_⟩
          rcases Nat.lt_or_ge j k with h | h
          · exact HA.out j t h e
          · have : j = k := by omega
            subst this
            rw [HS.out] at e
            injection e with e
            rw [← e]
            exact HS2.out
        case measure => simp [intOf]; omega
    · have hR : R = none := by
        rw [← HR.out]
        refine findIx_none (fun j q hq => ?_)
        obtain ⟨t, ht, rfl⟩ := plain_of hq
        exact HA.out j t (by have := (List.getElem?_eq_some_iff.1 ht).1; omega) ht
      subst hR
      go_wp2
      go_ret2
      exact ⟨rfl, HKP.out⟩

set_option maxRecDepth 100000 in
set_option maxHeartbeats 1000000 in
theorem refFind_any (w : World) (D : Nat → Prop) (v : Value) (ts : List Tg) (s : ByteArray) (h : Tgs w D v ts) :
    Calls Tryd.prog 27 #[.agg #[v], .string s] w (FoundAt (findIx (ts.map Tg.plain) s) w) := by
  obtain ⟨A, c, rfl, hlc, hcm, hn, hxl, hc⟩ := h.1
  unfold maxLen at hcm
  have HC := Lib.hid hc
  have HK0 := Lib.hid ((Keep.refl noneOf w).alloc (.cells #[.slice A ts.length c] 24))
  generalize hR : findIx (ts.map Tg.plain) s = R
  have HR := Lib.hid hR
  clear hc hxl h hR
  go_enter Tryd.func27, Tryd.ntmps27
  go_wp2
  go_loop [6] (fun i => ∃ k : Nat, k ≤ ts.length ∧ i = .int .i64 k ∧ ∀ j t, j < k → ts[j]? = some t → t.name ≠ s) (fun i => ts.length - (intOf i).toNat)
  case atStart => exact ⟨0, Nat.zero_le _, rfl, fun j _ hj => absurd hj (by omega)⟩
  case round =>
    obtain ⟨k, hk, rfl, hall⟩ := hrel
    have HA := Lib.hid hall
    clear hall
    by_cases hlt : k < ts.length
    · obtain ⟨ad, rfl, hsp, hblk, hD, hcell⟩ := HC.out (by omega)
      obtain ⟨b, o, sp⟩ := ad
      simp only at hsp hblk hD hcell
      subst hsp
      have HS := Lib.hid (List.getElem?_eq_getElem hlt)
      generalize ts[k] = t at *
      obtain ⟨c0, _, _⟩ := tgs_at HK0.out hblk hcell HS.out
      clear hcell
      obtain ⟨nm, cm, nv, ss⟩ := t
      simp only at c0
      by_cases hs : nm = s
      · subst hs
        have hR : R = some k := by
          rw [← HR.out]
          refine findIx_some (plain_at HS.out) rfl (fun j q hj hq => ?_)
          obtain ⟨t, ht, rfl⟩ := plain_of hq
          exact HA.out j t hj ht
        subst hR
        go_wp2
        go_ret2
        exact ⟨rfl, HK0.out⟩
      · have g : (nm.toList == s.toList) = false := by rw [str_beq]; simp [hs]
        have HS2 := Lib.hid hs
        clear hs
        go_wp2
        go_round
        case rel =>
          refine ⟨k + 1, by omega, by go_num, fun j t hj e => ?_⟩
          rcases Nat.lt_or_ge j k with h | h
          · exact HA.out j t h e
          · have : j = k := by omega
            subst this
            rw [HS.out] at e
            injection e with e
            rw [← e]
            exact HS2.out
        case measure => simp [intOf]; omega
    · have hR : R = none := by
        rw [← HR.out]
        refine findIx_none (fun j q hq => ?_)
        obtain ⟨t, ht, rfl⟩ := plain_of hq
        exact HA.out j t (by have := (List.getElem?_eq_some_iff.1 ht).1; omega) ht
      subst hR
      go_wp2
      go_ret2
      exact ⟨rfl, HK0.out⟩
end Go.Proofs.YtfijbjbfnpadmaaDoor
