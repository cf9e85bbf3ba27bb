/-
  The document's answers for configurations: Encode.
-/
import Derived.Test.YtmncjibokpieoaaCfDecM
import Derived.Test.YtmncjibokpieoaaCfAll
import Derived.Deep.DeepCutAuto
namespace Go.Proofs.Ytmncjibokpieoaa
open Go.RowKit

/-- A number as a byte's value. -/
def zu (z : Int) : Value := .int .u8 z
theorem own_one (w : World) {base : Nat} (hb : base ≤ w.heap.size) (e : TypeId) (x : Value) : (w.alloc (.cells #[x] e)).ownsRow base e 1 (.slice (some ⟨w.heap.size, 0, none⟩) 1 1) 1 [x] :=
  ⟨by simp, .inr ⟨w.heap.size, 1, #[x], rfl, hb, heap_alloc_new w _, Nat.le_refl _, by unfold maxLen; omega, rfl, by simp⟩⟩
theorem bv_few {n : Nat} (h : n < 256) : bv (UInt8.ofNat n) = zu (n : Int) := by
  unfold bv zu
  rw [UInt8.toNat_ofNat', Nat.mod_eq_of_lt h]
theorem map_by8 {l : List Int} (h : ∀ x ∈ l, 0 ≤ x ∧ x < 8) : (l.map by8).map bv = l.map zu := by
  rw [List.map_map]
  apply List.map_congr_left
  intro x hx
  have := h x hx
  exact bv_by8 (by omega) (by omega)
theorem enc_vals {c : Cf} (hv : c.v.length ≤ 8) (hl : c.l.length ≤ 8) (h8 : ∀ x ∈ c.v, 0 ≤ x ∧ x < 8) (k8 : ∀ x ∈ c.l, 0 ≤ x ∧ x < 8) : (encP c).map bv = ([zu (c.v.length : Int)] ++ c.v.map zu ++ [zu (c.l.length : Int)]) ++ c.l.map zu := by
  unfold encP
  rw [List.map_append, List.map_cons, List.map_cons, map_by8 h8, map_by8 k8, bv_few (by omega), bv_few (by omega)]
  simp
theorem take_zu {zs : List Int} {k : Nat} (hk : k < zs.length) : (zs.take (k + 1)).map zu = (zs.take k).map zu ++ [zu zs[k]] := by
  rw [List.take_add_one, List.getElem?_eq_getElem hk]
  simp only [Option.toList_some, List.map_append, List.map_cons, List.map_nil]

theorem Keep.grownB {w w1 w2 : World} {base n : Nat} {e : TypeId} {sz : Nat} {v : Value} {xs : List Value} (k : Keep noneOf w w1) (h : w1.grownBy w2 v.ownBlock) (o : w1.ownsRow base e sz v n xs) (hb : w.heap.size ≤ base) : Keep noneOf w w2 :=
  k.trans (Keep.of_grown h) (fun j hj hs => absurd (o.lt j hs.symm).1 (by omega))

set_option maxRecDepth 100000 in
set_option maxHeartbeats 1000000 in
theorem rencode_any (w : World) (D : Nat → Prop) (v : Value) (c : Cf) (h : CfAt w D v c) :
    Calls Try.prog 25 #[v] w (Encd c w) := by
  have HH := Lib.hid h
  obtain ⟨a, b, rfl, h1, h2⟩ := h
  obtain ⟨A, ca, rfl, hla, hma, _⟩ := h1.shape
  obtain ⟨B, cb, rfl, hlb, hmb, _⟩ := h2.shape
  have H1 := Lib.hid h1
  have H2 := Lib.hid h2
  unfold maxLen at hma hmb
  have K0 := (Keep.refl noneOf w).alloc (.cells #[.slice A c.v.length ca, .slice B c.l.length cb] 24)
  have X0 := Box.new w 24 #[.slice A c.v.length ca, .slice B c.l.length cb]
  have HX0 := Lib.hid X0
  have HK0 := Lib.hid K0
  have HC := Lib.hid (rcheck_any _ D _ c (HH.out.keepN K0))
  clear h1 h2 X0 K0
  rcases chk_range c with hz | hz
  · have HZ := Lib.hid hz
    have HV := Lib.hid ((chk_iff c).1 hz)
    rw [hz] at HC
    clear hz
    have h8v := eight HV.out.vs HV.out.v8
    have h8l := eight HV.out.ls HV.out.l8
    obtain ⟨i0, hi0, hz0, hz1, hz2⟩ := info_parts u8info
    go_enter Try.func25, Try.ntmps25
    go_wp2_with fail
    refine HC.out.mono ?_
    rintro e w1 ⟨rfl, k1⟩
    have HK1 := Lib.hid (HK0.out.trans k1 (fun _ _ h => h))
    have HX1 := Lib.hid (HX0.out.keep k1 id)
    have x0 : w1.cell? ⟨w.heap.size, 0, none⟩ = some (.slice A c.v.length ca) := HX1.out.cell 0
    have x1 : w1.cell? ⟨w.heap.size, 1, none⟩ = some (.slice B c.l.length cb) := HX1.out.cell 1
    have hlt0 : w.heap.size < w1.heap.size := HX1.out.lt
    have eln := wrap8 (n := (c.v.length : Int)) (by omega) (by omega)
    have elm := wrap8 (n := (c.l.length : Int)) (by omega) (by omega)
    clear k1 HC HK0 HX0
    go_wp2
    have HO0 := Lib.hid (own_one w1 (Nat.le_refl _) 5 (zu (c.v.length : Int)))
    have HKA := Lib.hid ((Keep.refl noneOf w1).alloc (.cells #[.int .u8 (c.v.length : Int)] 5))
    change Hid ((w1.alloc (.cells #[.int .u8 (c.v.length : Int)] 5)).ownsRow _ _ _ _ _ _) at HO0
    have HV1 := Lib.hid (H1.out.keepN HK1.out)
    have HV2 := Lib.hid (H2.out.keepN HK1.out)
    have H8v := Lib.hid HV.out.v8
    have H8l := Lib.hid HV.out.l8
    clear x0 x1
    generalize w1.alloc (.cells #[.int .u8 (c.v.length : Int)] 5) = w2 at *
    have MC : Hid (∀ w', Keep noneOf w1 w' → w'.cell? ⟨w.heap.size, 0, none⟩ = some (.slice A c.v.length ca) ∧ w'.cell? ⟨w.heap.size, 1, none⟩ = some (.slice B c.l.length cb)) := fun w' k => ⟨(HX1.out.keep k id).cell 0, (HX1.out.keep k id).cell 1⟩
    go_loopw [5, 6] (fun b i wr => ∃ k : Nat, k ≤ c.v.length ∧ i = .int .i64 k ∧ Keep noneOf w1 wr ∧ wr.ownsRow w1.heap.size 5 1 b (1 + k) ([zu (c.v.length : Int)] ++ (c.v.take k).map zu)) (fun _ i _ => c.v.length - (intOf i).toNat)
    case atStart => exact ⟨0, Nat.zero_le _, rfl, HKA.out, by simpa using HO0.out⟩
    case round =>
      obtain ⟨k, hk, rfl, hkw, hown⟩ := hrel
      obtain ⟨wk, rfl⟩ : ∃ wk, wk = wr := ⟨_, rfl⟩
      obtain ⟨A3, c3, hv3⟩ := own_shape hown
      subst hv3
      have HKW := Lib.hid hkw
      have HOWN := Lib.hid hown
      have hsz := hkw.size
      have x0 := (MC.out _ hkw).1
      have x1 := (MC.out _ hkw).2
      clear hown
      by_cases hlt : k < c.v.length
      · obtain ⟨b, o, rfl, hblk, hD, hc0⟩ := HV1.out.cell hlt
        have c0 : wk.cell? ⟨b, o + k, none⟩ = some (.int .i64 c.v[k]) := (hkw.cell (p := ⟨b, o + k, none⟩) hblk id).trans hc0
        have HS := Lib.hid (take_zu hlt)
        obtain ⟨m0, m8⟩ := H8v.out _ (List.getElem_mem hlt)
        generalize c.v[k] = m at *
        have q0 : (0 : Int) ≤ (k : Int) := by omega
        have q1 : (k : Int) < (c.v.length : Int) := by omega
        clear hkw hc0
        go_wp2_with (at_builtin; refine wpList_append_own _ rfl _ _ 41 rfl w1.heap.size 5 i0 _ 1 1 Try.underlying41 hi0 hz0 hz1 hz2 rfl (by decide) _ _ _ rfl (HOWN.out.alloc _) ⟨wk.heap.size, 0, none⟩ 1 1 [zu m] rfl rfl (cell_one_new _ _ _) (by simp [Value.oneCell', zu]) (by unfold maxLen; omega) (by omega) (by simp; omega) ?_; intro v' w9 hown' hgrow _)
        have HK2 := Lib.hid ((HKW.out.alloc (.cells #[.int .u8 m] 5)).grownB hgrow (HOWN.out.alloc _) (by omega))
        rw [List.append_assoc, ← HS.out] at hown'
        have HO2 := Lib.hid hown'
        clear hown' hgrow
        go_roundw
        case rel => exact ⟨k + 1, by omega, by go_num, HK2.out, HO2.out⟩
        case measure => simp [intOf]; omega
      · obtain rfl : k = c.v.length := by omega
        rw [List.take_length] at HOWN
        clear hkw
        go_wp2_with (at_builtin; refine wpList_append_own _ rfl _ _ 41 rfl w1.heap.size 5 i0 _ 1 1 Try.underlying41 hi0 hz0 hz1 hz2 rfl (by decide) _ _ _ rfl (HOWN.out.alloc _) ⟨wk.heap.size, 0, none⟩ 1 1 [zu (c.l.length : Int)] rfl rfl (cell_one_new _ _ _) (by simp [Value.oneCell', zu]) (by unfold maxLen; omega) (by omega) (by simp; omega) ?_; intro v' w3 hown' hgrow _)
        have HK3 := Lib.hid ((HKW.out.alloc (.cells #[.int .u8 (c.l.length : Int)] 5)).grownB hgrow (HOWN.out.alloc _) (by omega))
        have HO3 := Lib.hid hown'
        obtain ⟨pr, hpr⟩ : ∃ pr, [zu (c.v.length : Int)] ++ c.v.map zu ++ [zu (c.l.length : Int)] = pr := ⟨_, rfl⟩
        have HPR := Lib.hid hpr
        rw [hpr] at HO3
        clear hown' hgrow hpr x0 x1 HKW HOWN HV1 hsz
        go_loopw [5, 7] (fun b i wr => ∃ k : Nat, k ≤ c.l.length ∧ i = .int .i64 k ∧ Keep noneOf w1 wr ∧ wr.ownsRow w1.heap.size 5 1 b ((1 + c.v.length + 1) + k) (pr ++ (c.l.take k).map zu)) (fun _ i _ => c.l.length - (intOf i).toNat)
        case atStart => exact ⟨0, Nat.zero_le _, rfl, HK3.out, by simpa using HO3.out⟩
        case round =>
          obtain ⟨k, hk, rfl, hkw, hown⟩ := hrel
          obtain ⟨wk, rfl⟩ : ∃ wk, wk = wr := ⟨_, rfl⟩
          obtain ⟨A3, c3, hv3⟩ := own_shape hown
          subst hv3
          have HKW := Lib.hid hkw
          have HOWN := Lib.hid hown
          have hsz := hkw.size
          have x0 := (MC.out _ hkw).1
          have x1 := (MC.out _ hkw).2
          clear hown
          by_cases hlt : k < c.l.length
          · obtain ⟨b, o, rfl, hblk, hD, hc0⟩ := HV2.out.cell hlt
            have c0 : wk.cell? ⟨b, o + k, none⟩ = some (.int .i64 c.l[k]) := (hkw.cell (p := ⟨b, o + k, none⟩) hblk id).trans hc0
            have HS := Lib.hid (take_zu hlt)
            obtain ⟨m0, m8⟩ := H8l.out _ (List.getElem_mem hlt)
            generalize c.l[k] = m at *
            have q0 : (0 : Int) ≤ (k : Int) := by omega
            have q1 : (k : Int) < (c.l.length : Int) := by omega
            clear hkw hc0
            go_wp2_with (at_builtin; refine wpList_append_own _ rfl _ _ 41 rfl w1.heap.size 5 i0 _ 1 1 Try.underlying41 hi0 hz0 hz1 hz2 rfl (by decide) _ _ _ rfl (HOWN.out.alloc _) ⟨wk.heap.size, 0, none⟩ 1 1 [zu m] rfl rfl (cell_one_new _ _ _) (by simp [Value.oneCell', zu]) (by unfold maxLen; omega) (by omega) (by simp; omega) ?_; intro v' w9 hown' hgrow _)
            have HK2 := Lib.hid ((HKW.out.alloc (.cells #[.int .u8 m] 5)).grownB hgrow (HOWN.out.alloc _) (by omega))
            rw [List.append_assoc, ← HS.out] at hown'
            have HO2 := Lib.hid hown'
            clear hown' hgrow
            go_roundw
            case rel => exact ⟨k + 1, by omega, by go_num, HK2.out, HO2.out⟩
            case measure => simp [intOf]; omega
          · obtain rfl : k = c.l.length := by omega
            rw [List.take_length] at HOWN
            clear hkw
            obtain ⟨A4, c4, hv4⟩ := own_shape HOWN.out
            have HEV := Lib.hid (enc_vals h8v h8l H8v.out H8l.out)
            have hel : (encP c).length = 1 + c.v.length + 1 + c.l.length := by unfold encP; simp; omega
            rw [HPR.out] at HEV
            rw [← HEV.out, ← hel] at HOWN
            have HBF := Lib.hid (show Bytes wk (fun k => w.heap.size ≤ k) (.slice A3 (encP c).length c3) (encP c) from (Bytes.of_own (by have := HOWN.out; exact this)).mono (fun i _ hi => by have := (HOWN.out.lt i hi.symm).1; omega))
            rw [hel] at HBF
            have HKE := Lib.hid (HK1.out.trans HKW.out (fun _ _ h => h))
            clear hel hv4
            go_wp2
            go_ret2
            exact .inl ⟨HZ.out, _, rfl, HBF.out, HKE.out⟩
  · have HZ := Lib.hid hz
    rw [hz] at HC
    clear hz
    go_enter Try.func25, Try.ntmps25
    go_wp2_with fail
    refine HC.out.mono ?_
    rintro e w1 ⟨rfl, k1⟩
    have HK1 := Lib.hid (HK0.out.trans k1 (fun _ _ h => h))
    clear k1
    go_wp2
    go_ret2
    exact .inr ⟨HZ.out, rfl, HK1.out⟩
end Go.Proofs.Ytmncjibokpieoaa
