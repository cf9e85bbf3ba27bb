/-
  entry.Right: which commands may be.
-/
import Derived.Test.YtngbminjbgomgaaFields
namespace Go.Proofs.Ytngbminjbgomgaa
open Go.RowKit

/-- The slice value v, of n elements of so many cells each, reads as the cells xs; where there are any, they lie in one of the blocks of D. -/
def Row (w : World) (D : Nat → Prop) (v : Value) (n size : Nat) (xs : List Value) : Prop :=
  ∃ (A : Option Addr) (c : Nat), v = .slice A n c ∧ n ≤ c ∧ c ≤ maxLen ∧ (A = none → c = 0) ∧ xs.length = n * size ∧
    (0 < n → ∃ ad : Addr, A = some ad ∧ ad.spot = none ∧ ad.block < w.heap.size ∧ D ad.block ∧ ∀ j x, xs[j]? = some x → w.cell? ⟨ad.block, ad.off + j, none⟩ = some x)
theorem Row.keep {w w' : World} {S D : Nat → Prop} {v : Value} {n size : Nat} {xs : List Value} (h : Row w D v n size xs) (k : Keep S w w') (hs : ∀ i, i < w.heap.size → D i → ¬ S i) : Row w' D v n size xs := by
  obtain ⟨A, c, hv, hl, hm, hn, hx, hc⟩ := h
  refine ⟨A, c, hv, hl, hm, hn, hx, fun h0 => ?_⟩
  obtain ⟨ad, hA, hsp, hlt, hD, hcell⟩ := hc h0
  exact ⟨ad, hA, hsp, Nat.lt_of_lt_of_le hlt k.size, hD, fun j b hb => (k.cell (p := ⟨ad.block, ad.off + j, none⟩) hlt (hs _ hlt hD)).trans (hcell j b hb)⟩
theorem Row.mono {w : World} {D D' : Nat → Prop} {v : Value} {n size : Nat} {xs : List Value} (h : Row w D v n size xs) (hD : ∀ i, i < w.heap.size → D i → D' i) : Row w D' v n size xs := by
  obtain ⟨A, c, hv, hl, hm, hn, hx, hc⟩ := h
  refine ⟨A, c, hv, hl, hm, hn, hx, fun h0 => ?_⟩
  obtain ⟨ad, hA, hsp, hlt, hd, hcell⟩ := hc h0
  exact ⟨ad, hA, hsp, hlt, hD _ hlt hd, hcell⟩

/-- A slice of strings. -/
def Strs (w : World) (D : Nat → Prop) (v : Value) (ss : List ByteArray) : Prop := Row w D v ss.length 1 (ss.map Value.string) ∧ ∀ s ∈ ss, s.size ≤ maxLen
theorem Strs.keep {w w' : World} {S D : Nat → Prop} {v : Value} {ss : List ByteArray} (h : Strs w D v ss) (k : Keep S w w') (hs : ∀ i, i < w.heap.size → D i → ¬ S i) : Strs w' D v ss := ⟨h.1.keep k hs, h.2⟩

/-- A target, with the value of the slice of its needs. -/
structure Tg where
  name : ByteArray
  cmd : ByteArray
  nv : Value
  needs : List ByteArray
def Tg.cells (t : Tg) : List Value := [.string t.name, .string t.cmd, t.nv]
/-- A target that lies in memory as it should. -/
def Tg.lies (w : World) (D : Nat → Prop) (t : Tg) : Prop := t.name.size ≤ maxLen ∧ t.cmd.size ≤ maxLen ∧ Strs w D t.nv t.needs
/-- A slice of targets. -/
def Tgs (w : World) (D : Nat → Prop) (v : Value) (ts : List Tg) : Prop := Row w D v ts.length 3 (ts.flatMap Tg.cells) ∧ ∀ t ∈ ts, t.lies w D
theorem Tgs.keep {w w' : World} {S D : Nat → Prop} {v : Value} {ts : List Tg} (h : Tgs w D v ts) (k : Keep S w w') (hs : ∀ i, i < w.heap.size → D i → ¬ S i) : Tgs w' D v ts :=
  ⟨h.1.keep k hs, fun t ht => ⟨(h.2 t ht).1, (h.2 t ht).2.1, (h.2 t ht).2.2.keep k hs⟩⟩

/-- A target within the limits. -/
def Tg.fits (t : Tg) : Bool := decide (t.name.size ≤ 32) && decide (t.cmd.size ≤ 256) && decide (t.needs.length ≤ 16) && t.needs.all (fun s => decide (s.size ≤ 32))

set_option maxRecDepth 100000 in
set_option maxHeartbeats 1000000 in
theorem targetFits_any (w : World) (D : Nat → Prop) (t : Tg) (h : t.lies w D) :
    Calls Try.prog 66 #[.agg #[.string t.name, .string t.cmd, t.nv]] w fun e w' => e = .returned (.bool t.fits) ∧ Keep noneOf w w' := by
  obtain ⟨nm, cm, nv, ss⟩ := t
  obtain ⟨h1, h2, h3, h4⟩ := h
  simp only at h1 h2 h3 h4 ⊢
  unfold maxLen at h1 h2
  obtain ⟨A, c, rfl, hlc, hcm, hn, hxl, hc⟩ := h3
  unfold maxLen at hcm
  have EF := Lib.hid (show Tg.fits ⟨nm, cm, .slice A ss.length c, ss⟩ = (decide (nm.size ≤ 32) && decide (cm.size ≤ 256) && decide (ss.length ≤ 16) && ss.all (fun s => decide (s.size ≤ 32))) from rfl)
  generalize Tg.fits ⟨nm, cm, .slice A ss.length c, ss⟩ = R at *
  have HC := Lib.hid hc
  have H4 := Lib.hid h4
  clear hc h4
  by_cases hb : nm.size ≤ 32 ∧ cm.size ≤ 256 ∧ ss.length ≤ 16
  · obtain ⟨b1, b2, b3⟩ := hb
    go_enter Try.func66, Try.ntmps66
    go_wp2
    go_loop [24] (fun i => ∃ k : Nat, k ≤ ss.length ∧ i = .int .i64 k ∧ ∀ j s, j < k → ss[j]? = some s → s.size ≤ 32) (fun i => ss.length - (intOf i).toNat)
    case atStart => exact ⟨0, Nat.zero_le _, rfl, fun j _ hj => absurd hj (by omega)⟩
    case round =>
      obtain ⟨k, hk, rfl, hall⟩ := hrel
      have HA := Lib.hid hall
      clear hall
      by_cases hlt : k < ss.length
      · obtain ⟨ad, rfl, hsp, hblk, _, hcell⟩ := HC.out (by omega)
        obtain ⟨b, o, sp⟩ := ad
        simp only at hsp hblk
        subst hsp
        have hck : (w.alloc (.cells #[.string nm, .string cm, .slice (some ⟨b, o, none⟩) ss.length c] 102)).cell? ⟨b, o + k, none⟩ = some (.string ss[k]) := (World.cell?_alloc_lt _ _ _ hblk).trans (hcell k _ (by simp [List.getElem?_eq_getElem hlt]))
        clear hcell
        have hmx : ss[k].size ≤ maxLen := H4.out _ (List.getElem_mem hlt)
        unfold maxLen at hmx
        have HS := Lib.hid (List.getElem?_eq_getElem hlt)
        generalize ss[k] = s at *
        by_cases hs : s.size ≤ 32
        · go_wp2
          go_round
          case rel =>
            refine ⟨k + 1, by omega, by go_num, fun j s' hj e => ?_⟩
            rcases Nat.lt_or_ge j k with h | h
            · exact HA.out j s' h e
            · have : j = k := by omega
              subst this
              rw [HS.out] at e
              injection e with e
              exact e ▸ hs
          case measure => simp [intOf]; omega
        · go_wp2
          go_ret
          refine ⟨ret_bool (Eq.symm ?_), (Keep.refl _ _).alloc _⟩
          rw [EF.out, Bool.and_eq_false_iff]
          right
          rw [List.all_eq_false]
          exact ⟨s, List.mem_of_getElem? HS.out, by simpa using hs⟩
      · go_wp2
        go_ret
        refine ⟨ret_bool (Eq.symm ?_), (Keep.refl _ _).alloc _⟩
        rw [EF.out]
        have hall : ss.all (fun s => decide (s.size ≤ 32)) = true := by
          rw [List.all_eq_true]
          intro s hs
          obtain ⟨j, hj⟩ := List.getElem?_of_mem hs
          have hjl := (List.getElem?_eq_some_iff.1 hj).1
          exact decide_eq_true (HA.out j s (by omega) hj)
        simp [b1, b2, b3, hall]
  · have hR : R = false := by
      rw [EF.out]
      by_cases h1 : nm.size ≤ 32
      · by_cases h2 : cm.size ≤ 256
        · have h3 : ¬ ss.length ≤ 16 := fun h3 => hb ⟨h1, h2, h3⟩
          simp [h3]
        · simp [h2]
      · simp [h1]
    have HB : ¬ nm.size ≤ 32 ∨ (nm.size ≤ 32 ∧ ¬ cm.size ≤ 256) ∨ (nm.size ≤ 32 ∧ cm.size ≤ 256 ∧ ¬ ss.length ≤ 16) := by omega
    subst hR
    clear hb
    rcases HB with hb | ⟨ha, hb⟩ | ⟨ha, ha', hb⟩
    · go_enter Try.func66, Try.ntmps66
      go_wp2
      go_ret
      exact ⟨rfl, (Keep.refl _ _).alloc _⟩
    · go_enter Try.func66, Try.ntmps66
      go_wp2
      go_ret
      exact ⟨rfl, (Keep.refl _ _).alloc _⟩
    · go_enter Try.func66, Try.ntmps66
      go_wp2
      go_ret
      exact ⟨rfl, (Keep.refl _ _).alloc _⟩

/-- A graph within the limits. -/
def gFits (ts : List Tg) : Bool := decide (ts.length ≤ 32) && ts.all Tg.fits

theorem cells_at {ts : List Tg} {k : Nat} {t : Tg} (h : ts[k]? = some t) (j : Nat) (hj : j < 3) : (ts.flatMap Tg.cells)[3 * k + j]? = t.cells[j]? := by
  induction ts generalizing k with
  | nil => simp at h
  | cons a l ih =>
    cases k with
    | zero =>
      simp at h
      subst h
      rw [List.flatMap_cons, List.getElem?_append_left (by simp [Tg.cells]; omega)]
      simp
    | succ k =>
      simp at h
      rw [List.flatMap_cons, List.getElem?_append_right (by simp [Tg.cells]; omega), ← ih h]
      congr 1
      simp [Tg.cells]
      omega

set_option maxRecDepth 100000 in
set_option maxHeartbeats 1000000 in
theorem fits_any (w : World) (D : Nat → Prop) (v : Value) (ts : List Tg) (h : Tgs w D v ts) :
    Calls Try.prog 45 #[.agg #[v]] w fun e w' => e = .returned (.bool (gFits ts)) ∧ Keep noneOf w w' := by
  have hT := h.2
  obtain ⟨A, c, rfl, hlc, hcm, hn, hxl, hc⟩ := h.1
  have H := Lib.hid h
  unfold maxLen at hcm
  have EF := Lib.hid (show gFits ts = (decide (ts.length ≤ 32) && ts.all Tg.fits) from rfl)
  generalize gFits ts = R at *
  have HC := Lib.hid hc
  have HT := Lib.hid hT
  clear hc hT h
  by_cases hb : ts.length ≤ 32
  · have hb' : decide ((32 : Int) < (ts.length : Int)) = false := by simp; omega
    go_enter Try.func45, Try.ntmps45
    go_wp2
    go_loopw [12] (fun i wr => ∃ k : Nat, k ≤ ts.length ∧ i = .int .i64 k ∧ Keep noneOf w wr ∧ ∀ j t, j < k → ts[j]? = some t → t.fits = true) (fun i _ => ts.length - (intOf i).toNat)
    case atStart => exact ⟨0, Nat.zero_le _, rfl, (Keep.refl _ _).alloc _, fun j _ hj => absurd hj (by omega)⟩
    case round =>
      obtain ⟨k, hk, rfl, hkeep, hall⟩ := hrel
      have HA := Lib.hid hall
      clear hall
      by_cases hlt : k < ts.length
      · obtain ⟨ad, rfl, hsp, hblk, hD, hcell⟩ := HC.out (by omega)
        obtain ⟨b, o, sp⟩ := ad
        simp only at hsp hblk hD hcell
        subst hsp
        have HS := Lib.hid (List.getElem?_eq_getElem hlt)
        have hlies := HT.out _ (List.getElem_mem hlt)
        generalize ts[k] = t at *
        have hcc : ∀ j, j < 3 → ∀ x, t.cells[j]? = some x → wr.cell? ⟨b, o + (k * 3 + j), none⟩ = some x := fun j hj x hx =>
          (hkeep.cell (p := ⟨b, o + (k * 3 + j), none⟩) hblk id).trans (hcell _ x ((Nat.mul_comm k 3 ▸ cells_at HS.out j hj).trans hx))
        have c0 : wr.cell? ⟨b, o + k * 3, none⟩ = some (.string t.name) := hcc 0 (by decide) _ rfl
        have c1 : wr.cell? ⟨b, o + k * 3 + 1, none⟩ = some (.string t.cmd) := hcc 1 (by decide) _ rfl
        have c2 : wr.cell? ⟨b, o + k * 3 + 2, none⟩ = some t.nv := hcc 2 (by decide) _ rfl
        clear hcc hcell
        have hl' : t.lies (wr.alloc (.cells #[.string t.name, .string t.cmd, t.nv] 102)) D := ⟨hlies.1, hlies.2.1, (hlies.2.2.keep hkeep (fun _ _ _ => id)).keep ((Keep.refl noneOf _).alloc _) (fun _ _ _ => id)⟩
        have TF := Lib.hid (targetFits_any _ D t hl')
        have hk1 := hkeep.alloc (.cells #[.string t.name, .string t.cmd, t.nv] 102)
        obtain ⟨A', c', hv', _⟩ := hlies.2.2.1
        obtain ⟨nm, cm, nv, ss⟩ := t
        simp only at c0 c1 c2 TF hk1 hv'
        subst hv'
        clear hl' hlies
        go_wp2_with fail
        refine TF.out.mono ?_
        rintro e w1 ⟨rfl, k1⟩
        have hk2 := hk1.trans k1 (fun _ _ h => h)
        cases hf : Tg.fits ⟨nm, cm, .slice A' ss.length c', ss⟩ with
        | true =>
          have HF := Lib.hid hf
          clear hf hk1 k1 hkeep
          go_wp2
          go_roundw
          case rel =>
            refine ⟨k + 1, by omega, by go_num, hk2, fun j t' hj e => ?_⟩
            rcases Nat.lt_or_ge j k with h | h
            · exact HA.out j t' h e
            · have : j = k := by omega
              subst this
              rw [HS.out] at e
              injection e with e
              rw [← e]
              exact HF.out
          case measure => simp [intOf]; omega
        | false =>
          have HF := Lib.hid hf
          clear hf hk1 k1 hkeep
          go_wp2
          go_ret
          refine ⟨ret_bool (Eq.symm ?_), hk2⟩
          rw [EF.out, Bool.and_eq_false_iff]
          right
          rw [List.all_eq_false]
          exact ⟨_, List.mem_of_getElem? HS.out, by rw [HF.out]; decide⟩
      · go_wp2
        go_ret
        refine ⟨ret_bool (Eq.symm ?_), hkeep⟩
        rw [EF.out]
        have hall : ts.all Tg.fits = true := by
          rw [List.all_eq_true]
          intro t ht
          obtain ⟨j, hj⟩ := List.getElem?_of_mem ht
          have hjl := (List.getElem?_eq_some_iff.1 hj).1
          exact HA.out j t (by omega) hj
        simp [hb, hall]
  · have hR : R = false := by
      rw [EF.out]
      simp [hb]
    subst hR
    go_enter Try.func45, Try.ntmps45
    go_wp2
    go_ret
    exact ⟨rfl, (Keep.refl _ _).alloc _⟩
end Go.Proofs.Ytngbminjbgomgaa
