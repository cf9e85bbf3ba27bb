/-
  The document's commands: dockyardref04.Names, has, Short.
-/
import Derived.Test.YtngbminjbgomgaaPlain
namespace Go.Proofs.Ytngbminjbgomgaa
open Go.RowKit

/-- Which fields a kind names, as the document's text of letters. -/
def namesOf (k : Int) : ByteArray :=
  if k = 1 then ⟨#[115]⟩ else if k = 2 then ⟨#[115, 113, 103]⟩ else if k = 3 then ⟨#[115, 113]⟩ else if k = 4 then ⟨#[115, 113, 116]⟩ else if k = 5 then ⟨#[115, 113, 116, 119]⟩ else if k = 6 then ⟨#[115, 113, 105]⟩ else if k = 7 then ⟨#[109]⟩ else ⟨#[]⟩

set_option maxRecDepth 100000 in
set_option maxHeartbeats 1000000 in
theorem names_any (w : World) (k : Int) : Calls Try.prog 39 #[.int .i64 k] w fun e w' => e = .returned (.string (namesOf k)) ∧ w = w' := by
  rcases (show k = 1 ∨ k = 2 ∨ k = 3 ∨ k = 4 ∨ k = 5 ∨ k = 6 ∨ k = 7 ∨ (k ≠ 1 ∧ k ≠ 2 ∧ k ≠ 3 ∧ k ≠ 4 ∧ k ≠ 5 ∧ k ≠ 6 ∧ k ≠ 7) from by omega) with rfl | rfl | rfl | rfl | rfl | rfl | rfl | ⟨h1, h2, h3, h4, h5, h6, h7⟩
  iterate 7
    · go_enter Try.func39, Try.ntmps39
      go_wp2
      go_ret
      exact ⟨rfl, rfl⟩
  · have E := Lib.hid (show namesOf k = ⟨#[]⟩ by unfold namesOf; rw [if_neg h1, if_neg h2, if_neg h3, if_neg h4, if_neg h5, if_neg h6, if_neg h7])
    have g1 : (k == 1) = false := beq_eq_false_iff_ne.2 h1
    have g2 : (k == 2) = false := beq_eq_false_iff_ne.2 h2
    have g3 : (k == 3) = false := beq_eq_false_iff_ne.2 h3
    have g4 : (k == 4) = false := beq_eq_false_iff_ne.2 h4
    have g5 : (k == 5) = false := beq_eq_false_iff_ne.2 h5
    have g6 : (k == 6) = false := beq_eq_false_iff_ne.2 h6
    have g7 : (k == 7) = false := beq_eq_false_iff_ne.2 h7
    clear h1 h2 h3 h4 h5 h6 h7
    go_enter Try.func39, Try.ntmps39
    go_wp2
    go_ret
    rw [E.out]
    exact ⟨rfl, rfl⟩

/-- Has a text a letter? -/
def hasB (s : ByteArray) (c : Nat) : Bool := s.data.toList.any (fun b => decide (b.toNat = c))

set_option maxRecDepth 100000 in
set_option maxHeartbeats 1000000 in
theorem has_any (w : World) (s : ByteArray) (c : Nat) (hs : s.size ≤ maxLen) : Calls Try.prog 47 #[.string s, .int .u8 c] w fun e w' => e = .returned (.bool (hasB s c)) ∧ w = w' := by
  unfold maxLen at hs
  generalize hR : hasB s c = R
  have HR := Lib.hid hR
  clear hR
  go_enter Try.func47, Try.ntmps47
  go_wp2
  go_loop [5] (fun i => ∃ k : Nat, k ≤ s.size ∧ i = .int .i64 k ∧ ∀ j b, j < k → s.data.toList[j]? = some b → b.toNat ≠ c) (fun i => s.size - (intOf i).toNat)
  case atStart => exact ⟨0, Nat.zero_le _, rfl, fun j _ hj => absurd hj (by omega)⟩
  case round =>
    obtain ⟨k, hk, rfl, hall⟩ := hrel
    have HA := Lib.hid hall
    clear hall
    by_cases hlt : k < s.size
    · have hget : s.data.toList[k]? = some s[k] := by
        have h2 : k < s.data.toList.length := by simpa using hlt
        rw [List.getElem?_eq_getElem h2]
        rfl
      by_cases hc : s[k].toNat = c
      · have g : ((s[k].toNat : Int) == (c : Int)) = true := by rw [beq_iff_eq]; omega
        have hRt : R = true := by
          rw [← HR.out]
          unfold hasB
          rw [List.any_eq_true]
          exact ⟨s[k], List.mem_of_getElem? hget, decide_eq_true hc⟩
        subst hRt
        clear hc hget
        go_wp2
        go_ret
        exact ⟨rfl, rfl⟩
      · have g : ((s[k].toNat : Int) == (c : Int)) = false := by rw [beq_eq_false_iff_ne]; omega
        have HG := Lib.hid hget
        have HC := Lib.hid hc
        clear hget hc
        go_wp2
        go_round
        case rel =>
          refine ⟨k + 1, by omega, by go_num, fun j b hj e => ?_⟩
          rcases Nat.lt_or_ge j k with h | h
          · exact HA.out j b h e
          · have : j = k := by omega
            subst this
            rw [HG.out] at e
            injection e with e
            rw [← e]
            exact HC.out
        case measure => simp [intOf]; omega
    · have hRf : R = false := by
        rw [← HR.out]
        unfold hasB
        rw [List.any_eq_false]
        intro b hb
        obtain ⟨j, hj⟩ := List.getElem?_of_mem hb
        have hjl := (List.getElem?_eq_some_iff.1 hj).1
        have := HA.out j b (by simp at hjl; omega) hj
        simpa using this
      subst hRf
      go_wp2
      go_ret
      exact ⟨rfl, rfl⟩

theorem fits_eq (nm cm : ByteArray) (nv : Value) (ss : List ByteArray) : Tg.fits ⟨nm, cm, nv, ss⟩ = (decide (nm.size ≤ 32) && decide (cm.size ≤ 256) && decide (ss.length ≤ 16) && ss.all (fun s => decide (s.size ≤ 32))) := rfl

set_option maxRecDepth 100000 in
set_option maxHeartbeats 2000000 in
theorem short_any (w : World) (D : Nat → Prop) (v : Value) (ts : List Tg) (h : Tgs w D v ts) :
    Calls Try.prog 46 #[.agg #[v]] w fun e w' => e = .returned (.bool (gFits ts)) ∧ Keep noneOf w w' := by
  have hT := h.2
  obtain ⟨A, c, rfl, hlc, hcm, hn, hxl, hc⟩ := h.1
  unfold maxLen at hcm
  have EF := Lib.hid (show gFits ts = (decide (ts.length ≤ 32) && ts.all Tg.fits) from rfl)
  generalize gFits ts = R at *
  have HC := Lib.hid hc
  have HT := Lib.hid hT
  have HK0 := Lib.hid ((Keep.refl noneOf w).alloc (.cells #[.slice A ts.length c] 36))
  have HX0 := Lib.hid (Box.new w 36 #[.slice A ts.length c])
  clear hc hT h hxl
  go_enter Try.func46, Try.ntmps46
  go_wp2
  go_loopw [3] (fun i wr => ∃ k : Nat, k ≤ ts.length ∧ i = .int .i64 k ∧ Keep noneOf w wr ∧ Box wr w.heap.size 36 #[.slice A ts.length c] ∧ ∀ j t, j < k → ts[j]? = some t → t.fits = true) (fun i _ => ts.length - (intOf i).toNat)
  case atStart => exact ⟨0, Nat.zero_le _, rfl, HK0.out, HX0.out, fun j _ hj => absurd hj (by omega)⟩
  case round =>
    obtain ⟨k, hk, rfl, hkeep, hX, hall⟩ := hrel
    have HA := Lib.hid hall
    have x0 : wr.cell? ⟨w.heap.size, 0, none⟩ = some (.slice A ts.length c) := hX.cell 0
    have hz := hX.lt
    have HKP := Lib.hid hkeep
    have HXX := Lib.hid hX
    clear hall HK0 HX0 hX
    by_cases hlt : k < ts.length
    · obtain ⟨ad, rfl, hsp, hblk, hD, hcell⟩ := HC.out (by omega)
      obtain ⟨b, o, sp⟩ := ad
      simp only at hsp hblk hD hcell
      subst hsp
      have HS := Lib.hid (List.getElem?_eq_getElem hlt)
      have hlies := HT.out _ (List.getElem_mem hlt)
      generalize ts[k] = t at *
      have hcc : ∀ j, j < 3 → ∀ x, t.cells[j]? = some x → wr.cell? ⟨b, o + (k * 3 + j), none⟩ = some x := fun j hj x hx =>
        (hkeep.cell (p := ⟨b, o + (k * 3 + j), none⟩) hblk id).trans (hcell _ x ((Nat.mul_comm k 3 ▸ cells_at HS.out j hj).trans hx))
      have c0 : wr.cell? ⟨b, o + k * 3, none⟩ = some (.string t.name) := hcc 0 (by decide) _ rfl
      have c1 : wr.cell? ⟨b, o + k * 3 + 1, none⟩ = some (.string t.cmd) := hcc 1 (by decide) _ rfl
      have c2 : wr.cell? ⟨b, o + k * 3 + 2, none⟩ = some t.nv := hcc 2 (by decide) _ rfl
      clear hcc hcell
      obtain ⟨nm, cm, nv, ss⟩ := t
      obtain ⟨l1, l2, ⟨A2, cp2, hnv, hl2, hm2, _, _, hrow⟩, hsz⟩ := hlies
      simp only at c0 c1 c2 l1 l2 hnv hl2 hrow hsz
      subst hnv
      unfold maxLen at l1 l2 hm2
      have HROW := Lib.hid hrow
      have HSZ := Lib.hid hsz
      have hwt : wr.heap.size < (wr.alloc (.cells #[.string nm, .string cm, .slice A2 ss.length cp2] 102)).heap.size := by simp
      clear hrow hsz hkeep
      by_cases hb : nm.size ≤ 32 ∧ cm.size ≤ 256 ∧ ss.length ≤ 16
      · obtain ⟨b1, b2, b3⟩ := hb
        go_wp2
        go_loop [5] (fun i => ∃ m : Nat, m ≤ ss.length ∧ i = .int .i64 m ∧ ∀ j s, j < m → ss[j]? = some s → s.size ≤ 32) (fun i => ss.length - (intOf i).toNat)
        case atStart => exact ⟨0, Nat.zero_le _, rfl, fun j _ hj => absurd hj (by omega)⟩
        case round =>
          obtain ⟨m, hm, rfl, hall2⟩ := hrel
          have HA2 := Lib.hid hall2
          clear hall2
          by_cases hlt2 : m < ss.length
          · obtain ⟨ad2, rfl, hsp2, hblk2, _, hcell2⟩ := HROW.out (by omega)
            obtain ⟨bb, oo, sp2⟩ := ad2
            simp only at hsp2 hblk2
            subst hsp2
            have hlt3 : bb < wr.heap.size := Nat.lt_of_lt_of_le hblk2 HKP.out.size
            have hck : (wr.alloc (.cells #[.string nm, .string cm, .slice (some ⟨bb, oo, none⟩) ss.length cp2] 102)).cell? ⟨bb, oo + m, none⟩ = some (.string ss[m]) :=
              (World.cell?_alloc_lt _ _ _ hlt3).trans ((HKP.out.cell (p := ⟨bb, oo + m, none⟩) hblk2 id).trans (hcell2 m _ (by simp [List.getElem?_eq_getElem hlt2])))
            clear hcell2
            have hmx : ss[m].size ≤ maxLen := HSZ.out _ (List.getElem_mem hlt2)
            unfold maxLen at hmx
            have HS2 := Lib.hid (List.getElem?_eq_getElem hlt2)
            generalize ss[m] = s at *
            by_cases hs : s.size ≤ 32
            · go_wp2
              go_round
              case rel =>
                refine ⟨m + 1, by omega, by go_num, fun j s' hj e => ?_⟩
                rcases Nat.lt_or_ge j m with h | h
                · exact HA2.out j s' h e
                · have : j = m := by omega
                  subst this
                  rw [HS2.out] at e
                  injection e with e
                  exact e ▸ hs
              case measure => simp [intOf]; omega
            · have hR : R = false := by
                rw [EF.out, Bool.and_eq_false_iff]
                right
                rw [List.all_eq_false]
                refine ⟨_, List.mem_of_getElem? HS.out, ?_⟩
                rw [fits_eq, Bool.not_eq_true, Bool.and_eq_false_iff]
                right
                rw [List.all_eq_false]
                exact ⟨s, List.mem_of_getElem? HS2.out, by simpa using hs⟩
              subst hR
              go_wp2
              go_ret
              exact ⟨rfl, HKP.out.alloc _⟩
          · have hfit : Tg.fits ⟨nm, cm, .slice A2 ss.length cp2, ss⟩ = true := by
              rw [fits_eq]
              have hall : ss.all (fun s => decide (s.size ≤ 32)) = true := by
                rw [List.all_eq_true]
                intro s hs
                obtain ⟨j, hj⟩ := List.getElem?_of_mem hs
                have hjl := (List.getElem?_eq_some_iff.1 hj).1
                exact decide_eq_true (HA2.out j s (by omega) hj)
              simp [b1, b2, b3, hall]
            have HFIT := Lib.hid hfit
            clear hfit
            go_wp2
            go_roundw
            case rel =>
              refine ⟨k + 1, by omega, by go_num, HKP.out.alloc _, HXX.out.alloc _, fun j t' hj e => ?_⟩
              rcases Nat.lt_or_ge j k with h | h
              · exact HA.out j t' h e
              · have : j = k := by omega
                subst this
                rw [HS.out] at e
                injection e with e
                rw [← e]
                exact HFIT.out
            case measure => simp [intOf]; omega
      · have hR : R = false := by
          rw [EF.out, Bool.and_eq_false_iff]
          right
          rw [List.all_eq_false]
          refine ⟨_, List.mem_of_getElem? HS.out, ?_⟩
          rw [fits_eq]
          by_cases h1 : nm.size ≤ 32
          · by_cases h2 : cm.size ≤ 256
            · have h3 : ¬ ss.length ≤ 16 := fun h3 => hb ⟨h1, h2, h3⟩
              simp [h3]
            · simp [h2]
          · simp [h1]
        subst hR
        have HB : ¬ nm.size ≤ 32 ∨ (nm.size ≤ 32 ∧ ¬ cm.size ≤ 256) ∨ (nm.size ≤ 32 ∧ cm.size ≤ 256 ∧ ¬ ss.length ≤ 16) := by omega
        clear hb
        rcases HB with hb | ⟨ha, hb⟩ | ⟨ha, ha', hb⟩
        all_goals
          go_wp2
          go_ret
          exact ⟨rfl, HKP.out.alloc _⟩
    · have hall : ts.all Tg.fits = true := by
        rw [List.all_eq_true]
        intro t ht
        obtain ⟨j, hj⟩ := List.getElem?_of_mem ht
        have hjl := (List.getElem?_eq_some_iff.1 hj).1
        exact HA.out j t (by omega) hj
      have hR : R = decide (ts.length ≤ 32) := by rw [EF.out, hall, Bool.and_true]
      have HR := Lib.hid hR
      clear hR hall
      go_wp2
      go_ret
      refine ⟨ret_bool ?_, HKP.out⟩
      rw [HR.out]
      simp
      omega
end Go.Proofs.Ytngbminjbgomgaa
