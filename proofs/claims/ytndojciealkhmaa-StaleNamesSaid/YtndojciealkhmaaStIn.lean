/-
  dockyardref08.In, Keys; dockyardlaw08.keys.
-/
import Derived.Test.YtndojciealkhmaaStRKeys
import Derived.Deep.QuietTactic
import Derived.BigQuiet
namespace Go.Proofs.Ytndojciealkhmaa
open Go.RowKit

set_option maxRecDepth 100000 in
set_option maxHeartbeats 1000000 in
/-- Does a key stand among some? -/
theorem in64_any (w : World) (D : Nat → Prop) (v : Value) (ns : List Nat) (n : Nat) (h : Kys w D v ns) :
    Calls Try.prog 17 #[v, .int .u64 (n : Int)] w fun e w' => e = .returned (.bool (ns.contains n)) ∧ w = w' := by
  obtain ⟨⟨A, c, rfl, hlc, hcm, hn, hxl, hc⟩, _⟩ := h
  unfold maxLen at hcm
  have HC := Lib.hid hc
  generalize hR : ns.contains n = R
  have HR := Lib.hid hR
  clear hc hxl hR
  go_enter Try.func17, Try.ntmps17
  go_wp2
  go_loop [5] (fun i => ∃ k : Nat, k ≤ ns.length ∧ i = .int .i64 k ∧ ∀ j m, j < k → ns[j]? = some m → m ≠ n) (fun i => ns.length - (intOf i).toNat)
  case atStart => exact ⟨0, Nat.zero_le _, rfl, fun j _ hj => absurd hj (by omega)⟩
  case round =>
    obtain ⟨k, hk, rfl, hall⟩ := hrel
    have HA := Lib.hid hall
    clear hall
    by_cases hlt : k < ns.length
    · obtain ⟨ad, rfl, hsp, hblk, hD, hcell⟩ := HC.out (by omega)
      obtain ⟨b, o, sp⟩ := ad
      simp only at hsp hblk hD hcell
      subst hsp
      have HS := Lib.hid (List.getElem?_eq_getElem hlt)
      have c0 : w.cell? ⟨b, o + k, none⟩ = some (.int .u64 (ns[k] : Int)) := hcell k _ (by rw [List.getElem?_map, List.getElem?_eq_getElem hlt]; rfl)
      generalize ns[k] = m at *
      clear hcell
      by_cases hs : m = n
      · subst hs
        have hR : R = true := by
          rw [← HR.out, List.contains_iff_mem]
          exact List.mem_of_getElem? HS.out
        subst hR
        go_wp2
        go_ret
        exact ⟨rfl, rfl⟩
      · have g : ((m : Int) == (n : Int)) = false := by rw [beq_eq_false_iff_ne]; omega
        have HS2 := Lib.hid hs
        clear hs
        go_wp2
        go_round
        case rel =>
          refine ⟨k + 1, by omega, by go_num, fun j t hj e => ?_⟩
          rcases Nat.lt_or_ge j k with h | h
          · exact HA.out j t h e
          · have : j = k := by omega
            subst this
            rw [HS.out] at e
            injection e with e
            rw [← e]
            exact HS2.out
        case measure => simp [intOf]; omega
    · have hR : R = false := by
        rw [← HR.out]
        cases hb : ns.contains n with
        | false => rfl
        | true =>
          rw [List.contains_iff_mem] at hb
          obtain ⟨j, hj⟩ := List.getElem?_of_mem hb
          exact absurd rfl (HA.out j n (by have := (List.getElem?_eq_some_iff.1 hj).1; omega) hj)
      subst hR
      go_wp2
      go_ret
      exact ⟨rfl, rfl⟩

set_option maxRecDepth 100000 in
set_option maxHeartbeats 1000000 in
/-- Are two lists of keys the same? -/
theorem sameKeys_any (w : World) (D D' : Nat → Prop) (A B : Option Addr) (c c' : Nat) (ks ls : List Nat) (h : Kys w D (.slice A ks.length c) ks) (h' : Kys w D' (.slice B ls.length c') ls) :
    Calls Try.prog 12 #[.slice A ks.length c, .slice B ls.length c'] w fun e w' => e = .returned (.bool (decide (ks = ls))) ∧ Keep noneOf w w' := by
  obtain ⟨⟨A1, c1, hv1, hlc, hcm, hn, hxl, hc⟩, _⟩ := h
  obtain ⟨rfl, rfl⟩ : A = A1 ∧ c = c1 := by simpa using hv1
  obtain ⟨⟨A2, c2, hv2, hlc', hcm', hn', hxl', hc'⟩, _⟩ := h'
  obtain ⟨rfl, rfl⟩ : B = A2 ∧ c' = c2 := by simpa using hv2
  unfold maxLen at hcm hcm'
  have HC := Lib.hid hc
  have HC' := Lib.hid hc'
  generalize hR : decide (ks = ls) = R
  have HR := Lib.hid hR
  have K0 := Keep.refl noneOf w
  clear hc hxl hc' hxl' hR hv1 hv2 hn hn'
  by_cases hll : ks.length = ls.length
  · rw [← hll] at hlc' ⊢
    have HLL := Lib.hid hll
    clear hll
    go_enter Try.func12, Try.ntmps12
    go_wp2
    go_loopw [13] (fun i wr => ∃ k : Nat, k ≤ ks.length ∧ i = .int .i64 k ∧ Keep noneOf w wr ∧ ∀ j, j < k → ks[j]? = ls[j]?) (fun i _ => ks.length - (intOf i).toNat)
    case atStart => exact ⟨0, Nat.zero_le _, rfl, K0, fun j hj => absurd hj (by omega)⟩
    case round =>
      obtain ⟨k, hk, rfl, hkeep, hall⟩ := hrel
      have HA := Lib.hid hall
      have HKP := Lib.hid hkeep
      clear hall
      by_cases hlt : k < ks.length
      · have hlt' : k < ls.length := by rw [← HLL.out]; exact hlt
        obtain ⟨ad, rfl, hsp, hblk, hD, hcell⟩ := HC.out (by omega)
        obtain ⟨b, o, sp⟩ := ad
        simp only at hsp hblk hD hcell
        subst hsp
        obtain ⟨ad2, rfl, hsp2, hblk2, hD2, hcell2⟩ := HC'.out (by omega)
        obtain ⟨b2, o2, sp2⟩ := ad2
        simp only at hsp2 hblk2 hD2 hcell2
        subst hsp2
        have c0 : wr.cell? ⟨b, o + k, none⟩ = some (.int .u64 (ks[k] : Int)) := (hkeep.cell (p := ⟨b, o + k, none⟩) hblk id).trans (hcell k _ (by rw [List.getElem?_map, List.getElem?_eq_getElem hlt]; rfl))
        have c2 : wr.cell? ⟨b2, o2 + k, none⟩ = some (.int .u64 (ls[k] : Int)) := (hkeep.cell (p := ⟨b2, o2 + k, none⟩) hblk2 id).trans (hcell2 k _ (by rw [List.getElem?_map, List.getElem?_eq_getElem hlt']; rfl))
        have HS := Lib.hid (List.getElem?_eq_getElem hlt)
        have HS' := Lib.hid (List.getElem?_eq_getElem hlt')
        generalize ks[k] = x at *
        generalize ls[k] = y at *
        clear hcell hcell2 hkeep
        by_cases hs : x = y
        · subst hs
          have g : ((x : Int) != (x : Int)) = false := by rw [bne_self_eq_false]
          have q0 : (0 : Int) ≤ (k : Int) := by omega
          have q1 : (k : Int) < (ks.length : Int) := by omega
          go_wp2
          go_quiet (fail)
          go_wp2
          go_roundw
          case rel =>
            refine ⟨k + 1, by omega, by go_num, HKP.out.drewN _, fun j hj => ?_⟩
            rcases Nat.lt_or_ge j k with h | h
            · exact HA.out j h
            · have : j = k := by omega
              subst this
              rw [HS.out, HS'.out]
          case measure => simp [intOf]; omega
        · have g : ((x : Int) != (y : Int)) = true := by rw [bne_iff_ne]; omega
          have hR : R = false := by
            rw [← HR.out, decide_eq_false_iff_not]
            rintro rfl
            rw [HS.out] at HS'
            have := HS'.out
            injection this with this
            exact hs this
          subst hR
          have q0 : (0 : Int) ≤ (k : Int) := by omega
          have q1 : (k : Int) < (ks.length : Int) := by omega
          clear hs
          go_wp2
          go_quiet (fail)
          go_wp2
          go_ret
          exact ⟨rfl, HKP.out.drewN _⟩
      · have hR : R = true := by
          rw [← HR.out, decide_eq_true_eq]
          refine List.ext_getElem? (fun j => ?_)
          rcases Nat.lt_or_ge j ks.length with h | h
          · exact HA.out j (by omega)
          · rw [List.getElem?_eq_none h, List.getElem?_eq_none (by rw [← HLL.out]; exact h)]
        subst hR
        have hkn : ¬ ((k : Int) < (ks.length : Int)) := by omega
        clear hlt
        go_wp2
        go_ret
        exact ⟨rfl, HKP.out⟩
  · have g : ((ks.length : Int) != (ls.length : Int)) = true := by rw [bne_iff_ne]; omega
    have g' : decide (ks.length = ls.length) = false := decide_eq_false hll
    have hR : R = false := by
      rw [← HR.out, decide_eq_false_iff_not]
      rintro rfl
      exact hll rfl
    subst hR
    clear hll
    go_enter Try.func12, Try.ntmps12
    go_wp2
    go_ret
    exact ⟨rfl, K0⟩

set_option maxRecDepth 100000 in
set_option maxHeartbeats 1000000 in
theorem refKeys_any (w : World) (D : Nat → Prop) (v : Value) (ts : List Tg) (h : Tgs w D v ts) :
    Calls Try.prog 14 #[.agg #[v]] w (ToldKeys (grKeys (ts.map Tg.plain)) w) := by
  have HH := Lib.hid h
  obtain ⟨A, c, rfl, hlc, hcm, hn, hxl, hc⟩ := h.1
  unfold maxLen at hcm
  have ka := (Keep.refl noneOf w).alloc (.cells #[.slice A ts.length c] 24)
  have HK0 := Lib.hid ka
  have HX0 := Lib.hid (Box.new w 24 #[.slice A ts.length c])
  have HCK := Lib.hid (refCheck_any _ D _ ts (HH.out.keep ka (fun _ _ _ => id)))
  clear hc h hxl hn ka
  by_cases hq : grCheck (ts.map Tg.plain) = 0
  · rw [hq] at HCK
    have HQ := Lib.hid hq
    generalize hR : grKeys (ts.map Tg.plain) = R at *
    have HR := Lib.hid hR
    clear hq hR
    go_enter Try.func14, Try.ntmps14
    go_wp2_with fail
    refine HCK.out.mono ?_
    rintro e w1 ⟨rfl, k1⟩
    have K1 := HK0.out.trans k1 (fun _ _ h => h)
    have X1 := HX0.out.keep k1 id
    have x1 : w1.cell? ⟨w.heap.size, 0, none⟩ = some (.slice A ts.length c) := X1.cell 0
    have AR := refkeys_any w1 D _ ts (HH.out.keep K1 (fun _ _ _ => id)) HQ.out
    rw [HR.out] at AR
    have HAR := Lib.hid AR
    have HK1 := Lib.hid K1
    clear HCK HK0 HX0 k1 X1 AR K1
    go_wp2_with fail
    refine HAR.out.mono ?_
    rintro e w2 ⟨A2, c2, rfl, o2, k2⟩
    have HO := Lib.hid o2
    have HK2 := Lib.hid k2
    have hs := HK1.out.size
    clear o2 k2 HAR
    go_wp2
    go_ret
    exact ⟨A2, c2, rfl, HO.out.mono (fun _ _ h => Nat.le_trans hs h), HK1.out.trans HK2.out (fun _ _ h => h)⟩
  · have e0 : grKeys (ts.map Tg.plain) = [] := by
      have := grKeys_length (ts.map Tg.plain)
      rw [order_none hq] at this
      exact List.eq_nil_of_length_eq_zero this
    rw [e0]
    generalize grCheck (ts.map Tg.plain) = q at *
    have g : (q != 0) = true := by rw [bne_iff_ne]; exact hq
    have g' : (q == 0) = false := by rw [beq_eq_false_iff_ne]; exact hq
    clear e0 hq
    go_enter Try.func14, Try.ntmps14
    go_wp2_with fail
    refine HCK.out.mono ?_
    rintro e w1 ⟨rfl, k1⟩
    have HK1 := Lib.hid (HK0.out.trans k1 (fun _ _ h => h))
    clear HCK HK0 k1
    go_wp2
    go_ret
    exact ⟨none, 0, rfl, ⟨⟨none, 0, rfl, Nat.le_refl _, Nat.zero_le _, fun _ => rfl, rfl, fun h => absurd h (by simp)⟩, fun k hk => by cases hk⟩, HK1.out⟩
end Go.Proofs.Ytndojciealkhmaa
