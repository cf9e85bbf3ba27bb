/-
  Package config and the document's answers: Votes, Has, Check, Majority.
-/
import Derived.Test.YtmncjibokpieoaaCfIn
import Derived.Deep.QuietTactic
namespace Go.Proofs.Ytmncjibokpieoaa
open Go.RowKit

/-- What is behind a call that tells a bool and changes nothing. -/
def TellsB (b : Bool) (w : World) (e : Ending) (w' : World) : Prop := e = .returned (.bool b) ∧ Keep noneOf w w'
def TellsN (z : Int) (w : World) (e : Ending) (w' : World) : Prop := e = .returned (.int .i64 z) ∧ Keep noneOf w w'

set_option maxRecDepth 100000 in
set_option maxHeartbeats 1000000 in
theorem votes_any (w : World) (D : Nat → Prop) (v : Value) (c : Cf) (z : Int) (h : CfAt w D v c) :
    Calls Try.prog 14 #[v, .int .i64 z] w (TellsB (inP c.v z) w) := by
  obtain ⟨a, b, rfl, h1, h2⟩ := h
  obtain ⟨A, ca, rfl, _⟩ := h1.shape
  obtain ⟨B, cb, rfl, _⟩ := h2.shape
  have K0 := (Keep.refl noneOf w).alloc (.cells #[.slice A c.v.length ca, .slice B c.l.length cb] 24)
  have HC := Lib.hid (containsZ_any _ D _ c.v z (h1.keepN K0))
  have HK0 := Lib.hid K0
  clear h1 h2 K0
  go_enter Try.func14, Try.ntmps14
  go_wp2_with fail
  refine HC.out.mono ?_
  rintro e w1 ⟨rfl, rfl⟩
  go_wp2
  go_ret
  exact ⟨rfl, HK0.out⟩

set_option maxRecDepth 100000 in
set_option maxHeartbeats 1000000 in
theorem learns_any (w : World) (D : Nat → Prop) (v : Value) (c : Cf) (z : Int) (h : CfAt w D v c) :
    Calls Try.prog 36 #[v, .int .i64 z] w (TellsB (inP c.l z) w) := by
  obtain ⟨a, b, rfl, h1, h2⟩ := h
  obtain ⟨A, ca, rfl, _⟩ := h1.shape
  obtain ⟨B, cb, rfl, _⟩ := h2.shape
  have K0 := (Keep.refl noneOf w).alloc (.cells #[.slice A c.v.length ca, .slice B c.l.length cb] 24)
  have HC := Lib.hid (containsZ_any _ D _ c.l z (h2.keepN K0))
  have HK0 := Lib.hid K0
  clear h1 h2 K0
  go_enter Try.func36, Try.ntmps36
  go_wp2_with fail
  refine HC.out.mono ?_
  rintro e w1 ⟨rfl, rfl⟩
  go_wp2
  go_ret
  exact ⟨rfl, HK0.out⟩

set_option maxRecDepth 100000 in
set_option maxHeartbeats 1000000 in
theorem rvotes_any (w : World) (D : Nat → Prop) (v : Value) (c : Cf) (z : Int) (h : CfAt w D v c) :
    Calls Try.prog 15 #[v, .int .i64 z] w (TellsB (inP c.v z) w) := by
  obtain ⟨a, b, rfl, h1, h2⟩ := h
  obtain ⟨A, ca, rfl, _⟩ := h1.shape
  obtain ⟨B, cb, rfl, _⟩ := h2.shape
  have K0 := (Keep.refl noneOf w).alloc (.cells #[.slice A c.v.length ca, .slice B c.l.length cb] 24)
  have HC := Lib.hid (inZ_any _ D _ c.v z (h1.keepN K0))
  have HK0 := Lib.hid K0
  clear h1 h2 K0
  go_enter Try.func15, Try.ntmps15
  go_wp2_with fail
  refine HC.out.mono ?_
  rintro e w1 ⟨rfl, rfl⟩
  go_wp2
  go_ret
  exact ⟨rfl, HK0.out⟩

set_option maxRecDepth 100000 in
set_option maxHeartbeats 1000000 in
theorem has_any (w : World) (D : Nat → Prop) (v : Value) (c : Cf) (z : Int) (h : CfAt w D v c) :
    Calls Try.prog 16 #[v, .int .i64 z] w (TellsB (hasP c z) w) := by
  obtain ⟨R, hR⟩ : ∃ R, hasP c z = R := ⟨_, rfl⟩
  rw [hR]
  unfold hasP at hR
  have HR := Lib.hid hR
  have HH := Lib.hid h
  obtain ⟨a, b, rfl, h1, h2⟩ := h
  obtain ⟨A, ca, rfl, _⟩ := h1.shape
  obtain ⟨B, cb, rfl, _⟩ := h2.shape
  have K0 := (Keep.refl noneOf w).alloc (.cells #[.slice A c.v.length ca, .slice B c.l.length cb] 24)
  have X0 := Box.new w 24 #[.slice A c.v.length ca, .slice B c.l.length cb]
  have HX0 := Lib.hid X0
  have HC := Lib.hid (votes_any _ D _ c z (HH.out.keepN K0))
  have HK0 := Lib.hid K0
  clear h1 h2 K0 X0 hR
  cases hq : inP c.v z with
  | true =>
    rw [hq] at HC HR
    clear hq
    go_enter Try.func16, Try.ntmps16
    go_wp2_with fail
    refine HC.out.mono ?_
    rintro e w1 ⟨rfl, k1⟩
    have K1 := HK0.out.trans k1 (fun _ _ h => h)
    have X1 := HX0.out.keep k1 id
    have x0 : w1.cell? ⟨w.heap.size, 0, none⟩ = some (.slice A c.v.length ca) := X1.cell 0
    have x1 : w1.cell? ⟨w.heap.size, 1, none⟩ = some (.slice B c.l.length cb) := X1.cell 1
    have HK1 := Lib.hid K1
    obtain rfl : true = R := by simpa using HR.out
    clear k1 K1 X1 HC HX0 HK0
    go_wp2
    go_ret
    exact ⟨rfl, HK1.out⟩
  | false =>
    rw [hq] at HC HR
    clear hq
    go_enter Try.func16, Try.ntmps16
    go_wp2_with fail
    refine HC.out.mono ?_
    rintro e w1 ⟨rfl, k1⟩
    have K1 := HK0.out.trans k1 (fun _ _ h => h)
    have X1 := HX0.out.keep k1 id
    have x0 : w1.cell? ⟨w.heap.size, 0, none⟩ = some (.slice A c.v.length ca) := X1.cell 0
    have x1 : w1.cell? ⟨w.heap.size, 1, none⟩ = some (.slice B c.l.length cb) := X1.cell 1
    have HK1 := Lib.hid K1
    have H2 := Lib.hid (learns_any w1 D _ c z (HH.out.keepN K1))
    clear k1 K1 X1 HC HX0 HK0
    go_wp2_with fail
    refine H2.out.mono ?_
    rintro e w2 ⟨rfl, k2⟩
    have HK2 := Lib.hid (HK1.out.trans k2 (fun _ _ h => h))
    clear k2
    obtain rfl : inP c.l z = R := by simpa using HR.out
    go_wp2
    go_ret
    exact ⟨rfl, HK2.out⟩

set_option maxRecDepth 100000 in
set_option maxHeartbeats 1000000 in
theorem rhas_any (w : World) (D : Nat → Prop) (v : Value) (c : Cf) (z : Int) (h : CfAt w D v c) :
    Calls Try.prog 17 #[v, .int .i64 z] w (TellsB (hasP c z) w) := by
  obtain ⟨R, hR⟩ : ∃ R, hasP c z = R := ⟨_, rfl⟩
  rw [hR]
  unfold hasP at hR
  have HR := Lib.hid hR
  have HH := Lib.hid h
  obtain ⟨a, b, rfl, h1, h2⟩ := h
  obtain ⟨A, ca, rfl, _⟩ := h1.shape
  obtain ⟨B, cb, rfl, _⟩ := h2.shape
  have K0 := (Keep.refl noneOf w).alloc (.cells #[.slice A c.v.length ca, .slice B c.l.length cb] 24)
  have X0 := Box.new w 24 #[.slice A c.v.length ca, .slice B c.l.length cb]
  have HX0 := Lib.hid X0
  have HC := Lib.hid (rvotes_any _ D _ c z (HH.out.keepN K0))
  have HK0 := Lib.hid K0
  clear h1 h2 K0 X0 hR
  cases hq : inP c.v z with
  | true =>
    rw [hq] at HC HR
    clear hq
    go_enter Try.func17, Try.ntmps17
    go_wp2_with fail
    refine HC.out.mono ?_
    rintro e w1 ⟨rfl, k1⟩
    have K1 := HK0.out.trans k1 (fun _ _ h => h)
    have X1 := HX0.out.keep k1 id
    have x0 : w1.cell? ⟨w.heap.size, 0, none⟩ = some (.slice A c.v.length ca) := X1.cell 0
    have x1 : w1.cell? ⟨w.heap.size, 1, none⟩ = some (.slice B c.l.length cb) := X1.cell 1
    have HK1 := Lib.hid K1
    obtain ⟨_, _, hag, _, hb⟩ := HH.out.keepN K1
    obtain ⟨_, rfl⟩ : _ ∧ _ := by simpa using hag
    have H2 := Lib.hid (inZ_any w1 D _ c.l z hb)
    clear hb hag
    clear k1 K1 X1 HC HX0 HK0
    go_wp2_with fail
    refine H2.out.mono ?_
    rintro e w2 ⟨rfl, rfl⟩
    obtain rfl : true = R := by simpa using HR.out
    go_wp2
    go_ret
    exact ⟨rfl, HK1.out⟩
  | false =>
    rw [hq] at HC HR
    clear hq
    go_enter Try.func17, Try.ntmps17
    go_wp2_with fail
    refine HC.out.mono ?_
    rintro e w1 ⟨rfl, k1⟩
    have K1 := HK0.out.trans k1 (fun _ _ h => h)
    have X1 := HX0.out.keep k1 id
    have x0 : w1.cell? ⟨w.heap.size, 0, none⟩ = some (.slice A c.v.length ca) := X1.cell 0
    have x1 : w1.cell? ⟨w.heap.size, 1, none⟩ = some (.slice B c.l.length cb) := X1.cell 1
    have HK1 := Lib.hid K1
    obtain ⟨_, _, hag, _, hb⟩ := HH.out.keepN K1
    obtain ⟨_, rfl⟩ : _ ∧ _ := by simpa using hag
    have H2 := Lib.hid (inZ_any w1 D _ c.l z hb)
    clear hb hag
    clear k1 K1 X1 HC HX0 HK0
    go_wp2_with fail
    refine H2.out.mono ?_
    rintro e w2 ⟨rfl, rfl⟩
    obtain rfl : inP c.l z = R := by simpa using HR.out
    go_wp2
    go_ret
    exact ⟨rfl, HK1.out⟩

set_option maxRecDepth 100000 in
set_option maxHeartbeats 1000000 in
theorem ascend_any (w : World) (D : Nat → Prop) (v : Value) (l : List Int) (h : Zs w D v l) :
    Calls Try.prog 32 #[v] w fun e w' => e = .returned (.bool (ascP l)) ∧ w = w' := by
  obtain ⟨A, c, rfl, hlc, hcm, _⟩ := h.shape
  unfold maxLen at hcm
  have HC := Lib.hid h
  generalize hR : ascP l = R
  have HR := Lib.hid hR
  clear h hR
  go_enter Try.func32, Try.ntmps32
  go_wp2
  go_loop [3, 8] (fun x i => ∃ (k : Nat) (b : Int), k ≤ l.length ∧ i = .int .i64 k ∧ x = .int .i64 b ∧ ascP l = ascFrom b (l.drop k)) (fun _ i => l.length - (intOf i).toNat)
  case atStart => exact ⟨0, -1, Nat.zero_le _, rfl, rfl, rfl⟩
  case round =>
    obtain ⟨k, b, hk, rfl, rfl, hall⟩ := hrel
    have HA := Lib.hid hall
    clear hall
    by_cases hlt : k < l.length
    · obtain ⟨g, o, rfl, hblk, hD, c0⟩ := HC.out.cell hlt
      have HS := Lib.hid (asc_step (b := b) hlt)
      generalize l[k] = m at *
      by_cases h1 : b < m
      · have n1 : ¬ m ≤ b := by omega
        by_cases h2 : m < 8
        · have n2 : ¬ m ≥ 8 := by omega
          rw [decide_eq_true h1, decide_eq_true h2, Bool.and_self, Bool.true_and] at HS
          clear h1 h2
          go_wp2
          go_round
          case rel => exact ⟨k + 1, m, by omega, by go_num, rfl, HA.out.trans HS.out⟩
          case measure => simp [intOf]; omega
        · have n2 : m ≥ 8 := by omega
          have hR : R = false := by rw [← HR.out, HA.out, HS.out, decide_eq_false h2]; simp
          subst hR
          clear h1 h2
          go_wp2
          go_ret
          exact ⟨rfl, rfl⟩
      · have n1 : m ≤ b := by omega
        have hR : R = false := by rw [← HR.out, HA.out, HS.out, decide_eq_false h1]; simp
        subst hR
        clear h1
        go_wp2
        go_ret
        exact ⟨rfl, rfl⟩
    · have hR : R = true := by rw [← HR.out, HA.out, asc_end (by omega)]
      subst hR
      go_wp2
      go_ret
      exact ⟨rfl, rfl⟩

set_option maxRecDepth 100000 in
set_option maxHeartbeats 1000000 in
theorem rises_any (w : World) (D : Nat → Prop) (v : Value) (l : List Int) (h : Zs w D v l) :
    Calls Try.prog 34 #[v] w (TellsB (ascP l) w) := by
  obtain ⟨A, c, rfl, hlc, hcm, _⟩ := h.shape
  unfold maxLen at hcm
  have HC := Lib.hid h
  generalize hR : ascP l = R
  have HR := Lib.hid hR
  clear h hR
  go_enter Try.func34, Try.ntmps34
  go_wp2
  go_loopw [3] (fun i wr => ∃ (k : Nat) (b : Int), k ≤ l.length ∧ i = .int .i64 k ∧ ascP l = ascFrom b (l.drop k) ∧ (k = 0 ∧ b = -1 ∨ 0 < k ∧ l[k - 1]? = some b ∧ 0 ≤ b) ∧ Keep noneOf w wr) (fun i _ => l.length - (intOf i).toNat)
  case atStart => exact ⟨0, -1, Nat.zero_le _, rfl, rfl, .inl ⟨rfl, rfl⟩, Keep.refl _ _⟩
  case round =>
    obtain ⟨k, b, hk, rfl, hall, hb, hkw⟩ := hrel
    have HA := Lib.hid hall
    have HKW := Lib.hid hkw
    clear hall
    by_cases hlt : k < l.length
    · obtain ⟨g, o, rfl, hblk, hD, hc⟩ := HC.out.block (by omega)
      have hc0 := hc k hlt
      have c0 : wr.cell? ⟨g, o + k, none⟩ = some (.int .i64 l[k]) := (hkw.cell (p := ⟨g, o + k, none⟩) hblk id).trans hc0
      have HS := Lib.hid (asc_step (b := b) hlt)
      have HG := Lib.hid (List.getElem?_eq_getElem hlt)
      clear hc0
      generalize l[k] = m at *
      have q0 : (0 : Int) ≤ (k : Int) := by omega
      have q1 : (k : Int) < (l.length : Int) := by omega
      rcases hb with ⟨rfl, rfl⟩ | ⟨hk0, hp, hb0⟩
      · rw [Nat.add_zero] at c0
        have z1 : decide ((0 : Int) < 0) = false := rfl
        by_cases h1 : m < 0
        · have hd : decide (m < 0) = true := decide_eq_true h1
          have hR : R = false := by rw [← HR.out, HA.out, HS.out, decide_eq_false (by omega)]; simp
          subst hR
          clear hkw h1
          go_wp2
          go_quiet (fail)
          go_wp2
          go_ret
          exact ⟨rfl, HKW.out.drewN _⟩
        · have hd : decide (m < 0) = false := decide_eq_false h1
          by_cases h2 : 7 < m
          · have hd2 : decide (7 < m) = true := decide_eq_true h2
            have hR : R = false := by rw [← HR.out, HA.out, HS.out, decide_eq_false (show ¬ m < 8 by omega)]; simp
            subst hR
            clear hkw h1 h2
            go_wp2
            go_quiet (fail)
            go_wp2
            go_ret
            exact ⟨rfl, HKW.out.drewN _⟩
          · have hd2 : decide (7 < m) = false := decide_eq_false h2
            rw [decide_eq_true (show -1 < m by omega), decide_eq_true (show m < 8 by omega), Bool.and_self, Bool.true_and] at HS
            have hm0 : 0 ≤ m := by omega
            clear hkw h1 h2
            go_wp2
            go_quiet (fail)
            go_wp2
            go_roundw
            case rel => exact ⟨0 + 1, m, by omega, by go_num, HA.out.trans HS.out, .inr ⟨by omega, HG.out, hm0⟩, HKW.out.drewN _⟩
            case measure => simp [intOf]; omega
      · have hk1 : k - 1 < l.length := by omega
        have hcp := hc (k - 1) hk1
        rw [List.getElem?_eq_getElem hk1] at hp
        injection hp with hp
        rw [hp] at hcp
        have c1 : wr.cell? ⟨g, o + (k - 1), none⟩ = some (.int .i64 b) := (hkw.cell (p := ⟨g, o + (k - 1), none⟩) hblk id).trans hcp
        have z1 : decide ((0 : Int) < (k : Int)) = true := decide_eq_true (by omega)
        have y1 : IntKind.i64.wrap ((k : Int) - 1) = (k : Int) - 1 := IntWalk.i64_in _ (by omega)
        have y2 : (0 : Int) ≤ (k : Int) - 1 := by omega
        have y3 : (k : Int) - 1 < (l.length : Int) := by omega
        have y4 : ((k : Int) - 1).toNat = k - 1 := by omega
        clear hcp hp
        by_cases h1 : m < 0
        · have hd : decide (m < 0) = true := decide_eq_true h1
          have hR : R = false := by rw [← HR.out, HA.out, HS.out, decide_eq_false (by omega)]; simp
          subst hR
          clear hkw h1
          go_wp2
          go_quiet (fail)
          go_wp2
          go_ret
          exact ⟨rfl, HKW.out.drewN _⟩
        · have hd : decide (m < 0) = false := decide_eq_false h1
          by_cases h2 : 7 < m
          · have hd2 : decide (7 < m) = true := decide_eq_true h2
            have hR : R = false := by rw [← HR.out, HA.out, HS.out, decide_eq_false (show ¬ m < 8 by omega)]; simp
            subst hR
            clear hkw h1 h2
            go_wp2
            go_quiet (fail)
            go_wp2
            go_ret
            exact ⟨rfl, HKW.out.drewN _⟩
          · have hd2 : decide (7 < m) = false := decide_eq_false h2
            by_cases h3 : m ≤ b
            · have hd3 : decide (m ≤ b) = true := decide_eq_true h3
              have hR : R = false := by rw [← HR.out, HA.out, HS.out, decide_eq_false (by omega)]; simp
              subst hR
              clear hkw h1 h2 h3
              go_wp2
              go_quiet (fail)
              go_wp2
              go_ret
              exact ⟨rfl, HKW.out.drewN _⟩
            · have hd3 : decide (m ≤ b) = false := decide_eq_false h3
              rw [decide_eq_true (show b < m by omega), decide_eq_true (show m < 8 by omega), Bool.and_self, Bool.true_and] at HS
              have hm0 : 0 ≤ m := by omega
              clear hkw h1 h2 h3
              go_wp2
              go_quiet (fail)
              go_wp2
              go_roundw
              case rel => exact ⟨k + 1, m, by omega, by go_num, HA.out.trans HS.out, .inr ⟨by omega, HG.out, hm0⟩, HKW.out.drewN _⟩
              case measure => simp [intOf]; omega
    · have hR : R = true := by rw [← HR.out, HA.out, asc_end (by omega)]
      subst hR
      clear hkw
      go_wp2
      go_ret
      exact ⟨rfl, HKW.out⟩
end Go.Proofs.Ytmncjibokpieoaa
