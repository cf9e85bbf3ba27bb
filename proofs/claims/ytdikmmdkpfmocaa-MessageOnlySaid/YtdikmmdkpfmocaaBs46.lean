import Derived.Deep.RegionHeld3
import Derived.Maps.AppendAt
import Derived.Test.YtdikmmdkpfmocaaBs15
import Derived.Test.YtdikmmdkpfmocaaBs25
namespace Go.Proofs.Ytdikmmdkpfmocaa
open Go.RowKit
theorem Zs.any {w : World} {D : Nat → Prop} {v : Value} {zs : List Int} (h : Zs w D v zs) : Zs w (fun _ => True) v zs := h.mono (fun _ _ _ => trivial)
theorem CfAt.any {w : World} {D : Nat → Prop} {v : Value} {c : Cf} (h : CfAt w D v c) : CfAt w (fun _ => True) v c := h.mono (fun _ _ _ => trivial)
def sameP (a b : Cf) : Bool := decide (a.v = b.v) && decide (a.l = b.l)
theorem same_iff {a b : Cf} : sameP a b = true ↔ a = b := by
  unfold sameP
  rw [Bool.and_eq_true, decide_eq_true_eq, decide_eq_true_eq]
  obtain ⟨a1, a2⟩ := a
  obtain ⟨b1, b2⟩ := b
  simp
theorem list_at {a b : List Int} (hl : a.length = b.length) (h : ∀ j, j < a.length → a[j]? = b[j]?) : a = b := by
  apply List.ext_getElem?
  intro j
  rcases Nat.lt_or_ge j a.length with hj | hj
  · exact h j hj
  · rw [List.getElem?_eq_none hj, List.getElem?_eq_none (by omega)]
set_option maxRecDepth 100000 in
set_option maxHeartbeats 1000000 in
theorem rsame_any (w : World) (D D' : Nat → Prop) (v v' : Value) (a b : Cf) (ha : CfAt w D v a) (hb : CfAt w D' v' b) :
    Calls Try.prog 25 #[v, v'] w (TellsB (sameP a b) w) := by
  generalize hR : sameP a b = R
  have HR := Lib.hid hR
  clear hR
  obtain ⟨_, _, rfl, a1, a2⟩ := ha
  obtain ⟨_, _, rfl, b1, b2⟩ := hb
  obtain ⟨A, ca, rfl, l1, m1, _⟩ := a1.shape
  obtain ⟨A', ca', rfl, l2, m2, _⟩ := a2.shape
  obtain ⟨B, cb, rfl, l3, m3, _⟩ := b1.shape
  obtain ⟨B', cb', rfl, l4, m4, _⟩ := b2.shape
  unfold maxLen at m1 m2 m3 m4
  have K1 := ((Keep.refl noneOf w).alloc (.cells #[.slice A a.v.length ca, .slice A' a.l.length ca'] 26)).alloc (.cells #[.slice B b.v.length cb, .slice B' b.l.length cb'] 26)
  have XA := (Box.new w 26 #[.slice A a.v.length ca, .slice A' a.l.length ca']).alloc (.cells #[.slice B b.v.length cb, .slice B' b.l.length cb'] 26)
  have XB := Box.new (w.alloc (.cells #[.slice A a.v.length ca, .slice A' a.l.length ca'] 26)) 26 #[.slice B b.v.length cb, .slice B' b.l.length cb']
  rw [show (w.alloc (.cells #[.slice A a.v.length ca, .slice A' a.l.length ca'] 26)).heap.size = w.heap.size + 1 from by simp] at XB
  have HXA := Lib.hid XA
  have HXB := Lib.hid XB
  have HA1 := Lib.hid (a1.keepN K1)
  have HA2 := Lib.hid (a2.keepN K1)
  have HB1 := Lib.hid (b1.keepN K1)
  have HB2 := Lib.hid (b2.keepN K1)
  have HK1 := Lib.hid K1
  clear a1 a2 b1 b2 K1 XA XB
  by_cases hl1 : a.v.length = b.v.length
  · have g1 : ((a.v.length : Int) != (b.v.length : Int)) = false := by simp [hl1]
    have HL1 := Lib.hid hl1
    clear hl1
    by_cases hl2 : a.l.length = b.l.length
    · have g2 : ((a.l.length : Int) != (b.l.length : Int)) = false := by simp [hl2]
      have HL2 := Lib.hid hl2
      clear hl2
      go_enter Try.func25, Try.ntmps25
      go_wp2
      generalize (w.alloc (.cells #[.slice A a.v.length ca, .slice A' a.l.length ca'] 26)).alloc (.cells #[.slice B b.v.length cb, .slice B' b.l.length cb'] 26) = w1 at *
      have hl1 := HL1.out
      have hl2 := HL2.out
      go_loopw [5] (fun i wr => ∃ k : Nat, k ≤ a.v.length ∧ i = .int .i64 k ∧ (∀ j, j < k → a.v[j]? = b.v[j]?) ∧ Keep noneOf w1 wr) (fun i _ => a.v.length - (intOf i).toNat)
      case atStart => exact ⟨0, Nat.zero_le _, rfl, fun j hj => absurd hj (by omega), Keep.refl _ _⟩
      case round =>
        obtain ⟨k, hk, rfl, hall, hkw⟩ := hrel
        have HAL := Lib.hid hall
        have HKW := Lib.hid hkw
        have XX := HXA.out.keep hkw id
        have YY := HXB.out.keep hkw id
        have x0 : wr.cell? ⟨w.heap.size, 0, none⟩ = some (.slice A a.v.length ca) := XX.cell 0
        have x1 : wr.cell? ⟨w.heap.size, 1, none⟩ = some (.slice A' a.l.length ca') := XX.cell 1
        have y0 : wr.cell? ⟨w.heap.size + 1, 0, none⟩ = some (.slice B b.v.length cb) := YY.cell 0
        have y1 : wr.cell? ⟨w.heap.size + 1, 1, none⟩ = some (.slice B' b.l.length cb') := YY.cell 1
        clear hall XX YY
        by_cases hlt : k < a.v.length
        · have hlt' : k < b.v.length := by omega
          obtain ⟨g1, o1, rfl, _, _, p0⟩ := (HA1.out.keepN hkw).cell hlt
          obtain ⟨g2, o2, rfl, _, _, p1⟩ := (HB1.out.keepN hkw).cell hlt'
          have HSX := Lib.hid (List.getElem?_eq_getElem hlt)
          have HSY := Lib.hid (List.getElem?_eq_getElem hlt')
          generalize a.v[k] = m at *
          generalize b.v[k] = n at *
          have q0 : (0 : Int) ≤ (k : Int) := by omega
          have q1 : (k : Int) < (a.v.length : Int) := by omega
          have q2 : (k : Int) < (b.v.length : Int) := by omega
          clear hkw
          by_cases hmn : m = n
          · subst hmn
            have g0 : (m != m) = false := by simp
            go_wp2
            go_quiet (fail)
            go_wp2
            go_roundw
            case rel =>
              refine ⟨k + 1, by omega, by go_num, fun j hj => ?_, HKW.out.drewN _⟩
              rcases Nat.lt_or_ge j k with h | h
              · exact HAL.out j h
              · have : j = k := by omega
                subst this
                rw [HSX.out, HSY.out]
            case measure => simp [intOf]; omega
          · have g0 : (m != n) = true := by simp [hmn]
            obtain rfl : R = false := by
              rw [← HR.out]
              unfold sameP
              rw [decide_eq_false (p := a.v = b.v), Bool.false_and]
              intro e
              rw [e, HSY.out] at HSX
              exact hmn (Option.some.inj HSX.out).symm
            clear hmn
            go_wp2
            go_quiet (fail)
            go_wp2
            go_ret
            exact ⟨rfl, HK1.out.trans (HKW.out.drewN _) (fun _ _ h => h)⟩
        · obtain rfl : k = a.v.length := by omega
          have hqn : ¬ ((a.v.length : Int) < (a.v.length : Int)) := by omega
          have HEQ := Lib.hid (list_at (by omega) HAL.out)
          clear hkw
          have XX := HXA.out.keep HKW.out id
          have YY := HXB.out.keep HKW.out id
          go_wp2
          clear x0 x1 y0 y1
          go_loopw [6] (fun i wr => ∃ k : Nat, k ≤ a.l.length ∧ i = .int .i64 k ∧ (∀ j, j < k → a.l[j]? = b.l[j]?) ∧ Keep noneOf w1 wr) (fun i _ => a.l.length - (intOf i).toNat)
          case atStart => exact ⟨0, Nat.zero_le _, rfl, fun j hj => absurd hj (by omega), HKW.out⟩
          case round =>
            obtain ⟨k, hk, rfl, hall, hkw⟩ := hrel
            have HAL2 := Lib.hid hall
            have HKX := Lib.hid hkw
            have XX := HXA.out.keep hkw id
            have YY := HXB.out.keep hkw id
            have x0 : wr.cell? ⟨w.heap.size, 0, none⟩ = some (.slice A a.v.length ca) := XX.cell 0
            have x1 : wr.cell? ⟨w.heap.size, 1, none⟩ = some (.slice A' a.l.length ca') := XX.cell 1
            have y0 : wr.cell? ⟨w.heap.size + 1, 0, none⟩ = some (.slice B b.v.length cb) := YY.cell 0
            have y1 : wr.cell? ⟨w.heap.size + 1, 1, none⟩ = some (.slice B' b.l.length cb') := YY.cell 1
            clear hall XX YY
            by_cases hlt : k < a.l.length
            · have hlt' : k < b.l.length := by omega
              obtain ⟨g1, o1, rfl, _, _, p0⟩ := (HA2.out.keepN hkw).cell hlt
              obtain ⟨g2, o2, rfl, _, _, p1⟩ := (HB2.out.keepN hkw).cell hlt'
              have HSX := Lib.hid (List.getElem?_eq_getElem hlt)
              have HSY := Lib.hid (List.getElem?_eq_getElem hlt')
              generalize a.l[k] = m at *
              generalize b.l[k] = n at *
              have q0 : (0 : Int) ≤ (k : Int) := by omega
              have q1 : (k : Int) < (a.l.length : Int) := by omega
              have q2 : (k : Int) < (b.l.length : Int) := by omega
              clear hkw
              by_cases hmn : m = n
              · subst hmn
                have g0 : (m != m) = false := by simp
                go_wp2
                go_quiet (fail)
                go_wp2
                go_roundw
                case rel =>
                  refine ⟨k + 1, by omega, by go_num, fun j hj => ?_, HKX.out.drewN _⟩
                  rcases Nat.lt_or_ge j k with h | h
                  · exact HAL2.out j h
                  · have : j = k := by omega
                    subst this
                    rw [HSX.out, HSY.out]
                case measure => simp [intOf]; omega
              · have g0 : (m != n) = true := by simp [hmn]
                obtain rfl : R = false := by
                  rw [← HR.out]
                  unfold sameP
                  rw [decide_eq_false (p := a.l = b.l), Bool.and_false]
                  intro e
                  rw [e, HSY.out] at HSX
                  exact hmn (Option.some.inj HSX.out).symm
                clear hmn
                go_wp2
                go_quiet (fail)
                go_wp2
                go_ret
                exact ⟨rfl, HK1.out.trans (HKX.out.drewN _) (fun _ _ h => h)⟩
            · obtain rfl : k = a.l.length := by omega
              have hqn : ¬ ((a.l.length : Int) < (a.l.length : Int)) := by omega
              have HEQ2 := Lib.hid (list_at (by omega) HAL2.out)
              clear hkw
              obtain rfl : R = true := by rw [← HR.out, same_iff.2]; obtain ⟨av, al⟩ := a; obtain ⟨bv, bl⟩ := b; simp only at HEQ HEQ2; rw [HEQ.out, HEQ2.out]
              go_wp2
              go_ret
              exact ⟨rfl, HK1.out.trans HKX.out (fun _ _ h => h)⟩
    · have g2 : ((a.l.length : Int) != (b.l.length : Int)) = true := by simp; omega
      obtain rfl : R = false := by
        rw [← HR.out]
        unfold sameP
        rw [decide_eq_false (p := a.l = b.l), Bool.and_false]
        exact fun e => hl2 (by rw [e])
      clear hl2
      go_enter Try.func25, Try.ntmps25
      go_wp2
      go_ret
      exact ⟨rfl, HK1.out⟩
  · have g1 : ((a.v.length : Int) != (b.v.length : Int)) = true := by simp; omega
    obtain rfl : R = false := by
      rw [← HR.out]
      unfold sameP
      rw [decide_eq_false (p := a.v = b.v), Bool.false_and]
      exact fun e => hl1 (by rw [e])
    clear hl1
    go_enter Try.func25, Try.ntmps25
    go_wp2
    go_ret
    exact ⟨rfl, HK1.out⟩
end Go.Proofs.Ytdikmmdkpfmocaa
