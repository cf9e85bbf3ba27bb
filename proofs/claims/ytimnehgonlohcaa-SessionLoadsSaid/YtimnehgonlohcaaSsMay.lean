/-
  dockyardref11.May.
-/
import Derived.Test.YtimnehgonlohcaaSsAll
namespace Go.Proofs.Ytimnehgonlohcaa
open Go.Shelf Go.RowKit Go.Maps

/-- May a session stand there? -/
def Good (l : List Ro) (j : Nat) : Prop := ∀ r, l[j]? = some r → r.id ≠ 0 ∧ (∀ q, 0 < j → l[j - 1]? = some q → q.id < r.id) ∧ (r.seq = 0 → r.ans = .zero)
def MayP (l : List Ro) : Prop := (∀ j, Good l j) ∧ l.length ≤ 16
/-- What is told of it. -/
def Mays (l : List Ro) (w : World) (e : Ending) (w' : World) : Prop := ∃ b : Bool, e = .returned (.bool b) ∧ (b = true ↔ MayP l) ∧ Keep noneOf w w'
theorem good_not {l : List Ro} {j : Nat} (h : ¬ Good l j) : ¬ MayP l := fun hm => h (hm.1 j)

set_option maxRecDepth 100000 in
set_option maxHeartbeats 4000000 in
theorem may_any (w : World) (D : Nat → Prop) (v : Value) (l : List Ro) (h : Many Ro.cells 8 w D v l) : Calls Try.prog 14 #[v] w (Mays l w) := by
  obtain ⟨A, c, rfl⟩ := h.shape
  have hfew := h.few
  unfold maxLen at hfew
  have HH := Lib.hid h
  have hz := zeroA
  unfold An.agg An.zero at hz
  clear h
  go_enter Try.func14, Try.ntmps14
  go_wp2
  go_loopw [3] (fun i wr => ∃ (k : Nat), k ≤ l.length ∧ i = .int .i64 k ∧ Keep noneOf w wr ∧ ∀ j, j < k → Good l j) (fun i _ => l.length - (intOf i).toNat)
  case atStart => exact ⟨0, Nat.zero_le _, rfl, Keep.refl _ _, fun j hj => absurd hj (Nat.not_lt_zero _)⟩
  case round =>
    obtain ⟨k, hk, rfl, hkeep, hgood⟩ := hrel
    have HG := Lib.hid hgood
    have HKP := Lib.hid hkeep
    clear hgood
    by_cases hlt : k < l.length
    · have hx : l[k]? = some l[k] := List.getElem?_eq_getElem hlt
      obtain ⟨b, o, rfl, hblk, _, hcell⟩ := (HH.out.keep hkeep (fun _ _ _ => id)).cell (fun _ => rfl) hx
      have HX := Lib.hid hx
      generalize l[k] = r at *
      obtain ⟨c0, c1, c2, c3, c4, c5, c6, c7⟩ := ro_cells b o k _ _ hcell
      obtain ⟨nz, hnq⟩ : ∃ nz, (!decide (r.ans = An.zero)) = nz := ⟨_, rfl⟩
      have hneq : ∀ w', (binOp .neq 32 r.ans.agg An.zero.agg).run Try.prog w' = .ok (.bool nz) w' := fun w' => by rw [← hnq]; exact run_neqA w' _ _
      have HNQ := Lib.hid hnq
      clear hnq
      obtain ⟨i, s, ⟨ac, ai, at_, au, ag, am⟩⟩ := r
      unfold An.agg An.zero at hneq
      dsimp only at c0 c1 c2 c3 c4 c5 c6 c7 hneq
      have q0 : (0 : Int) ≤ (k : Int) := by omega
      have q1 : (k : Int) < (l.length : Int) := by omega
      clear hx hcell
      by_cases hi : i = 0
      · have HB := Lib.hid (show ¬ Good l k from fun hg => (hg _ HX.out).1 hi)
        subst hi
        clear hkeep
        go_upto_region 4 with fail
        go_quiet (fail)
        have KQ := Lib.hid (HKP.out.drewN nq)
        go_wp2
        go_ret
        exact ⟨false, rfl, ⟨fun h => (by cases h), fun h => absurd h (good_not HB.out)⟩, KQ.out⟩
      · have HI := Lib.hid hi
        have gi : (i == 0) = false := beq_eq_false_iff_ne.2 hi
        clear hi
        rcases Nat.eq_zero_or_pos k with hk0 | hkp
        · have HK0 := Lib.hid hk0
          have gk : decide (0 < k) = false := decide_eq_false (by omega)
          have gk2 : decide ((0 : Int) < (k : Int)) = false := decide_eq_false (by omega)
          clear hk0
          have HPREV : Hid (∀ q, 0 < k → l[k - 1]? = some q → q.id < i) := Lib.hid fun q h0 => by have := HK0.out; omega
          by_cases hs : s = 0
          · subst hs
            cases nz with
            | true =>
              have HB := Lib.hid (show ¬ Good l k from fun hg => by
                have h1 := (hg _ HX.out).2.2 rfl
                have h2 := HNQ.out
                simp only at h1
                rw [h1] at h2
                simp at h2)
              clear hkeep
              go_upto_region 4 with fail
              go_quiet (fail)
              have KQ := Lib.hid (HKP.out.drewN nq)
              go_wp2
              go_ret
              exact ⟨false, rfl, ⟨fun h => (by cases h), fun h => absurd h (good_not HB.out)⟩, KQ.out⟩
            | false =>
              have HGK : Hid (Good l k) := Lib.hid fun r hr => by
                rw [HX.out] at hr
                injection hr with hr
                subst hr
                exact ⟨HI.out, HPREV.out, fun _ => by have := HNQ.out; simpa using this⟩
              clear hkeep
              go_upto_region 4 with fail
              go_quiet (fail)
              have KQ := Lib.hid (HKP.out.drewN nq)
              go_wp2
              go_roundw
              case rel => exact ⟨k + 1, by omega, by go_num, KQ.out, fun j hj => by
                rcases Nat.lt_or_ge j k with h1 | h1
                · exact HG.out j h1
                · obtain rfl : j = k := by omega
                  exact HGK.out⟩
              case measure => simp [intOf]; omega
          · have HGK : Hid (Good l k) := Lib.hid fun r hr => by
              rw [HX.out] at hr
              injection hr with hr
              subst hr
              exact ⟨HI.out, HPREV.out, fun h => absurd h hs⟩
            have gs : (s == 0) = false := beq_eq_false_iff_ne.2 hs
            clear hkeep hs
            go_upto_region 4 with fail
            go_quiet (fail)
            have KQ := Lib.hid (HKP.out.drewN nq)
            go_wp2
            go_roundw
            case rel => exact ⟨k + 1, by omega, by go_num, KQ.out, fun j hj => by
              rcases Nat.lt_or_ge j k with h1 | h1
              · exact HG.out j h1
              · obtain rfl : j = k := by omega
                exact HGK.out⟩
            case measure => simp [intOf]; omega
        · obtain ⟨kp, hkp1⟩ : ∃ kp, k - 1 = kp := ⟨_, rfl⟩
          have hy : l[kp]? = some (l[kp]'(by omega)) := List.getElem?_eq_getElem (by omega)
          obtain ⟨b', o', eb, _, _, hcell'⟩ := (HH.out.keep hkeep (fun _ _ _ => id)).cell (fun _ => rfl) hy
          obtain ⟨rfl, rfl⟩ : b = b' ∧ o = o' := by
            injection eb with eb
            injection eb with e1 e2
            exact ⟨e1, e2⟩
          have HY := Lib.hid hy
          generalize (l[kp]'(by omega)) = q at *
          obtain ⟨d0, -⟩ := ro_cells b o kp _ _ hcell'
          have gk : (0 : Int) < (k : Int) := by omega
          have q2 : (0 : Int) ≤ (kp : Int) := by omega
          have q3 : (kp : Int) < (l.length : Int) := by omega
          have wk : IntKind.i64.wrap ((k : Int) - 1) = (kp : Int) := by rw [IntKind.wrap_i64]; omega
          have HKPE := Lib.hid hkp1
          have HKP0 := Lib.hid hkp
          clear hy hcell' eb hkp1
          by_cases hle : i ≤ q.id
          · have HB := Lib.hid (show ¬ Good l k from fun hg => by
              have := (hg _ HX.out).2.1 q HKP0.out (by rw [HKPE.out]; exact HY.out)
              simp only at this
              omega)
            obtain ⟨qi, hqi⟩ : ∃ qi, q.id = qi := ⟨_, rfl⟩
            rw [hqi] at hle d0
            clear hkeep hqi
            go_upto_region 4 with fail
            go_quiet (fail)
            have KQ := Lib.hid (HKP.out.drewN nq)
            go_wp2
            go_ret
            exact ⟨false, rfl, ⟨fun h => (by cases h), fun h => absurd h (good_not HB.out)⟩, KQ.out⟩
          · have HPREV : Hid (∀ q, 0 < k → l[k - 1]? = some q → q.id < i) := Lib.hid fun q' _ hq' => by
              rw [HKPE.out, HY.out] at hq'
              injection hq' with hq'
              subst hq'
              omega
            obtain ⟨qi, hqi⟩ : ∃ qi, q.id = qi := ⟨_, rfl⟩
            rw [hqi] at hle d0
            clear hqi
            by_cases hs : s = 0
            · subst hs
              cases nz with
              | true =>
                have HB := Lib.hid (show ¬ Good l k from fun hg => by
                  have h1 := (hg _ HX.out).2.2 rfl
                  have h2 := HNQ.out
                  simp only at h1
                  rw [h1] at h2
                  simp at h2)
                clear hkeep
                go_upto_region 4 with fail
                go_quiet (fail)
                have KQ := Lib.hid (HKP.out.drewN nq)
                go_wp2
                go_ret
                exact ⟨false, rfl, ⟨fun h => (by cases h), fun h => absurd h (good_not HB.out)⟩, KQ.out⟩
              | false =>
                have HGK : Hid (Good l k) := Lib.hid fun r hr => by
                  rw [HX.out] at hr
                  injection hr with hr
                  subst hr
                  exact ⟨HI.out, HPREV.out, fun _ => by have := HNQ.out; simpa using this⟩
                clear hkeep
                go_upto_region 4 with fail
                go_quiet (fail)
                have KQ := Lib.hid (HKP.out.drewN nq)
                go_wp2
                go_roundw
                case rel => exact ⟨k + 1, by omega, by go_num, KQ.out, fun j hj => by
                  rcases Nat.lt_or_ge j k with h1 | h1
                  · exact HG.out j h1
                  · obtain rfl : j = k := by omega
                    exact HGK.out⟩
                case measure => simp [intOf]; omega
            · have HGK : Hid (Good l k) := Lib.hid fun r hr => by
                rw [HX.out] at hr
                injection hr with hr
                subst hr
                exact ⟨HI.out, HPREV.out, fun h => absurd h hs⟩
              have gs : (s == 0) = false := beq_eq_false_iff_ne.2 hs
              clear hkeep hs
              go_upto_region 4 with fail
              go_quiet (fail)
              have KQ := Lib.hid (HKP.out.drewN nq)
              go_wp2
              go_roundw
              case rel => exact ⟨k + 1, by omega, by go_num, KQ.out, fun j hj => by
                rcases Nat.lt_or_ge j k with h1 | h1
                · exact HG.out j h1
                · obtain rfl : j = k := by omega
                  exact HGK.out⟩
              case measure => simp [intOf]; omega
    · have hkn : ¬ ((k : Int) < (l.length : Int)) := by omega
      have HA : Hid (∀ j, Good l j) := Lib.hid fun j => by
        by_cases hj : j < k
        · exact HG.out j hj
        · intro r hr
          have := (List.getElem?_eq_some_iff.1 hr).1
          omega
      clear hkeep hlt
      by_cases h16 : l.length ≤ 16
      · have H16 := Lib.hid h16
        have g16 : (l.length : Int) ≤ 16 := by omega
        clear h16
        go_wp2
        go_ret
        exact ⟨true, rfl, ⟨fun _ => ⟨HA.out, H16.out⟩, fun _ => rfl⟩, HKP.out⟩
      · have H16 := Lib.hid h16
        have g16 : ¬ (l.length : Int) ≤ 16 := by omega
        clear h16
        go_wp2
        go_ret
        exact ⟨false, rfl, ⟨fun h => (by cases h), fun h => absurd h.2 H16.out⟩, HKP.out⟩
end Go.Proofs.Ytimnehgonlohcaa
