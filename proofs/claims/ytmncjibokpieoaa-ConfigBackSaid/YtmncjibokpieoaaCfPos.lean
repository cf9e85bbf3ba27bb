/-
  Package config: possible.
-/
import Derived.Test.YtmncjibokpieoaaCfFn
import Derived.Test.YtmncjibokpieoaaCfPlain
namespace Go.Proofs.Ytmncjibokpieoaa
open Go.RowKit

def posP (c : Cf) (kind node : Int) : Bool :=
  if kind = 1 then decide (0 ≤ node) && decide (node < 8) && !hasP c node
  else if kind = 2 then inP c.l node
  else if kind = 3 then inP c.l node || (inP c.v node && decide (1 < c.v.length))
  else false

set_option maxRecDepth 100000 in
set_option maxHeartbeats 1000000 in
theorem possible_any (w : World) (D : Nat → Prop) (v : Value) (c : Cf) (kind node : Int) (h : CfAt w D v c) :
    Calls Try.prog 37 #[v, .agg #[.int .i64 kind, .int .i64 node]] w (TellsB (posP c kind node) w) := by
  obtain ⟨R, hR⟩ : ∃ R, posP c kind node = R := ⟨_, rfl⟩
  rw [hR]
  unfold posP at hR
  have HR := Lib.hid hR
  have HH := Lib.hid h
  obtain ⟨a, b, rfl, h1, h2⟩ := h
  obtain ⟨A, ca, rfl, hla, hma, _⟩ := h1.shape
  obtain ⟨B, cb, rfl, hlb, hmb, _⟩ := h2.shape
  unfold maxLen at hma hmb
  have K2 := ((Keep.refl noneOf w).alloc (.cells #[.slice A c.v.length ca, .slice B c.l.length cb] 24)).alloc (.cells #[.int .i64 kind, .int .i64 node] 33)
  have X0 := (Box.new w 24 #[.slice A c.v.length ca, .slice B c.l.length cb]).alloc (.cells #[.int .i64 kind, .int .i64 node] 33)
  have X1 := Box.new (w.alloc (.cells #[.slice A c.v.length ca, .slice B c.l.length cb] 24)) 33 #[.int .i64 kind, .int .i64 node]
  rw [show (w.alloc (.cells #[.slice A c.v.length ca, .slice B c.l.length cb] 24)).heap.size = w.heap.size + 1 from by simp] at X1
  have HK2 := Lib.hid K2
  have HX0 := Lib.hid X0
  have HX1 := Lib.hid X1
  have HHA := Lib.hid (has_any _ D _ c node (HH.out.keepN K2))
  have HLE := Lib.hid (learns_any _ D _ c node (HH.out.keepN K2))
  have HVO := Lib.hid (fun (w' : World) (k : Keep noneOf w w') => votes_any w' D _ c node (HH.out.keepN k))
  clear h1 h2 X0 X1 K2 hR
  by_cases e1 : kind = 1
  · subst e1
    rw [if_pos rfl] at HR
    by_cases n0 : 0 ≤ node
    · by_cases n7 : node < 8
      · rw [decide_eq_true n0, decide_eq_true n7, Bool.and_self, Bool.true_and] at HR
        generalize hasP c node = hs at *
        go_enter Try.func37, Try.ntmps37
        go_wp2_with fail
        refine HHA.out.mono ?_
        rintro e w1 ⟨rfl, k1⟩
        have HKE := Lib.hid (HK2.out.trans k1 (fun _ _ h => h))
        have hr := HR.out
        subst hr
        clear k1
        cases hs
        · go_wp2
          go_ret
          exact ⟨rfl, HKE.out⟩
        · go_wp2
          go_ret
          exact ⟨rfl, HKE.out⟩
      · rw [decide_eq_false n7, Bool.and_false, Bool.false_and] at HR
        have hr := HR.out
        subst hr
        have m7 : ¬ node < 8 := n7
        go_enter Try.func37, Try.ntmps37
        go_wp2
        go_ret
        exact ⟨rfl, HK2.out⟩
    · rw [decide_eq_false n0, Bool.false_and, Bool.false_and] at HR
      have hr := HR.out
      subst hr
      go_enter Try.func37, Try.ntmps37
      go_wp2
      go_ret
      exact ⟨rfl, HK2.out⟩
  · rw [if_neg e1] at HR
    have g1 : (kind == 1) = false := by simp [e1]
    by_cases e2 : kind = 2
    · subst e2
      rw [if_pos rfl] at HR
      generalize inP c.l node = ln at *
      go_enter Try.func37, Try.ntmps37
      go_wp2_with fail
      refine HLE.out.mono ?_
      rintro e w1 ⟨rfl, k1⟩
      have HKE := Lib.hid (HK2.out.trans k1 (fun _ _ h => h))
      have hr := HR.out
      subst hr
      clear k1
      go_wp2
      go_ret
      exact ⟨rfl, HKE.out⟩
    · rw [if_neg e2] at HR
      have g2 : (kind == 2) = false := by simp [e2]
      by_cases e3 : kind = 3
      · subst e3
        rw [if_pos rfl] at HR
        cases hq : inP c.l node with
        | true =>
          rw [hq] at HLE HR
          rw [Bool.true_or] at HR
          have hr := HR.out
          subst hr
          clear hq
          go_enter Try.func37, Try.ntmps37
          go_wp2_with fail
          refine HLE.out.mono ?_
          rintro e w1 ⟨rfl, k1⟩
          have HKE := Lib.hid (HK2.out.trans k1 (fun _ _ h => h))
          clear k1
          go_wp2
          go_ret
          exact ⟨rfl, HKE.out⟩
        | false =>
          rw [hq] at HLE HR
          rw [Bool.false_or] at HR
          clear hq
          go_enter Try.func37, Try.ntmps37
          go_wp2_with fail
          refine HLE.out.mono ?_
          rintro e w1 ⟨rfl, k1⟩
          have K1 := HK2.out.trans k1 (fun _ _ h => h)
          have HK1 := Lib.hid K1
          have Y0 := HX0.out.keep k1 id
          have Y1 := HX1.out.keep k1 id
          have x0 : w1.cell? ⟨w.heap.size, 0, none⟩ = some (.slice A c.v.length ca) := Y0.cell 0
          have x1 : w1.cell? ⟨w.heap.size, 1, none⟩ = some (.slice B c.l.length cb) := Y0.cell 1
          have y1 : w1.cell? ⟨w.heap.size + 1, 1, none⟩ = some (.int .i64 node) := Y1.cell 1
          have HY0 := Lib.hid Y0
          have HV1 := Lib.hid (HVO.out w1 K1)
          clear k1 K1 Y0 Y1
          cases hq : inP c.v node with
          | false =>
            rw [hq] at HV1 HR
            rw [Bool.false_and] at HR
            have hr := HR.out
            subst hr
            clear hq
            go_wp2_with fail
            refine HV1.out.mono ?_
            rintro e w2 ⟨rfl, k2⟩
            have HKE := Lib.hid (HK1.out.trans k2 (fun _ _ h => h))
            clear k2
            go_wp2
            go_ret
            exact ⟨rfl, HKE.out⟩
          | true =>
            rw [hq] at HV1 HR
            rw [Bool.true_and] at HR
            clear hq
            go_wp2_with fail
            refine HV1.out.mono ?_
            rintro e w2 ⟨rfl, k2⟩
            have HKE := Lib.hid (HK1.out.trans k2 (fun _ _ h => h))
            have z0 : w2.cell? ⟨w.heap.size, 0, none⟩ = some (.slice A c.v.length ca) := (HY0.out.keep k2 id).cell 0
            clear k2 x0 x1 y1
            go_wp2
            go_ret
            refine ⟨ret_bool ?_, HKE.out⟩
            rw [← HR.out]
            apply Bool.eq_iff_iff.2
            simp only [decide_eq_true_eq]
            omega
      · rw [if_neg e3] at HR
        have g3 : (kind == 3) = false := by simp [e3]
        have hr := HR.out
        subst hr
        go_enter Try.func37, Try.ntmps37
        go_wp2
        go_ret
        exact ⟨rfl, HK2.out⟩
end Go.Proofs.Ytmncjibokpieoaa
