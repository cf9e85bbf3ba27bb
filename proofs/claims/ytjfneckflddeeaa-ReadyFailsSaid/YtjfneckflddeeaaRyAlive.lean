/-
  dockyardlaw09.alive: states that the document fixes.
-/
import Derived.Test.YtjfneckflddeeaaRyStart
namespace Go.Proofs.Ytjfneckflddeeaa
open Go.RowKit

def sa : ByteArray := ⟨#[97]⟩
def sb : ByteArray := ⟨#[98]⟩
def sv : ByteArray := ⟨#[]⟩
/-- The graph that is asked. -/
def alivePs : List Pt := [⟨sa, sv, [sb]⟩, ⟨sb, sv, []⟩]
theorem alive_order : grOrder alivePs = [1, 0] := by decide +kernel
theorem alive_needs1 : needsAt alivePs ((1 : Nat) : Int) = [] := by decide +kernel
theorem alive_needs0 : needsAt alivePs ((0 : Nat) : Int) = [1] := by decide +kernel
theorem alive_start : grStart alivePs [] = [⟨0, 0, 0⟩, ⟨1, 0, 0⟩] := by
  unfold grStart grSettle
  rw [alive_order]
  show runOf (settleAt alivePs [⟨0, 0, 0⟩, ⟨0, 0, 0⟩]) [⟨0, 0, 0⟩, ⟨0, 0, 0⟩] [1, 0] = _
  have e1 : settleAt alivePs [⟨0, 0, 0⟩, ⟨0, 0, 0⟩] [⟨0, 0, 0⟩, ⟨0, 0, 0⟩] 1 = ⟨1, 0, 0⟩ := by
    unfold settleAt needSt
    rw [alive_needs1]
    decide +kernel
  have e0 : settleAt alivePs [⟨0, 0, 0⟩, ⟨0, 0, 0⟩] [⟨0, 0, 0⟩, ⟨1, 0, 0⟩] 0 = ⟨0, 0, 0⟩ := by
    unfold settleAt needSt
    rw [alive_needs0]
    decide +kernel
  show (([⟨0, 0, 0⟩, ⟨0, 0, 0⟩] : List Pst).set 1 (settleAt alivePs [⟨0, 0, 0⟩, ⟨0, 0, 0⟩] [⟨0, 0, 0⟩, ⟨0, 0, 0⟩] 1)).set 0 (settleAt alivePs [⟨0, 0, 0⟩, ⟨0, 0, 0⟩] (([⟨0, 0, 0⟩, ⟨0, 0, 0⟩] : List Pst).set 1 (settleAt alivePs [⟨0, 0, 0⟩, ⟨0, 0, 0⟩] [⟨0, 0, 0⟩, ⟨0, 0, 0⟩] 1)) 0) = _
  rw [e1]
  show (([⟨0, 0, 0⟩, ⟨1, 0, 0⟩] : List Pst)).set 0 (settleAt alivePs [⟨0, 0, 0⟩, ⟨0, 0, 0⟩] [⟨0, 0, 0⟩, ⟨1, 0, 0⟩] 0) = _
  rw [e0]
  rfl

/-- Its targets, in memory. -/
def aliveTs (g : Nat) : List Tg := [⟨sa, sv, .slice (some ⟨g, 0, none⟩) 1 1, [sb]⟩, ⟨sb, sv, .slice none 0 0, []⟩]
theorem alive_plain (g : Nat) : (aliveTs g).map Tg.plain = alivePs := rfl
theorem alive_tgs {w : World} {g q : Nat} (hg : Box w g 9 #[.string sb]) (hq : Box w q 54 #[.string sa, .string sv, .slice (some ⟨g, 0, none⟩) 1 1, .string sb, .string sv, .slice none 0 0]) :
    Tgs w (fun _ => True) (.slice (some ⟨q, 0, none⟩) 2 2) (aliveTs g) := by
  have m4 : (4 : Nat) ≤ maxLen := by unfold maxLen; decide
  refine ⟨⟨some ⟨q, 0, none⟩, 2, rfl, Nat.le_refl 2, Nat.le_trans (by decide) m4, fun e => (by cases e), rfl, fun _ => ⟨⟨q, 0, none⟩, rfl, rfl, hq.lt, trivial, fun j x hx => ?_⟩⟩, fun t ht => ?_⟩
  · show w.cell? ⟨q, 0 + j, none⟩ = some x
    rw [Nat.zero_add, hq.cell]
    simpa [aliveTs, Tg.cells] using hx
  · rcases List.mem_cons.1 ht with rfl | ht
    · refine ⟨Nat.le_trans (show 1 ≤ 4 by decide) m4, Nat.zero_le _, ⟨some ⟨g, 0, none⟩, 1, rfl, Nat.le_refl 1, Nat.le_trans (by decide) m4, fun e => (by cases e), rfl, fun _ => ⟨⟨g, 0, none⟩, rfl, rfl, hg.lt, trivial, fun j x hx => ?_⟩⟩, fun s hs => ?_⟩
      · show w.cell? ⟨g, 0 + j, none⟩ = some x
        rw [Nat.zero_add, hg.cell]
        simpa using hx
      · simp at hs
        subst hs
        exact Nat.le_trans (show 1 ≤ 4 by decide) m4
    · simp at ht
      subst ht
      exact ⟨Nat.le_trans (show 1 ≤ 4 by decide) m4, Nat.zero_le _, ⟨none, 0, rfl, Nat.le_refl 0, Nat.zero_le _, fun _ => rfl, rfl, fun h => absurd h (Nat.lt_irrefl 0)⟩, fun s hs => by cases hs⟩

set_option maxRecDepth 100000 in
set_option maxHeartbeats 1000000 in
theorem alive_any (w : World) : Calls Try.prog 14 #[] w (TellsB true w) := by
  have g0 := ((Box.new w 9 #[.string sb]).alloc (.cells #[.string sa, .string sv, .slice (some ⟨w.heap.size, 0, none⟩) 1 1, .string sb, .string sv, .slice none 0 0] 54)).alloc (.cells #[.slice (some ⟨w.heap.size + 1, 0, none⟩) 2 2] 24)
  have q0 := (Box.new (w.alloc (.cells #[.string sb] 9)) 54 #[.string sa, .string sv, .slice (some ⟨w.heap.size, 0, none⟩) 1 1, .string sb, .string sv, .slice none 0 0]).alloc (.cells #[.slice (some ⟨w.heap.size + 1, 0, none⟩) 2 2] 24)
  rw [show (w.alloc (.cells #[.string sb] 9)).heap.size = w.heap.size + 1 from by simp] at q0
  have k0 := (((Keep.refl noneOf w).alloc (.cells #[.string sb] 9)).alloc (.cells #[.string sa, .string sv, .slice (some ⟨w.heap.size, 0, none⟩) 1 1, .string sb, .string sv, .slice none 0 0] 54)).alloc (.cells #[.slice (some ⟨w.heap.size + 1, 0, none⟩) 2 2] 24)
  have t0 := alive_tgs g0 q0
  have ST := start_any _ _ (fun _ => True) _ _ _ [] t0 (Bls.nil _ _) (show 2 * 56 ≤ reachBytes by decide)
  rw [alive_plain, alive_start] at ST
  have HST := Lib.hid ST
  have HK0 := Lib.hid k0
  clear g0 q0 k0 t0 ST
  go_enter Try.func14, Try.ntmps14
  go_wp2_with fail
  refine HST.out.mono ?_
  rintro e w1 ⟨v1, rfl, k1, hv1⟩
  obtain ⟨g, rfl, hml, hbx⟩ : ∃ g, v1 = .slice (some ⟨g, 0, none⟩) 2 2 ∧ 2 ≤ maxLen ∧ Box w1 g 32 (svs [⟨0, 0, 0⟩, ⟨1, 0, 0⟩]) := by
    rcases hv1 with ⟨_, h⟩ | ⟨g, h1, _, h3, h4⟩
    · cases h
    · exact ⟨g, h1, h3, h4⟩
  have HK1 := Lib.hid (HK0.out.trans k1 (fun _ _ h => h))
  have NX := Lib.hid (rnext_any w1 (fun _ => True) _ _ (Sts.of_box hbx (Nat.le_refl _) hml trivial))
  have HB1 := Lib.hid hbx
  rw [show nextIx [⟨0, 0, 0⟩, ⟨1, 0, 0⟩] = some 1 from by decide] at NX
  clear HST HK0 k1 hv1 hbx hml
  go_wp2_with fail
  refine NX.out.mono ?_
  rintro e w2 ⟨rfl, k2⟩
  have HK2 := Lib.hid (HK1.out.trans k2 (fun _ _ h => h))
  have hB2 := HB1.out.keep k2 id
  obtain ⟨c0, -, -⟩ := hB2.state (k := 0) (x := ⟨0, 0, 0⟩) rfl
  obtain ⟨c1, -, -⟩ := hB2.state (k := 1) (x := ⟨1, 0, 0⟩) rfl
  have OV := Lib.hid (over_any w2 (fun _ => True) _ [] (Sts.nil w2 _))
  rw [show overB [] = true from rfl] at OV
  simp only [Nat.zero_mul, Nat.one_mul] at c0 c1
  clear NX HK1 HB1 k2 hB2
  simp only [Option.isSome_some, Option.getD_some]
  go_wp2_with fail
  refine OV.out.mono ?_
  rintro e w3 ⟨rfl, k3⟩
  have HK3 := Lib.hid (HK2.out.trans k3 (fun _ _ h => h))
  clear OV HK2 k3 c0 c1
  go_wp2
  go_ret
  exact ⟨rfl, HK3.out⟩
end Go.Proofs.Ytjfneckflddeeaa
