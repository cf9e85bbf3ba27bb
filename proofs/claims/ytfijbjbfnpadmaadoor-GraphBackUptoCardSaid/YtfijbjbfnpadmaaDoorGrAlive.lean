/-
  dockyardlaw07.alive: answers that the document fixes.
-/
import Derived.Test.YtfijbjbfnpadmaaDoorGrPrint
namespace Go.Proofs.YtfijbjbfnpadmaaDoor
open Go.RowKit

def sa : ByteArray := ⟨#[97]⟩
def sb : ByteArray := ⟨#[98]⟩
def scc : ByteArray := ⟨#[99, 99, 32, 97]⟩
/-- The graph that is asked. -/
def alivePs : List Pt := [⟨sa, scc, [sb]⟩, ⟨sb, ⟨#[]⟩, []⟩]
theorem alive_check : grCheck alivePs = 0 := by decide +kernel
theorem alive_order : grOrder alivePs = [1, 0] := by decide +kernel
theorem alive_print : printOf alivePs = [97, 58, 32, 98, 10, 9, 99, 99, 32, 97, 10, 98, 58, 10] := by decide +kernel

/-- Its targets, in memory. -/
def aliveTs (g : Nat) : List Tg := [⟨sa, scc, .slice (some ⟨g, 0, none⟩) 1 1, [sb]⟩, ⟨sb, ⟨#[]⟩, .slice none 0 0, []⟩]
theorem alive_plain (g : Nat) : (aliveTs g).map Tg.plain = alivePs := rfl
theorem alive_tgs {w : World} {g q : Nat} (hg : Box w g 9 #[.string sb]) (hq : Box w q 40 #[.string sa, .string scc, .slice (some ⟨g, 0, none⟩) 1 1, .string sb, .string ⟨#[]⟩, .slice none 0 0]) :
    Tgs w (fun _ => True) (.slice (some ⟨q, 0, none⟩) 2 2) (aliveTs g) := by
  have m4 : (4 : Nat) ≤ maxLen := by unfold maxLen; decide
  refine ⟨⟨some ⟨q, 0, none⟩, 2, rfl, Nat.le_refl 2, Nat.le_trans (by decide) m4, fun e => (by cases e), rfl, fun _ => ⟨⟨q, 0, none⟩, rfl, rfl, hq.lt, trivial, fun j x hx => ?_⟩⟩, fun t ht => ?_⟩
  · show w.cell? ⟨q, 0 + j, none⟩ = some x
    rw [Nat.zero_add, hq.cell]
    simpa [aliveTs, Tg.cells] using hx
  · rcases List.mem_cons.1 ht with rfl | ht
    · refine ⟨Nat.le_trans (show 1 ≤ 4 by decide) m4, m4, ⟨some ⟨g, 0, none⟩, 1, rfl, Nat.le_refl 1, Nat.le_trans (by decide) m4, fun e => (by cases e), rfl, fun _ => ⟨⟨g, 0, none⟩, rfl, rfl, hg.lt, trivial, fun j x hx => ?_⟩⟩, fun s hs => ?_⟩
      · show w.cell? ⟨g, 0 + j, none⟩ = some x
        rw [Nat.zero_add, hg.cell]
        simpa using hx
      · simp at hs
        subst hs
        exact Nat.le_trans (show 1 ≤ 4 by decide) m4
    · simp at ht
      subst ht
      exact ⟨Nat.le_trans (show 1 ≤ 4 by decide) m4, Nat.zero_le _, ⟨none, 0, rfl, Nat.le_refl 0, Nat.zero_le _, fun _ => rfl, rfl, fun h => absurd h (Nat.lt_irrefl 0)⟩, fun s hs => by cases hs⟩

set_option maxRecDepth 100000 in
set_option maxHeartbeats 1000000 in
theorem alive_any (w : World) : Calls Tryd.prog 9 #[] w fun e w' => e = .returned (.bool true) ∧ Keep noneOf w w' := by
  have g0 := ((Box.new w 9 #[.string sb]).alloc (.cells #[.string sa, .string scc, .slice (some ⟨w.heap.size, 0, none⟩) 1 1, .string sb, .string ⟨#[]⟩, .slice none 0 0] 40)).alloc (.cells #[.slice (some ⟨w.heap.size + 1, 0, none⟩) 2 2] 24)
  have q0 := (Box.new (w.alloc (.cells #[.string sb] 9)) 40 #[.string sa, .string scc, .slice (some ⟨w.heap.size, 0, none⟩) 1 1, .string sb, .string ⟨#[]⟩, .slice none 0 0]).alloc (.cells #[.slice (some ⟨w.heap.size + 1, 0, none⟩) 2 2] 24)
  rw [show (w.alloc (.cells #[.string sb] 9)).heap.size = w.heap.size + 1 from by simp] at q0
  have x0 := Box.new ((w.alloc (.cells #[.string sb] 9)).alloc (.cells #[.string sa, .string scc, .slice (some ⟨w.heap.size, 0, none⟩) 1 1, .string sb, .string ⟨#[]⟩, .slice none 0 0] 40)) 24 #[.slice (some ⟨w.heap.size + 1, 0, none⟩) 2 2]
  rw [show ((w.alloc (.cells #[.string sb] 9)).alloc (.cells #[.string sa, .string scc, .slice (some ⟨w.heap.size, 0, none⟩) 1 1, .string sb, .string ⟨#[]⟩, .slice none 0 0] 40)).heap.size = w.heap.size + 1 + 1 from by simp] at x0
  have k0 := (((Keep.refl noneOf w).alloc (.cells #[.string sb] 9)).alloc (.cells #[.string sa, .string scc, .slice (some ⟨w.heap.size, 0, none⟩) 1 1, .string sb, .string ⟨#[]⟩, .slice none 0 0] 40)).alloc (.cells #[.slice (some ⟨w.heap.size + 1, 0, none⟩) 2 2] 24)
  have t0 := alive_tgs g0 q0
  have OR := order_any _ _ _ _ t0
  rw [alive_plain, alive_order] at OR
  have HO := Lib.hid OR
  have HX0 := Lib.hid x0
  have HT0 := Lib.hid t0
  have HK0 := Lib.hid k0
  clear g0 q0 x0 k0 t0 OR
  go_enter Tryd.func9, Tryd.ntmps9
  go_wp2_with fail
  refine HO.out.mono ?_
  rintro e w1 ⟨v1, rfl, i1, k1⟩
  obtain ⟨A1, c1, rfl, hl1, hm1, hn1, hx1, hr1⟩ := i1
  obtain ⟨ad, rfl, hsp, hblk, _, hcell⟩ := hr1 (by decide)
  obtain ⟨g1, o1, sp⟩ := ad
  simp only at hsp hblk hcell
  subst hsp
  have r0 : w1.cell? ⟨g1, o1, none⟩ = some (.int .i64 1) := hcell 0 _ rfl
  have X1 := HX0.out.keep k1 id
  have K1 := HK0.out.trans k1 (fun _ _ h => h)
  have x1 : w1.cell? ⟨w.heap.size + 1 + 1, 0, none⟩ = some (.slice (some ⟨w.heap.size + 1, 0, none⟩) 2 2) := X1.cell 0
  have T1 := HT0.out.keep k1 (fun _ _ _ => id)
  have PR := print_any w1 _ _ _ T1
  rw [alive_plain, alive_print, alive_check] at PR
  have HPR := Lib.hid PR
  have HT1 := Lib.hid T1
  clear hcell hr1 HO HX0 HT0 HK0 k1 PR T1
  unfold maxLen at hm1
  go_wp2_with fail
  refine HPR.out.mono ?_
  rintro e w2 ⟨rfl, k2⟩
  have X2 := X1.keep k2 id
  have K2 := K1.trans k2 (fun _ _ h => h)
  have x2 : w2.cell? ⟨w.heap.size + 1 + 1, 0, none⟩ = some (.slice (some ⟨w.heap.size + 1, 0, none⟩) 2 2) := X2.cell 0
  have r2 : w2.cell? ⟨g1, o1, none⟩ = some (.int .i64 1) := (k2.cell (p := ⟨g1, o1, none⟩) hblk id).trans r0
  have hblk2 : g1 < w2.heap.size := Nat.lt_of_lt_of_le hblk k2.size
  have CK := check_any w2 _ _ _ (HT1.out.keep k2 (fun _ _ _ => id))
  rw [alive_plain, alive_check] at CK
  have HCK := Lib.hid CK
  clear CK HPR HT1 k2 X1 K1 x1 r0 hblk
  go_wp2_with fail
  refine HCK.out.mono ?_
  rintro e w3 ⟨rfl, k3⟩
  have K3 := K2.trans k3 (fun _ _ h => h)
  have r3 : w3.cell? ⟨g1, o1, none⟩ = some (.int .i64 1) := (k3.cell (p := ⟨g1, o1, none⟩) hblk2 id).trans r2
  clear HCK k3 X2 K2 x2 r2
  go_wp2
  go_ret
  exact ⟨rfl, K3⟩
end Go.Proofs.YtfijbjbfnpadmaaDoor
