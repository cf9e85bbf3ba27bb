/-
  slices.Grow of a nil slice of numbers; slices.Concat of two.
-/
import Derived.Test.YtmncjibokpieoaaCfGrp
import Derived.Test.YtmncjibokpieoaaCfApp
import Derived.Lib.AppendZerosOnto
import Derived.Shelf.Spec.SlicesGrow
namespace Go.Proofs.Ytmncjibokpieoaa
open Go.RowKit

theorem intinfo' : ∃ i, Try.prog.info? 3 = some i ∧ i.zero = some (.int .i64 0) ∧ i.size = 1 ∧ i.bytes = 8 := info_parts intinfo
theorem zero_cells (n : Nat) : (Builtin.zeroCells (Value.int .i64 0).cells n).size = n := by
  simp [Builtin.zeroCells, Value.cells]

set_option maxRecDepth 100000 in
set_option maxHeartbeats 1000000 in
/-- Room for n numbers. -/
theorem grow_any (w : World) (n : Nat) (hn : n ≤ 17592186044416) :
    Calls Try.prog 52 #[.slice none 0 0, .int .i64 n] w fun e w' => ∃ v, e = .returned v ∧ w'.ownsRow w.heap.size 3 1 v 0 [] ∧ Keep noneOf w w' := by
  obtain ⟨i0, hi0, hz0, hs0, hb0⟩ := intinfo'
  have h1 : ¬ ((n : Int) < 0) := by omega
  by_cases h0 : n = 0
  · subst h0
    have h3 : IntKind.i64.wrap ((0 : Int) - IntKind.i64.wrap ((0 : Int) - 0)) = 0 := rfl
    go_enter Try.func52, Try.ntmps52
    go_wp2
    go_ret
    exact ⟨_, rfl, World.ownsRow_nil _ _ _ _, Keep.refl _ _⟩
  · have h4 : (n : Int) > 0 := by omega
    have hw1 : IntKind.i64.wrap ((n : Int) - 0) = (n : Int) := by rw [IntWalk.i64_in _ (by omega)]; omega
    have hold : (Builtin.firstCells i0.size 0 (.slice none 0 0)).run Try.prog w.drew = .ok (#[] : Array Value) w.drew := run_firstCells_none w.drew i0.size 0 0 0
    have hrz : ∀ ty, (Builtin.append_ #[22, 3] ty #[.slice none 0 0, .int .i64 (n : Int)]).run Try.prog w = .ok (.slice (some ⟨w.heap.size, 0, none⟩) n (grownCap w n 0 3)) (w.drew.alloc (.cells (#[] ++ Builtin.zeroCells (Value.int .i64 0).cells n ++ Builtin.zeroCells (Value.int .i64 0).cells (grownCap w n 0 3 - n)) 3)) := fun ty => by
      have h := Lib.run_append_grow_zeros (P := Try.prog) w 22 3 ty 3 i0 _ .i64 .i64 Try.underlying22 Try.underlying3 hi0 hz0 none 0 0 [] hold n (by omega) (by omega) (by omega) (by omega)
        (by rw [hb0]; omega) (by rw [Nat.zero_add]; exact growslice_fits (by omega) (by rw [hb0]; omega))
      rw [Nat.zero_add] at h
      exact h
    have hGn : n ≤ grownCap w n 0 3 := grownCap_ge w _ _ _
    have hGm : grownCap w n 0 3 ≤ maxLen := grownCap_le_maxLen w n 0 3 (by unfold maxLen; omega)
    generalize grownCap w n 0 3 = G at *
    have hG63 : G ≤ 9223372036854775807 := by unfold maxLen at hGm; omega
    have hx : ∃ w2, (∀ ty, (Builtin.append_ #[22, 3] ty #[.slice none 0 0, .int .i64 (n : Int)]).run Try.prog w = .ok (.slice (some ⟨w.heap.size, 0, none⟩) n G) w2) ∧ w2.ownsRow w.heap.size 3 1 (.slice (some ⟨w.heap.size, 0, none⟩) 0 G) 0 [] ∧ Keep noneOf w w2 :=
      ⟨_, hrz, ⟨rfl, .inr ⟨w.heap.size, G, _, rfl, Nat.le_refl _, (Box.new w.drew 3 _ : Box _ w.heap.size 3 _), Nat.zero_le _, hGm, by rw [Array.size_append, Array.size_append, zero_cells, zero_cells]; simp; omega, by simp⟩⟩, ((Keep.refl noneOf w).drew).alloc _⟩
    clear hold hrz
    obtain ⟨w2, hrz, ho, hk⟩ := hx
    have HO := Lib.hid ho
    have HK := Lib.hid hk
    clear ho hk
    go_enter Try.func52, Try.ntmps52
    go_wp2_with (at_builtin; refine Lib.wpList_append_run _ rfl _ _ _ _ rfl _ _ rfl rfl _ _ (hrz _) ?_)
    all_goals (go_ret; exact ⟨_, rfl, HO.out, HK.out⟩)

set_option maxRecDepth 100000 in
set_option maxHeartbeats 1000000 in
/-- Two slices of numbers, one behind the other. -/
theorem concat_any (w : World) (q : Nat) (D : Nat → Prop) (s0 s1 : Value) (l0 l1 : List Int) (hb : Box w q 22 #[s0, s1]) (h0 : Zs w D s0 l0) (h1 : Zs w D s1 l1) (hf : l0.length + l1.length ≤ 17592186044416) :
    Calls Try.prog 28 #[.slice (some ⟨q, 0, none⟩) 2 2] w (ToldZ (l0 ++ l1) w) := by
  have HB := Lib.hid hb
  have H0 := Lib.hid h0
  have H1 := Lib.hid h1
  obtain ⟨A0, c0, rfl, _⟩ := h0.shape
  obtain ⟨A1, c1, rfl, _⟩ := h1.shape
  obtain ⟨i0, hi0, hz0, hz1, hz2⟩ := info_parts intinfo
  have x0 : w.cell? ⟨q, 0, none⟩ = some (.slice A0 l0.length c0) := hb.cell 0
  have x1 : w.cell? ⟨q, 1, none⟩ = some (.slice A1 l1.length c1) := hb.cell 1
  have HG := Lib.hid (grow_any w (l0.length + l1.length) hf)
  have e1 : ((l0.length + l1.length : Nat) : Int) = (l0.length : Int) + (l1.length : Int) := by omega
  rw [e1] at HG
  clear hb h0 h1 e1
  go_enter Try.func28, Try.ntmps28
  go_wp2
  go_loop [3, 11] (fun x i => (i = .int .i64 0 ∧ x = .int .i64 0) ∨ (i = .int .i64 1 ∧ x = .int .i64 l0.length) ∨ (i = .int .i64 2 ∧ x = .int .i64 ((l0.length : Int) + (l1.length : Int)))) (fun _ i => 2 - (intOf i).toNat)
  case atStart => exact .inl ⟨rfl, rfl⟩
  case round =>
    rcases hrel with ⟨rfl, rfl⟩ | ⟨rfl, rfl⟩ | ⟨rfl, rfl⟩
    · have n1 : ¬ ((l0.length : Int) < 0) := by omega
      go_wp2
      go_round
      case rel => exact .inr (.inl ⟨rfl, rfl⟩)
      case measure => simp [intOf]
    · have n1 : ¬ ((l0.length : Int) + (l1.length : Int) < 0) := by omega
      have n2 : IntKind.i64.wrap ((l0.length : Int) + (l1.length : Int)) = (l0.length : Int) + (l1.length : Int) := IntWalk.i64_in _ (by omega)
      go_wp2
      go_round
      case rel => exact .inr (.inr ⟨rfl, rfl⟩)
      case measure => simp [intOf]
    · go_wp2_with fail
      refine HG.out.mono ?_
      rintro e w1 ⟨v1, rfl, ho, k1⟩
      have HO := Lib.hid ho
      have HK1 := Lib.hid k1
      obtain ⟨Av, cv, hvv⟩ := own_shape ho
      subst hvv
      clear ho k1 HG x0 x1
      go_wp2
      go_loopw [6, 27] (fun x i wr => Keep noneOf w wr ∧ ((i = .int .i64 0 ∧ wr.ownsRow w.heap.size 3 1 x 0 []) ∨ (i = .int .i64 1 ∧ wr.ownsRow w.heap.size 3 1 x l0.length (l0.map zv)) ∨ (i = .int .i64 2 ∧ wr.ownsRow w.heap.size 3 1 x (l0 ++ l1).length ((l0 ++ l1).map zv)))) (fun _ i _ => 2 - (intOf i).toNat)
      case atStart => exact ⟨HK1.out, .inl ⟨rfl, HO.out⟩⟩
      case round =>
        obtain ⟨hkw, hcase⟩ := hrel
        have HKW := Lib.hid hkw
        have B := HB.out.keep hkw id
        have y0 : wr.cell? ⟨q, 0, none⟩ = some (.slice A0 l0.length c0) := B.cell 0
        have y1 : wr.cell? ⟨q, 1, none⟩ = some (.slice A1 l1.length c1) := B.cell 1
        have HZ0 := Lib.hid (H0.out.keepN hkw)
        have HZ1 := Lib.hid (H1.out.keepN hkw)
        have hsz := hkw.size
        clear B hkw
        rcases hcase with ⟨rfl, ho⟩ | ⟨rfl, ho⟩ | ⟨rfl, ho⟩
        · obtain ⟨A2, c2, hv2⟩ := own_shape ho
          subst hv2
          have HO2 := Lib.hid ho
          clear ho
          go_wp2_with (at_builtin; refine wpList_append_zs _ w.heap.size hsz rfl _ _ 22 rfl 3 i0 _ Try.underlying22 hi0 hz0 hz1 hz2 rfl _ _ [] l0 _ rfl rfl HO2.out HZ0.out (by simp; omega) ?_; intro v3 w3 hown3 hg3 _ _)
          rw [List.nil_append] at hown3
          have HK3 := Lib.hid (HKW.out.grown hg3 HO2.out)
          have HO3 := Lib.hid hown3
          clear hown3 hg3
          go_roundw
          case rel => exact ⟨HK3.out, .inr (.inl ⟨rfl, HO3.out⟩)⟩
          case measure => simp [intOf]
        · obtain ⟨A2, c2, hv2⟩ := own_shape ho
          subst hv2
          have HO2 := Lib.hid ho
          clear ho
          go_wp2_with (at_builtin; refine wpList_append_zs _ w.heap.size hsz rfl _ _ 22 rfl 3 i0 _ Try.underlying22 hi0 hz0 hz1 hz2 rfl _ _ l0 l1 _ rfl rfl HO2.out HZ1.out (by omega) ?_; intro v3 w3 hown3 hg3 _ _)
          have HK3 := Lib.hid (HKW.out.grown hg3 HO2.out)
          have HO3 := Lib.hid hown3
          clear hown3 hg3
          go_roundw
          case rel => exact ⟨HK3.out, .inr (.inr ⟨rfl, HO3.out⟩)⟩
          case measure => simp [intOf]
        · obtain ⟨A2, c2, hv2⟩ := own_shape ho
          subst hv2
          have HO2 := Lib.hid ho
          clear ho
          go_wp2
          go_ret
          exact ⟨_, rfl, HO2.out, HKW.out⟩
end Go.Proofs.Ytmncjibokpieoaa
