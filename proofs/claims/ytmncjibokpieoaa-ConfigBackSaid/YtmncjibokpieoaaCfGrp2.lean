/-
  Package config: groups of nodes (an array within a struct): groupOf, with, without, list.
-/
import Derived.Test.YtmncjibokpieoaaCfGrp
namespace Go.Proofs.Ytmncjibokpieoaa
open Go.RowKit

theorem eight_of {xs : List Int} (h : xs.length = 8) : ∃ a0 a1 a2 a3 a4 a5 a6 a7, xs = [a0, a1, a2, a3, a4, a5, a6, a7] := by
  match xs, h with
  | [a0, a1, a2, a3, a4, a5, a6, a7], _ => exact ⟨_, _, _, _, _, _, _, _, rfl⟩
/-- A group of nodes as a value. -/
def GroupV (v : Value) (ns : List Int) : Prop := ∃ a0 a1 a2 a3 a4 a5 a6 a7 : Int, v = .agg #[.int .i64 a0, .int .i64 a1, .int .i64 a2, .int .i64 a3, .int .i64 a4, .int .i64 a5, .int .i64 a6, .int .i64 a7, .int .i64 (ns.length : Int)] ∧ ns.length ≤ 8 ∧ [a0, a1, a2, a3, a4, a5, a6, a7].take ns.length = ns
/-- The first of eight, and the others. -/
theorem group_lay {ns xs : List Int} (ht : xs.take ns.length = ns) : xs = ns ++ xs.drop ns.length := by
  conv => lhs; rw [← List.take_append_drop ns.length xs, ht]

set_option maxRecDepth 100000 in
set_option maxHeartbeats 1000000 in
theorem glist_any (w : World) (v : Value) (ns : List Int) (h : GroupV v ns) :
    Calls Try.prog 41 #[v] w (ToldZ ns w) := by
  obtain ⟨a0, a1, a2, a3, a4, a5, a6, a7, rfl, h8, ht⟩ := h
  have B0 := Box.new w 56 #[.int .i64 a0, .int .i64 a1, .int .i64 a2, .int .i64 a3, .int .i64 a4, .int .i64 a5, .int .i64 a6, .int .i64 a7, .int .i64 (ns.length : Int)]
  have K0 := (Keep.refl noneOf w).alloc (.cells #[.int .i64 a0, .int .i64 a1, .int .i64 a2, .int .i64 a3, .int .i64 a4, .int .i64 a5, .int .i64 a6, .int .i64 a7, .int .i64 (ns.length : Int)] 56)
  have c8 := B0.cell 8
  have HCL := Lib.hid (Try.slices_Clone_int w.heap.size 0 ns.length 8 [a0, a1, a2, a3, a4, a5, a6, a7] (w.alloc (.cells #[.int .i64 a0, .int .i64 a1, .int .i64 a2, .int .i64 a3, .int .i64 a4, .int .i64 a5, .int .i64 a6, .int .i64 a7, .int .i64 (ns.length : Int)] 56)) (by simpa using h8) (by omega) (fun j hj => by
    have e := B0.cell j
    rw [Nat.zero_add, e]
    have hj8 : j < 8 := by simpa using hj
    match j, hj8 with
    | 0, _ => rfl
    | 1, _ => rfl
    | 2, _ => rfl
    | 3, _ => rfl
    | 4, _ => rfl
    | 5, _ => rfl
    | 6, _ => rfl
    | 7, _ => rfl))
  rw [ht] at HCL
  have HK0 := Lib.hid K0
  have q0 : (0 : Int) ≤ (ns.length : Int) := by omega
  have q1 : (ns.length : Int) ≤ 8 := by omega
  clear B0 K0 ht
  go_enter Try.func41, Try.ntmps41
  go_wp2_with fail
  refine HCL.out.mono ?_
  rintro e w1 ⟨v1, rfl, hown, _, hb⟩
  obtain ⟨A1, c1, rfl⟩ := own_shape hown
  have HO := Lib.hid (own_base hown HK0.out.size)
  have HK := Lib.hid (HK0.out.trans (Keep.of_below hb) (fun _ _ h => h))
  clear hown hb
  go_wp2
  go_ret
  exact ⟨_, rfl, HO.out, HK.out⟩

set_option maxRecDepth 100000 in
set_option maxHeartbeats 2000000 in
set_option linter.unusedSimpArgs false in
theorem groupOf_any (w : World) (D : Nat → Prop) (v : Value) (l : List Int) (h : Zs w D v l) (h8 : l.length ≤ 8) :
    Calls Try.prog 38 #[v] w fun e w' => ∃ u, e = .returned u ∧ GroupV u l ∧ Keep noneOf w w' := by
  obtain ⟨A, c, rfl, hlc, hcm, hA⟩ := h.shape
  obtain ⟨i1, hi1, hz1, hs1, hb1⟩ := info_parts intinfo
  have K2 := ((Keep.refl noneOf w).alloc (.cells #[.int .i64 0, .int .i64 0, .int .i64 0, .int .i64 0, .int .i64 0, .int .i64 0, .int .i64 0, .int .i64 0, .int .i64 0] 56)).alloc (.cells #[.int .i64 0, .int .i64 0, .int .i64 0, .int .i64 0, .int .i64 0, .int .i64 0, .int .i64 0, .int .i64 0, .int .i64 0] 56)
  have R0 := (Box.new w 56 #[.int .i64 0, .int .i64 0, .int .i64 0, .int .i64 0, .int .i64 0, .int .i64 0, .int .i64 0, .int .i64 0, .int .i64 0]).alloc (.cells #[.int .i64 0, .int .i64 0, .int .i64 0, .int .i64 0, .int .i64 0, .int .i64 0, .int .i64 0, .int .i64 0, .int .i64 0] 56)
  have G0 := Box.new (w.alloc (.cells #[.int .i64 0, .int .i64 0, .int .i64 0, .int .i64 0, .int .i64 0, .int .i64 0, .int .i64 0, .int .i64 0, .int .i64 0] 56)) 56 #[.int .i64 0, .int .i64 0, .int .i64 0, .int .i64 0, .int .i64 0, .int .i64 0, .int .i64 0, .int .i64 0, .int .i64 0]
  rw [show (w.alloc (.cells #[.int .i64 0, .int .i64 0, .int .i64 0, .int .i64 0, .int .i64 0, .int .i64 0, .int .i64 0, .int .i64 0, .int .i64 0] 56)).heap.size = w.heap.size + 1 from by simp] at G0
  have HH := Lib.hid (h.keepN K2)
  have HK2 := Lib.hid K2
  have HR0 := Lib.hid R0
  have hcp : ∃ w3, (∀ ty, (Builtin.copy_ #[22, 22] ty #[.slice (some ⟨w.heap.size + 1, 0, none⟩) 8 8, .slice A l.length c]).run Try.prog ((w.alloc (.cells #[.int .i64 0, .int .i64 0, .int .i64 0, .int .i64 0, .int .i64 0, .int .i64 0, .int .i64 0, .int .i64 0, .int .i64 0] 56)).alloc (.cells #[.int .i64 0, .int .i64 0, .int .i64 0, .int .i64 0, .int .i64 0, .int .i64 0, .int .i64 0, .int .i64 0, .int .i64 0] 56)) = .ok (goInt l.length) w3) ∧
      (∃ xs : List Int, xs.length = 8 ∧ xs.take l.length = l ∧ Box w3 (w.heap.size + 1) 56 (xs.map zv ++ [zv 0]).toArray) ∧ Keep (fun i => i = w.heap.size + 1) ((w.alloc (.cells #[.int .i64 0, .int .i64 0, .int .i64 0, .int .i64 0, .int .i64 0, .int .i64 0, .int .i64 0, .int .i64 0, .int .i64 0] 56)).alloc (.cells #[.int .i64 0, .int .i64 0, .int .i64 0, .int .i64 0, .int .i64 0, .int .i64 0, .int .i64 0, .int .i64 0, .int .i64 0] 56)) w3 := by
    by_cases h0 : l.length = 0
    · refine ⟨_, fun ty => by rw [h0]; exact run_copy_none _ _ _ ty 3 _ A 8 8 0 c Try.underlying22 (by rw [hi1, Option.map_some, hs1]) (by simp), ⟨[0, 0, 0, 0, 0, 0, 0, 0], rfl, by rw [h0]; exact (List.eq_nil_of_length_eq_zero h0).symm, G0⟩, Keep.refl _ _⟩
    · obtain ⟨b, off, rfl, _, _, hc⟩ := HH.out.block (by omega)
      have hcp := fun ty => run_copy_row (P := Try.prog) ((w.alloc (.cells #[.int .i64 0, .int .i64 0, .int .i64 0, .int .i64 0, .int .i64 0, .int .i64 0, .int .i64 0, .int .i64 0, .int .i64 0] 56)).alloc (.cells #[.int .i64 0, .int .i64 0, .int .i64 0, .int .i64 0, .int .i64 0, .int .i64 0, .int .i64 0, .int .i64 0, .int .i64 0] 56)) 22 22 ty 3 (w.heap.size + 1) 0 8 8 ⟨b, off, none⟩ l.length c _ _ (l.map zv) Try.underlying22 (by rw [hi1, Option.map_some, hs1]) G0 (by rw [List.length_map]; exact (Nat.min_eq_left h8).symm)
        (fun j u hu => by
          rw [List.getElem?_map] at hu
          cases hj : l[j]? with
          | none => rw [hj] at hu; cases hu
          | some z =>
            rw [hj] at hu
            obtain ⟨hlt, rfl⟩ := List.getElem?_eq_some_iff.1 hj
            rw [add_at _ rfl j, hc j hlt]
            simpa [zv] using hu) (by rw [List.length_map]; simp; omega) (zv_one l)
      rw [List.length_map] at hcp
      refine ⟨_, hcp, ⟨l ++ List.replicate (8 - l.length) 0, by rw [List.length_append, List.length_replicate]; omega, by rw [List.take_append_of_le_length (Nat.le_refl _), List.take_length], ?_⟩, (Keep.refl (fun i => i = w.heap.size + 1) _).setRow (fun _ => rfl) _⟩
      have e : (List.take 0 (#[.int .i64 0, .int .i64 0, .int .i64 0, .int .i64 0, .int .i64 0, .int .i64 0, .int .i64 0, .int .i64 0, .int .i64 0] : Array Value).toList ++ l.map zv ++ List.drop (0 + l.length) (#[.int .i64 0, .int .i64 0, .int .i64 0, .int .i64 0, .int .i64 0, .int .i64 0, .int .i64 0, .int .i64 0, .int .i64 0] : Array Value).toList) = ((l ++ List.replicate (8 - l.length) 0).map zv ++ [zv 0]) := by
        rw [List.take_zero, List.nil_append, List.map_append, List.append_assoc, Nat.zero_add]
        congr 1
        have : (#[.int .i64 0, .int .i64 0, .int .i64 0, .int .i64 0, .int .i64 0, .int .i64 0, .int .i64 0, .int .i64 0, .int .i64 0] : Array Value).toList = List.replicate 9 (zv 0) := rfl
        rw [this, List.drop_replicate, List.map_replicate, show 9 - l.length = (8 - l.length) + 1 by omega, List.replicate_succ']
      have hb := G0.setRow (List.take 0 (#[.int .i64 0, .int .i64 0, .int .i64 0, .int .i64 0, .int .i64 0, .int .i64 0, .int .i64 0, .int .i64 0, .int .i64 0] : Array Value).toList ++ l.map zv ++ List.drop (0 + l.length) (#[.int .i64 0, .int .i64 0, .int .i64 0, .int .i64 0, .int .i64 0, .int .i64 0, .int .i64 0, .int .i64 0, .int .i64 0] : Array Value).toList).toArray
      rw [e] at hb ⊢
      exact hb
  obtain ⟨w3, hcp, ⟨xs, hx8, hxt, hb3⟩, k3⟩ := hcp
  obtain ⟨a0, a1, a2, a3, a4, a5, a6, a7, rfl⟩ := eight_of hx8
  have B3 : Box w3 (w.heap.size + 1) 56 #[.int .i64 a0, .int .i64 a1, .int .i64 a2, .int .i64 a3, .int .i64 a4, .int .i64 a5, .int .i64 a6, .int .i64 a7, .int .i64 0] := hb3
  have HXT := Lib.hid hxt
  have R3 := R0.keep k3 (by omega)
  have HR3 := Lib.hid R3
  have HK3 := Lib.hid (K2.trans k3 (fun i hi e => by omega))
  have hf8 := B3.free 8
  have c8 := B3.cell 8
  have HB4 : Hid (Box (w3.setCell ⟨w.heap.size + 1, 8, none⟩ (.int .i64 (l.length : Int))) (w.heap.size + 1) 56 #[.int .i64 a0, .int .i64 a1, .int .i64 a2, .int .i64 a3, .int .i64 a4, .int .i64 a5, .int .i64 a6, .int .i64 a7, .int .i64 (l.length : Int)]) := B3.put 8 _
  have HR4 := Lib.hid (R3.far (p := ⟨w.heap.size + 1, 8, none⟩) (by show w.heap.size ≠ w.heap.size + 1; omega) (.int .i64 (l.length : Int)))
  have HK4 := Lib.hid (HK3.out.setCell (p := ⟨w.heap.size + 1, 8, none⟩) (fun hh => absurd hh (by show ¬ w.heap.size + 1 < w.heap.size; omega)) (.int .i64 (l.length : Int)))
  clear h hb3 hx8 hxt B3 R3 R0 G0 K2 k3 HR0 HK3 HR3
  go_enter Try.func38, Try.ntmps38
  go_upto_region 3 with fail
  generalize w3.setCell ⟨w.heap.size + 1, 8, none⟩ (.int .i64 (l.length : Int)) = w4 at *
  have c0 : w4.cell? ⟨w.heap.size + 1, 0, none⟩ = some (.int .i64 a0) := HB4.out.cell 0
  have c1 : w4.cell? ⟨w.heap.size + 1, 1, none⟩ = some (.int .i64 a1) := HB4.out.cell 1
  have c2 : w4.cell? ⟨w.heap.size + 1, 2, none⟩ = some (.int .i64 a2) := HB4.out.cell 2
  have c3 : w4.cell? ⟨w.heap.size + 1, 3, none⟩ = some (.int .i64 a3) := HB4.out.cell 3
  have c4 : w4.cell? ⟨w.heap.size + 1, 4, none⟩ = some (.int .i64 a4) := HB4.out.cell 4
  have c5 : w4.cell? ⟨w.heap.size + 1, 5, none⟩ = some (.int .i64 a5) := HB4.out.cell 5
  have c6 : w4.cell? ⟨w.heap.size + 1, 6, none⟩ = some (.int .i64 a6) := HB4.out.cell 6
  have c7 : w4.cell? ⟨w.heap.size + 1, 7, none⟩ = some (.int .i64 a7) := HB4.out.cell 7
  have c8 : w4.cell? ⟨w.heap.size + 1, 8, none⟩ = some (.int .i64 (l.length : Int)) := HB4.out.cell 8
  have r0 : w4.cell? ⟨w.heap.size, 0, none⟩ = some (.int .i64 0) := HR4.out.cell 0
  have r1 : w4.cell? ⟨w.heap.size, 1, none⟩ = some (.int .i64 0) := HR4.out.cell 1
  have r2 : w4.cell? ⟨w.heap.size, 2, none⟩ = some (.int .i64 0) := HR4.out.cell 2
  have r3 : w4.cell? ⟨w.heap.size, 3, none⟩ = some (.int .i64 0) := HR4.out.cell 3
  have r4 : w4.cell? ⟨w.heap.size, 4, none⟩ = some (.int .i64 0) := HR4.out.cell 4
  have r5 : w4.cell? ⟨w.heap.size, 5, none⟩ = some (.int .i64 0) := HR4.out.cell 5
  have r6 : w4.cell? ⟨w.heap.size, 6, none⟩ = some (.int .i64 0) := HR4.out.cell 6
  have r7 : w4.cell? ⟨w.heap.size, 7, none⟩ = some (.int .i64 0) := HR4.out.cell 7
  have r8 : w4.cell? ⟨w.heap.size, 8, none⟩ = some (.int .i64 0) := HR4.out.cell 8
  have f0 := HR4.out.free 0
  have f1 := HR4.out.free 1
  have f2 := HR4.out.free 2
  have f3 := HR4.out.free 3
  have f4 := HR4.out.free 4
  have f5 := HR4.out.free 5
  have f6 := HR4.out.free 6
  have f7 := HR4.out.free 7
  have f8 := HR4.out.free 8
  have HRE := Lib.hid (((((((((HR4.out.put 0 (.int .i64 a0)).put 1 (.int .i64 a1)).put 2 (.int .i64 a2)).put 3 (.int .i64 a3)).put 4 (.int .i64 a4)).put 5 (.int .i64 a5)).put 6 (.int .i64 a6)).put 7 (.int .i64 a7)).put 8 (.int .i64 (l.length : Int)))
  have HKE := Lib.hid (((((((((HK4.out.setCell (p := ⟨w.heap.size, 0, none⟩) (fun hh => absurd hh (Nat.lt_irrefl _)) (.int .i64 a0)).setCell (p := ⟨w.heap.size, 1, none⟩) (fun hh => absurd hh (Nat.lt_irrefl _)) (.int .i64 a1)).setCell (p := ⟨w.heap.size, 2, none⟩) (fun hh => absurd hh (Nat.lt_irrefl _)) (.int .i64 a2)).setCell (p := ⟨w.heap.size, 3, none⟩) (fun hh => absurd hh (Nat.lt_irrefl _)) (.int .i64 a3)).setCell (p := ⟨w.heap.size, 4, none⟩) (fun hh => absurd hh (Nat.lt_irrefl _)) (.int .i64 a4)).setCell (p := ⟨w.heap.size, 5, none⟩) (fun hh => absurd hh (Nat.lt_irrefl _)) (.int .i64 a5)).setCell (p := ⟨w.heap.size, 6, none⟩) (fun hh => absurd hh (Nat.lt_irrefl _)) (.int .i64 a6)).setCell (p := ⟨w.heap.size, 7, none⟩) (fun hh => absurd hh (Nat.lt_irrefl _)) (.int .i64 a7)).setCell (p := ⟨w.heap.size, 8, none⟩) (fun hh => absurd hh (Nat.lt_irrefl _)) (.int .i64 (l.length : Int)))
  clear hcp c8 hf8
  have c8 := HB4.out.cell 8
  go_wp2
  generalize (((((((((w4.setCell ⟨w.heap.size, 0, none⟩ (.int .i64 a0)).setCell ⟨w.heap.size, 1, none⟩ (.int .i64 a1)).setCell ⟨w.heap.size, 2, none⟩ (.int .i64 a2)).setCell ⟨w.heap.size, 3, none⟩ (.int .i64 a3)).setCell ⟨w.heap.size, 4, none⟩ (.int .i64 a4)).setCell ⟨w.heap.size, 5, none⟩ (.int .i64 a5)).setCell ⟨w.heap.size, 6, none⟩ (.int .i64 a6)).setCell ⟨w.heap.size, 7, none⟩ (.int .i64 a7)).setCell ⟨w.heap.size, 8, none⟩ (.int .i64 (l.length : Int))) = w5 at *
  clear r0 r1 r2 r3 r4 r5 r6 r7 r8
  have r0 := HRE.out.cell 0
  have r1 := HRE.out.cell 1
  have r2 := HRE.out.cell 2
  have r3 := HRE.out.cell 3
  have r4 := HRE.out.cell 4
  have r5 := HRE.out.cell 5
  have r6 := HRE.out.cell 6
  have r7 := HRE.out.cell 7
  have r8 := HRE.out.cell 8
  exact bodyPost_ret (v := .agg #[.int .i64 a0, .int .i64 a1, .int .i64 a2, .int .i64 a3, .int .i64 a4, .int .i64 a5, .int .i64 a6, .int .i64 a7, .int .i64 (l.length : Int)]) (by simp [results, Try.results38, go_sem, r0, r1, r2, r3, r4, r5, r6, r7, r8]) rfl ⟨_, rfl, ⟨a0, a1, a2, a3, a4, a5, a6, a7, rfl, h8, HXT.out⟩, HKE.out⟩
end Go.Proofs.Ytmncjibokpieoaa
