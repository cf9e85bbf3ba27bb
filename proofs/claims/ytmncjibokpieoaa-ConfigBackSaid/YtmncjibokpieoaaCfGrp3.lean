/-
  Package config: groups of nodes (an array within a struct): with, without.
-/
import Derived.Test.YtmncjibokpieoaaCfGrp2
namespace Go.Proofs.Ytmncjibokpieoaa
open Go.RowKit Go.Shelf

set_option maxRecDepth 100000 in
set_option maxHeartbeats 2000000 in
set_option linter.unusedSimpArgs false in
theorem gwith_any (w : World) (v : Value) (ns : List Int) (node : Int) (h : GroupV v ns) (h7 : ns.length ≤ 7) :
    Calls Try.prog 39 #[v, .int .i64 node] w fun e w' => ∃ u, e = .returned u ∧ GroupV u ((ns ++ [node]).mergeSort (fun x y => decide (x ≤ y))) ∧ Keep noneOf w w' := by
  obtain ⟨ms, hms0⟩ : ∃ ms, (ns ++ [node]).mergeSort (fun x y => decide (x ≤ y)) = ms := ⟨_, rfl⟩
  rw [hms0]
  have HM0 := Lib.hid hms0
  clear hms0
  obtain ⟨a0, a1, a2, a3, a4, a5, a6, a7, rfl, _, ht⟩ := h
  have G0 := (Box.new w 56 #[.int .i64 a0, .int .i64 a1, .int .i64 a2, .int .i64 a3, .int .i64 a4, .int .i64 a5, .int .i64 a6, .int .i64 a7, .int .i64 (ns.length : Int)]).alloc (.cells #[.int .i64 0, .int .i64 0, .int .i64 0, .int .i64 0, .int .i64 0, .int .i64 0, .int .i64 0, .int .i64 0, .int .i64 0] 56)
  have R0 := Box.new (w.alloc (.cells #[.int .i64 a0, .int .i64 a1, .int .i64 a2, .int .i64 a3, .int .i64 a4, .int .i64 a5, .int .i64 a6, .int .i64 a7, .int .i64 (ns.length : Int)] 56)) 56 #[.int .i64 0, .int .i64 0, .int .i64 0, .int .i64 0, .int .i64 0, .int .i64 0, .int .i64 0, .int .i64 0, .int .i64 0]
  rw [show (w.alloc (.cells #[.int .i64 a0, .int .i64 a1, .int .i64 a2, .int .i64 a3, .int .i64 a4, .int .i64 a5, .int .i64 a6, .int .i64 a7, .int .i64 (ns.length : Int)] 56)).heap.size = w.heap.size + 1 from by simp] at R0
  have K0 := ((Keep.refl noneOf w).alloc (.cells #[.int .i64 a0, .int .i64 a1, .int .i64 a2, .int .i64 a3, .int .i64 a4, .int .i64 a5, .int .i64 a6, .int .i64 a7, .int .i64 (ns.length : Int)] 56)).alloc (.cells #[.int .i64 0, .int .i64 0, .int .i64 0, .int .i64 0, .int .i64 0, .int .i64 0, .int .i64 0, .int .i64 0, .int .i64 0] 56)
  have HG0 := Lib.hid G0
  have HR0 := Lib.hid R0
  have HK0 := Lib.hid K0
  have c8 := G0.cell 8
  have hfz := G0.free ns.length
  have hcz : ∃ u, ((w.alloc (.cells #[.int .i64 a0, .int .i64 a1, .int .i64 a2, .int .i64 a3, .int .i64 a4, .int .i64 a5, .int .i64 a6, .int .i64 a7, .int .i64 (ns.length : Int)] 56)).alloc (.cells #[.int .i64 0, .int .i64 0, .int .i64 0, .int .i64 0, .int .i64 0, .int .i64 0, .int .i64 0, .int .i64 0, .int .i64 0] 56)).cell? ⟨w.heap.size, ns.length, none⟩ = some u := by
    rw [G0.cell ns.length]
    exact ⟨_, Array.getElem?_eq_getElem (show ns.length < 9 by omega)⟩
  obtain ⟨u0, hcz⟩ := hcz
  have q0 : (0 : Int) ≤ (ns.length : Int) := by omega
  have q1 : (ns.length : Int) < 8 := by omega
  have HT := Lib.hid ht
  clear G0 R0 K0 ht
  go_enter Try.func39, Try.ntmps39
  go_upto_region 1 with fail
  generalize (w.alloc (.cells #[.int .i64 a0, .int .i64 a1, .int .i64 a2, .int .i64 a3, .int .i64 a4, .int .i64 a5, .int .i64 a6, .int .i64 a7, .int .i64 (ns.length : Int)] 56)).alloc (.cells #[.int .i64 0, .int .i64 0, .int .i64 0, .int .i64 0, .int .i64 0, .int .i64 0, .int .i64 0, .int .i64 0, .int .i64 0] 56) = w0 at *
  go_upto_region 2 with fail
  have B1 := HG0.out.put ns.length (.int .i64 node)
  have R1 := Lib.hid (HR0.out.far (p := ⟨w.heap.size, ns.length, none⟩) (by show w.heap.size + 1 ≠ w.heap.size; omega) (.int .i64 node))
  have HK1 := Lib.hid (HK0.out.setCell (p := ⟨w.heap.size, ns.length, none⟩) (fun hh => absurd hh (Nat.lt_irrefl _)) (.int .i64 node))
  have e1 : (#[.int .i64 a0, .int .i64 a1, .int .i64 a2, .int .i64 a3, .int .i64 a4, .int .i64 a5, .int .i64 a6, .int .i64 a7, .int .i64 (ns.length : Int)] : Array Value).setIfInBounds ns.length (.int .i64 node) = ((([a0, a1, a2, a3, a4, a5, a6, a7].set ns.length node).map zv) ++ [zv (ns.length : Int)]).toArray := by
    have : (#[.int .i64 a0, .int .i64 a1, .int .i64 a2, .int .i64 a3, .int .i64 a4, .int .i64 a5, .int .i64 a6, .int .i64 a7, .int .i64 (ns.length : Int)] : Array Value) = ([a0, a1, a2, a3, a4, a5, a6, a7].map zv ++ [zv (ns.length : Int)]).toArray := rfl
    rw [this, List.setIfInBounds_toArray, List.set_append_left _ _ (by simp; omega), List.map_set]
    rfl
  rw [e1] at B1
  have HXS := Lib.hid (show ([a0, a1, a2, a3, a4, a5, a6, a7].set ns.length node).take (ns.length + 1) = ns ++ [node] by
    rw [List.take_succ_eq_append_getElem (by simp; omega), List.getElem_set_self, List.take_set_of_le (Nat.le_refl _), HT.out])
  have hl8 : ([a0, a1, a2, a3, a4, a5, a6, a7].set ns.length node).length = 8 := by simp
  generalize [a0, a1, a2, a3, a4, a5, a6, a7].set ns.length node = xs at *
  generalize w0.setCell ⟨w.heap.size, ns.length, none⟩ (.int .i64 node) = w1 at *
  have HB1 := Lib.hid B1
  have d8 : w1.cell? ⟨w.heap.size, 8, none⟩ = some (.int .i64 (ns.length : Int)) := by rw [B1.cell 8]; simp [hl8, zv]
  have f8 := B1.free 8
  have HL8 := Lib.hid hl8
  clear c8 hfz hcz e1 B1 hl8 HG0 HR0 HK0 HT
  go_upto_region 3 with fail
  have B2 := HB1.out.put 8 (.int .i64 ((ns.length : Int) + 1))
  have R2 := Lib.hid (R1.out.far (p := ⟨w.heap.size, 8, none⟩) (by show w.heap.size + 1 ≠ w.heap.size; omega) (.int .i64 ((ns.length : Int) + 1)))
  have HK2 := Lib.hid (HK1.out.setCell (p := ⟨w.heap.size, 8, none⟩) (fun hh => absurd hh (Nat.lt_irrefl _)) (.int .i64 ((ns.length : Int) + 1)))
  have e2 : ((xs.map zv ++ [zv (ns.length : Int)]).toArray).setIfInBounds 8 (.int .i64 ((ns.length : Int) + 1)) = ((ns ++ [node]).map zv ++ ((xs.drop (ns.length + 1)).map zv ++ [zv ((ns.length : Int) + 1)])).toArray := by
    rw [List.setIfInBounds_toArray, List.set_append_right _ _ (by rw [List.length_map, HL8.out]; exact Nat.le_refl _), List.length_map, HL8.out, Nat.sub_self, ← List.append_assoc, ← List.map_append, ← HXS.out, List.take_append_drop]
    rfl
  rw [e2] at B2
  generalize w1.setCell ⟨w.heap.size, 8, none⟩ (.int .i64 ((ns.length : Int) + 1)) = w2 at *
  have hll : (ns ++ [node]).length = ns.length + 1 := by simp
  have HST := Lib.hid (sortBox_any w2 w.heap.size 8 56 (ns ++ [node]) _ B2 (by rw [hll]; omega))
  rw [hll, HM0.out] at HST
  have g8 : w2.cell? ⟨w.heap.size, 8, none⟩ = some (.int .i64 ((ns.length : Int) + 1)) := by
    rw [B2.cell 8, ← List.append_assoc, ← List.map_append, ← HXS.out, List.take_append_drop]
    simp [HL8.out, zv]
  have q2 : (0 : Int) ≤ (ns.length : Int) + 1 := by omega
  have q3 : (ns.length : Int) + 1 ≤ 8 := by omega
  have q4 : ((ns.length : Int) + 1).toNat = ns.length + 1 := by omega
  clear d8 f8 e2 B2 HB1 R1 HK1
  go_wp2_with fail
  refine HST.out.mono ?_
  rintro e w3 ⟨rfl, B3, k3⟩
  have R3 := R2.out.keep k3 (by omega)
  have K3 := HK2.out.trans k3 (fun i hi e => by omega)
  have hms : ms.length = ns.length + 1 := by rw [← HM0.out, List.length_mergeSort, hll]
  have hy8 : (ms ++ xs.drop (ns.length + 1)).length = 8 := by rw [List.length_append, List.length_drop, hms, HL8.out]; omega
  have HTK := Lib.hid (show (ms ++ xs.drop (ns.length + 1)).take ms.length = ms by rw [List.take_append_of_le_length (Nat.le_refl _), List.take_length])
  rw [← List.append_assoc, ← List.map_append] at B3
  obtain ⟨b0, b1, b2, b3, b4, b5, b6, b7, hb⟩ := eight_of hy8
  rw [hb] at B3 HTK
  have B4 : Box w3 w.heap.size 56 #[.int .i64 b0, .int .i64 b1, .int .i64 b2, .int .i64 b3, .int .i64 b4, .int .i64 b5, .int .i64 b6, .int .i64 b7, .int .i64 ((ns.length : Int) + 1)] := B3
  have HB4 := Lib.hid B4
  have HR3 := Lib.hid R3
  have HK3 := Lib.hid K3
  have HMS := Lib.hid hms
  clear B3 B4 R3 K3 k3 hy8 hb hms HST g8 HXS HL8 hll R2 HK2
  have c0 : w3.cell? ⟨w.heap.size, 0, none⟩ = some (.int .i64 b0) := HB4.out.cell 0
  have c1 : w3.cell? ⟨w.heap.size, 1, none⟩ = some (.int .i64 b1) := HB4.out.cell 1
  have c2 : w3.cell? ⟨w.heap.size, 2, none⟩ = some (.int .i64 b2) := HB4.out.cell 2
  have c3 : w3.cell? ⟨w.heap.size, 3, none⟩ = some (.int .i64 b3) := HB4.out.cell 3
  have c4 : w3.cell? ⟨w.heap.size, 4, none⟩ = some (.int .i64 b4) := HB4.out.cell 4
  have c5 : w3.cell? ⟨w.heap.size, 5, none⟩ = some (.int .i64 b5) := HB4.out.cell 5
  have c6 : w3.cell? ⟨w.heap.size, 6, none⟩ = some (.int .i64 b6) := HB4.out.cell 6
  have c7 : w3.cell? ⟨w.heap.size, 7, none⟩ = some (.int .i64 b7) := HB4.out.cell 7
  have c8 : w3.cell? ⟨w.heap.size, 8, none⟩ = some (.int .i64 ((ns.length : Int) + 1)) := HB4.out.cell 8
  have r0 : w3.cell? ⟨w.heap.size + 1, 0, none⟩ = some (.int .i64 0) := HR3.out.cell 0
  have r1 : w3.cell? ⟨w.heap.size + 1, 1, none⟩ = some (.int .i64 0) := HR3.out.cell 1
  have r2 : w3.cell? ⟨w.heap.size + 1, 2, none⟩ = some (.int .i64 0) := HR3.out.cell 2
  have r3 : w3.cell? ⟨w.heap.size + 1, 3, none⟩ = some (.int .i64 0) := HR3.out.cell 3
  have r4 : w3.cell? ⟨w.heap.size + 1, 4, none⟩ = some (.int .i64 0) := HR3.out.cell 4
  have r5 : w3.cell? ⟨w.heap.size + 1, 5, none⟩ = some (.int .i64 0) := HR3.out.cell 5
  have r6 : w3.cell? ⟨w.heap.size + 1, 6, none⟩ = some (.int .i64 0) := HR3.out.cell 6
  have r7 : w3.cell? ⟨w.heap.size + 1, 7, none⟩ = some (.int .i64 0) := HR3.out.cell 7
  have r8 : w3.cell? ⟨w.heap.size + 1, 8, none⟩ = some (.int .i64 0) := HR3.out.cell 8
  have f0 := HR3.out.free 0
  have f1 := HR3.out.free 1
  have f2 := HR3.out.free 2
  have f3 := HR3.out.free 3
  have f4 := HR3.out.free 4
  have f5 := HR3.out.free 5
  have f6 := HR3.out.free 6
  have f7 := HR3.out.free 7
  have f8 := HR3.out.free 8
  have HRE := Lib.hid (((((((((HR3.out.put 0 (.int .i64 b0)).put 1 (.int .i64 b1)).put 2 (.int .i64 b2)).put 3 (.int .i64 b3)).put 4 (.int .i64 b4)).put 5 (.int .i64 b5)).put 6 (.int .i64 b6)).put 7 (.int .i64 b7)).put 8 (.int .i64 ((ns.length : Int) + 1)))
  have HKE := Lib.hid (((((((((HK3.out.setCell (p := ⟨w.heap.size + 1, 0, none⟩) (fun hh => absurd hh (by show ¬ w.heap.size + 1 < w.heap.size; omega)) (.int .i64 b0)).setCell (p := ⟨w.heap.size + 1, 1, none⟩) (fun hh => absurd hh (by show ¬ w.heap.size + 1 < w.heap.size; omega)) (.int .i64 b1)).setCell (p := ⟨w.heap.size + 1, 2, none⟩) (fun hh => absurd hh (by show ¬ w.heap.size + 1 < w.heap.size; omega)) (.int .i64 b2)).setCell (p := ⟨w.heap.size + 1, 3, none⟩) (fun hh => absurd hh (by show ¬ w.heap.size + 1 < w.heap.size; omega)) (.int .i64 b3)).setCell (p := ⟨w.heap.size + 1, 4, none⟩) (fun hh => absurd hh (by show ¬ w.heap.size + 1 < w.heap.size; omega)) (.int .i64 b4)).setCell (p := ⟨w.heap.size + 1, 5, none⟩) (fun hh => absurd hh (by show ¬ w.heap.size + 1 < w.heap.size; omega)) (.int .i64 b5)).setCell (p := ⟨w.heap.size + 1, 6, none⟩) (fun hh => absurd hh (by show ¬ w.heap.size + 1 < w.heap.size; omega)) (.int .i64 b6)).setCell (p := ⟨w.heap.size + 1, 7, none⟩) (fun hh => absurd hh (by show ¬ w.heap.size + 1 < w.heap.size; omega)) (.int .i64 b7)).setCell (p := ⟨w.heap.size + 1, 8, none⟩) (fun hh => absurd hh (by show ¬ w.heap.size + 1 < w.heap.size; omega)) (.int .i64 ((ns.length : Int) + 1)))
  go_wp2
  generalize (((((((((w3.setCell ⟨w.heap.size + 1, 0, none⟩ (.int .i64 b0)).setCell ⟨w.heap.size + 1, 1, none⟩ (.int .i64 b1)).setCell ⟨w.heap.size + 1, 2, none⟩ (.int .i64 b2)).setCell ⟨w.heap.size + 1, 3, none⟩ (.int .i64 b3)).setCell ⟨w.heap.size + 1, 4, none⟩ (.int .i64 b4)).setCell ⟨w.heap.size + 1, 5, none⟩ (.int .i64 b5)).setCell ⟨w.heap.size + 1, 6, none⟩ (.int .i64 b6)).setCell ⟨w.heap.size + 1, 7, none⟩ (.int .i64 b7)).setCell ⟨w.heap.size + 1, 8, none⟩ (.int .i64 ((ns.length : Int) + 1))) = we at *
  clear r0 r1 r2 r3 r4 r5 r6 r7 r8
  have r0 := HRE.out.cell 0
  have r1 := HRE.out.cell 1
  have r2 := HRE.out.cell 2
  have r3 := HRE.out.cell 3
  have r4 := HRE.out.cell 4
  have r5 := HRE.out.cell 5
  have r6 := HRE.out.cell 6
  have r7 := HRE.out.cell 7
  have r8 := HRE.out.cell 8
  exact bodyPost_ret (v := .agg #[.int .i64 b0, .int .i64 b1, .int .i64 b2, .int .i64 b3, .int .i64 b4, .int .i64 b5, .int .i64 b6, .int .i64 b7, .int .i64 ((ns.length : Int) + 1)]) (by simp [results, Try.results39, go_sem, r0, r1, r2, r3, r4, r5, r6, r7, r8]) rfl ⟨_, rfl, ⟨b0, b1, b2, b3, b4, b5, b6, b7, (by rw [HMS.out]; rfl), (by rw [HMS.out]; omega), HTK.out⟩, HKE.out⟩

theorem can_without : CanCall 59 := enters_of Try.func59 (by kernel_rfl) rfl

set_option maxRecDepth 100000 in
set_option maxHeartbeats 1000000 in
theorem without1_any (w : World) (p : Nat) (z n : Int) (h : w.cell? ⟨p, 0, none⟩ = some (.int .i64 n)) :
    Calls Try.prog 59 #[.int .i64 z, .pointer (some ⟨p, 0, none⟩)] w (TellsB (decide (z = n)) w) := by
  have e : (z == n) = decide (z = n) := by
    rw [Bool.eq_iff_iff, beq_iff_eq, decide_eq_true_eq]
  go_enter Try.func59, Try.ntmps59
  go_wp2
  go_ret
  exact ⟨ret_bool e, Keep.refl _ _⟩

set_option maxRecDepth 100000 in
set_option maxHeartbeats 2000000 in
set_option linter.unusedSimpArgs false in
theorem gwithout_any (w : World) (v : Value) (ns : List Int) (node : Int) (h : GroupV v ns) :
    Calls Try.prog 40 #[v, .int .i64 node] w fun e w' => ∃ u, e = .returned u ∧ GroupV u (woP ns node) ∧ Keep noneOf w w' := by
  obtain ⟨ms, hms0⟩ : ∃ ms, woP ns node = ms := ⟨_, rfl⟩
  rw [hms0]
  have hms1 : ns.filter (fun x => !(decide (x = node))) = ms := by
    rw [← hms0]
    unfold woP
    congr 1
    funext x
    simp
  have HM0 := Lib.hid hms1
  clear hms0 hms1
  obtain ⟨a0, a1, a2, a3, a4, a5, a6, a7, rfl, h8, ht⟩ := h
  have G0 := ((Box.new w 56 #[.int .i64 a0, .int .i64 a1, .int .i64 a2, .int .i64 a3, .int .i64 a4, .int .i64 a5, .int .i64 a6, .int .i64 a7, .int .i64 (ns.length : Int)]).alloc (.cells #[.int .i64 node] 3)).alloc (.cells #[.int .i64 0, .int .i64 0, .int .i64 0, .int .i64 0, .int .i64 0, .int .i64 0, .int .i64 0, .int .i64 0, .int .i64 0] 56)
  have N0 := (Box.new (w.alloc (.cells #[.int .i64 a0, .int .i64 a1, .int .i64 a2, .int .i64 a3, .int .i64 a4, .int .i64 a5, .int .i64 a6, .int .i64 a7, .int .i64 (ns.length : Int)] 56)) 3 #[.int .i64 node]).alloc (.cells #[.int .i64 0, .int .i64 0, .int .i64 0, .int .i64 0, .int .i64 0, .int .i64 0, .int .i64 0, .int .i64 0, .int .i64 0] 56)
  have R0 := Box.new ((w.alloc (.cells #[.int .i64 a0, .int .i64 a1, .int .i64 a2, .int .i64 a3, .int .i64 a4, .int .i64 a5, .int .i64 a6, .int .i64 a7, .int .i64 (ns.length : Int)] 56)).alloc (.cells #[.int .i64 node] 3)) 56 #[.int .i64 0, .int .i64 0, .int .i64 0, .int .i64 0, .int .i64 0, .int .i64 0, .int .i64 0, .int .i64 0, .int .i64 0]
  rw [show (w.alloc (.cells #[.int .i64 a0, .int .i64 a1, .int .i64 a2, .int .i64 a3, .int .i64 a4, .int .i64 a5, .int .i64 a6, .int .i64 a7, .int .i64 (ns.length : Int)] 56)).heap.size = w.heap.size + 1 from by simp] at N0
  rw [show ((w.alloc (.cells #[.int .i64 a0, .int .i64 a1, .int .i64 a2, .int .i64 a3, .int .i64 a4, .int .i64 a5, .int .i64 a6, .int .i64 a7, .int .i64 (ns.length : Int)] 56)).alloc (.cells #[.int .i64 node] 3)).heap.size = w.heap.size + 1 + 1 from by simp] at R0
  have K0 := (((Keep.refl noneOf w).alloc (.cells #[.int .i64 a0, .int .i64 a1, .int .i64 a2, .int .i64 a3, .int .i64 a4, .int .i64 a5, .int .i64 a6, .int .i64 a7, .int .i64 (ns.length : Int)] 56)).alloc (.cells #[.int .i64 node] 3)).alloc (.cells #[.int .i64 0, .int .i64 0, .int .i64 0, .int .i64 0, .int .i64 0, .int .i64 0, .int .i64 0, .int .i64 0, .int .i64 0] 56)
  have HR0 := Lib.hid R0
  have HK0 := Lib.hid K0
  have c8 := G0.cell 8
  have HXS := Lib.hid (show [a0, a1, a2, a3, a4, a5, a6, a7] = ns ++ [a0, a1, a2, a3, a4, a5, a6, a7].drop ns.length from group_lay ht)
  have B0 : Box (((w.alloc (.cells #[.int .i64 a0, .int .i64 a1, .int .i64 a2, .int .i64 a3, .int .i64 a4, .int .i64 a5, .int .i64 a6, .int .i64 a7, .int .i64 (ns.length : Int)] 56)).alloc (.cells #[.int .i64 node] 3)).alloc (.cells #[.int .i64 0, .int .i64 0, .int .i64 0, .int .i64 0, .int .i64 0, .int .i64 0, .int .i64 0, .int .i64 0, .int .i64 0] 56)) w.heap.size 56 (ns.map zv ++ (([a0, a1, a2, a3, a4, a5, a6, a7].drop ns.length).map zv ++ [zv (ns.length : Int)])).toArray := by
    rw [← List.append_assoc, ← List.map_append, ← HXS.out]
    exact G0
  have HDF := Lib.hid (deleteFunc_any _ w.heap.size 8 56 ns _ B0 h8 (by unfold maxLen; omega) 59 #[.pointer (some ⟨w.heap.size + 1, 0, none⟩)] (fun x => decide (x = node)) can_without
    (fun W z k _ => without1_any W (w.heap.size + 1) z node ((N0.keep k (by omega)).cell 0)))
  rw [HM0.out] at HDF
  have HDL := Lib.hid (show ([a0, a1, a2, a3, a4, a5, a6, a7].drop ns.length).length + ns.length = 8 by rw [List.length_drop]; simp; omega)
  have q0 : (0 : Int) ≤ (ns.length : Int) := by omega
  have q1 : (ns.length : Int) ≤ 8 := by omega
  clear G0 R0 K0 ht B0 N0 HXS
  go_enter Try.func40, Try.ntmps40
  go_wp2_with fail
  refine HDF.out.mono ?_
  rintro e w1 ⟨m, hm, rfl, B1, k1⟩
  have R1 := HR0.out.keep k1 (by omega)
  have K1 := HK0.out.trans k1 (fun i hi e => by omega)
  have hy8 : (ms ++ (List.replicate m 0 ++ [a0, a1, a2, a3, a4, a5, a6, a7].drop ns.length)).length = 8 := by rw [List.length_append, List.length_append, List.length_replicate]; have := HDL.out; omega
  have HTK := Lib.hid (show (ms ++ (List.replicate m 0 ++ [a0, a1, a2, a3, a4, a5, a6, a7].drop ns.length)).take ms.length = ms by rw [List.take_append_of_le_length (Nat.le_refl _), List.take_length])
  have hB : Box w1 w.heap.size 56 ((ms ++ (List.replicate m 0 ++ [a0, a1, a2, a3, a4, a5, a6, a7].drop ns.length)).map zv ++ [zv (ns.length : Int)]).toArray := by
    rw [List.map_append, List.map_append, List.map_replicate, List.append_assoc, List.append_assoc]
    exact B1
  obtain ⟨b0, b1, b2, b3, b4, b5, b6, b7, hb⟩ := eight_of hy8
  rw [hb] at hB HTK
  have B3 : Box w1 w.heap.size 56 #[.int .i64 b0, .int .i64 b1, .int .i64 b2, .int .i64 b3, .int .i64 b4, .int .i64 b5, .int .i64 b6, .int .i64 b7, .int .i64 (ns.length : Int)] := hB
  have hf8 := B3.free 8
  have g8 := B3.cell 8
  have HB4 : Hid (Box (w1.setCell ⟨w.heap.size, 8, none⟩ (.int .i64 (ms.length : Int))) w.heap.size 56 #[.int .i64 b0, .int .i64 b1, .int .i64 b2, .int .i64 b3, .int .i64 b4, .int .i64 b5, .int .i64 b6, .int .i64 b7, .int .i64 (ms.length : Int)]) := B3.put 8 _
  have HR3 := Lib.hid (R1.far (p := ⟨w.heap.size, 8, none⟩) (by show w.heap.size + 1 + 1 ≠ w.heap.size; omega) (.int .i64 (ms.length : Int)))
  have HK3 := Lib.hid (K1.setCell (p := ⟨w.heap.size, 8, none⟩) (fun hh => absurd hh (Nat.lt_irrefl _)) (.int .i64 (ms.length : Int)))
  have HMS := Lib.hid (show ms.length ≤ 8 by omega)
  clear B1 R1 K1 k1 hy8 hB hb B3 c8 HDF
  go_upto_region 3 with fail
  generalize w1.setCell ⟨w.heap.size, 8, none⟩ (.int .i64 (ms.length : Int)) = w3 at *
  clear hf8 g8
  have c0 : w3.cell? ⟨w.heap.size, 0, none⟩ = some (.int .i64 b0) := HB4.out.cell 0
  have c1 : w3.cell? ⟨w.heap.size, 1, none⟩ = some (.int .i64 b1) := HB4.out.cell 1
  have c2 : w3.cell? ⟨w.heap.size, 2, none⟩ = some (.int .i64 b2) := HB4.out.cell 2
  have c3 : w3.cell? ⟨w.heap.size, 3, none⟩ = some (.int .i64 b3) := HB4.out.cell 3
  have c4 : w3.cell? ⟨w.heap.size, 4, none⟩ = some (.int .i64 b4) := HB4.out.cell 4
  have c5 : w3.cell? ⟨w.heap.size, 5, none⟩ = some (.int .i64 b5) := HB4.out.cell 5
  have c6 : w3.cell? ⟨w.heap.size, 6, none⟩ = some (.int .i64 b6) := HB4.out.cell 6
  have c7 : w3.cell? ⟨w.heap.size, 7, none⟩ = some (.int .i64 b7) := HB4.out.cell 7
  have c8 : w3.cell? ⟨w.heap.size, 8, none⟩ = some (.int .i64 (ms.length : Int)) := HB4.out.cell 8
  have r0 : w3.cell? ⟨w.heap.size + 1 + 1, 0, none⟩ = some (.int .i64 0) := HR3.out.cell 0
  have r1 : w3.cell? ⟨w.heap.size + 1 + 1, 1, none⟩ = some (.int .i64 0) := HR3.out.cell 1
  have r2 : w3.cell? ⟨w.heap.size + 1 + 1, 2, none⟩ = some (.int .i64 0) := HR3.out.cell 2
  have r3 : w3.cell? ⟨w.heap.size + 1 + 1, 3, none⟩ = some (.int .i64 0) := HR3.out.cell 3
  have r4 : w3.cell? ⟨w.heap.size + 1 + 1, 4, none⟩ = some (.int .i64 0) := HR3.out.cell 4
  have r5 : w3.cell? ⟨w.heap.size + 1 + 1, 5, none⟩ = some (.int .i64 0) := HR3.out.cell 5
  have r6 : w3.cell? ⟨w.heap.size + 1 + 1, 6, none⟩ = some (.int .i64 0) := HR3.out.cell 6
  have r7 : w3.cell? ⟨w.heap.size + 1 + 1, 7, none⟩ = some (.int .i64 0) := HR3.out.cell 7
  have r8 : w3.cell? ⟨w.heap.size + 1 + 1, 8, none⟩ = some (.int .i64 0) := HR3.out.cell 8
  have f0 := HR3.out.free 0
  have f1 := HR3.out.free 1
  have f2 := HR3.out.free 2
  have f3 := HR3.out.free 3
  have f4 := HR3.out.free 4
  have f5 := HR3.out.free 5
  have f6 := HR3.out.free 6
  have f7 := HR3.out.free 7
  have f8 := HR3.out.free 8
  have HRE := Lib.hid (((((((((HR3.out.put 0 (.int .i64 b0)).put 1 (.int .i64 b1)).put 2 (.int .i64 b2)).put 3 (.int .i64 b3)).put 4 (.int .i64 b4)).put 5 (.int .i64 b5)).put 6 (.int .i64 b6)).put 7 (.int .i64 b7)).put 8 (.int .i64 (ms.length : Int)))
  have HKE := Lib.hid (((((((((HK3.out.setCell (p := ⟨w.heap.size + 1 + 1, 0, none⟩) (fun hh => absurd hh (by show ¬ w.heap.size + 1 + 1 < w.heap.size; omega)) (.int .i64 b0)).setCell (p := ⟨w.heap.size + 1 + 1, 1, none⟩) (fun hh => absurd hh (by show ¬ w.heap.size + 1 + 1 < w.heap.size; omega)) (.int .i64 b1)).setCell (p := ⟨w.heap.size + 1 + 1, 2, none⟩) (fun hh => absurd hh (by show ¬ w.heap.size + 1 + 1 < w.heap.size; omega)) (.int .i64 b2)).setCell (p := ⟨w.heap.size + 1 + 1, 3, none⟩) (fun hh => absurd hh (by show ¬ w.heap.size + 1 + 1 < w.heap.size; omega)) (.int .i64 b3)).setCell (p := ⟨w.heap.size + 1 + 1, 4, none⟩) (fun hh => absurd hh (by show ¬ w.heap.size + 1 + 1 < w.heap.size; omega)) (.int .i64 b4)).setCell (p := ⟨w.heap.size + 1 + 1, 5, none⟩) (fun hh => absurd hh (by show ¬ w.heap.size + 1 + 1 < w.heap.size; omega)) (.int .i64 b5)).setCell (p := ⟨w.heap.size + 1 + 1, 6, none⟩) (fun hh => absurd hh (by show ¬ w.heap.size + 1 + 1 < w.heap.size; omega)) (.int .i64 b6)).setCell (p := ⟨w.heap.size + 1 + 1, 7, none⟩) (fun hh => absurd hh (by show ¬ w.heap.size + 1 + 1 < w.heap.size; omega)) (.int .i64 b7)).setCell (p := ⟨w.heap.size + 1 + 1, 8, none⟩) (fun hh => absurd hh (by show ¬ w.heap.size + 1 + 1 < w.heap.size; omega)) (.int .i64 (ms.length : Int)))
  go_wp2
  generalize (((((((((w3.setCell ⟨w.heap.size + 1 + 1, 0, none⟩ (.int .i64 b0)).setCell ⟨w.heap.size + 1 + 1, 1, none⟩ (.int .i64 b1)).setCell ⟨w.heap.size + 1 + 1, 2, none⟩ (.int .i64 b2)).setCell ⟨w.heap.size + 1 + 1, 3, none⟩ (.int .i64 b3)).setCell ⟨w.heap.size + 1 + 1, 4, none⟩ (.int .i64 b4)).setCell ⟨w.heap.size + 1 + 1, 5, none⟩ (.int .i64 b5)).setCell ⟨w.heap.size + 1 + 1, 6, none⟩ (.int .i64 b6)).setCell ⟨w.heap.size + 1 + 1, 7, none⟩ (.int .i64 b7)).setCell ⟨w.heap.size + 1 + 1, 8, none⟩ (.int .i64 (ms.length : Int))) = we at *
  clear r0 r1 r2 r3 r4 r5 r6 r7 r8
  have r0 := HRE.out.cell 0
  have r1 := HRE.out.cell 1
  have r2 := HRE.out.cell 2
  have r3 := HRE.out.cell 3
  have r4 := HRE.out.cell 4
  have r5 := HRE.out.cell 5
  have r6 := HRE.out.cell 6
  have r7 := HRE.out.cell 7
  have r8 := HRE.out.cell 8
  exact bodyPost_ret (v := .agg #[.int .i64 b0, .int .i64 b1, .int .i64 b2, .int .i64 b3, .int .i64 b4, .int .i64 b5, .int .i64 b6, .int .i64 b7, .int .i64 (ms.length : Int)]) (by simp [results, Try.results40, go_sem, r0, r1, r2, r3, r4, r5, r6, r7, r8]) rfl ⟨_, rfl, ⟨b0, b1, b2, b3, b4, b5, b6, b7, rfl, HMS.out, HTK.out⟩, HKE.out⟩
end Go.Proofs.Ytmncjibokpieoaa
