/-
  Package session: rows, sorted.
-/
import Derived.Test.YtimnehgonlohcaaSsL
import Derived.Test.YtimnehgonlohcaaSsOpen
namespace Go.Proofs.Ytimnehgonlohcaa
open Go.Shelf Go.RowKit Go.Lib Go.Sort

set_option maxRecDepth 100000 in
theorem nan_any (w : World) (a : Int) : Calls Try.prog 29 #[.int .u64 a] w fun e w' => e = .returned (.bool false) ∧ w' = w := by
  have g : (a != a) = false := by rw [bne_self_eq_false]
  go_enter Try.func29, Try.ntmps29
  go_wp2
  go_ret
  exact ⟨rfl, rfl⟩
set_option maxRecDepth 100000 in
theorem compare_any (w : World) (a b : Int) : Calls Try.prog 24 #[.int .u64 a, .int .u64 b] w fun e w' => e = .returned (.int .i64 (Lib.compareInt a b)) ∧ w' = w := by
  unfold Lib.compareInt
  by_cases h1 : a < b
  · rw [if_pos h1]
    go_enter Try.func24, Try.ntmps24
    go_wp2_with (go_at_call 29; refine (nan_any _ _).mono ?_; rintro e w' ⟨rfl, rfl⟩)
    go_ret
    exact ⟨rfl, rfl⟩
  · rw [if_neg h1]
    by_cases h2 : b < a
    · rw [if_pos h2]
      go_enter Try.func24, Try.ntmps24
      go_wp2_with (go_at_call 29; refine (nan_any _ _).mono ?_; rintro e w' ⟨rfl, rfl⟩)
      go_ret
      exact ⟨rfl, rfl⟩
    · rw [if_neg h2]
      go_enter Try.func24, Try.ntmps24
      go_wp2_with (go_at_call 29; refine (nan_any _ _).mono ?_; rintro e w' ⟨rfl, rfl⟩)
      go_ret
      exact ⟨rfl, rfl⟩
set_option maxRecDepth 100000 in
theorem closure_any (x y : Ro) (W : World) : Calls Try.prog 23 #[.agg x.cells.toArray, .agg y.cells.toArray] W fun e w' => e = .returned (.int .i64 (Lib.compareInt x.id y.id)) ∧ ∃ q os', w' = grow (W.drewN q) os' := by
  have hcon := fun W' => compare_any W' x.id y.id
  generalize Lib.compareInt x.id y.id = r at hcon ⊢
  unfold Ro.cells
  go_enter Try.func23, Try.ntmps23
  go_wp2_with (go_at_call 24; refine (hcon _).mono ?_; rintro e w' ⟨rfl, rfl⟩)
  go_ret
  exact ⟨rfl, 0, _, by rw [alloc_eq_grow, alloc_eq_grow, grow_grow]; rfl⟩
instance : Inhabited Ro := ⟨⟨0, 0, .zero⟩⟩
theorem cmpLays (blk off size : Nat) (w : World) : CmpLays Try.prog 23 #[] Ro.cells 8 (fun x y : Ro => Lib.compareInt x.id y.id) blk off size w :=
  fun _ _ _ _ x y => closure_any x y _
theorem lt_ids (x y : Ro) : ltOf (fun x y : Ro => Lib.compareInt x.id y.id) x y = decide (x.id < y.id) := by
  unfold ltOf Lib.compareInt
  by_cases h1 : x.id < y.id
  · simp [h1]
  · by_cases h2 : y.id < x.id <;> simp [h1, h2]
theorem swo_ids : SWO (ltOf fun x y : Ro => Lib.compareInt x.id y.id) where
  irrefl x := by rw [lt_ids]; simp
  trans x y z h1 h2 := by rw [lt_ids] at *; simp at *; omega
  ntrans x y z h1 h2 := by rw [lt_ids] at *; simp at *; omega
/-- One order of sessions that rises by ids. -/
theorem perm_rising : ∀ {a b : List Ro}, a.Perm b → a.Pairwise (fun x y => x.id ≤ y.id) → b.Pairwise (fun x y => x.id < y.id) → a = b
  | [], b, h, _, _ => (List.nil_perm.1 h).symm
  | x :: a, [], h, _, _ => absurd h.length_eq (by simp)
  | x :: a, y :: b, h, ha, hb => by
    rw [List.pairwise_cons] at ha hb
    have hx : x ∈ y :: b := h.mem_iff.1 (List.mem_cons_self ..)
    have hy : y ∈ x :: a := h.mem_iff.2 (List.mem_cons_self ..)
    have e : x = y := by
      rcases List.mem_cons.1 hx with e | hx
      · exact e
      · rcases List.mem_cons.1 hy with e | hy
        · exact e.symm
        · have h1 := hb.1 x hx
          have h2 := ha.1 y hy
          omega
    subst e
    rw [perm_rising ((List.perm_cons x).1 h) ha.2 hb.2]
theorem agg_row (w : World) : (isAgg 58).run Try.prog w = .ok true w := by kernel_rfl
theorem size_row (w : World) : (Go.sizeOf 58).run Try.prog w = .ok 8 w := by kernel_rfl
theorem cells_one (x : Ro) : ∀ v ∈ x.cells, v.oneCell' = true := by
  intro v hv
  simp [Ro.cells] at hv
  rcases hv with rfl | rfl | rfl | rfl | rfl | rfl | rfl | rfl <;> rfl
theorem keep_sorted (w : World) (blk off n : Nat) (d' : Array Ro) (os : Array Obj) : Keep (fun i => i = blk) w (sortWorldK Ro.cells 8 w blk off n d' os) := by
  refine ⟨rfl, rfl, rfl, ?_, fun i hi hne => ?_⟩
  · unfold sortWorldK
    rw [size_grow, size_putRowK]
    exact Nat.le_add_right _ _
  · unfold sortWorldK
    rw [heap_grow_old _ _ (by rw [size_putRowK]; exact hi)]
    unfold putRowK putRow mapBlock
    simp only [Sort.ahead]
    rw [Array.getElem?_modify, if_neg (fun e => hne e.symm)]

set_option maxRecDepth 100000 in
set_option maxHeartbeats 1000000 in
/-- Rows of one's own are sorted by ids. -/
theorem sort_any (w : World) (base g cap : Nat) (l L : List Ro) (h : w.ownsRow base 58 8 (.slice (some ⟨g, 0, none⟩) l.length cap) l.length (l.flatMap Ro.cells)) (hp : l.Perm L) (hL : L.Pairwise (fun x y => x.id < y.id)) (hf : l.length ≤ 16) :
    Calls Try.prog 22 #[.slice (some ⟨g, 0, none⟩) l.length cap, .func (.func 23) #[] #[]] w fun e w' =>
      e = .returned (.tuple #[]) ∧ Many Ro.cells 8 w' (fun i => i = g) (.slice (some ⟨g, 0, none⟩) l.length cap) L ∧ Keep (fun i => i = g) w w' := by
  have eg : ∀ args w, (callFunc 23 args).run Try.prog w = .ok (.enter 23 args) w := enters_of Try.func23 (by kernel_rfl) rfl
  obtain ⟨hxl, hown⟩ := h
  rcases hown with ⟨e, _⟩ | ⟨g', cap', cur, e, hbase, hg, hnc, hcm, hsz, htk⟩
  · cases e
  · obtain ⟨rfl, rfl⟩ : g = g' ∧ cap = cap' := by
      injection e with e1 e2 e3
      injection e1 with e1
      injection e1 with e1
      exact ⟨e1, e3⟩
    have hblk : g < w.heap.size := (Array.getElem?_eq_some_iff.1 hg).1
    have hds : l.toArray.size = l.length := by simp
    have hH : HoldsK Ro.cells 8 w g 0 l.toArray := by
      intro j hj
      rw [size_flatK, hds] at hj
      rw [get_flatK _ _ _ _ (by rw [hds]; exact hj)]
      have hk : j / 8 < l.length := by omega
      have ha := fm_at Ro.cells 8 (fun _ => rfl) (List.getElem?_eq_getElem hk) (j % 8) (Nat.mod_lt _ (by decide))
      rw [show j / 8 * 8 + j % 8 = j from by omega, ← htk, List.getElem?_take_of_lt (by omega), Array.getElem?_toList] at ha
      refine ⟨?_, (show Box w g 58 cur from hg).free _⟩
      rw [cell_of_row w g (0 + j) cur _ _ hg, Nat.zero_add, ha]
      have e1 : l.toArray[j / 8]! = l[j / 8] := by simp [hk]
      rw [e1]
      have hlt : j % 8 < (Ro.cells l[j / 8]).length := Nat.mod_lt _ (by decide)
      rw [List.getElem?_eq_getElem hlt, getElem!_pos (Ro.cells l[j / 8]) (j % 8) hlt]
      rfl
    have hcon := AnyQ.slices_SortFunc Try.sortRows 8 agg_row size_row Ro.cells (fun _ => rfl) cells_one (fun x y => Lib.compareInt x.id y.id) swo_ids 23 #[] g 0 cap l.toArray w eg (cmpLays g 0 l.toArray.size w) hH hblk (by rw [hds]; omega)
    rw [hds] at hcon
    refine Calls.mono hcon ?_
    rintro e w' ⟨rfl, d', n, os, hperm, hsorted, rfl⟩
    have hd' : d'.size = l.length := by rw [hperm.1, hds]
    have hH' : HoldsK Ro.cells 8 (sortWorldK Ro.cells 8 w g 0 n d' os) g 0 d' := SWK.holds ⟨n, os, rfl⟩ hblk hH hperm.1
    have hpl : d'.toList.Perm l := by
      have h3 := hperm.2.2
      have x1 : (d'.extract 0 l.length).toList = d'.toList := by rw [← hd']; simp
      have x2 : (l.toArray.extract 0 l.length).toList = l := by simp
      rw [x1, x2] at h3
      exact h3
    have hle : d'.toList.Pairwise (fun x y => x.id ≤ y.id) := by
      rw [List.pairwise_iff_getElem]
      intro i j hi hj hij
      simp only [Array.length_toList] at hi hj
      have := hsorted i j (Nat.zero_le _) hij (by omega)
      rw [lt_ids, getElem!_pos d' i (by omega), getElem!_pos d' j (by omega)] at this
      simp only [decide_eq_false_iff_not] at this
      simp only [Array.getElem_toList]
      omega
    have hdL : d'.toList = L := perm_rising (hpl.trans hp) hle hL
    have hlL : L.length = l.length := by rw [← hdL, Array.length_toList, hd']
    refine ⟨rfl, ⟨some ⟨g, 0, none⟩, cap, by rw [hlL], by omega, hcm, fun e => (by cases e), fm_length Ro.cells 8 (fun _ => rfl) L, fun h0 => ⟨⟨g, 0, none⟩, rfl, rfl, ?_, rfl, fun j x hj => ?_⟩⟩, keep_sorted ..⟩
    · exact Nat.lt_of_lt_of_le hblk (keep_sorted w g 0 n d' os).size
    · have hjl := (List.getElem?_eq_some_iff.1 hj).1
      rw [fm_length Ro.cells 8 (fun _ => rfl)] at hjl
      have hk : j / 8 < d'.size := by omega
      have hc := (HoldsK.cell hH' hk (Nat.mod_lt j (by decide : 0 < 8))).1
      have hLk : L[j / 8]? = some d'[j / 8] := by rw [← hdL, Array.getElem?_toList, Array.getElem?_eq_getElem hk]
      have ha := fm_at Ro.cells 8 (fun _ => rfl) hLk (j % 8) (Nat.mod_lt _ (by decide))
      rw [show j / 8 * 8 + j % 8 = j from by omega, hj] at ha
      rw [show 0 + j / 8 * 8 + j % 8 = 0 + j from by omega] at hc
      rw [hc, getElem!_pos d' _ hk, ha]
      have hlt : j % 8 < (Ro.cells d'[j / 8]).length := Nat.mod_lt _ (by decide)
      rw [List.getElem?_eq_getElem hlt, getElem!_pos (Ro.cells d'[j / 8]) (j % 8) hlt]
end Go.Proofs.Ytimnehgonlohcaa
