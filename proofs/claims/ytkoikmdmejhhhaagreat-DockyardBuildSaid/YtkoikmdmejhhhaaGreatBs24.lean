import Derived.Test.YtkoikmdmejhhhaaGreatProg
import Derived.Ground.SlmcProg
import Derived.Ground.SlsfProg
import Derived.Shelf.SlMaps.Clone
import Derived.Shelf.SlSortCmp.WholeK
import Derived.Test.YtkoikmdmejhhhaaGreatBs16
import Derived.Test.YtkoikmdmejhhhaaGreatBs20
namespace Go.Proofs
open Go.Shelf
def Tryz.sortRows_ren : Go.Shelf.Ren := ⟨fun | 6 => 93 | 15 => 128 | 14 => 127 | 28 => 165 | 29 => 166 | 20 => 157 | 21 => 158 | 22 => 159 | 23 => 160 | 24 => 161 | 25 => 162 | 26 => 163 | 27 => 164 | 46 => 177 | 47 => 178 | 48 => 179 | 49 => 180 | 50 => 181 | 57 => 192 | n => n, fun | 22 => 26 | 24 => 71 | 25 => 145 | 3 => 3 | 39 => 168 | 0 => 0 | 53 => 193 | 55 => 23 | 4 => 4 | 46 => 187 | 45 => 186 | 50 => 102 | 5 => 5 | 9 => 9 | 66 => 204 | 70 => 207 | 76 => 216 | 77 => 217 | n => n, fun | n => n⟩
theorem Tryz.sortRows : Go.Proofs.SlLaysF0.n6 Tryz.prog Tryz.sortRows_ren := {
  mixed := by kernel_rfl
  f6 := ⟨Tryz.f93.name, by decide, Tryz.func93.trans (congrArg some (by kernel_rfl))⟩
  f14 := ⟨Tryz.f127.name, by decide, Tryz.func127.trans (congrArg some (by kernel_rfl))⟩
  f15 := Tryz.func128.trans (congrArg some (by kernel_rfl))
  f20 := ⟨Tryz.f157.name, by decide, Tryz.func157.trans (congrArg some (by kernel_rfl))⟩
  f21 := ⟨Tryz.f158.name, by decide, Tryz.func158.trans (congrArg some (by kernel_rfl))⟩
  f22 := ⟨Tryz.f159.name, by decide, Tryz.func159.trans (congrArg some (by kernel_rfl))⟩
  f23 := ⟨Tryz.f160.name, by decide, Tryz.func160.trans (congrArg some (by kernel_rfl))⟩
  f24 := ⟨Tryz.f161.name, by decide, Tryz.func161.trans (congrArg some (by kernel_rfl))⟩
  f25 := ⟨Tryz.f162.name, by decide, Tryz.func162.trans (congrArg some (by kernel_rfl))⟩
  f26 := ⟨Tryz.f163.name, by decide, Tryz.func163.trans (congrArg some (by kernel_rfl))⟩
  f27 := ⟨Tryz.f164.name, by decide, Tryz.func164.trans (congrArg some (by kernel_rfl))⟩
  f28 := Tryz.func165.trans (congrArg some (by kernel_rfl))
  f29 := Tryz.func166.trans (congrArg some (by kernel_rfl))
  f46 := ⟨Tryz.f177.name, by decide, Tryz.func177.trans (congrArg some (by kernel_rfl))⟩
  f47 := Tryz.func178.trans (congrArg some (by kernel_rfl))
  f48 := Tryz.func179.trans (congrArg some (by kernel_rfl))
  f49 := ⟨Tryz.f180.name, by decide, Tryz.func180.trans (congrArg some (by kernel_rfl))⟩
  f50 := ⟨Tryz.f181.name, by decide, Tryz.func181.trans (congrArg some (by kernel_rfl))⟩
  f57 := ⟨Tryz.f192.name, by decide, Tryz.func192.trans (congrArg some (by kernel_rfl))⟩
  t0 := Tryz.underlying0
  a0 := Tryz.isAgg0
  z0 := Tryz.sizeOf0
  v0 := Tryz.zeroValue0
  t3 := Tryz.underlying3
  a3 := Tryz.isAgg3
  z3 := Tryz.sizeOf3
  v3 := Tryz.zeroValue3
  t4 := Tryz.underlying4
  a4 := Tryz.isAgg4
  z4 := Tryz.sizeOf4
  v4 := Tryz.zeroValue4
  t5 := Tryz.underlying5
  a5 := Tryz.isAgg5
  z5 := Tryz.sizeOf5
  v5 := Tryz.zeroValue5
  t9 := Tryz.underlying9
  a9 := Tryz.isAgg9
  z9 := Tryz.sizeOf9
  v9 := Tryz.zeroValue9
  t22 := Tryz.underlying26
  a22 := Tryz.isAgg26
  z22 := Tryz.sizeOf26
  v22 := Tryz.zeroValue26
  t25 := Tryz.underlying145
  a25 := Tryz.isAgg145
  z25 := Tryz.sizeOf145
  v25 := Tryz.zeroValue145
  t39 := Tryz.underlying168
  a39 := Tryz.isAgg168
  z39 := Tryz.sizeOf168
  v39 := Tryz.zeroValue168
  t45 := Tryz.underlying186
  a45 := Tryz.isAgg186
  z45 := Tryz.sizeOf186
  v45 := Tryz.zeroValue186
  t46 := Tryz.underlying187
  a46 := Tryz.isAgg187
  z46 := Tryz.sizeOf187
  v46 := Tryz.zeroValue187
  t50 := Tryz.underlying102
  a50 := Tryz.isAgg102
  z50 := Tryz.sizeOf102
  v50 := Tryz.zeroValue102
  t53 := Tryz.underlying193
  a53 := Tryz.isAgg193
  z53 := Tryz.sizeOf193
  v53 := Tryz.zeroValue193
  t55 := Tryz.underlying23
  a55 := Tryz.isAgg23
  z55 := Tryz.sizeOf23
  v55 := Tryz.zeroValue23
  t66 := Tryz.underlying204
  a66 := Tryz.isAgg204
  z66 := Tryz.sizeOf204
  v66 := Tryz.zeroValue204
  t70 := Tryz.underlying207
  a70 := Tryz.isAgg207
  z70 := Tryz.sizeOf207
  v70 := Tryz.zeroValue207
  t76 := Tryz.underlying216
  a76 := Tryz.isAgg216
  z76 := Tryz.sizeOf216
  v76 := Tryz.zeroValue216
  t77 := Tryz.underlying217
  a77 := Tryz.isAgg217
  z77 := Tryz.sizeOf217
  v77 := Tryz.zeroValue217 }
end Go.Proofs
namespace Go.Proofs.YtkoikmdmejhhhaaGreat
open Go.Shelf Go.RowKit Go.Lib Go.Sort
set_option maxRecDepth 100000 in
theorem nan_any (w : World) (a : Int) : Calls Tryz.prog 129 #[.int .u64 a] w fun e w' => e = .returned (.bool false) ∧ w' = w := by
  have g : (a != a) = false := by rw [bne_self_eq_false]
  go_enter Tryz.func129, Tryz.ntmps129
  go_wp2
  go_ret
  exact ⟨rfl, rfl⟩
set_option maxRecDepth 100000 in
theorem compare_any (w : World) (a b : Int) : Calls Tryz.prog 95 #[.int .u64 a, .int .u64 b] w fun e w' => e = .returned (.int .i64 (Lib.compareInt a b)) ∧ w' = w := by
  unfold Lib.compareInt
  by_cases h1 : a < b
  · rw [if_pos h1]
    go_enter Tryz.func95, Tryz.ntmps95
    go_wp2_with (go_at_call 129; refine (nan_any _ _).mono ?_; rintro e w' ⟨rfl, rfl⟩)
    go_ret
    exact ⟨rfl, rfl⟩
  · rw [if_neg h1]
    by_cases h2 : b < a
    · rw [if_pos h2]
      go_enter Tryz.func95, Tryz.ntmps95
      go_wp2_with (go_at_call 129; refine (nan_any _ _).mono ?_; rintro e w' ⟨rfl, rfl⟩)
      go_ret
      exact ⟨rfl, rfl⟩
    · rw [if_neg h2]
      go_enter Tryz.func95, Tryz.ntmps95
      go_wp2_with (go_at_call 129; refine (nan_any _ _).mono ?_; rintro e w' ⟨rfl, rfl⟩)
      go_ret
      exact ⟨rfl, rfl⟩
set_option maxRecDepth 100000 in
theorem closure_any (x y : Ro) (W : World) : Calls Tryz.prog 94 #[.agg x.cells.toArray, .agg y.cells.toArray] W fun e w' => e = .returned (.int .i64 (Lib.compareInt x.id y.id)) ∧ ∃ q os', w' = grow (W.drewN q) os' := by
  have hcon := fun W' => compare_any W' x.id y.id
  generalize Lib.compareInt x.id y.id = r at hcon ⊢
  unfold Ro.cells
  go_enter Tryz.func94, Tryz.ntmps94
  go_wp2_with (go_at_call 95; refine (hcon _).mono ?_; rintro e w' ⟨rfl, rfl⟩)
  go_ret
  exact ⟨rfl, 0, _, by rw [alloc_eq_grow, alloc_eq_grow, grow_grow]; rfl⟩
instance : Inhabited Ro := ⟨⟨0, 0, .zero⟩⟩
theorem cmpLays (blk off size : Nat) (w : World) : CmpLays Tryz.prog 94 #[] Ro.cells 8 (fun x y : Ro => Lib.compareInt x.id y.id) blk off size w :=
  fun _ _ _ _ x y => closure_any x y _
theorem lt_ids (x y : Ro) : ltOf (fun x y : Ro => Lib.compareInt x.id y.id) x y = decide (x.id < y.id) := by
  unfold ltOf Lib.compareInt
  by_cases h1 : x.id < y.id
  · simp [h1]
  · by_cases h2 : y.id < x.id <;> simp [h1, h2]
theorem swo_ids : SWO (ltOf fun x y : Ro => Lib.compareInt x.id y.id) where
  irrefl x := by rw [lt_ids]; simp
  trans x y z h1 h2 := by rw [lt_ids] at *; simp at *; omega
  ntrans x y z h1 h2 := by rw [lt_ids] at *; simp at *; omega
theorem perm_rising : ∀ {a b : List Ro}, a.Perm b → a.Pairwise (fun x y => x.id ≤ y.id) → b.Pairwise (fun x y => x.id < y.id) → a = b
  | [], b, h, _, _ => (List.nil_perm.1 h).symm
  | x :: a, [], h, _, _ => absurd h.length_eq (by simp)
  | x :: a, y :: b, h, ha, hb => by
    rw [List.pairwise_cons] at ha hb
    have hx : x ∈ y :: b := h.mem_iff.1 (List.mem_cons_self ..)
    have hy : y ∈ x :: a := h.mem_iff.2 (List.mem_cons_self ..)
    have e : x = y := by
      rcases List.mem_cons.1 hx with e | hx
      · exact e
      · rcases List.mem_cons.1 hy with e | hy
        · exact e.symm
        · have h1 := hb.1 x hx
          have h2 := ha.1 y hy
          omega
    subst e
    rw [perm_rising ((List.perm_cons x).1 h) ha.2 hb.2]
theorem agg_row (w : World) : (isAgg 71).run Tryz.prog w = .ok true w := by kernel_rfl
theorem size_row (w : World) : (Go.sizeOf 71).run Tryz.prog w = .ok 8 w := by kernel_rfl
theorem cells_one (x : Ro) : ∀ v ∈ x.cells, v.oneCell' = true := by
  intro v hv
  simp [Ro.cells] at hv
  rcases hv with rfl | rfl | rfl | rfl | rfl | rfl | rfl | rfl <;> rfl
theorem keep_sorted (w : World) (blk off n : Nat) (d' : Array Ro) (os : Array Obj) : Keep (fun i => i = blk) w (sortWorldK Ro.cells 8 w blk off n d' os) := by
  refine ⟨rfl, rfl, rfl, ?_, fun i hi hne => ?_⟩
  · unfold sortWorldK
    rw [size_grow, size_putRowK]
    exact Nat.le_add_right _ _
  · unfold sortWorldK
    rw [heap_grow_old _ _ (by rw [size_putRowK]; exact hi)]
    unfold putRowK putRow mapBlock
    simp only [Sort.ahead]
    rw [Array.getElem?_modify, if_neg (fun e => hne e.symm)]
set_option maxRecDepth 100000 in
set_option maxHeartbeats 1000000 in
theorem sort_any (w : World) (base g cap : Nat) (l L : List Ro) (h : w.ownsRow base 71 8 (.slice (some ⟨g, 0, none⟩) l.length cap) l.length (l.flatMap Ro.cells)) (hp : l.Perm L) (hL : L.Pairwise (fun x y => x.id < y.id)) (hf : l.length ≤ 16) :
    Calls Tryz.prog 93 #[.slice (some ⟨g, 0, none⟩) l.length cap, .func (.func 94) #[] #[]] w fun e w' =>
      e = .returned (.tuple #[]) ∧ Many Ro.cells 8 w' (fun i => i = g) (.slice (some ⟨g, 0, none⟩) l.length cap) L ∧ Keep (fun i => i = g) w w' := by
  have eg : ∀ args w, (callFunc 94 args).run Tryz.prog w = .ok (.enter 94 args) w := enters_of Tryz.func94 (by kernel_rfl) rfl
  obtain ⟨hxl, hown⟩ := h
  rcases hown with ⟨e, _⟩ | ⟨g', cap', cur, e, hbase, hg, hnc, hcm, hsz, htk⟩
  · cases e
  · obtain ⟨rfl, rfl⟩ : g = g' ∧ cap = cap' := by
      injection e with e1 e2 e3
      injection e1 with e1
      injection e1 with e1
      exact ⟨e1, e3⟩
    have hblk : g < w.heap.size := (Array.getElem?_eq_some_iff.1 hg).1
    have hds : l.toArray.size = l.length := by simp
    have hH : HoldsK Ro.cells 8 w g 0 l.toArray := by
      intro j hj
      rw [size_flatK, hds] at hj
      rw [get_flatK _ _ _ _ (by rw [hds]; exact hj)]
      have hk : j / 8 < l.length := by omega
      have ha := fm_at Ro.cells 8 (fun _ => rfl) (List.getElem?_eq_getElem hk) (j % 8) (Nat.mod_lt _ (by decide))
      rw [show j / 8 * 8 + j % 8 = j from by omega, ← htk, List.getElem?_take_of_lt (by omega), Array.getElem?_toList] at ha
      refine ⟨?_, (show Box w g 71 cur from hg).free _⟩
      rw [cell_of_row w g (0 + j) cur _ _ hg, Nat.zero_add, ha]
      have e1 : l.toArray[j / 8]! = l[j / 8] := by simp [hk]
      rw [e1]
      have hlt : j % 8 < (Ro.cells l[j / 8]).length := Nat.mod_lt _ (by decide)
      rw [List.getElem?_eq_getElem hlt, getElem!_pos (Ro.cells l[j / 8]) (j % 8) hlt]
      rfl
    have hcon := AnyQ.slices_SortFunc Tryz.sortRows 8 agg_row size_row Ro.cells (fun _ => rfl) cells_one (fun x y => Lib.compareInt x.id y.id) swo_ids 94 #[] g 0 cap l.toArray w eg (cmpLays g 0 l.toArray.size w) hH hblk (by rw [hds]; omega)
    rw [hds] at hcon
    refine Calls.mono hcon ?_
    rintro e w' ⟨rfl, d', n, os, hperm, hsorted, rfl⟩
    have hd' : d'.size = l.length := by rw [hperm.1, hds]
    have hH' : HoldsK Ro.cells 8 (sortWorldK Ro.cells 8 w g 0 n d' os) g 0 d' := SWK.holds ⟨n, os, rfl⟩ hblk hH hperm.1
    have hpl : d'.toList.Perm l := by
      have h3 := hperm.2.2
      have x1 : (d'.extract 0 l.length).toList = d'.toList := by rw [← hd']; simp
      have x2 : (l.toArray.extract 0 l.length).toList = l := by simp
      rw [x1, x2] at h3
      exact h3
    have hle : d'.toList.Pairwise (fun x y => x.id ≤ y.id) := by
      rw [List.pairwise_iff_getElem]
      intro i j hi hj hij
      simp only [Array.length_toList] at hi hj
      have := hsorted i j (Nat.zero_le _) hij (by omega)
      rw [lt_ids, getElem!_pos d' i (by omega), getElem!_pos d' j (by omega)] at this
      simp only [decide_eq_false_iff_not] at this
      simp only [Array.getElem_toList]
      omega
    have hdL : d'.toList = L := perm_rising (hpl.trans hp) hle hL
    have hlL : L.length = l.length := by rw [← hdL, Array.length_toList, hd']
    refine ⟨rfl, ⟨some ⟨g, 0, none⟩, cap, by rw [hlL], by omega, hcm, fun e => (by cases e), fm_length Ro.cells 8 (fun _ => rfl) L, fun h0 => ⟨⟨g, 0, none⟩, rfl, rfl, ?_, rfl, fun j x hj => ?_⟩⟩, keep_sorted ..⟩
    · exact Nat.lt_of_lt_of_le hblk (keep_sorted w g 0 n d' os).size
    · have hjl := (List.getElem?_eq_some_iff.1 hj).1
      rw [fm_length Ro.cells 8 (fun _ => rfl)] at hjl
      have hk : j / 8 < d'.size := by omega
      have hc := (HoldsK.cell hH' hk (Nat.mod_lt j (by decide : 0 < 8))).1
      have hLk : L[j / 8]? = some d'[j / 8] := by rw [← hdL, Array.getElem?_toList, Array.getElem?_eq_getElem hk]
      have ha := fm_at Ro.cells 8 (fun _ => rfl) hLk (j % 8) (Nat.mod_lt _ (by decide))
      rw [show j / 8 * 8 + j % 8 = j from by omega, hj] at ha
      rw [show 0 + j / 8 * 8 + j % 8 = 0 + j from by omega] at hc
      rw [hc, getElem!_pos d' _ hk, ha]
      have hlt : j % 8 < (Ro.cells d'[j / 8]).length := Nat.mod_lt _ (by decide)
      rw [List.getElem?_eq_getElem hlt, getElem!_pos (Ro.cells d'[j / 8]) (j % 8) hlt]
end Go.Proofs.YtkoikmdmejhhhaaGreat
