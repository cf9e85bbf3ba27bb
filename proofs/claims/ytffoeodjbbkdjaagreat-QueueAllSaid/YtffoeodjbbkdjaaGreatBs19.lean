import Derived.Test.YtffoeodjbbkdjaaGreatProg
import Derived.Test.YtffoeodjbbkdjaaGreatRows
import Derived.ChangeOld
import Derived.Deep.Slices
import Derived.Ground.SlmcProg
import Derived.Ground.SlsfProg
import Derived.Laws.OwnMore
import Derived.OpenShut
import Derived.ProofKit
import Derived.RangeFuncBox
import Derived.Shelf.SlMaps.Clone
import Derived.Shelf.SlSortCmp.WholeK
import Derived.SizedLaws
import Derived.Test.YtffoeodjbbkdjaaGreatBs01
import Derived.Test.YtffoeodjbbkdjaaGreatBs15
import Derived.Test.YtffoeodjbbkdjaaGreatBs17
namespace Go.Proofs
open Go.Shelf
def Tryz.sortRows_ren : Go.Shelf.Ren := ⟨fun | 6 => 81 | 15 => 117 | 14 => 116 | 28 => 154 | 29 => 155 | 20 => 146 | 21 => 147 | 22 => 148 | 23 => 149 | 24 => 150 | 25 => 151 | 26 => 152 | 27 => 153 | 46 => 166 | 47 => 167 | 48 => 168 | 49 => 169 | 50 => 170 | 57 => 181 | n => n, fun | 22 => 26 | 24 => 115 | 25 => 137 | 3 => 3 | 39 => 161 | 0 => 0 | 53 => 186 | 55 => 23 | 4 => 4 | 46 => 180 | 45 => 179 | 50 => 90 | 5 => 5 | 9 => 9 | 66 => 197 | 70 => 200 | 76 => 209 | 77 => 210 | n => n, fun | n => n⟩
theorem Tryz.sortRows : Go.Proofs.SlLaysF0.n6 Tryz.prog Tryz.sortRows_ren := {
 mixed := by kernel_rfl
 f6 := ⟨Tryz.f81.name, by decide, Tryz.func81.trans (congrArg some (by kernel_rfl))⟩
 f14 := ⟨Tryz.f116.name, by decide, Tryz.func116.trans (congrArg some (by kernel_rfl))⟩
 f15 := Tryz.func117.trans (congrArg some (by kernel_rfl))
 f20 := ⟨Tryz.f146.name, by decide, Tryz.func146.trans (congrArg some (by kernel_rfl))⟩
 f21 := ⟨Tryz.f147.name, by decide, Tryz.func147.trans (congrArg some (by kernel_rfl))⟩
 f22 := ⟨Tryz.f148.name, by decide, Tryz.func148.trans (congrArg some (by kernel_rfl))⟩
 f23 := ⟨Tryz.f149.name, by decide, Tryz.func149.trans (congrArg some (by kernel_rfl))⟩
 f24 := ⟨Tryz.f150.name, by decide, Tryz.func150.trans (congrArg some (by kernel_rfl))⟩
 f25 := ⟨Tryz.f151.name, by decide, Tryz.func151.trans (congrArg some (by kernel_rfl))⟩
 f26 := ⟨Tryz.f152.name, by decide, Tryz.func152.trans (congrArg some (by kernel_rfl))⟩
 f27 := ⟨Tryz.f153.name, by decide, Tryz.func153.trans (congrArg some (by kernel_rfl))⟩
 f28 := Tryz.func154.trans (congrArg some (by kernel_rfl))
 f29 := Tryz.func155.trans (congrArg some (by kernel_rfl))
 f46 := ⟨Tryz.f166.name, by decide, Tryz.func166.trans (congrArg some (by kernel_rfl))⟩
 f47 := Tryz.func167.trans (congrArg some (by kernel_rfl))
 f48 := Tryz.func168.trans (congrArg some (by kernel_rfl))
 f49 := ⟨Tryz.f169.name, by decide, Tryz.func169.trans (congrArg some (by kernel_rfl))⟩
 f50 := ⟨Tryz.f170.name, by decide, Tryz.func170.trans (congrArg some (by kernel_rfl))⟩
 f57 := ⟨Tryz.f181.name, by decide, Tryz.func181.trans (congrArg some (by kernel_rfl))⟩
 t0 := Tryz.underlying0
 a0 := Tryz.isAgg0
 z0 := Tryz.sizeOf0
 v0 := Tryz.zeroValue0
 t3 := Tryz.underlying3
 a3 := Tryz.isAgg3
 z3 := Tryz.sizeOf3
 v3 := Tryz.zeroValue3
 t4 := Tryz.underlying4
 a4 := Tryz.isAgg4
 z4 := Tryz.sizeOf4
 v4 := Tryz.zeroValue4
 t5 := Tryz.underlying5
 a5 := Tryz.isAgg5
 z5 := Tryz.sizeOf5
 v5 := Tryz.zeroValue5
 t9 := Tryz.underlying9
 a9 := Tryz.isAgg9
 z9 := Tryz.sizeOf9
 v9 := Tryz.zeroValue9
 t22 := Tryz.underlying26
 a22 := Tryz.isAgg26
 z22 := Tryz.sizeOf26
 v22 := Tryz.zeroValue26
 t25 := Tryz.underlying137
 a25 := Tryz.isAgg137
 z25 := Tryz.sizeOf137
 v25 := Tryz.zeroValue137
 t39 := Tryz.underlying161
 a39 := Tryz.isAgg161
 z39 := Tryz.sizeOf161
 v39 := Tryz.zeroValue161
 t45 := Tryz.underlying179
 a45 := Tryz.isAgg179
 z45 := Tryz.sizeOf179
 v45 := Tryz.zeroValue179
 t46 := Tryz.underlying180
 a46 := Tryz.isAgg180
 z46 := Tryz.sizeOf180
 v46 := Tryz.zeroValue180
 t50 := Tryz.underlying90
 a50 := Tryz.isAgg90
 z50 := Tryz.sizeOf90
 v50 := Tryz.zeroValue90
 t53 := Tryz.underlying186
 a53 := Tryz.isAgg186
 z53 := Tryz.sizeOf186
 v53 := Tryz.zeroValue186
 t55 := Tryz.underlying23
 a55 := Tryz.isAgg23
 z55 := Tryz.sizeOf23
 v55 := Tryz.zeroValue23
 t66 := Tryz.underlying197
 a66 := Tryz.isAgg197
 z66 := Tryz.sizeOf197
 v66 := Tryz.zeroValue197
 t70 := Tryz.underlying200
 a70 := Tryz.isAgg200
 z70 := Tryz.sizeOf200
 v70 := Tryz.zeroValue200
 t76 := Tryz.underlying209
 a76 := Tryz.isAgg209
 z76 := Tryz.sizeOf209
 v76 := Tryz.zeroValue209
 t77 := Tryz.underlying210
 a77 := Tryz.isAgg210
 z77 := Tryz.sizeOf210
 v77 := Tryz.zeroValue210 }
end Go.Proofs
namespace Go.Proofs.YtffoeodjbbkdjaaGreat
open Go.Shelf Go.RowKit Go.Lib Go.Sort
set_option maxRecDepth 100000 in
theorem nan_any (w : World) (a : Int) : Calls Tryz.prog 118 #[.int .u64 a] w fun e w' => e = .returned (.bool false) ∧ w' = w := by
 have g : (a != a) = false := by rw [bne_self_eq_false]
 go_enter Tryz.func118, Tryz.ntmps118
 go_wp2
 go_ret
 exact ⟨rfl, rfl⟩
set_option maxRecDepth 100000 in
theorem compare_any (w : World) (a b : Int) : Calls Tryz.prog 83 #[.int .u64 a, .int .u64 b] w fun e w' => e = .returned (.int .i64 (Lib.compareInt a b)) ∧ w' = w := by
 unfold Lib.compareInt
 by_cases h1 : a < b
 ·
  rw [if_pos h1]
  go_enter Tryz.func83, Tryz.ntmps83
  go_wp2_with (go_at_call 118; refine (nan_any _ _).mono ?_; rintro e w' ⟨rfl, rfl⟩)
  go_ret
  exact ⟨rfl, rfl⟩
 ·
  rw [if_neg h1]
  by_cases h2 : b < a
  ·
   rw [if_pos h2]
   go_enter Tryz.func83, Tryz.ntmps83
   go_wp2_with (go_at_call 118; refine (nan_any _ _).mono ?_; rintro e w' ⟨rfl, rfl⟩)
   go_ret
   exact ⟨rfl, rfl⟩
  ·
   rw [if_neg h2]
   go_enter Tryz.func83, Tryz.ntmps83
   go_wp2_with (go_at_call 118; refine (nan_any _ _).mono ?_; rintro e w' ⟨rfl, rfl⟩)
   go_ret
   exact ⟨rfl, rfl⟩
set_option maxRecDepth 100000 in
theorem closure_any (x y : Ro) (W : World) : Calls Tryz.prog 82 #[.agg x.cells.toArray, .agg y.cells.toArray] W fun e w' => e = .returned (.int .i64 (Lib.compareInt x.id y.id)) ∧ ∃ q os', w' = grow (W.drewN q) os' := by
 have hcon := fun W' => compare_any W' x.id y.id
 generalize Lib.compareInt x.id y.id = r at hcon ⊢
 unfold Ro.cells
 go_enter Tryz.func82, Tryz.ntmps82
 go_wp2_with (go_at_call 83; refine (hcon _).mono ?_; rintro e w' ⟨rfl, rfl⟩)
 go_ret
 exact ⟨rfl, 0, _, by rw [alloc_eq_grow, alloc_eq_grow, grow_grow]; rfl⟩
instance : Inhabited Ro := ⟨⟨0, 0, .zero⟩⟩
theorem cmpLays (blk off size : Nat) (w : World) : CmpLays Tryz.prog 82 #[] Ro.cells 8 (fun x y : Ro => Lib.compareInt x.id y.id) blk off size w :=
 fun _ _ _ _ x y => closure_any x y _
theorem lt_ids (x y : Ro) : ltOf (fun x y : Ro => Lib.compareInt x.id y.id) x y = decide (x.id < y.id) := by
 unfold ltOf Lib.compareInt
 by_cases h1 : x.id < y.id
 ·
  simp [h1]
 ·
  by_cases h2 : y.id < x.id <;> simp [h1, h2]
theorem swo_ids : SWO (ltOf fun x y : Ro => Lib.compareInt x.id y.id) where
 irrefl x := by rw [lt_ids]; simp
 trans x y z h1 h2 := by rw [lt_ids] at *; simp at *; omega
 ntrans x y z h1 h2 := by rw [lt_ids] at *; simp at *; omega
theorem perm_rising : ∀ {a b : List Ro}, a.Perm b → a.Pairwise (fun x y => x.id ≤ y.id) → b.Pairwise (fun x y => x.id < y.id) → a = b
 | [], b, h, _, _ => (List.nil_perm.1 h).symm
 | x :: a, [], h, _, _ => absurd h.length_eq (by simp)
 | x :: a, y :: b, h, ha, hb => by
  rw [List.pairwise_cons] at ha hb
  have hx : x ∈ y :: b := h.mem_iff.1 (List.mem_cons_self ..)
  have hy : y ∈ x :: a := h.mem_iff.2 (List.mem_cons_self ..)
  have e : x = y := by
   rcases List.mem_cons.1 hx with e | hx
   ·
    exact e
   ·
    rcases List.mem_cons.1 hy with e | hy
    ·
     exact e.symm
    ·
     have h1 := hb.1 x hx
     have h2 := ha.1 y hy
     omega
  subst e
  rw [perm_rising ((List.perm_cons x).1 h) ha.2 hb.2]
theorem agg_row (w : World) : (isAgg 115).run Tryz.prog w = .ok true w := by kernel_rfl
theorem size_row (w : World) : (Go.sizeOf 115).run Tryz.prog w = .ok 8 w := by kernel_rfl
theorem cells_one (x : Ro) : ∀ v ∈ x.cells, v.oneCell' = true := by
 intro v hv
 simp [Ro.cells] at hv
 rcases hv with rfl | rfl | rfl | rfl | rfl | rfl | rfl | rfl <;> rfl
theorem keep_sorted (w : World) (blk off n : Nat) (d' : Array Ro) (os : Array Obj) : Keep (fun i => i = blk) w (sortWorldK Ro.cells 8 w blk off n d' os) := by
 refine ⟨rfl, rfl, rfl, ?_, fun i hi hne => ?_⟩
 ·
  unfold sortWorldK
  rw [size_grow, size_putRowK]
  exact Nat.le_add_right _ _
 ·
  unfold sortWorldK
  rw [heap_grow_old _ _ (by rw [size_putRowK]; exact hi)]
  unfold putRowK putRow mapBlock
  simp only [Sort.ahead]
  rw [Array.getElem?_modify, if_neg (fun e => hne e.symm)]
set_option maxRecDepth 100000 in
set_option maxHeartbeats 1000000 in
theorem sort_any (w : World) (base g cap : Nat) (l L : List Ro) (h : w.ownsRow base 115 8 (.slice (some ⟨g, 0, none⟩) l.length cap) l.length (l.flatMap Ro.cells)) (hp : l.Perm L) (hL : L.Pairwise (fun x y => x.id < y.id)) (hf : l.length ≤ 16) :
  Calls Tryz.prog 81 #[.slice (some ⟨g, 0, none⟩) l.length cap, .func (.func 82) #[] #[]] w fun e w' =>
   e = .returned (.tuple #[]) ∧ Many Ro.cells 8 w' (fun i => i = g) (.slice (some ⟨g, 0, none⟩) l.length cap) L ∧ Keep (fun i => i = g) w w' := by
 have eg : ∀ args w, (callFunc 82 args).run Tryz.prog w = .ok (.enter 82 args) w := enters_of Tryz.func82 (by kernel_rfl) rfl
 obtain ⟨hxl, hown⟩ := h
 rcases hown with ⟨e, _⟩ | ⟨g', cap', cur, e, hbase, hg, hnc, hcm, hsz, htk⟩
 ·
  cases e
 ·
  obtain ⟨rfl, rfl⟩ : g = g' ∧ cap = cap' := by
   injection e with e1 e2 e3
   injection e1 with e1
   injection e1 with e1
   exact ⟨e1, e3⟩
  have hblk : g < w.heap.size := (Array.getElem?_eq_some_iff.1 hg).1
  have hds : l.toArray.size = l.length := by simp
  have hH : HoldsK Ro.cells 8 w g 0 l.toArray := by
   intro j hj
   rw [size_flatK, hds] at hj
   rw [get_flatK _ _ _ _ (by rw [hds]; exact hj)]
   have hk : j / 8 < l.length := by omega
   have ha := fm_at Ro.cells 8 (fun _ => rfl) (List.getElem?_eq_getElem hk) (j % 8) (Nat.mod_lt _ (by decide))
   rw [show j / 8 * 8 + j % 8 = j from by omega, ← htk, List.getElem?_take_of_lt (by omega), Array.getElem?_toList] at ha
   refine ⟨?_, (show Box w g 115 cur from hg).free _⟩
   rw [cell_of_row w g (0 + j) cur _ _ hg, Nat.zero_add, ha]
   have e1 : l.toArray[j / 8]! = l[j / 8] := by simp [hk]
   rw [e1]
   have hlt : j % 8 < (Ro.cells l[j / 8]).length := Nat.mod_lt _ (by decide)
   rw [List.getElem?_eq_getElem hlt, getElem!_pos (Ro.cells l[j / 8]) (j % 8) hlt]
   rfl
  have hcon := AnyQ.slices_SortFunc Tryz.sortRows 8 agg_row size_row Ro.cells (fun _ => rfl) cells_one (fun x y => Lib.compareInt x.id y.id) swo_ids 82 #[] g 0 cap l.toArray w eg (cmpLays g 0 l.toArray.size w) hH hblk (by rw [hds]; omega)
  rw [hds] at hcon
  refine Calls.mono hcon ?_
  rintro e w' ⟨rfl, d', n, os, hperm, hsorted, rfl⟩
  have hd' : d'.size = l.length := by rw [hperm.1, hds]
  have hH' : HoldsK Ro.cells 8 (sortWorldK Ro.cells 8 w g 0 n d' os) g 0 d' := SWK.holds ⟨n, os, rfl⟩ hblk hH hperm.1
  have hpl : d'.toList.Perm l := by
   have h3 := hperm.2.2
   have x1 : (d'.extract 0 l.length).toList = d'.toList := by rw [← hd']; simp
   have x2 : (l.toArray.extract 0 l.length).toList = l := by simp
   rw [x1, x2] at h3
   exact h3
  have hle : d'.toList.Pairwise (fun x y => x.id ≤ y.id) := by
   rw [List.pairwise_iff_getElem]
   intro i j hi hj hij
   simp only [Array.length_toList] at hi hj
   have := hsorted i j (Nat.zero_le _) hij (by omega)
   rw [lt_ids, getElem!_pos d' i (by omega), getElem!_pos d' j (by omega)] at this
   simp only [decide_eq_false_iff_not] at this
   simp only [Array.getElem_toList]
   omega
  have hdL : d'.toList = L := perm_rising (hpl.trans hp) hle hL
  have hlL : L.length = l.length := by rw [← hdL, Array.length_toList, hd']
  refine ⟨rfl, ⟨some ⟨g, 0, none⟩, cap, by rw [hlL], by omega, hcm, fun e => (by cases e), fm_length Ro.cells 8 (fun _ => rfl) L, fun h0 => ⟨⟨g, 0, none⟩, rfl, rfl, ?_, rfl, fun j x hj => ?_⟩⟩, keep_sorted ..⟩
  ·
   exact Nat.lt_of_lt_of_le hblk (keep_sorted w g 0 n d' os).size
  ·
   have hjl := (List.getElem?_eq_some_iff.1 hj).1
   rw [fm_length Ro.cells 8 (fun _ => rfl)] at hjl
   have hk : j / 8 < d'.size := by omega
   have hc := (HoldsK.cell hH' hk (Nat.mod_lt j (by decide : 0 < 8))).1
   have hLk : L[j / 8]? = some d'[j / 8] := by rw [← hdL, Array.getElem?_toList, Array.getElem?_eq_getElem hk]
   have ha := fm_at Ro.cells 8 (fun _ => rfl) hLk (j % 8) (Nat.mod_lt _ (by decide))
   rw [show j / 8 * 8 + j % 8 = j from by omega, hj] at ha
   rw [show 0 + j / 8 * 8 + j % 8 = 0 + j from by omega] at hc
   rw [hc, getElem!_pos d' _ hk, ha]
   have hlt : j % 8 < (Ro.cells d'[j / 8]).length := Nat.mod_lt _ (by decide)
   rw [List.getElem?_eq_getElem hlt, getElem!_pos (Ro.cells d'[j / 8]) (j % 8) hlt]
end Go.Proofs.YtffoeodjbbkdjaaGreat
namespace Go.Proofs.YtffoeodjbbkdjaaGreat
open Go.RowKit
theorem own_row {w : World} {base : Nat} {e : TypeId} {size : Nat} {v : Value} {n : Nat} {xs : List Value} (h : w.ownsRow base e size v n xs) {k : Nat} (hk : some k = v.ownBlock) : base ≤ k ∧ ∃ cs fz, w.heap[k]? = some (.cells cs e fz) := by
 rcases h.2 with ⟨rfl, _⟩ | ⟨g, cap, cur, rfl, hb, hg, _⟩
 ·
  cases hk
 ·
  have : k = g := by simpa [Value.ownBlock] using hk
  subst this
  exact ⟨hb, _, _, hg⟩
end Go.Proofs.YtffoeodjbbkdjaaGreat
namespace Go.Proofs.YtffoeodjbbkdjaaGreat
open Go.Shelf Go.RowKit Go.Maps
def metR (left : Lit → Bool) (l : List Ro) : List Ro := l.filter (fun r => !left (keyI r.id))
theorem met_start (l gs : List Ro) (h : ∀ r ∈ gs, r ∈ l) : metR (Maps.has (datum l)) gs = [] := by
 unfold metR
 rw [List.filter_eq_nil_iff]
 intro r hr
 rw [has_find]
 have : (findR l r.id).isSome = true := by
  unfold findR
  rw [List.find?_isSome]
  exact ⟨r, h r hr, by simp⟩
 rw [this]
 decide
theorem met_end {left : Lit → Bool} (h : ∀ kl, left kl = false) (l : List Ro) : metR left l = l := by
 unfold metR
 rw [List.filter_eq_self]
 intro r _
 rw [h]
 rfl
theorem met_step {left : Lit → Bool} {l : List Ro} {r : Ro} (hr : r ∈ l) (hp : l.Pairwise (fun a b => a.id < b.id)) (hl : left (keyI r.id) = true) :
  (metR (fun z => left z && !z.sameKey (keyI r.id)) l).Perm (metR left l ++ [r]) := by
 have hsame : ∀ gs : List Ro, (∀ g ∈ gs, g.id ≠ r.id) → metR (fun z => left z && !z.sameKey (keyI r.id)) gs = metR left gs := by
  intro gs hg
  unfold metR
  apply List.filter_congr
  intro g hgm
  show (!(left (keyI g.id) && !(keyI g.id).sameKey (keyI r.id))) = _
  rw [same_key, decide_eq_false (hg g hgm)]
  simp
 obtain ⟨l1, l2, rfl⟩ := List.append_of_mem hr
 rw [List.pairwise_append, List.pairwise_cons] at hp
 obtain ⟨_, ⟨h2, _⟩, h3⟩ := hp
 have e1 := hsame l1 (fun g hg e => by have := h3 g hg r (List.mem_cons_self ..); omega)
 have e2 := hsame l2 (fun g hg e => by have := h2 g hg; omega)
 have e3 : ∀ lf : Lit → Bool, metR lf (l1 ++ r :: l2) = metR lf l1 ++ (metR lf [r] ++ metR lf l2) := fun lf => by
  unfold metR
  rw [show l1 ++ r :: l2 = l1 ++ ([r] ++ l2) from rfl, List.filter_append, List.filter_append]
 rw [e3, e3, e1, e2]
 have e4 : metR (fun z => left z && !z.sameKey (keyI r.id)) [r] = [r] := by unfold metR; simp [same_key]
 have e5 : metR left [r] = [] := by unfold metR; simp [hl]
 rw [e4, e5, List.nil_append, List.append_assoc]
 exact (List.perm_append_comm).append_left _
theorem met_row {l : List Ro} {x : Int} {y : DT} (h : ∀ zd, (datum l).atKey (keyI x) zd = y) : ∃ r ∈ l, r.id = x ∧ y = lastD r.seq r.ans := by
 simp only [at_find] at h
 cases hq : findR l x with
 | none =>
  simp only [hq] at h
  have h1 := h .nil
  have h2 := h (.lit (.bool true))
  rw [← h1] at h2
  cases h2
 | some r =>
  simp only [hq] at h
  obtain ⟨hr, hx⟩ := findR_mem hq
  exact ⟨r, hr, hx, (h .nil).symm⟩
def zeroR : Value := .agg #[.int .u64 0, .int .u64 0, .int .i64 0, .int .u64 0, .int .u64 0, .int .u64 0, .string ⟨#[]⟩, .string ⟨#[]⟩]
theorem roinfo : (Tryz.prog.info? 115).map (fun i => (i.zero, i.size, i.bytes)) = some (some zeroR, 8, 80) := by kernel_rfl
structure RowSt (w : World) (m r : Nat) (l : List Ro) (left : Lit → Bool) (cnt : Nat) (pre : List Ro) (v : Value) (wr : World) : Prop where
 rg : wr.ranges Tryz.prog 23 lastElem m r l.length (datum l) left cnt
 own : wr.ownsRow w.heap.size 115 8 v pre.length (pre.flatMap Ro.cells)
 perm : pre.Perm (metR left l)
 keep : Keep noneOf w wr
 sm : ∃ g c, v = .slice (some ⟨g, 0, none⟩) pre.length c
theorem lits_iter {w : World} {m r n : Nat} {D : DT} {left : Lit → Bool} {cnt : Nat} (h : w.ranges Tryz.prog 23 lastElem m r n D left cnt) {base : Nat} {v : Value} {k : Nat} {xs : List Value} (ho : w.ownsRow base 115 8 v k xs) : some r ≠ v.ownBlock ∧ some m ≠ v.ownBlock := by
 obtain ⟨es, clock, since, seen, c0, hb, _, _, _, hr, _⟩ := h
 constructor
 ·
  intro e
  obtain ⟨_, cur, fz, hc⟩ := own_row ho e
  rw [hr] at hc
  cases hc
 ·
  intro e
  obtain ⟨_, cur, fz, hc⟩ := own_row ho e
  rw [hb] at hc
  cases hc
theorem RowSt.own4 {w wr w4 : World} {m r : Nat} {l pre : List Ro} {left : Lit → Bool} {cnt : Nat} {v : Value} (h : RowSt w m r l left cnt pre v wr) (hg4 : wr.grownBy w4 (some r)) (o1 o2 : Obj) : ((w4.alloc o1).alloc o2).ownsRow w.heap.size 115 8 v pre.length (pre.flatMap Ro.cells) := by
 have hne := (lits_iter h.rg h.own).1
 exact ((own_keep h.own (Keep.of_grown hg4) (fun j hj e => hne (by rw [hj, e]))).alloc o1).alloc o2
theorem RowSt.step {w wr w4 W' : World} {m r : Nat} {l pre : List Ro} {left : Lit → Bool} {cnt cnt' : Nat} {v v' : Value} (h : RowSt w m r l left cnt pre v wr) {ro : Ro} (hr : ro ∈ l) (hl : left (keyI ro.id) = true) (hp : l.Pairwise (fun a b => a.id < b.id))
  (hrg : w4.ranges Tryz.prog 23 lastElem m r l.length (datum l) (fun z => left z && !z.sameKey (keyI ro.id)) cnt') (hg4 : wr.grownBy w4 (some r)) {o1 o2 : Obj} (hg : ((w4.alloc o1).alloc o2).grownBy W' v.ownBlock) (hm : w.heap.size ≤ r)
  (hown : W'.ownsRow w.heap.size 115 8 v' (pre.length + 1) (pre.flatMap Ro.cells ++ ro.cells)) : RowSt w m r l (fun z => left z && !z.sameKey (keyI ro.id)) cnt' (pre ++ [ro]) v' W' := by
 have hne := lits_iter h.rg h.own
 have o4 := h.own4 hg4 o1 o2
 refine ⟨((hrg.alloc o1).alloc o2).kept hg hne.2 hne.1, ?_, ?_, ?_, ?_⟩
 ·
  rw [List.length_append, List.flatMap_append]
  simpa using hown
 ·
  exact (h.perm.append_right [ro]).trans (met_step hr hp hl).symm
 ·
  have k4 : Keep noneOf w w4 := h.keep.trans (Keep.of_grown hg4) (fun i hi e => by injection e with e; omega)
  refine ((k4.alloc o1).alloc o2).trans (Keep.of_grown hg) (fun i hi e => ?_)
  have := (own_row o4 e).1
  omega
 ·
  obtain ⟨g, c, e⟩ := ownsRow_succ hown
  exact ⟨g, c, by rw [e, List.length_append]; rfl⟩
theorem row_news (w : World) (ro : Ro) : ∀ (j : Nat) (u : Value), ro.cells[j]? = some u → (w.alloc (.cells #[.int .u64 ro.id, .int .u64 ro.seq, .int .i64 ro.ans.code, .int .u64 ro.ans.id, .int .u64 ro.ans.tok, .int .u64 ro.ans.unt, .string ro.ans.tgt, .string ro.ans.cmd] 115)).cell? ((⟨w.heap.size, 0, none⟩ : Addr).add j) = some u := by
 intro j u hj
 rw [add_at _ rfl, Nat.zero_add]
 rw [(Box.new w 115 _).cell j]
 show ro.cells.toArray[j]? = some u
 rw [List.getElem?_toArray]
 exact hj
set_option maxRecDepth 100000 in
set_option maxHeartbeats 2000000 in
theorem rows_any (w : World) (p m : Nat) (l : List Ro) (h : TabAt w p m l) (hf : l.length ≤ 16) : Calls Tryz.prog 43 #[.pointer (some ⟨p, 0, none⟩)] w fun e w' =>
  ∃ v, e = .returned v ∧ Many Ro.cells 8 w' (fun i => w.heap.size ≤ i) v l ∧ Keep noneOf w w' := by
 obtain ⟨i1, hi1, hz1, hs1, hb1⟩ := info_parts roinfo
 have HL := Lib.hid (len_any w p m l h)
 have HRI := Lib.hid h.rising
 have HF := Lib.hid hf
 obtain ⟨w2, hmk, hown2, hg2⟩ := run_make_own (P := Tryz.prog) w w.heap.size 26 115 i1 zeroR 8 Tryz.underlying26 hi1 hz1 hs1 .i64 .i64 l.length (by rw [hb1]; omega) (by unfold maxLen; omega) (Nat.le_refl _)
 have kk2 : Keep noneOf w w2 := (Keep.of_grown hg2).mono (fun _ _ h => by cases h)
 have hT2 := h.stay kk2
 have c0 : w2.cell? ⟨p, 0, none⟩ = some (.map (some m)) := hT2.box.cell 0
 have hmap := hT2.map
 have HO2 := Lib.hid hown2
 have HK2 := Lib.hid kk2
 have hp2 := hT2.lt.1
 clear h hown2 hg2 kk2 hT2
 go_enter Tryz.func43, Tryz.ntmps43
 go_wp2_with fail
 refine HL.out.mono ?_
 rintro e w1 ⟨rfl, rfl⟩
 go_wp2_with (first
  | (at_range; refine wpList_range_own _ rfl _ 107 rfl 23 134 law Tryz.underlying107 _ m _ _ rfl hmap ?_; intro w3 hrg3 hg3 hs3)
  | fail)
 have HST : Hid (RowSt w1 m w2.heap.size l (Maps.has (datum l)) (Maps.size (datum l)) [] (.slice (some ⟨w1.heap.size, 0, none⟩) 0 l.length) w3) := Lib.hid ⟨hrg3, own_keep HO2.out (Keep.of_grown hg3) (fun _ _ e => by cases e), by rw [met_start l l (fun _ h => h)], HK2.out.trans (Keep.of_grown hg3) (fun _ _ e => by cases e), ⟨_, _, rfl⟩⟩
 have HR : Hid (w1.heap.size ≤ w2.heap.size) := Lib.hid HK2.out.size
 clear hrg3 hg3 hs3 hmap hmk c0 hp2 HO2 HK2 HL
 generalize w2.heap.size = r at *
 go_frame
 go_loopw [3] (fun v wr => ∃ (left : Lit → Bool) (cnt : Nat) (pre : List Ro), RowSt w1 m r l left cnt pre v wr)
  (fun _ wr => wr.rangeLeft m r)
 case atStart => exact ⟨_, _, _, HST.out⟩
 case round =>
  obtain ⟨left, cnt, pre, hst⟩ := hrel
  have hrg := hst.rg
  obtain ⟨vg, vc, rfl⟩ := hst.sm
  have HS := Lib.hid hst
  have hpl : pre.length ≤ 16 := by
   have h1 := hst.perm.length_eq
   have h2 : (metR left l).length ≤ l.length := List.length_filter_le _ _
   have := HF.out
   omega
  clear hst HST
  go_wp2_with (first
   | (at_next; refine wpList_next_ranges _ rfl _ rfl 23 law lastElem (Value.int .u64) (fun y : Int × An => lastV y.1 y.2) (fun key kl hk => by obtain ⟨x, hx, _⟩ := Maps.keyOf_int_inv Tryz.underlying23 hk; exact ⟨x, hx⟩) (fun v y hv => by obtain ⟨s, a, e, _⟩ := lastElem_inv hv; exact ⟨(s, a), e⟩) m r l.length _ _ _ rfl hrg ?_ ?_)
   | fail)
  ·
   intro hc0 hl0
   have HSO := Lib.hid (sort_any wr w1.heap.size vg vc pre l HS.out.own (by have := HS.out.perm; rwa [met_end hl0] at this) HRI.out hpl)
   have HB : Hid (w1.heap.size ≤ vg) := Lib.hid ((own_row HS.out.own rfl).1)
   have HKK := Lib.hid HS.out.keep
   clear hl0 hc0 hrg HS
   go_wp2_with fail
   refine HSO.out.mono ?_
   rintro e w5 ⟨rfl, hm5, k5⟩
   have H5 := Lib.hid hm5
   have K5 := Lib.hid (HKK.out.newer k5 HB.out)
   clear hm5 k5 HSO
   go_wp2
   go_ret
   exact ⟨_, rfl, H5.out.mono (fun i _ e => by have := HB.out; omega), K5.out⟩
  ·
   intro x sq a kl yd yp w4 cnt2 hkey hlk hv hat hrg2 hlt hg2 hs2 hen
   obtain ⟨x', ex, hkl, _⟩ := Maps.keyOf_int_inv Tryz.underlying23 hkey
   obtain rfl : x = x' := by injection ex
   subst hkl
   obtain ⟨ro, hro, hid, hy⟩ := met_row hat
   obtain ⟨s', a', e1, e2⟩ := lastElem_inv hv
   rw [hy] at e2
   obtain ⟨rfl, rfl⟩ := lastD_inj (Prod.mk.inj e2).1
   have e3 := lastElem_mk sq a
   rw [e1] at e3
   have e4 := (Prod.mk.inj (Option.some.inj ((lastElem_mk ro.seq ro.ans).symm.trans e3))).1
   obtain ⟨rfl, rfl⟩ := lastD_inj e4
   subst hid
   have HSTEP := Lib.hid (fun o1 o2 W' v' hg hown => HS.out.step hro hlk HRI.out hrg2 hg2 (o1 := o1) (o2 := o2) (W' := W') (v' := v') hg HR.out hown)
   have HOW := Lib.hid (fun o1 o2 => HS.out.own4 hg2 o1 o2)
   have HNEW := Lib.hid (fun W => row_news W ro)
   have HL := Lib.hid (And.intro hrg hrg2)
   have HLT := Lib.hid hlt
   have HSZ : Hid (∀ o1 o2, w1.heap.size ≤ ((w4.alloc o1).alloc o2).heap.size) := Lib.hid fun o1 o2 => by have := HS.out.keep.size; simp; omega
   obtain ⟨rid, rseq, ⟨ac, ai, at_, au, ag, am⟩⟩ := ro
   unfold lastV at *
   dsimp only at *
   clear hro hlk hrg2 hg2 hrg hat hv hkey hy e1 e2 e3 e4 hlt hs2 HS
   go_wp2_with (first
    | (at_builtin; refine wpList_append_own _ rfl _ _ 26 rfl w1.heap.size 115 i1 _ 8 80 Tryz.underlying26 hi1 hz1 hs1 hb1 rfl (by decide) _ _ _ rfl (HOW.out _ _) ⟨w4.heap.size + 1, 0, none⟩ 1 1 [.int .u64 rid, .int .u64 rseq, .int .i64 ac, .int .u64 ai, .int .u64 at_, .int .u64 au, .string ag, .string am] rfl rfl (by have := HNEW.out (w4.alloc (.cells #[.int .u64 rseq, .int .i64 ac, .int .u64 ai, .int .u64 at_, .int .u64 au, .string ag, .string am] 134)); rw [World.size_alloc] at this; exact this) (by simp [Value.oneCell']) (by unfold maxLen; omega) (by omega) (HSZ.out _ _) ?_; intro v' w6 hown' hgrow _; have HS6 := Lib.hid (HSTEP.out _ _ w6 v' hgrow hown'); clear hown' hgrow)
    | go_in)
   go_roundw
   case rel => exact ⟨_, cnt2, _, HS6.out⟩
   case measure => rw [HS6.out.rg.left_eq, HL.out.1.left_eq]; exact HLT.out
end Go.Proofs.YtffoeodjbbkdjaaGreat
