import Derived.Deep.RegionLaw
import Derived.Lib.SliceRun
import Derived.Test.YtffoeodjbbkdjaaGreatBs01
import Derived.Test.YtffoeodjbbkdjaaGreatBs23
import Derived.Test.YtffoeodjbbkdjaaGreatBs27
namespace Go.Proofs.YtffoeodjbbkdjaaGreat
open Go.RowKit Go.Lib
theorem box_cells {g : Nat} {e : TypeId} : ∀ (vs : List Value) (o : Nat) (w : World) (cur : Array Value), Box w g e cur → ∃ cur', Box (w.setCells g o vs) g e cur' ∧ cur'.size = cur.size ∧ ∀ j, cur'[j]? = if o ≤ j ∧ j < o + vs.length ∧ j < cur.size then vs[j - o]? else cur[j]?
 | [], o, w, cur, h => ⟨cur, h, rfl, fun j => by rw [if_neg (by simp; omega)]⟩
 | v :: vs, o, w, cur, h => by
  obtain ⟨cur', h1, h2, h3⟩ := box_cells vs (o + 1) _ _ (h.put o v)
  refine ⟨cur', h1, by rw [h2, Array.size_setIfInBounds], fun j => ?_⟩
  rw [h3 j, Array.size_setIfInBounds, List.length_cons]
  by_cases ho : j = o
  ·
   subst ho
   rw [if_neg (by omega)]
   by_cases hs : j < cur.size
   ·
    rw [if_pos ⟨Nat.le_refl _, by omega, hs⟩, Nat.sub_self, Array.getElem?_setIfInBounds, if_pos rfl, if_pos hs]
    rfl
   ·
    rw [if_neg (by omega), Array.getElem?_eq_none (by rw [Array.size_setIfInBounds]; omega), Array.getElem?_eq_none (by omega)]
  ·
   have hset : (cur.setIfInBounds o v)[j]? = cur[j]? := by rw [Array.getElem?_setIfInBounds, if_neg (fun e => ho e.symm)]
   rw [hset]
   by_cases hj : o + 1 ≤ j ∧ j < o + 1 + vs.length ∧ j < cur.size
   ·
    rw [if_pos hj, if_pos (by omega)]
    obtain ⟨m, hm⟩ : ∃ m, j - o = m + 1 := ⟨j - o - 1, by omega⟩
    rw [hm, List.getElem?_cons_succ]
    congr 1
    omega
   ·
    rw [if_neg hj, if_neg (by omega)]
theorem keep_cells (g : Nat) : ∀ (vs : List Value) (o : Nat) (w : World), Keep (fun i => i = g) w (w.setCells g o vs)
 | [], _, w => Keep.refl _ w
 | v :: vs, o, w => ((Keep.refl (fun i => i = g) w).setCell (p := ⟨g, o, none⟩) (fun _ => rfl) v).trans (keep_cells g vs (o + 1) _) (fun _ _ e => e)
section
variable {α : Type} {ec : α → List Value} {k : Nat}
theorem own_delete (hk : ∀ x, (ec x).length = k) {w : World} {base g cap : Nat} {e : TypeId} {l : List α} (h : w.ownsRow base e k (.slice (some ⟨g, 0, none⟩) l.length cap) l.length (l.flatMap ec)) {i : Nat} (hi : i < l.length) (zs : List Value) (_ : zs.length = k) :
  ((w.setCells g (i * k) ((l.drop (i + 1)).flatMap ec)).setCells g ((l.length - 1) * k) zs).ownsRow base e k (.slice (some ⟨g, 0, none⟩) (l.eraseIdx i).length cap) (l.eraseIdx i).length ((l.eraseIdx i).flatMap ec) := by
 obtain ⟨hl, h⟩ := h
 rcases h with ⟨e1, _⟩ | ⟨g', cap', cur, e1, hb, hg, hle, hmx, hsz, htk⟩
 ·
  cases e1
 ·
  obtain ⟨rfl, rfl⟩ : g = g' ∧ cap = cap' := by simpa using e1
  obtain ⟨c1, b1, s1, a1⟩ := box_cells (g := g) (e := e) ((l.drop (i + 1)).flatMap ec) (i * k) w cur hg
  obtain ⟨c2, b2, s2, a2⟩ := box_cells (g := g) (e := e) zs ((l.length - 1) * k) _ c1 b1
  have hel : (l.eraseIdx i).length = l.length - 1 := by rw [List.length_eraseIdx, if_pos hi]
  have hcs : l.length * k ≤ cur.size := by rw [hsz]; exact Nat.mul_le_mul_right _ hle
  have hn : (l.length - 1) * k + k = l.length * k := by
   rw [← Nat.succ_mul]
   congr 1
   omega
  have hdl : ((l.drop (i + 1)).flatMap ec).length = (l.length - 1 - i) * k := by
   rw [fm_length ec k hk, List.length_drop]
   congr 1
   omega
  have hik : i * k + (l.length - 1 - i) * k = (l.length - 1) * k := by
   rw [← Nat.add_mul]
   congr 1
   omega
  refine ⟨fm_length ec k hk _, .inr ⟨g, cap, c2, rfl, hb, b2, by omega, hmx, by rw [s2, s1]; exact hsz, ?_⟩⟩
  refine List.ext_getElem? fun j => ?_
  rw [List.getElem?_take, hel]
  have hfe : (l.eraseIdx i).flatMap ec = (l.take i).flatMap ec ++ (l.drop (i + 1)).flatMap ec := by rw [List.eraseIdx_eq_take_drop_succ, List.flatMap_append]
  have htl : ((l.take i).flatMap ec).length = i * k := by rw [fm_length ec k hk, List.length_take, Nat.min_eq_left (by omega)]
  rw [hfe]
  by_cases hj : j < (l.length - 1) * k
  ·
   rw [if_pos hj, Array.getElem?_toList, a2, if_neg (by omega), a1]
   by_cases hji : j < i * k
   ·
    rw [if_neg (by omega), List.getElem?_append_left (by omega)]
    have h1 : (cur.toList.take (l.length * k))[j]? = cur[j]? := by rw [List.getElem?_take, if_pos (by omega), Array.getElem?_toList]
    rw [← h1, htk]
    conv => lhs; rw [← List.take_append_drop i l, List.flatMap_append]
    rw [List.getElem?_append_left (by omega)]
   ·
    rw [if_pos (by omega), List.getElem?_append_right (by omega), htl]
  ·
   rw [if_neg hj, List.getElem?_eq_none (by rw [List.length_append, htl, hdl]; omega)]
end
theorem run_clear_one (w : World) (t e ty : TypeId) (z : Value) (ht : Tryz.prog.underlying t = some (.slice e)) (hv : ∀ w, (zeroValue e).run Tryz.prog w = .ok z w) (h1 : ∀ u ∈ z.cells.toList, u.oneCell' = true) (b o c : Nat)
  (hc : ∀ j, j < z.cells.toList.length → (w.cell? ⟨b, o + j, none⟩).isSome = true) (hf : ∀ j, j < z.cells.toList.length → w.frozen? ⟨b, o + j, none⟩ = false) :
  (Builtin.clear_ #[t] ty #[.slice (some ⟨b, o, none⟩) 1 c]).run Tryz.prog w = .ok (.tuple #[]) (w.setCells b o z.cells.toList) := by
 have hzc : (Builtin.zeroCells z.cells 1).toList = z.cells.toList := by
  simp [Builtin.zeroCells]
  apply List.ext_getElem
  ·
   simp
  ·
   intro i h1 h2
   simp at h1 h2 ⊢
   rw [Nat.mod_eq_of_lt h2, getElem!_pos z.cells i h2]
 have hst := run_storeCells_cells (P := Tryz.prog) b o z.cells.toList 0 w (by simpa using hc) (by simpa using hf) h1
 simp only [Nat.add_zero] at hst
 simp [Builtin.clear_, run_underlying ht, hv, hzc, hst]
def Struck {α : Type} (ec : α → List Value) (k : Nat) (e : TypeId) (l : List α) (i g cap : Nat) (w : World) (x : Ending) (w' : World) : Prop :=
 x = .returned (.slice (some ⟨g, 0, none⟩) (l.eraseIdx i).length cap) ∧ w'.ownsRow 0 e k (.slice (some ⟨g, 0, none⟩) (l.eraseIdx i).length cap) (l.eraseIdx i).length ((l.eraseIdx i).flatMap ec) ∧ Keep (fun b => b = g) w w'
theorem zeroG (w : World) : (zeroValue 59).run Tryz.prog w = .ok (.agg #[.int .u64 0, .slice none 0 0, .slice none 0 0]) w := by kernel_rfl
set_option maxRecDepth 100000 in
set_option maxHeartbeats 4000000 in
set_option linter.unusedSimpArgs false in
theorem deleteG_any (w : World) (g0 cap i : Nat) (l : List Gm) (h : OwnG w (.slice (some ⟨g0, 0, none⟩) l.length cap) l) (hi : i < l.length) (hv : ∀ g ∈ l, g.gv.oneCell' = true ∧ g.sv.oneCell' = true) :
  Calls Tryz.prog 110 #[.slice (some ⟨g0, 0, none⟩) l.length cap, .int .i64 i, .int .i64 ((i : Int) + 1)] w (Struck Gm.cells 3 59 l i g0 cap w) := by
 obtain ⟨hcl, hcm⟩ : l.length ≤ cap ∧ cap ≤ maxLen := by
  rcases h.2 with ⟨e, _⟩ | ⟨g, c, cur, e, _, _, h1, h2, _⟩
  ·
   cases e
  ·
   obtain ⟨_, rfl⟩ : g0 = g ∧ cap = c := by simpa using e
   exact ⟨h1, h2⟩
 unfold maxLen at hcm
 have HH := Lib.hid h
 have HI := Lib.hid hi
 have i0 : (0 : Int) ≤ (i : Int) := by omega
 have i1 : (i : Int) + 1 ≤ (l.length : Int) := by omega
 have i2 : (l.length : Int) ≤ (cap : Int) := by omega
 have i3 : ((i : Int) == (i : Int) + 1) = false := by rw [beq_eq_false_iff_ne]; omega
 have i4 : i ≤ cap := by omega
 have i5 : i + 1 ≤ cap := by omega
 have i6 : (0 : Int) ≤ (i : Int) + 1 := by omega
 have hcat : ∀ (j : Nat) (u : Value), ((l.drop (i + 1)).flatMap Gm.cells)[j]? = some u → w.cell? ⟨g0, (i + 1) * 3 + j, none⟩ = some u := fun j u hu => by
  have hjl := (List.getElem?_eq_some_iff.1 hu).1
  rw [fm_length Gm.cells 3 (fun _ => rfl), List.length_drop] at hjl
  have hd : i + 1 + j / 3 < l.length := by have := Nat.div_lt_iff_lt_mul (k := 3) (x := j) (y := l.length - (i + 1)) (by decide); omega
  have hx : l[i + 1 + j / 3]? = some l[i + 1 + j / 3] := List.getElem?_eq_getElem hd
  have h1 := (own_at (ec := Gm.cells) (fun _ => rfl) h hx (j := j % 3) (Nat.mod_lt _ (by decide))).1
  have hy : (l.drop (i + 1))[j / 3]? = some l[i + 1 + j / 3] := by rw [List.getElem?_drop]; exact hx
  have h2 := fm_at Gm.cells 3 (fun _ => rfl) hy (j % 3) (Nat.mod_lt _ (by decide))
  rw [show j / 3 * 3 + j % 3 = j by omega, hu] at h2
  rw [show (i + 1 + j / 3) * 3 + j % 3 = (i + 1) * 3 + j by omega, ← h2] at h1
  exact h1
 obtain ⟨AD, hAD, hsrc⟩ : ∃ AD : Addr, (if cap = i + 1 then (some ⟨g0, 0, none⟩ : Option Addr) else some ⟨g0, (i + 1) * 3, none⟩) = some AD ∧ Hid (∀ (j : Nat) (u : Value), ((l.drop (i + 1)).flatMap Gm.cells)[j]? = some u → w.drew.cell? (AD.add j) = some u) := by
  by_cases hc : cap = i + 1
  ·
   refine ⟨⟨g0, 0, none⟩, by rw [if_pos hc], fun j u hu => ?_⟩
   rw [List.drop_eq_nil_of_le (by omega)] at hu
   simp at hu
  ·
   refine ⟨⟨g0, (i + 1) * 3, none⟩, by rw [if_neg hc], fun j u hu => ?_⟩
   rw [add_at _ rfl]
   exact hcat j u hu
 have hspare : Hid (∀ j, j < ((l.drop (i + 1)).flatMap Gm.cells).length → (w.drew.cell? ⟨g0, 0 + i * 3 + j, none⟩).isSome = true ∧ w.drew.frozen? ⟨g0, 0 + i * 3 + j, none⟩ = false) := Lib.hid fun j hj => by
  rw [fm_length Gm.cells 3 (fun _ => rfl), List.length_drop] at hj
  have hd : i + j / 3 < l.length := by have := Nat.div_lt_iff_lt_mul (k := 3) (x := j) (y := l.length - (i + 1)) (by decide); omega
  have hx : l[i + j / 3]? = some l[i + j / 3] := List.getElem?_eq_getElem hd
  have h1 := own_at (ec := Gm.cells) (fun _ => rfl) h hx (j := j % 3) (Nat.mod_lt _ (by decide))
  rw [show (i + j / 3) * 3 + j % 3 = 0 + i * 3 + j by omega] at h1
  refine ⟨?_, h1.2⟩
  show (w.cell? _).isSome = true
  rw [h1.1, List.getElem?_eq_getElem (by exact Nat.mod_lt _ (by decide))]
  rfl
 have hone : Hid (∀ u ∈ (l.drop (i + 1)).flatMap Gm.cells, u.oneCell' = true) := Lib.hid fun u hu => by
  obtain ⟨g, hgm, hg⟩ := List.mem_flatMap.1 hu
  obtain ⟨v1, v2⟩ := hv g (List.mem_of_mem_drop hgm)
  simp [Gm.cells] at hg
  rcases hg with rfl | rfl | rfl
  ·
   rfl
  ·
   exact v1
  ·
   exact v2
 have hnl : Hid (((l.drop (i + 1)).flatMap Gm.cells).length = (l.length - (i + 1)) * 3) := Lib.hid (by rw [fm_length Gm.cells 3 (fun _ => rfl), List.length_drop])
 obtain ⟨ti, hti, _, htz, _⟩ := info_parts (elems_gr.info)
 obtain ⟨m, hm⟩ : ∃ m, l.length = m + 1 := ⟨l.length - 1, by omega⟩
 have HM := Lib.hid hm
 have HW : Hid (∀ W1, W1 = w.drew.setCells g0 (i * 3) ((l.drop (i + 1)).flatMap Gm.cells) → (∀ ty, (Builtin.clear_ #[27] ty #[.slice (some ⟨g0, m * 3, none⟩) 1 (cap - m)]).run Tryz.prog W1 = .ok (.tuple #[]) (W1.setCells g0 (m * 3) [.int .u64 0, .slice none 0 0, .slice none 0 0])) ∧
   Struck Gm.cells 3 59 l i g0 cap w (.returned (.slice (some ⟨g0, 0, none⟩) m cap)) (W1.setCells g0 (m * 3) [.int .u64 0, .slice none 0 0, .slice none 0 0])) := Lib.hid fun W1 hW1 => by
  have h' : OwnG w.drew (.slice (some ⟨g0, 0, none⟩) l.length cap) l := h
  have hdel := own_delete (ec := Gm.cells) (fun _ => rfl) h' HI.out [.int .u64 0, .slice none 0 0, .slice none 0 0] rfl
  have hlast : l[m]? = some l[m] := List.getElem?_eq_getElem (by omega)
  rw [← hW1, show l.length - 1 = m by omega] at hdel
  refine ⟨fun ty => ?_, by rw [List.length_eraseIdx, if_pos HI.out, show l.length - 1 = m by omega], hdel, ?_⟩
  ·
   refine run_clear_one W1 _ _ ty _ Tryz.underlying27 zeroG (fun u hu => by
    have hu' : u = .int .u64 0 ∨ u = .slice none 0 0 ∨ u = .slice none 0 0 := by simpa [Value.cells] using hu
    rcases hu' with rfl | rfl | rfl <;> rfl) g0 (m * 3) (cap - m) (fun j hj => ?_) (fun j hj => ?_)
   ·
    have hj3 : j < 3 := by simpa [Value.cells] using hj
    rw [hW1]
    have := (own_at (ec := Gm.cells) (fun _ => rfl) h' hlast hj3).1
    exact isSome_setCells g0 _ _ _ _ (by rw [this, List.getElem?_eq_getElem (by exact hj3)]; rfl)
   ·
    have hj3 : j < 3 := by simpa [Value.cells] using hj
    rw [hW1, World.frozen?_setCells]
    exact (own_at (ec := Gm.cells) (fun _ => rfl) h' hlast hj3).2
  ·
   rw [hW1]
   exact ((Keep.refl (fun b => b = g0) w).drew.trans (keep_cells g0 _ _ _) (fun _ _ e => e)).trans (keep_cells g0 _ _ _) (fun _ _ e => e)
 clear h hcat
 rw [hm] at i1 i2 ⊢
 have hnl' : Hid (((l.drop (i + 1)).flatMap Gm.cells).length = (m + 1 - (i + 1)) * 3) := Lib.hid (by rw [hnl.out, hm])
 clear hm
 have him : i ≤ m := by have := HM.out; have := HI.out; omega
 have him2 : m + 1 ≤ cap := by omega
 go_enter Tryz.func110, Tryz.ntmps110
 go_wp2_with fail
 have MC : Hid (∀ w', Keep (fun b => b = g0) w w' → True ∧ True) := Lib.hid fun _ _ => ⟨trivial, trivial⟩
 have KS := Keep.refl (fun b => b = g0) w
 refine wp_region_held_drew (S := fun w' => Keep (fun b => b = g0) w w') (by kernel_rfl) (KS.drew) (fun hHeld => ?_)
 refine' ztk 0 _ rfl (.inl ⟨by kernel_rfl, ?hy0⟩) ?_
 case hy0 => intro w' hSw; obtain ⟨_, _⟩ := MC.out w' hSw; go_simp; try with_reducible rfl
 simp only [Act.put, zga, zgb, zgc, zgd, zge, zgf]
 refine' ztk 1 _ rfl (.inl ⟨by kernel_rfl, ?hy1⟩) ?_
 case hy1 => intro w' hSw; obtain ⟨_, _⟩ := MC.out w' hSw; go_simp; try with_reducible rfl
 simp only [Act.put, zga, zgb, zgc, zgd, zge, zgf]
 refine' ztk 2 _ rfl (.inl ⟨by kernel_rfl, ?hy2⟩) ?_
 case hy2 => intro w' hSw; obtain ⟨_, _⟩ := MC.out w' hSw; go_simp; try with_reducible rfl
 simp only [Act.put, zga, zgb, zgc, zgd, zge, zgf]
 refine' ztk 3 _ rfl (.inl ⟨by kernel_rfl, ?hy3⟩) ?_
 case hy3 => intro w' hSw; obtain ⟨_, _⟩ := MC.out w' hSw; go_simp; try with_reducible rfl
 simp only [Act.put, zga, zgb, zgc, zgd, zge, zgf]
 refine' ztk 4 _ rfl (.inl ⟨by kernel_rfl, ?hy4⟩) ?_
 case hy4 => intro w' hSw; obtain ⟨_, _⟩ := MC.out w' hSw; go_simp; try with_reducible rfl
 simp only [Act.put, zga, zgb, zgc, zgd, zge, zgf]
 refine' ztk 5 _ rfl (.inl ⟨by kernel_rfl, ?hy5⟩) ?_
 case hy5 => intro w' hSw; obtain ⟨_, _⟩ := MC.out w' hSw; go_simp; try with_reducible rfl
 simp only [Act.put, zga, zgb, zgc, zgd, zge, zgf]
 refine wpAnyH_ready (rs := [6]) (by kernel_rfl) (by simp) (AllReadyH.cons rfl (fun K hK => ?_) AllReadyH.nil)
 refine step_append_room rfl (.tmp 22) (.tmp 25) 27 rfl 59 ti 3 Tryz.underlying27 hti htz g0 0 i cap (by simp [Act.eval, Act.put]) AD (m + 1 - (i + 1)) (cap - (i + 1)) _ (by simp [Act.eval, Act.put]) hnl'.out hsrc.out hone.out (by omega) hspare.out ?_
 rw [show i + (m + 1 - (i + 1)) = m by omega, Nat.zero_add]
 refine hK.out _ _ (KS.drew.trans (keep_cells g0 _ _ _) (fun _ _ e => e)) (fun hHeld => ?_)
 clear hK K
 try simp only [Act.put, zga, zgb, zgc, zgd, zge, zgf]
 refine wpAnyH_ready (rs := [7]) (by kernel_rfl) (by simp) (AllReadyH.cons rfl (fun K hK => ?_) AllReadyH.nil)
 go_simp
 refine hK.out _ _ ((KS.drew.trans (keep_cells g0 _ _ _) (fun _ _ e => e))) (fun hHeld => ?_)
 clear hK K
 try simp only [Act.put, zga, zgb, zgc, zgd, zge, zgf]
 refine wpAnyH_done (by kernel_rfl) ?_ _
 obtain ⟨W1, hW1⟩ : ∃ W1, W1 = w.drew.setCells g0 (i * 3) ((l.drop (i + 1)).flatMap Gm.cells) := ⟨_, rfl⟩
 obtain ⟨hcl, hend⟩ := HW.out W1 hW1
 have HE := Lib.hid hend
 rw [← hW1]
 clear hW1 hend KS MC hAD
 go_wp2
 go_ret
 exact HE.out
def kc (k : Nat) : List Value := [kv k]
theorem map_kc (l : List Nat) : l.map kv = l.flatMap kc := by
 induction l with
 | nil => rfl
 | cons a l ih => rw [List.map_cons, List.flatMap_cons, ih]; rfl
theorem ownK_kc {w : World} {v : Value} {l : List Nat} : OwnK w v l ↔ w.ownsRow 0 23 1 v l.length (l.flatMap kc) := by unfold OwnK; rw [map_kc]
theorem zeroK (w : World) : (zeroValue 23).run Tryz.prog w = .ok (.int .u64 0) w := by kernel_rfl
set_option maxRecDepth 100000 in
set_option maxHeartbeats 4000000 in
set_option linter.unusedSimpArgs false in
theorem deleteK_any (w : World) (g0 cap : Nat) (l : List Nat) (h : OwnK w (.slice (some ⟨g0, 0, none⟩) l.length cap) l) (hi : 2 ≤ l.length) :
  Calls Tryz.prog 137 #[.slice (some ⟨g0, 0, none⟩) l.length cap, .int .i64 0, .int .i64 1] w (Struck kc 1 23 l 0 g0 cap w) := by
 rw [ownK_kc] at h
 obtain ⟨hcl, hcm⟩ : l.length ≤ cap ∧ cap ≤ maxLen := by
  rcases h.2 with ⟨e, _⟩ | ⟨g, c, cur, e, _, _, h1, h2, _⟩
  ·
   cases e
  ·
   obtain ⟨_, rfl⟩ : g0 = g ∧ cap = c := by simpa using e
   exact ⟨h1, h2⟩
 unfold maxLen at hcm
 have HI := Lib.hid hi
 have i1 : (1 : Int) ≤ (l.length : Int) := by omega
 have i2 : (l.length : Int) ≤ (cap : Int) := by omega
 have i5 : ¬ cap = 1 := by omega
 have hsrc : Hid (∀ (j : Nat) (u : Value), ((l.drop 1).flatMap kc)[j]? = some u → w.drew.cell? ((⟨g0, 1, none⟩ : Addr).add j) = some u) := Lib.hid fun j u hu => by
  rw [add_at _ rfl]
  have hjl := (List.getElem?_eq_some_iff.1 hu).1
  rw [fm_length kc 1 (fun _ => rfl), List.length_drop] at hjl
  have hx : l[1 + j]? = some l[1 + j] := List.getElem?_eq_getElem (by omega)
  have h1 := (own_at (ec := kc) (fun _ => rfl) h hx (j := 0) (by decide)).1
  have hy : (l.drop 1)[j]? = some l[1 + j] := by rw [List.getElem?_drop]; exact hx
  have h2 := fm_at kc 1 (fun _ => rfl) hy 0 (by decide)
  rw [show j * 1 + 0 = j by omega, hu] at h2
  rw [show (1 + j) * 1 + 0 = 1 + j by omega, ← h2] at h1
  exact h1
 have hspare : Hid (∀ j, j < ((l.drop 1).flatMap kc).length → (w.drew.cell? ⟨g0, 0 + 0 * 1 + j, none⟩).isSome = true ∧ w.drew.frozen? ⟨g0, 0 + 0 * 1 + j, none⟩ = false) := Lib.hid fun j hj => by
  rw [fm_length kc 1 (fun _ => rfl), List.length_drop] at hj
  have hx : l[j]? = some l[j] := List.getElem?_eq_getElem (by omega)
  have h1 := own_at (ec := kc) (fun _ => rfl) h hx (j := 0) (by decide)
  rw [show j * 1 + 0 = 0 + 0 * 1 + j by omega] at h1
  refine ⟨?_, h1.2⟩
  show (w.cell? _).isSome = true
  rw [h1.1]
  rfl
 have hone : Hid (∀ u ∈ (l.drop 1).flatMap kc, u.oneCell' = true) := Lib.hid fun u hu => by
  obtain ⟨g, hgm, hg⟩ := List.mem_flatMap.1 hu
  simp [kc] at hg
  subst hg
  rfl
 obtain ⟨ti, hti, _, htz, _⟩ := info_parts (elems_u64.info)
 obtain ⟨m, hm⟩ : ∃ m, l.length = m + 1 := ⟨l.length - 1, by omega⟩
 have HM := Lib.hid hm
 have HW : Hid (∀ W1, W1 = w.drew.setCells g0 0 ((l.drop 1).flatMap kc) → (∀ ty, (Builtin.clear_ #[28] ty #[.slice (some ⟨g0, m, none⟩) 1 (cap - m)]).run Tryz.prog W1 = .ok (.tuple #[]) (W1.setCells g0 m [.int .u64 0])) ∧
   Struck kc 1 23 l 0 g0 cap w (.returned (.slice (some ⟨g0, 0, none⟩) m cap)) (W1.setCells g0 m [.int .u64 0])) := Lib.hid fun W1 hW1 => by
  have h' : w.drew.ownsRow 0 23 1 (.slice (some ⟨g0, 0, none⟩) l.length cap) l.length (l.flatMap kc) := h
  have hdel := own_delete (ec := kc) (fun _ => rfl) h' (i := 0) (by have := HI.out; omega) [.int .u64 0] rfl
  have hlast : l[m]? = some l[m] := List.getElem?_eq_getElem (by omega)
  rw [Nat.zero_mul, ← hW1, show (l.length - 1) * 1 = m by omega] at hdel
  refine ⟨fun ty => ?_, by rw [List.length_eraseIdx, if_pos (by have := HI.out; omega), show l.length - 1 = m by omega], hdel, ?_⟩
  ·
   refine run_clear_one W1 _ _ ty _ Tryz.underlying28 zeroK (fun u hu => by
    have hu' : u = .int .u64 0 := by simpa [Value.cells] using hu
    subst hu'
    rfl) g0 m (cap - m) (fun j hj => ?_) (fun j hj => ?_)
   ·
    have hj3 : j < 1 := by simpa [Value.cells] using hj
    rw [hW1]
    have := (own_at (ec := kc) (fun _ => rfl) h' hlast hj3).1
    rw [Nat.mul_one] at this
    exact isSome_setCells g0 _ _ _ _ (by rw [this, List.getElem?_eq_getElem (by exact hj3)]; rfl)
   ·
    have hj3 : j < 1 := by simpa [Value.cells] using hj
    rw [hW1, World.frozen?_setCells]
    have := (own_at (ec := kc) (fun _ => rfl) h' hlast hj3).2
    rw [Nat.mul_one] at this
    exact this
  ·
   rw [hW1]
   exact ((Keep.refl (fun b => b = g0) w).drew.trans (keep_cells g0 _ _ _) (fun _ _ e => e)).trans (keep_cells g0 _ _ _) (fun _ _ e => e)
 clear h
 rw [hm] at i1 i2 ⊢
 have hnl' : Hid (((l.drop 1).flatMap kc).length = m * 1) := Lib.hid (by rw [fm_length kc 1 (fun _ => rfl), List.length_drop, hm, Nat.add_sub_cancel])
 clear hm hi hcl
 generalize (l.drop 1).flatMap kc = news at *
 have him2 : m + 1 ≤ cap := by omega
 have i7 : (1 : Int) ≤ (m : Int) + 1 := by omega
 have i8 : (m : Int) + 1 ≤ (cap : Int) := by omega
 clear i1 i2
 go_enter Tryz.func137, Tryz.ntmps137
 go_wp2_with fail
 have MC : Hid (∀ w', Keep (fun b => b = g0) w w' → True ∧ True) := Lib.hid fun _ _ => ⟨trivial, trivial⟩
 have KS := Keep.refl (fun b => b = g0) w
 refine wp_region_held_drew (S := fun w' => Keep (fun b => b = g0) w w') (by kernel_rfl) (KS.drew) (fun hHeld => ?_)
 refine' ztk 0 _ rfl (.inl ⟨by kernel_rfl, ?hy0⟩) ?_
 case hy0 => intro w' hSw; obtain ⟨_, _⟩ := MC.out w' hSw; go_simp; try with_reducible rfl
 simp only [Act.put, zga, zgb, zgc, zgd, zge, zgf]
 refine' ztk 1 _ rfl (.inl ⟨by kernel_rfl, ?hy1⟩) ?_
 case hy1 => intro w' hSw; obtain ⟨_, _⟩ := MC.out w' hSw; go_simp; try with_reducible rfl
 simp only [Act.put, zga, zgb, zgc, zgd, zge, zgf]
 refine' ztk 2 _ rfl (.inl ⟨by kernel_rfl, ?hy2⟩) ?_
 case hy2 => intro w' hSw; obtain ⟨_, _⟩ := MC.out w' hSw; go_simp; try with_reducible rfl
 simp only [Act.put, zga, zgb, zgc, zgd, zge, zgf]
 refine' ztk 3 _ rfl (.inl ⟨by kernel_rfl, ?hy3⟩) ?_
 case hy3 => intro w' hSw; obtain ⟨_, _⟩ := MC.out w' hSw; go_simp; try with_reducible rfl
 simp only [Act.put, zga, zgb, zgc, zgd, zge, zgf]
 refine' ztk 4 _ rfl (.inl ⟨by kernel_rfl, ?hy4⟩) ?_
 case hy4 => intro w' hSw; obtain ⟨_, _⟩ := MC.out w' hSw; go_simp; try with_reducible rfl
 simp only [Act.put, zga, zgb, zgc, zgd, zge, zgf]
 refine' ztk 5 _ rfl (.inl ⟨by kernel_rfl, ?hy5⟩) ?_
 case hy5 => intro w' hSw; obtain ⟨_, _⟩ := MC.out w' hSw; go_simp; try with_reducible rfl
 simp only [Act.put, zga, zgb, zgc, zgd, zge, zgf]
 refine wpAnyH_ready (rs := [6]) (by kernel_rfl) (by simp) (AllReadyH.cons rfl (fun K hK => ?_) AllReadyH.nil)
 refine step_append_room rfl (.tmp 22) (.tmp 25) 28 rfl 23 ti 1 Tryz.underlying28 hti htz g0 0 0 cap (by simp [Act.eval, Act.put]) ⟨g0, 1, none⟩ m (cap - 1) _ (by simp [Act.eval, Act.put]) hnl'.out hsrc.out hone.out (by omega) hspare.out ?_
 rw [Nat.zero_add, show 0 + 0 * 1 = 0 from rfl]
 refine hK.out _ _ (KS.drew.trans (keep_cells g0 _ _ _) (fun _ _ e => e)) (fun hHeld => ?_)
 clear hK K
 try simp only [Act.put, zga, zgb, zgc, zgd, zge, zgf]
 refine wpAnyH_ready (rs := [7]) (by kernel_rfl) (by simp) (AllReadyH.cons rfl (fun K hK => ?_) AllReadyH.nil)
 go_simp
 refine hK.out _ _ ((KS.drew.trans (keep_cells g0 _ _ _) (fun _ _ e => e))) (fun hHeld => ?_)
 clear hK K
 try simp only [Act.put, zga, zgb, zgc, zgd, zge, zgf]
 refine wpAnyH_done (by kernel_rfl) ?_ _
 obtain ⟨W1, hW1⟩ : ∃ W1, W1 = w.drew.setCells g0 0 news := ⟨_, rfl⟩
 obtain ⟨hcl, hend⟩ := HW.out W1 hW1
 have HE := Lib.hid hend
 rw [← hW1]
 clear hW1 hend KS MC
 go_wp2
 go_ret
 exact HE.out
end Go.Proofs.YtffoeodjbbkdjaaGreat
namespace Go.Proofs.YtffoeodjbbkdjaaGreat
open Go.RowKit
def Remembers (q : Qm) (D : Nat → Prop) (x : Nat) (w : World) (w' : World) : Prop := ∃ bv, QAt w' (grown w w' D) { q with bv := bv, built := builtP q.built x } ∧ Keep D w w'
set_option maxRecDepth 100000 in
set_option maxHeartbeats 4000000 in
set_option linter.unusedSimpArgs false in
theorem remember_any (w : World) (D : Nat → Prop) (q : Qm) (h : QAt w D q) (x : Nat) (h256 : q.built.length ≤ 256) :
  Calls Tryz.prog 106 #[.pointer (some ⟨q.p, 0, none⟩), .int .u64 (x : Int)] w fun e w' => (∃ v, e = .returned v) ∧ Remembers q D x w w' := by
 have HQ := Lib.hid h
 have IB := Lib.hid (isBuilt_any w D q h x)
 have HC := Lib.hid h256
 obtain ⟨A, c, hbv⟩ := own_shape h.bl
 have p5 : w.cell? ⟨q.p, 5, none⟩ = some (.slice A q.built.length c) := by rw [← hbv]; exact h.box.cell 5
 have f5 := h.box.free 5
 have HBV := Lib.hid hbv
 clear h h256 hbv
 go_enter Tryz.func106, Tryz.ntmps106
 go_wp2_with fail
 refine IB.out.mono ?_
 rintro e w1 ⟨rfl, rfl⟩
 clear IB
 cases hc : q.built.contains x with
 | true =>
  have HF : Hid (Remembers q D x w w) := Lib.hid ⟨q.bv, by
   have e : builtP q.built x = q.built := by unfold builtP; rw [if_pos hc]
   rw [e]
   exact HQ.out.grow (Keep.refl noneOf w), Keep.refl D w⟩
  clear hc
  go_wp2
  exact bodyPost_ret (v := .tuple #[]) (by simp [results, Tryz.results106, go_sem]) rfl ⟨⟨_, rfl⟩, HF.out⟩
 | false =>
  have HX : Hid (¬ q.built.contains x = true) := Lib.hid (by rw [hc]; decide)
  have KA := (Keep.refl noneOf w).alloc (.cells #[.int .u64 (x : Int)] 23)
  have HOB := Lib.hid (own_keep (ownK_kc.1 HQ.out.bl) KA (fun _ _ => id))
  have HON := Lib.hid (Many.one (ec := kc) (k := 1) (fun _ => rfl) w x 23)
  rw [HBV.out] at HOB
  clear hc
  go_wp2_with (at_builtin; refine wpList_append_many elems_u64 (fun _ => rfl) (ec := kc) (fun y u hu => by simp [kc] at hu; subst hu; rfl) (by decide) _ rfl _ _ rfl 0 _ _ q.built [x] (fun i => w.heap.size ≤ i) rfl rfl HOB.out HON.out ?qc1 ?qc2 ?qc3 ?_)
  case qc1 => have := HC.out; unfold maxLen; simp; omega
  case qc2 => have := HC.out; simp; omega
  case qc3 => exact Nat.zero_le _
  intro v' w2 hown hg hat
  replace hown : w2.ownsRow 0 23 1 v' (q.built ++ [x]).length ((q.built ++ [x]).flatMap kc) := by
   rw [List.length_append, List.flatMap_append]
   simpa using hown
  obtain ⟨b0, cap, _, rfl, _, hb0, hlc, hcm⟩ := own_mt (ec := kc) hown (by simp)
  have hlen : (q.built ++ [x]).length = q.built.length + 1 := by simp
  have hO : OwnK w2 (.slice (some ⟨b0, 0, none⟩) (q.built ++ [x]).length cap) (q.built ++ [x]) := ownK_kc.2 hown
  have kz : Keep (fun i => q.bv.ownBlock = some i) (w.alloc (.cells #[.int .u64 (x : Int)] 23)) w2 := (Keep.of_grown hg).mono (fun i _ e => by rw [HBV.out]; exact e.symm)
  have FIN : Hid (∃ D', QAt (w2.setCell ⟨q.p, 5, none⟩ (.slice (some ⟨b0, 0, none⟩) (q.built ++ [x]).length cap)) D' { q with bv := .slice (some ⟨b0, 0, none⟩) (q.built ++ [x]).length cap, built := q.built ++ [x] } ∧ (∀ i, D i → D' i) ∧ (∀ i, D' i → D i ∨ w.heap.size ≤ i) ∧ Keep D w (w2.setCell ⟨q.p, 5, none⟩ (.slice (some ⟨b0, 0, none⟩) (q.built ++ [x]).length cap)) ∧ (w2.cell? ⟨q.p, 5, none⟩ = some (.slice A q.built.length c) ∧ w2.frozen? ⟨q.p, 5, none⟩ = false)) := Lib.hid (by
   have qa := HQ.out.stay KA
   have hpb : q.bv.ownBlock ≠ some q.p := qa.b_ne_p
   have b2 := qa.box.keep kz hpb
   have kp := (Keep.refl (fun i => i = q.p) w2).setCell (p := ⟨q.p, 5, none⟩) (fun _ => rfl) (.slice (some ⟨b0, 0, none⟩) (q.built ++ [x]).length cap)
   have kk : Keep (fun i => i = q.p ∨ q.bv.ownBlock = some i) (w.alloc (.cells #[.int .u64 (x : Int)] 23)) (w2.setCell ⟨q.p, 5, none⟩ (.slice (some ⟨b0, 0, none⟩) (q.built ++ [x]).length cap)) := (kz.mono (fun _ _ e => Or.inr e)).trans kp (fun _ _ e => Or.inl e)
   have hb0p : b0 ≠ q.p := fun e => (hb0.ne b2 (by decide)) e
   have hat' : q.bv.ownBlock = some b0 ∨ b0 = w.heap.size + 1 := by
    rw [HBV.out]
    rcases hat with e | e
    ·
     left; exact e.symm
    ·
     right; simpa [Value.ownBlock] using e
   have hD : ∀ i, D i → i < w.heap.size := HQ.out.lt
   have hs2 : w.heap.size + 1 ≤ w2.heap.size := by have := kz.size; simpa using this
   refine ⟨fun i => D i ∨ i = b0, ?_, fun i hi => .inl hi, ?_, ?_, by rw [← HBV.out]; exact b2.cell 5, b2.free 5⟩
   ·
    refine qa.slices kk (fun j hj => hj.elim (fun e => .inl e) (fun e => .inr (.inr e))) (ng := q.ng) (gv := q.gv) (gs := q.gs) (b2.put 5 _)
     (own_keep qa.gr kk (fun j hj e => e.elim (fun e => qa.g_ne_p (e ▸ hj)) (fun e => qa.g_ne_b j hj e)))
     (own_keep hO kp (fun j hj e => hb0p (by have : b0 = j := by simpa [Value.ownBlock] using hj
                                             rw [this]; exact e)))
     (fun g hg => .inl hg) (fun g hg _ _ hn => absurd hg hn) qa.apart (fun b hb => .inl hb)
     (fun b hb => by
      have e2 : b0 = b := by simpa [Value.ownBlock] using hb
      subst e2
      rcases hat' with e | e
      ·
       exact .inl e
      ·
       exact .inr ⟨fun hd => by have := hD _ hd; omega, .inr rfl, rfl⟩)
     (fun _ h => .inl h) (fun j hj => ?_)
    rcases hj with hj | rfl
    ·
     have := hD j hj
     have := kp.size
     omega
    ·
     exact Nat.lt_of_lt_of_le hb0.lt kp.size
   ·
    rintro i (hi | rfl)
    ·
     exact .inl hi
    ·
     rcases hat' with e | e
     ·
      exact .inl (HQ.out.inD _ (.inr (.inr (.inr (.inr (.inl e))))))
     ·
      exact .inr (by omega)
   ·
    exact (Keep.wide KA).trans kk (fun i _ e => e.elim (fun e => e ▸ HQ.out.inD _ (.inl rfl)) (fun e => HQ.out.inD _ (.inr (.inr (.inr (.inr (.inl e))))))))
  obtain ⟨D', hq3, hDD, hDn, hk3, y5, z5⟩ := FIN.out
  have HQ3 := Lib.hid hq3
  have HK3 := Lib.hid hk3
  have HDD := Lib.hid hDD
  have HDN := Lib.hid hDn
  clear FIN hown hg hat hO kz hb0 KA HOB HON p5 f5 hq3 hk3 hDD hDn
  rw [hlen] at hlc HQ3 HK3 ⊢
  unfold maxLen at hcm
  by_cases h255 : q.built.length = 256
  ·
   have hle : (256 : Int) < (q.built.length : Int) + 1 := by omega
   have hl2 : 2 ≤ (q.built ++ [x]).length := by rw [hlen]; omega
   have hOK := HQ3.out.bl
   have DL := Lib.hid (deleteK_any _ b0 cap (q.built ++ [x]) (by
    have := HQ3.out.bl
    unfold OwnK at this ⊢
    dsimp only at this
    rw [hlen] at this ⊢
    exact this) hl2)
   rw [hlen] at DL
   have hel : ((q.built ++ [x]).eraseIdx 0).length = q.built.length := by rw [List.length_eraseIdx, if_pos (by omega), hlen]; omega
   have HEL := Lib.hid hel
   have HLEN := Lib.hid hlen
   have p5' : (w2.setCell ⟨q.p, 5, none⟩ (.slice (some ⟨b0, 0, none⟩) (q.built.length + 1) cap)).cell? ⟨q.p, 5, none⟩ = some (.slice (some ⟨b0, 0, none⟩) (q.built.length + 1) cap) := HQ3.out.box.cell 5
   have H255 := Lib.hid h255
   clear hl2 hlen hel h255
   have fp5' : (w2.setCell ⟨q.p, 5, none⟩ (.slice (some ⟨b0, 0, none⟩) (q.built.length + 1) cap)).frozen? ⟨q.p, 5, none⟩ = false := HQ3.out.box.free 5
   go_wp2_with fail
   refine DL.out.mono ?_
   rintro e w4 ⟨rfl, ho4, k4⟩
   generalize w2.setCell ⟨q.p, 5, none⟩ (.slice (some ⟨b0, 0, none⟩) (q.built.length + 1) cap) = w3 at *
   have hel := HEL.out
   have hlen := HLEN.out
   have h255 := H255.out
   rw [hel]
   have hO4 : OwnK w4 (.slice (some ⟨b0, 0, none⟩) q.built.length cap) ((q.built ++ [x]).eraseIdx 0) := by
    have := ownK_kc.2 ho4
    rw [hel] at this
    exact this
   have hq := HQ3.out
   have hbo : ({ q with bv := .slice (some ⟨b0, 0, none⟩) (q.built.length + 1) cap, built := q.built ++ [x] } : Qm).bv.ownBlock = some b0 := rfl
   have hb0p : b0 ≠ q.p := fun e => hq.b_ne_p (by rw [hbo, e])
   have b4 := hq.box.keep k4 (fun e => hb0p e.symm)
   have kp := (Keep.refl (fun i => i = q.p) w4).setCell (p := ⟨q.p, 5, none⟩) (fun _ => rfl) (.slice (some ⟨b0, 0, none⟩) q.built.length cap)
   have kk : Keep (fun i => i = q.p ∨ i = b0) w3 (w4.setCell ⟨q.p, 5, none⟩ (.slice (some ⟨b0, 0, none⟩) q.built.length cap)) := (k4.mono (fun _ _ e => Or.inr e)).trans kp (fun _ _ e => Or.inl e)
   have hb0D : D' b0 := hq.inD _ (.inr (.inr (.inr (.inr (.inl rfl)))))
   have hpD : D' q.p := hq.inD _ (.inl rfl)
   have hq5 := hq.slices kk (fun j hj => hj.elim (fun e => .inl e) (fun e => .inr (.inr (by rw [e]; rfl)))) (ng := q.ng) (gv := q.gv) (gs := q.gs) (ks := (q.built ++ [x]).eraseIdx 0) (D' := D') (b4.put 5 (.slice (some ⟨b0, 0, none⟩) q.built.length cap))
    (own_keep hq.gr kk (fun j hj e => e.elim (fun e => hq.g_ne_p (e ▸ hj)) (fun e => hq.g_ne_b j hj (by rw [e]; rfl))))
    (own_keep hO4 kp (fun j hj e => hb0p (by have : b0 = j := by simpa [Value.ownBlock] using hj
                                             rw [this]; exact e)))
    (fun g hg => .inl hg) (fun g hg _ _ hn => absurd hg hn) hq.apart (fun b hb => .inl hb) (fun b hb => .inl hb) (fun _ h => h) (fun j hj => Nat.lt_of_lt_of_le (hq.lt j hj) kk.size)
   have hkD : Keep D w (w4.setCell ⟨q.p, 5, none⟩ (.slice (some ⟨b0, 0, none⟩) q.built.length cap)) := HK3.out.trans kk (fun i hi e => (HDN.out i (e.elim (fun e => e ▸ hpD) (fun e => e ▸ hb0D))).elim id (fun h => by omega))
   have hbe : builtP q.built x = (q.built ++ [x]).eraseIdx 0 := by
    unfold builtP
    rw [if_neg HX.out, hlen, show q.built.length + 1 - 256 = 1 by omega, List.eraseIdx_zero, List.drop_one]
   have HF : Hid (Remembers q D x w (w4.setCell ⟨q.p, 5, none⟩ (.slice (some ⟨b0, 0, none⟩) q.built.length cap))) := Lib.hid ⟨_, by
    rw [hbe]
    exact hq5.wide (fun i hi => (HDN.out i hi).imp_right (fun e => ⟨e, hq5.lt i hi⟩)) (grown_lt HQ.out.lt hkD.size), hkD⟩
   have y4 : w4.cell? ⟨q.p, 5, none⟩ = some (.slice (some ⟨b0, 0, none⟩) (q.built.length + 1) cap) := b4.cell 5
   have z4 := b4.free 5
   clear hq hbo b4 kp kk hb0D hpD hq5 hkD hbe hO4 ho4 k4 DL p5' fp5' hOK hel hlen h255
   go_wp2
   go_end0
   exact ⟨⟨_, rfl⟩, HF.out⟩
  ·
   have hle : ¬ ((256 : Int) < (q.built.length : Int) + 1) := by have := HC.out; omega
   have HF : Hid (Remembers q D x w (w2.setCell ⟨q.p, 5, none⟩ (.slice (some ⟨b0, 0, none⟩) (q.built.length + 1) cap))) := Lib.hid ⟨_, by
    have e : builtP q.built x = q.built ++ [x] := by
     unfold builtP
     rw [if_neg HX.out, hlen, show q.built.length + 1 - 256 = 0 by have := HC.out; omega]
     rfl
    rw [e]
    exact HQ3.out.wide (fun i hi => (HDN.out i hi).imp_right (fun e => ⟨e, HQ3.out.lt i hi⟩)) (grown_lt HQ.out.lt HK3.out.size), HK3.out⟩
   clear h255 hlc hcm
   go_wp2
   go_end0
   exact ⟨⟨_, rfl⟩, HF.out⟩
end Go.Proofs.YtffoeodjbbkdjaaGreat
