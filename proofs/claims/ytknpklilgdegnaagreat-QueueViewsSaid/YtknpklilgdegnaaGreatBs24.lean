import Derived.Maps.AppendAt
import Derived.Test.YtknpklilgdegnaaGreatBs16
import Derived.Test.YtknpklilgdegnaaGreatBs23
namespace Go.Proofs.YtknpklilgdegnaaGreat
open Go.Shelf Go.RowKit Go.Maps
theorem list_same {l L : List Ro} (h : ∀ j : Nat, j < l.length → l[j]? = L[j]?) (hl : l.length = L.length) : l = L := by
  apply List.ext_getElem? 
  intro j
  rcases Nat.lt_or_ge j l.length with hj | hj
  · exact h j hj
  · rw [List.getElem?_eq_none hj, List.getElem?_eq_none (by omega)]
theorem ro_cells (b o k : Nat) (w : World) (r : Ro) (h : ∀ j, j < 8 → w.cell? ⟨b, o + (k * 8 + j), none⟩ = (Ro.cells r)[j]?) :
    w.cell? ⟨b, o + k * 8, none⟩ = some (.int .u64 r.id) ∧ w.cell? ⟨b, o + k * 8 + 1, none⟩ = some (.int .u64 r.seq) ∧ w.cell? ⟨b, o + k * 8 + 2, none⟩ = some (.int .i64 r.ans.code) ∧ w.cell? ⟨b, o + k * 8 + 3, none⟩ = some (.int .u64 r.ans.id) ∧ w.cell? ⟨b, o + k * 8 + 4, none⟩ = some (.int .u64 r.ans.tok) ∧ w.cell? ⟨b, o + k * 8 + 5, none⟩ = some (.int .u64 r.ans.unt) ∧ w.cell? ⟨b, o + k * 8 + 6, none⟩ = some (.string r.ans.tgt) ∧ w.cell? ⟨b, o + k * 8 + 7, none⟩ = some (.string r.ans.cmd) :=
  ⟨h 0 (by decide), h 1 (by decide), h 2 (by decide), h 3 (by decide), h 4 (by decide), h 5 (by decide), h 6 (by decide), h 7 (by decide)⟩
set_option maxRecDepth 100000 in
set_option maxHeartbeats 2000000 in
set_option linter.unusedSimpArgs false in
theorem same_any_S (w : World) (D D' : Nat → Prop) (v u : Value) (l L : List Ro) (h : Many Ro.cells 8 w D v l) (H : Many Ro.cells 8 w D' u L) : Calls Tryz.prog 52 #[v, u] w (TellsB (decide (l = L)) w) := by
  obtain ⟨A, c, rfl⟩ := h.shape
  obtain ⟨B, d, rfl⟩ := H.shape
  have hfew := h.few
  unfold maxLen at hfew
  by_cases hl : l.length = L.length
  · have HH := Lib.hid h
    have HHH := Lib.hid H
    have HE := Lib.hid hl
    clear h H
    have hl' : ((l.length : Int) != (L.length : Int)) = false := by rw [hl, bne_self_eq_false]
    go_enter Tryz.func52, Tryz.ntmps52
    go_wp2
    go_loopw [5] (fun i wr => ∃ (k : Nat), k ≤ l.length ∧ i = .int .i64 k ∧ Keep noneOf w wr ∧ ∀ j : Nat, j < k → l[j]? = L[j]?) (fun i _ => l.length - (intOf i).toNat)
    case atStart => exact ⟨0, Nat.zero_le _, rfl, Keep.refl _ _, fun j hj => absurd hj (Nat.not_lt_zero _)⟩
    case round =>
      obtain ⟨k, hk, rfl, hkeep, hsame⟩ := hrel
      have HKP := Lib.hid hkeep
      have HS := Lib.hid hsame
      clear hsame
      by_cases hlt : k < l.length
      · have hx : l[k]? = some l[k] := List.getElem?_eq_getElem hlt
        have hy : L[k]? = some (L[k]'(by omega)) := List.getElem?_eq_getElem (by omega)
        obtain ⟨b, o, rfl, hblk, _, hcell⟩ := HH.out.cell (fun _ => rfl) hx
        obtain ⟨b', o', rfl, hblk', _, hcell'⟩ := HHH.out.cell (fun _ => rfl) hy
        have HXY : Hid (l[k]? = some l[k] ∧ L[k]? = some (L[k]'(by omega))) := Lib.hid ⟨hx, hy⟩
        generalize l[k] = x at *
        generalize (L[k]'(by omega)) = y at *
        have q0 : (0 : Int) ≤ (k : Int) := by omega
        have q1 : (k : Int) < (l.length : Int) := by omega
        have q2 : (k : Int) < (L.length : Int) := by omega
        have q3 : k < L.length := by omega
        have MC : Hid (∀ w', Keep noneOf wr w' → _) := Lib.hid fun w' k' => And.intro (ro_cells b o k w' x (fun j hj => ((hkeep.trans k' (fun _ _ h => h)).cell (p := ⟨b, o + (k * 8 + j), none⟩) hblk id).trans (hcell j hj))) (ro_cells b' o' k w' y (fun j hj => ((hkeep.trans k' (fun _ _ h => h)).cell (p := ⟨b', o' + (k * 8 + j), none⟩) hblk' id).trans (hcell' j hj)))
        obtain ⟨nq, hnq⟩ : ∃ nq, (!decide (x = y)) = nq := ⟨_, rfl⟩
        have hneq : ∀ w', (binOp .neq 71 x.agg y.agg).run Tryz.prog w' = .ok (.bool nq) w' := fun w' => by rw [← hnq]; exact run_neqR w' x y
        have HNQ := Lib.hid hnq
        clear hnq
        obtain ⟨x1, x2, ⟨x3, x4, x5, x6, x7, x8⟩⟩ := x
        obtain ⟨y1, y2, ⟨y3, y4, y5, y6, y7, y8⟩⟩ := y
        unfold Ro.agg at hneq
        dsimp only at MC hneq
        clear hx hy hcell hcell' hkeep
        go_upto_region 6 with fail
        refine wp_region_held_drew (S := fun w' => Keep noneOf wr w') (by kernel_rfl) (Keep.refl noneOf wr).drew (fun hHeld => ?_)
        refine' wpAnyH_take (i := 0) (v := _) rfl (by kernel_rfl) (by kernel_rfl) (by kernel_rfl) (fun _ _ _ h => h) (Or.inl ⟨by kernel_rfl, ?hy0⟩) (by assumption) ?_
        case hy0 => intro w' hSw; obtain ⟨⟨_, _, _, _, _, _, _, _⟩, _, _, _, _, _, _, _, _⟩ := MC.out w' hSw; go_simp; try with_reducible rfl
        simp only [Act.put, List.getElem_toArray, List.getElem_cons_zero, List.getElem_cons_succ, List.setIfInBounds_toArray, List.set_cons_zero, List.set_cons_succ]
        refine' wpAnyH_take (i := 1) (v := _) rfl (by kernel_rfl) (by kernel_rfl) (by kernel_rfl) (fun _ _ _ h => h) (Or.inl ⟨by kernel_rfl, ?hy1⟩) (by assumption) ?_
        case hy1 => intro w' hSw; obtain ⟨⟨_, _, _, _, _, _, _, _⟩, _, _, _, _, _, _, _, _⟩ := MC.out w' hSw; go_simp; try with_reducible rfl
        simp only [Act.put, List.getElem_toArray, List.getElem_cons_zero, List.getElem_cons_succ, List.setIfInBounds_toArray, List.set_cons_zero, List.set_cons_succ]
        refine' wpAnyH_take (i := 2) (v := _) rfl (by kernel_rfl) (by kernel_rfl) (by kernel_rfl) (fun _ _ _ h => h) (Or.inl ⟨by kernel_rfl, ?hy2⟩) (by assumption) ?_
        case hy2 => intro w' hSw; obtain ⟨⟨_, _, _, _, _, _, _, _⟩, _, _, _, _, _, _, _, _⟩ := MC.out w' hSw; go_simp; try with_reducible rfl
        simp only [Act.put, List.getElem_toArray, List.getElem_cons_zero, List.getElem_cons_succ, List.setIfInBounds_toArray, List.set_cons_zero, List.set_cons_succ]
        refine' wpAnyH_take (i := 3) (v := _) rfl (by kernel_rfl) (by kernel_rfl) (by kernel_rfl) (fun _ _ _ h => h) (Or.inl ⟨by kernel_rfl, ?hy3⟩) (by assumption) ?_
        case hy3 => intro w' hSw; obtain ⟨⟨_, _, _, _, _, _, _, _⟩, _, _, _, _, _, _, _, _⟩ := MC.out w' hSw; go_simp; try with_reducible rfl
        simp only [Act.put, List.getElem_toArray, List.getElem_cons_zero, List.getElem_cons_succ, List.setIfInBounds_toArray, List.set_cons_zero, List.set_cons_succ]
        refine' wpAnyH_take (i := 4) (v := _) rfl (by kernel_rfl) (by kernel_rfl) (by kernel_rfl) (fun _ _ _ h => h) (Or.inl ⟨by kernel_rfl, ?hy4⟩) (by assumption) ?_
        case hy4 => intro w' hSw; obtain ⟨⟨_, _, _, _, _, _, _, _⟩, _, _, _, _, _, _, _, _⟩ := MC.out w' hSw; go_simp; try with_reducible rfl
        simp only [Act.put, List.getElem_toArray, List.getElem_cons_zero, List.getElem_cons_succ, List.setIfInBounds_toArray, List.set_cons_zero, List.set_cons_succ]
        refine' wpAnyH_take (i := 5) (v := _) rfl (by kernel_rfl) (by kernel_rfl) (by kernel_rfl) (fun _ _ _ h => h) (Or.inl ⟨by kernel_rfl, ?hy5⟩) (by assumption) ?_
        case hy5 => intro w' hSw; obtain ⟨⟨_, _, _, _, _, _, _, _⟩, _, _, _, _, _, _, _, _⟩ := MC.out w' hSw; go_simp; try with_reducible rfl
        simp only [Act.put, List.getElem_toArray, List.getElem_cons_zero, List.getElem_cons_succ, List.setIfInBounds_toArray, List.set_cons_zero, List.set_cons_succ]
        refine' wpAnyH_take (i := 6) (v := _) rfl (by kernel_rfl) (by kernel_rfl) (by kernel_rfl) (fun _ _ _ h => h) (Or.inl ⟨by kernel_rfl, ?hy6⟩) (by assumption) ?_
        case hy6 => intro w' hSw; obtain ⟨⟨_, _, _, _, _, _, _, _⟩, _, _, _, _, _, _, _, _⟩ := MC.out w' hSw; go_simp; try with_reducible rfl
        simp only [Act.put, List.getElem_toArray, List.getElem_cons_zero, List.getElem_cons_succ, List.setIfInBounds_toArray, List.set_cons_zero, List.set_cons_succ]
        refine' wpAnyH_take (i := 7) (v := _) rfl (by kernel_rfl) (by kernel_rfl) (by kernel_rfl) (fun _ _ _ h => h) (Or.inl ⟨by kernel_rfl, ?hy7⟩) (by assumption) ?_
        case hy7 => intro w' hSw; obtain ⟨⟨_, _, _, _, _, _, _, _⟩, _, _, _, _, _, _, _, _⟩ := MC.out w' hSw; go_simp; try with_reducible rfl
        simp only [Act.put, List.getElem_toArray, List.getElem_cons_zero, List.getElem_cons_succ, List.setIfInBounds_toArray, List.set_cons_zero, List.set_cons_succ]
        refine' wpAnyH_take (i := 8) (v := _) rfl (by kernel_rfl) (by kernel_rfl) (by kernel_rfl) (fun _ _ _ h => h) (Or.inl ⟨by kernel_rfl, ?hy8⟩) (by assumption) ?_
        case hy8 => intro w' hSw; obtain ⟨⟨_, _, _, _, _, _, _, _⟩, _, _, _, _, _, _, _, _⟩ := MC.out w' hSw; go_simp; try with_reducible rfl
        simp only [Act.put, List.getElem_toArray, List.getElem_cons_zero, List.getElem_cons_succ, List.setIfInBounds_toArray, List.set_cons_zero, List.set_cons_succ]
        refine wpAnyH_done (by kernel_rfl) ?_ _
        have HW := Lib.hid hHeld
        clear hHeld hneq MC
        cases nq with
        | true =>
          have e : decide (l = L) = false := decide_eq_false (fun e => by
            have h1 := HXY.out
            rw [e, h1.2] at h1
            have h2 := HNQ.out
            injection h1.1 with h1
            rw [h1] at h2
            simp at h2)
          have HE2 := Lib.hid e
          clear e
          go_wp2
          go_ret
          exact ⟨ret_bool HE2.out.symm, HKP.out.trans HW.out (fun _ _ h => h)⟩
        | false =>
          have e : l[k]? = L[k]? := by
            have h1 := HXY.out
            have h2 := HNQ.out
            rw [h1.1, h1.2]
            simpa using h2
          have HEQ := Lib.hid e
          clear e
          go_wp2
          go_roundw
          case rel => exact ⟨k + 1, by omega, by go_num, HKP.out.trans HW.out (fun _ _ h => h), fun j hj => by
            rcases Nat.lt_or_ge j k with h1 | h1
            · exact HS.out j h1
            · obtain rfl : j = k := by omega
              exact HEQ.out⟩
          case measure => simp [intOf]; omega
      · have hkn : ¬ ((k : Int) < (l.length : Int)) := by omega
        have e : decide (l = L) = true := decide_eq_true (list_same (fun j hj => HS.out j (by omega)) HE.out)
        have HE2 := Lib.hid e
        clear hkeep e
        go_wp2
        go_ret
        exact ⟨ret_bool HE2.out.symm, HKP.out⟩
  · have e : decide (l = L) = false := decide_eq_false (fun e => hl (by rw [e]))
    rw [e]
    have hl' : ((l.length : Int) != (L.length : Int)) = true := bne_iff_ne.2 (by omega)
    clear h H e hl
    go_enter Tryz.func52, Tryz.ntmps52
    go_wp2
    go_ret
    exact ⟨rfl, Keep.refl _ _⟩
end Go.Proofs.YtknpklilgdegnaaGreat
namespace Go.Proofs.YtknpklilgdegnaaGreat
open Go.Shelf Go.RowKit Go.Maps
section
variable {P : Program}
end
theorem Many.head {w : World} {D : Nat → Prop} {A : Option Addr} {c n : Nat} {l : List Ro} (h : Many Ro.cells 8 w D (.slice A l.length c) l) (hn : n ≤ l.length) : Many Ro.cells 8 w D (sliced A 0 n c 8) (l.take n) := by
  obtain ⟨A', c', hv, h1, h2, h3, h4, h5⟩ := h
  obtain ⟨rfl, rfl⟩ : A = A' ∧ c = c' := by simpa using hv
  have htl : (l.take n).length = n := by rw [List.length_take]; omega
  have hA : sliced A 0 n c 8 = .slice A n c := by
    unfold sliced
    cases A with
    | none => simp
    | some ad =>
      split
      · simp
      · simp [Addr.add]
  refine ⟨A, c, by rw [hA, htl], by omega, h2, h3, fm_length Ro.cells 8 (fun _ => rfl) _, fun h0 => ?_⟩
  obtain ⟨ad, e, hsp, hlt, hD, hc⟩ := h5 (by omega)
  refine ⟨ad, e, hsp, hlt, hD, fun j x hj => hc j x ?_⟩
  have hjl := (List.getElem?_eq_some_iff.1 hj).1
  rw [← List.take_append_drop n l, List.flatMap_append, List.getElem?_append_left hjl]
  exact hj
end Go.Proofs.YtknpklilgdegnaaGreat
namespace Go.Proofs.YtknpklilgdegnaaGreat
open Go.Shelf Go.RowKit Go.Maps
structure Elems (t e : TypeId) (z : Value) (k B : Nat) : Prop where
  und : Tryz.prog.underlying t = some (.slice e)
  elem : Tryz.prog.elem t = e
  info : (Tryz.prog.info? e).map (fun i => (i.zero, i.size, i.bytes)) = some (some z, k, B)
  size : ∀ w : World, (sizeOf e).run Tryz.prog w = .ok k w
  zero : z.cells.size = k
section
variable {α : Type} {ec : α → List Value} {t e : TypeId} {z : Value} {k B : Nat}
theorem Elems.head (h : Elems t e z k B) (w : World) (A : Option Addr) (len c n : Nat) (hn : n ≤ c) : (Instr.sliceAt t (.slice A len c) none (some (.int .i64 (n : Int))) none).run Tryz.prog w = .ok (sliced A 0 n c k) w := by
  have hel : Tryz.prog.underlying t = some (.slice (Tryz.prog.elem t)) := by rw [h.elem]; exact h.und
  rw [run_sliceAt_slice w t _ _ _ _ hel, run_slice_h w t _ _ _ hel .i64 (n : Int) (by omega) (by omega), h.elem, h.size]
  rfl
set_option maxRecDepth 100000 in
theorem Elems.append (E : Elems t e z k B) (hk : ∀ x, (ec x).length = k) (hone : ∀ x, ∀ u ∈ ec x, u.oneCell' = true) (hk0 : 0 < k) (w : World) (base : Nat) (ty : TypeId) (v s : Value) (l m : List α) (D : Nat → Prop) (hown : w.ownsRow base e k v l.length (l.flatMap ec)) (hs : Many ec k w D s m) (h63 : l.length + m.length ≤ maxLen) (hb : (l.length + m.length) * B ≤ 140737488355328) (hbase : base ≤ w.heap.size) :
    ∃ v' w', (Builtin.append_ #[t, t] ty #[v, s]).run Tryz.prog w = .ok v' w' ∧ w'.ownsRow base e k v' (l ++ m).length ((l ++ m).flatMap ec) ∧ w.grownBy w' v.ownBlock ∧ (v'.ownBlock = v.ownBlock ∨ v'.ownBlock = some w.heap.size) := by
  obtain ⟨i1, hi1, hz1, hs1, hb1⟩ := info_parts E.info
  obtain ⟨A, c, rfl, hlc, _, hn, hlen, hc⟩ := hs
  have hfl : (l ++ m).flatMap ec = l.flatMap ec ++ m.flatMap ec := List.flatMap_append
  cases A with
  | none =>
    have h0 : m = [] := List.eq_nil_of_length_eq_zero (by have := hn rfl; omega)
    subst h0
    refine ⟨v, w, ?_, by simpa using hown, World.grownBy.refl w _, .inl rfl⟩
    rcases hown.2 with ⟨rfl, _⟩ | ⟨g, cap, cur, rfl, _, _, hnc, _⟩
    · simp [Builtin.append_, run_underlying E.und, sizeOf, typeInfo, hi1, Builtin.lenOf, Builtin.firstCells]
    · simp [Builtin.append_, run_underlying E.und, sizeOf, typeInfo, hi1, Builtin.lenOf, Builtin.firstCells, hnc, storeCells]
  | some ad =>
    obtain ⟨v', w', hr, ho, hg, _, hat⟩ := run_append_own_at (P := Tryz.prog) w base t ty e i1 z k B E.und hi1 hz1 hs1 hb1 E.zero hk0 v l.length (l.flatMap ec) hown ad m.length c (m.flatMap ec) (fm_length ec k hk m)
      (fun j u hu => by
        have hj := (List.getElem?_eq_some_iff.1 hu).1
        rw [fm_length ec k hk] at hj
        obtain ⟨ad', e, hsp, _, _, hcell⟩ := hc (Nat.pos_of_ne_zero (fun e => by rw [e, Nat.zero_mul] at hj; omega))
        injection e with e
        subst e
        rw [add_at ad hsp]
        exact hcell j u hu)
      (fun u hu => by obtain ⟨r, _, hr⟩ := List.mem_flatMap.1 hu; exact hone r u hr) h63 hb hbase
    exact ⟨v', w', hr, by rw [List.length_append, hfl]; exact ho, hg, hat⟩
set_option maxRecDepth 100000 in
theorem wpList_append_many (E : Elems t e z k B) (hk : ∀ x, (ec x).length = k) (hone : ∀ x, ∀ u ∈ ec x, u.oneCell' = true) (hk0 : 0 < k) (w : World) {ops : Array Oper} {rest : List Oper} {o : Oper} {a : Act} {Q : Exit → Act → World → Prop} (hgd : o.guard = none) (s x : Operand)
    (ho : o.op = .call { callee := .builtin .append, args := #[s, x], argTypes := #[t, t] }) (base : Nat)
    (v u : Value) (l m : List α) (D : Nat → Prop) (hv : a.eval s = v) (hu : a.eval x = u) (hown : w.ownsRow base e k v l.length (l.flatMap ec)) (hs : Many ec k w D u m) (h63 : l.length + m.length ≤ maxLen) (hl : (l.length + m.length) * B ≤ 140737488355328) (hbase : base ≤ w.heap.size)
    (h : ∀ v' w', w'.ownsRow base e k v' (l ++ m).length ((l ++ m).flatMap ec) → w.grownBy w' v.ownBlock → (v'.ownBlock = v.ownBlock ∨ v'.ownBlock = some w.heap.size) → wpList Tryz.prog ops Q rest (a.put o.dst v') w') : wpList Tryz.prog ops Q (o :: rest) a w := by
  refine wpList_plain hgd fun K hK => ?_
  obtain ⟨v', w', hr, h3, h4, h5⟩ := E.append hk hone hk0 w base o.type v u l m D hown hs h63 hl hbase
  unfold Oper.wp execOp
  simp only [ho, resolve, invoke, builtin, Sem.run_bind, Sem.run_pure, Result.andThen_ok, List.map_toArray, List.map_cons, List.map_nil, hv, hu, hr]
  exact hK _ _ (h v' w' h3 h4 h5)
theorem Many.one (hk : ∀ x, (ec x).length = k) (w : World) (x : α) (e : TypeId) : Many ec k (w.alloc (.cells (ec x).toArray e)) (fun i => w.heap.size ≤ i) (.slice (some ⟨w.heap.size, 0, none⟩) 1 1) [x] := by
  refine ⟨_, 1, rfl, Nat.le_refl _, by decide, fun e => (by cases e), by simp [hk], fun _ => ⟨_, rfl, rfl, by simp, Nat.le_refl _, fun j u hj => ?_⟩⟩
  rw [List.flatMap_cons, List.flatMap_nil, List.append_nil] at hj
  obtain ⟨hjl, hje⟩ := List.getElem?_eq_some_iff.1 hj
  rw [World.cell?_alloc_new]
  simp [hjl, hje]
end
end Go.Proofs.YtknpklilgdegnaaGreat
