/-
  ConfigChanges: what a change makes of a configuration, or why it may not be, is what the document says; the one that was handed in stays as it is.
-/
import Derived.Test.YtmncjibokpieoaaCfApply
import Derived.Test.YtmncjibokpieoaaCfAlive
import Derived.Test.YtmncjibokpieoaaCfOpen
namespace Go.Proofs.Ytmncjibokpieoaa
open Go.RowKit Go.ChangeShapes Go.WideShapes Go.Deep

theorem Zs.of_own' {w : World} {base : Nat} {e : TypeId} {v : Value} {zs : List Int} (h : w.ownsRow base e 1 v zs.length (zs.map zv)) : Zs w (fun k => some k = v.ownBlock) v zs := by
  rcases h.2 with ⟨rfl, h0⟩ | ⟨g, cap, cur, rfl, hb, hg, hle, hmx, hsz, htk⟩
  · have : zs = [] := List.eq_nil_of_length_eq_zero h0
    subst this
    exact Zs.nil _ _
  · refine ⟨some ⟨g, 0, none⟩, cap, rfl, hle, hmx, fun e => (by cases e), h.1, fun _ => ⟨⟨g, 0, none⟩, rfl, rfl, (Array.getElem?_eq_some_iff.1 hg).1, rfl, fun j b hb => ?_⟩⟩
    rw [← htk, List.getElem?_take] at hb
    split at hb
    · show w.cell? ⟨g, 0 + j, none⟩ = _
      rw [Nat.zero_add, cell_of_row w g j cur e (0, 0) hg]
      simpa using hb
    · cases hb
theorem Zs.lt {w : World} {D : Nat → Prop} {v : Value} {zs : List Int} (h : Zs w D v zs) : Zs w (fun k => k < w.heap.size ∧ D k) v zs := by
  obtain ⟨A', c', hv, a1, a2, a3, a4, a5⟩ := h
  refine ⟨A', c', hv, a1, a2, a3, a4, fun h0 => ?_⟩
  obtain ⟨ad, e1, e2, e3, e4, e5⟩ := a5 h0
  exact ⟨ad, e1, e2, e3, ⟨e3, e4⟩, e5⟩
section
variable {P : Program}
theorem step_append_new {ops : Array Oper} {o : Oper} {a : Act} (w : World) (base : Nat) (hbase : base ≤ w.heap.size) {K : Act → World → Prop} {Q : Exit → Act → World → Prop} {E : Prop} (hgd : o.guard = none) (s x : Operand) (t : TypeId)
    (ho : o.op = .call { callee := .builtin .append, args := #[s, x], argTypes := #[t, t] })
    (e : TypeId) (i : TypeInfo) (z : Value) (ht : P.underlying t = some (.slice e)) (hi : P.info? e = some i) (hz : i.zero = some z) (h1 : i.size = 1) (h2 : i.bytes = 8) (hzs : z.cells.size = 1)
    (q : Nat) (u : Value) (cs : List Int) (D : Nat → Prop) (hv : a.eval s = .slice (some ⟨q, 0, none⟩) 0 0) (hu : a.eval x = u) (hown : w.ownsRow base e 1 (.slice (some ⟨q, 0, none⟩) 0 0) 0 []) (hs : Zs w D u cs) (hl : cs.length ≤ 17592186044416)
    (h : ∀ v' w', Zs w' (fun k => k < w'.heap.size ∧ (k = q ∨ k = w.heap.size)) v' cs → w.grownBy w' (some q) → K (a.put o.dst v') w') :
    if Region.wanted o (yielded ops a.tmps) = true then Oper.wp P o a w K Q else E := by
  have hw : Region.wanted o (yielded ops a.tmps) = true := by simp [Region.wanted, hgd]
  rw [if_pos hw]
  obtain ⟨v', w', hr, h3, h4, h5, _⟩ := run_append_zs (P := P) w base hbase t o.type e i z ht hi hz h1 h2 hzs (.slice (some ⟨q, 0, none⟩) 0 0) u [] cs D hown hs (by simpa using hl)
  unfold Oper.wp execOp
  simp only [ho, resolve, invoke, builtin, Sem.run_bind, Sem.run_pure, Result.andThen_ok, List.map_toArray, List.map_cons, List.map_nil, hv, hu, hr]
  rw [List.nil_append] at h3
  refine h v' w' ((Zs.of_own' h3).lt.mono (fun i _ hi => ⟨hi.1, ?_⟩)) h4
  rcases h5 with h5 | h5
  · exact .inl (by have := hi.2; rw [h5] at this; exact Option.some.inj this)
  · exact .inr (by have := hi.2; rw [h5] at this; exact Option.some.inj this)
end

set_option maxRecDepth 100000 in
set_option maxHeartbeats 8000000 in
set_option linter.unusedSimpArgs false in
theorem changes_walk (w : World) (v : Value) (c : Cf) (kind node : Int) (h : CfAt w (fun _ => True) v c) (hfv : c.v.length ≤ 17592186043904) (hfl : c.l.length ≤ 17592186043904) :
    Calls Try.prog 4 #[v, .agg #[.int .i64 kind, .int .i64 node]] w (TellsB true w) := by
  have HH := Lib.hid h
  obtain ⟨_, _, rfl, h1, h2⟩ := h
  obtain ⟨A, ca, rfl, _⟩ := h1.shape
  obtain ⟨B, cb, rfl, _⟩ := h2.shape
  obtain ⟨i0, hi0, hz0, hz1, hz2⟩ := info_parts intinfo
  have K2 := ((Keep.refl noneOf w).alloc (.cells #[.slice A c.v.length ca, .slice B c.l.length cb] 24)).alloc (.cells #[.int .i64 kind, .int .i64 node] 33)
  have X0 := (Box.new w 24 #[.slice A c.v.length ca, .slice B c.l.length cb]).alloc (.cells #[.int .i64 kind, .int .i64 node] 33)
  have X1 := Box.new (w.alloc (.cells #[.slice A c.v.length ca, .slice B c.l.length cb] 24)) 33 #[.int .i64 kind, .int .i64 node]
  rw [show (w.alloc (.cells #[.slice A c.v.length ca, .slice B c.l.length cb] 24)).heap.size = w.heap.size + 1 from by simp] at X1
  have HK2 := Lib.hid K2
  have HX0 := Lib.hid X0
  have HX1 := Lib.hid X1
  have H1 := Lib.hid (h1.keepN K2)
  have H2 := Lib.hid (h2.keepN K2)
  clear h1 h2 K2 X0 X1
  go_enter Try.func4, Try.ntmps4
  go_wp2
  generalize (w.alloc (.cells #[.slice A c.v.length ca, .slice B c.l.length cb] 24)).alloc (.cells #[.int .i64 kind, .int .i64 node] 33) = w0 at *
  have MC : Hid (∀ w', Keep noneOf w0 w' → w'.cell? ⟨w.heap.size, 0, none⟩ = some (.slice A c.v.length ca) ∧ w'.cell? ⟨w.heap.size, 1, none⟩ = some (.slice B c.l.length cb)) := fun w' k => ⟨(HX0.out.keep k id).cell 0, (HX0.out.keep k id).cell 1⟩
  have KZ := (Keep.refl noneOf w0).drew
  go_cut [5] (fun p5 wx => ∃ (q5 : Nat) (D0 : Option Addr) (e0 : Nat) (D1 : Option Addr) (e1 : Nat), p5 = .pointer (some ⟨q5, 0, none⟩) ∧ Keep noneOf w0 wx ∧ w0.heap.size ≤ q5 ∧ Box wx q5 24 #[.slice D0 c.v.length e0, .slice D1 c.l.length e1] ∧ CfAt wx (fun _ => True) (.agg #[.slice D0 c.v.length e0, .slice D1 c.l.length e1]) c)
  case first =>
    refine wp_region_held_drew (S := fun w' => Keep noneOf w0 w') (by kernel_rfl) (KZ) (fun hHeld => ?_)
    refine' wpAnyH_take (i := 1) (v := _) rfl (by kernel_rfl) (by kernel_rfl) (by kernel_rfl) (fun _ _ _ h => h) (Or.inl ⟨by kernel_rfl, ?hy1⟩) (by assumption) ?_
    case hy1 => intro w' hSw; obtain ⟨_, _⟩ := MC.out w' hSw; go_simp; try with_reducible rfl
    simp only [Act.put, List.getElem_toArray, List.getElem_cons_zero, List.getElem_cons_succ, List.setIfInBounds_toArray, List.set_cons_zero, List.set_cons_succ]
    refine' wpAnyH_take (i := 2) (v := _) rfl (by kernel_rfl) (by kernel_rfl) (by kernel_rfl) (fun _ _ _ h => h) (Or.inl ⟨by kernel_rfl, ?hy2⟩) (by assumption) ?_
    case hy2 => intro w' hSw; obtain ⟨_, _⟩ := MC.out w' hSw; go_simp; try with_reducible rfl
    simp only [Act.put, List.getElem_toArray, List.getElem_cons_zero, List.getElem_cons_succ, List.setIfInBounds_toArray, List.set_cons_zero, List.set_cons_succ]
    refine' wpAnyH_take (i := 5) (v := _) rfl (by kernel_rfl) (by kernel_rfl) (by kernel_rfl) (fun _ _ _ h => h) (Or.inl ⟨by kernel_rfl, ?hy5⟩) (by assumption) ?_
    case hy5 => intro w' hSw; obtain ⟨_, _⟩ := MC.out w' hSw; go_simp; try with_reducible rfl
    simp only [Act.put, List.getElem_toArray, List.getElem_cons_zero, List.getElem_cons_succ, List.setIfInBounds_toArray, List.set_cons_zero, List.set_cons_succ]
    refine' wpAnyH_take (i := 6) (v := _) rfl (by kernel_rfl) (by kernel_rfl) (by kernel_rfl) (fun _ _ _ h => h) (Or.inl ⟨by kernel_rfl, ?hy6⟩) (by assumption) ?_
    case hy6 => intro w' hSw; obtain ⟨_, _⟩ := MC.out w' hSw; go_simp; try with_reducible rfl
    simp only [Act.put, List.getElem_toArray, List.getElem_cons_zero, List.getElem_cons_succ, List.setIfInBounds_toArray, List.set_cons_zero, List.set_cons_succ]
    generalize w0.drew = wz at *
    refine wpAnyH_ready (rs := [0, 4, 9]) (by kernel_rfl) (by simp) (AllReadyH.cons rfl (fun K hK => ?_) (AllReadyH.cons rfl (fun K hK => ?_) (AllReadyH.cons rfl (fun K hK => ?_) AllReadyH.nil)))
    · skip
      go_simp
      have kk1 : Keep noneOf w0 (wz.alloc (.cells #[] 3)) := KZ.alloc _
      have nq1 : w0.heap.size ≤ wz.heap.size := KZ.size
      have sz1 : wz.heap.size < (wz.alloc (.cells #[] 3)).heap.size := by simp
      have ro1 : (wz.alloc (.cells #[] 3)).ownsRow w0.heap.size 3 1 (.slice (some ⟨wz.heap.size, 0, none⟩) 0 0) 0 [] := own_base (World.ownsRow_made wz #[] 0 (Nat.le_refl _) (Nat.zero_le _) rfl) nq1
      refine hK.out _ _ (kk1) (fun hHeld => ?_)
      clear hK K
      try simp only [Act.put, List.getElem_toArray, List.getElem_cons_zero, List.getElem_cons_succ, List.setIfInBounds_toArray, List.set_cons_zero, List.set_cons_succ]
      generalize hq1 : wz.heap.size = q1 at *
      generalize wz.alloc (.cells #[] 3) = wa1 at *
      refine wpAnyH_ready (rs := [3, 4, 9]) (by kernel_rfl) (by simp) (AllReadyH.cons rfl (fun K hK => ?_) (AllReadyH.cons rfl (fun K hK => ?_) (AllReadyH.cons rfl (fun K hK => ?_) AllReadyH.nil)))
      · skip
        refine step_append_new wa1 w0.heap.size kk1.size rfl _ _ 22 rfl 3 i0 _ Try.underlying22 hi0 hz0 hz1 hz2 rfl q1 _ c.v _ rfl rfl ro1 (H1.out.keepN kk1) (by omega) ?_
        intro v2 w102 Z2 hg2
        have kg2 := (Keep.of_grown hg2).mono (T := fun k => k = q1) (fun i _ e => Option.some.inj e)
        have kk2 : Keep noneOf w0 w102 := kk1.trans kg2 (fun i hi e => by omega)
        have sz2 := kg2.size
        obtain ⟨D0, e0, rfl, _⟩ := Z2.shape
        refine hK.out _ _ (kk2) (fun hHeld => ?_)
        clear hK K
        try simp only [Act.put, List.getElem_toArray, List.getElem_cons_zero, List.getElem_cons_succ, List.setIfInBounds_toArray, List.set_cons_zero, List.set_cons_succ]
        generalize hn2 : wa1.heap.size = n2 at *
        refine wpAnyH_ready (rs := [4, 9]) (by kernel_rfl) (by simp) (AllReadyH.cons rfl (fun K hK => ?_) (AllReadyH.cons rfl (fun K hK => ?_) AllReadyH.nil))
        · skip
          go_simp
          have kk3 : Keep noneOf w0 (w102.alloc (.cells #[] 3)) := kk2.alloc _
          have nq3 : w0.heap.size ≤ w102.heap.size := kk2.size
          have sz3 : w102.heap.size < (w102.alloc (.cells #[] 3)).heap.size := by simp
          have ro3 : (w102.alloc (.cells #[] 3)).ownsRow w0.heap.size 3 1 (.slice (some ⟨w102.heap.size, 0, none⟩) 0 0) 0 [] := own_base (World.ownsRow_made w102 #[] 0 (Nat.le_refl _) (Nat.zero_le _) rfl) nq3
          have zk3_3 := Z2.keepN ((Keep.refl noneOf w102).alloc (.cells #[] 3))
          refine hK.out _ _ (kk3) (fun hHeld => ?_)
          clear hK K
          try simp only [Act.put, List.getElem_toArray, List.getElem_cons_zero, List.getElem_cons_succ, List.setIfInBounds_toArray, List.set_cons_zero, List.set_cons_succ]
          generalize hq3 : w102.heap.size = q3 at *
          generalize w102.alloc (.cells #[] 3) = wa3 at *
          refine wpAnyH_ready (rs := [7, 9]) (by kernel_rfl) (by simp) (AllReadyH.cons rfl (fun K hK => ?_) (AllReadyH.cons rfl (fun K hK => ?_) AllReadyH.nil))
          · skip
            refine step_append_new wa3 w0.heap.size kk3.size rfl _ _ 22 rfl 3 i0 _ Try.underlying22 hi0 hz0 hz1 hz2 rfl q3 _ c.l _ rfl rfl ro3 (H2.out.keepN kk3) (by omega) ?_
            intro v4 w104 Z4 hg4
            have kg4 := (Keep.of_grown hg4).mono (T := fun k => k = q3) (fun i _ e => Option.some.inj e)
            have kk4 : Keep noneOf w0 w104 := kk3.trans kg4 (fun i hi e => by omega)
            have sz4 := kg4.size
            obtain ⟨D1, e1, rfl, _⟩ := Z4.shape
            have zk4_3 := zk3_3.keep kg4 (fun i _ hi e => by omega)
            refine hK.out _ _ (kk4) (fun hHeld => ?_)
            clear hK K
            try simp only [Act.put, List.getElem_toArray, List.getElem_cons_zero, List.getElem_cons_succ, List.setIfInBounds_toArray, List.set_cons_zero, List.set_cons_succ]
            generalize hn4 : wa3.heap.size = n4 at *
            refine' wpAnyH_take (i := 8) (v := _) rfl (by kernel_rfl) (by kernel_rfl) (by kernel_rfl) (fun _ _ _ h => h) (Or.inl ⟨by kernel_rfl, ?hy8⟩) (by assumption) ?_
            case hy8 => intro w' hSw; obtain ⟨_, _⟩ := MC.out w' hSw; go_simp; try with_reducible rfl
            simp only [Act.put, List.getElem_toArray, List.getElem_cons_zero, List.getElem_cons_succ, List.setIfInBounds_toArray, List.set_cons_zero, List.set_cons_succ]
            refine wpAnyH_ready (rs := [9]) (by kernel_rfl) (by simp) (AllReadyH.cons rfl (fun K hK => ?_) AllReadyH.nil)
            go_simp
            have kk5 : Keep noneOf w0 (w104.alloc (.cells #[.slice none 0 0, .slice none 0 0] 24)) := kk4.alloc _
            have nq5 : w0.heap.size ≤ w104.heap.size := kk4.size
            have sz5 : w104.heap.size < (w104.alloc (.cells #[.slice none 0 0, .slice none 0 0] 24)).heap.size := by simp
            have bx5 := Box.new w104 24 #[.slice none 0 0, .slice none 0 0]
            have zk5_3 := zk4_3.keepN ((Keep.refl noneOf w104).alloc (.cells #[.slice none 0 0, .slice none 0 0] 24))
            have zk5_7 := Z4.keepN ((Keep.refl noneOf w104).alloc (.cells #[.slice none 0 0, .slice none 0 0] 24))
            refine hK.out _ _ (kk5) (fun hHeld => ?_)
            clear hK K
            try simp only [Act.put, List.getElem_toArray, List.getElem_cons_zero, List.getElem_cons_succ, List.setIfInBounds_toArray, List.set_cons_zero, List.set_cons_succ]
            generalize hq5 : w104.heap.size = q5 at *
            generalize w104.alloc (.cells #[.slice none 0 0, .slice none 0 0] 24) = wa5 at *
            have zz0 := bx5.cell 0
            have zz1 := bx5.cell 1
            have ff0 := bx5.free 0
            have ff1 := bx5.free 1
            refine wpAnyH_ready (rs := [10]) (by kernel_rfl) (by simp) (AllReadyH.cons rfl (fun K hK => ?_) AllReadyH.nil)
            go_simp
            have UE := (bx5.put 0 (.slice D0 c.v.length e0)).put 1 (.slice D1 c.l.length e1)
            have KE := (kk5.setCell (p := ⟨q5, 0, none⟩) (fun hh => absurd hh (by show ¬ q5 < w0.heap.size; omega)) (.slice D0 c.v.length e0)).setCell (p := ⟨q5, 1, none⟩) (fun hh => absurd hh (by show ¬ q5 < w0.heap.size; omega)) (.slice D1 c.l.length e1)
            have KX := ((Keep.refl (fun i => i = q5) wa5).setCell (p := ⟨q5, 0, none⟩) (fun _ => rfl) (.slice D0 c.v.length e0)).setCell (p := ⟨q5, 1, none⟩) (fun _ => rfl) (.slice D1 c.l.length e1)
            have ZA := (zk5_3.keep KX (fun i _ hi e => by omega)).mono (D' := fun _ => True) (fun _ _ _ => trivial)
            have ZB := (zk5_7.keep KX (fun i _ hi e => by omega)).mono (D' := fun _ => True) (fun _ _ _ => trivial)
            refine hK.out _ _ (KE) (fun hHeld => ?_)
            clear hK K
            try simp only [Act.put, List.getElem_toArray, List.getElem_cons_zero, List.getElem_cons_succ, List.setIfInBounds_toArray, List.set_cons_zero, List.set_cons_succ]
            generalize (wa5.setCell ⟨q5, 0, none⟩ (.slice D0 c.v.length e0)).setCell ⟨q5, 1, none⟩ (.slice D1 c.l.length e1) = we at *
            refine wpAnyH_done (by kernel_rfl) ?_ _
            go_wp2_with fail
            go_meet
            exact ⟨_, D0, e0, D1, e1, rfl, KE, by omega, UE, ⟨_, _, rfl, ZA, ZB⟩⟩
          · skip
            go_simp
            have kk7 : Keep noneOf w0 (wa3.alloc (.cells #[.slice none 0 0, .slice none 0 0] 24)) := kk3.alloc _
            have nq7 : w0.heap.size ≤ wa3.heap.size := kk3.size
            have sz7 : wa3.heap.size < (wa3.alloc (.cells #[.slice none 0 0, .slice none 0 0] 24)).heap.size := by simp
            have bx7 := Box.new wa3 24 #[.slice none 0 0, .slice none 0 0]
            have rk7_4 := ro3.alloc (.cells #[.slice none 0 0, .slice none 0 0] 24)
            have rl7_4 : q3 < wa3.heap.size := (ro3.lt q3 rfl).2
            have zk7_3 := zk3_3.keepN ((Keep.refl noneOf wa3).alloc (.cells #[.slice none 0 0, .slice none 0 0] 24))
            refine hK.out _ _ (kk7) (fun hHeld => ?_)
            clear hK K
            try simp only [Act.put, List.getElem_toArray, List.getElem_cons_zero, List.getElem_cons_succ, List.setIfInBounds_toArray, List.set_cons_zero, List.set_cons_succ]
            generalize hq7 : wa3.heap.size = q7 at *
            generalize wa3.alloc (.cells #[.slice none 0 0, .slice none 0 0] 24) = wa7 at *
            refine wpAnyH_ready (rs := [7]) (by kernel_rfl) (by simp) (AllReadyH.cons rfl (fun K hK => ?_) AllReadyH.nil)
            refine step_append_new wa7 w0.heap.size kk7.size rfl _ _ 22 rfl 3 i0 _ Try.underlying22 hi0 hz0 hz1 hz2 rfl q3 _ c.l _ rfl rfl rk7_4 (H2.out.keepN kk7) (by omega) ?_
            intro v8 w108 Z8 hg8
            have kg8 := (Keep.of_grown hg8).mono (T := fun k => k = q3) (fun i _ e => Option.some.inj e)
            have kk8 : Keep noneOf w0 w108 := kk7.trans kg8 (fun i hi e => by omega)
            have sz8 := kg8.size
            obtain ⟨D1, e1, rfl, _⟩ := Z8.shape
            have zk8_3 := zk7_3.keep kg8 (fun i _ hi e => by omega)
            have bl8 := bx7.lt
            have bk8 := bx7.keep kg8 (fun e => by omega)
            refine hK.out _ _ (kk8) (fun hHeld => ?_)
            clear hK K
            try simp only [Act.put, List.getElem_toArray, List.getElem_cons_zero, List.getElem_cons_succ, List.setIfInBounds_toArray, List.set_cons_zero, List.set_cons_succ]
            generalize hn8 : wa7.heap.size = n8 at *
            refine' wpAnyH_take (i := 8) (v := _) rfl (by kernel_rfl) (by kernel_rfl) (by kernel_rfl) (fun _ _ _ h => h) (Or.inl ⟨by kernel_rfl, ?hy8⟩) (by assumption) ?_
            case hy8 => intro w' hSw; obtain ⟨_, _⟩ := MC.out w' hSw; go_simp; try with_reducible rfl
            simp only [Act.put, List.getElem_toArray, List.getElem_cons_zero, List.getElem_cons_succ, List.setIfInBounds_toArray, List.set_cons_zero, List.set_cons_succ]
            have zz0 := bk8.cell 0
            have zz1 := bk8.cell 1
            have ff0 := bk8.free 0
            have ff1 := bk8.free 1
            refine wpAnyH_ready (rs := [10]) (by kernel_rfl) (by simp) (AllReadyH.cons rfl (fun K hK => ?_) AllReadyH.nil)
            go_simp
            have UE := (bk8.put 0 (.slice D0 c.v.length e0)).put 1 (.slice D1 c.l.length e1)
            have KE := (kk8.setCell (p := ⟨q7, 0, none⟩) (fun hh => absurd hh (by show ¬ q7 < w0.heap.size; omega)) (.slice D0 c.v.length e0)).setCell (p := ⟨q7, 1, none⟩) (fun hh => absurd hh (by show ¬ q7 < w0.heap.size; omega)) (.slice D1 c.l.length e1)
            have KX := ((Keep.refl (fun i => i = q7) w108).setCell (p := ⟨q7, 0, none⟩) (fun _ => rfl) (.slice D0 c.v.length e0)).setCell (p := ⟨q7, 1, none⟩) (fun _ => rfl) (.slice D1 c.l.length e1)
            have ZA := (zk8_3.keep KX (fun i _ hi e => by omega)).mono (D' := fun _ => True) (fun _ _ _ => trivial)
            have ZB := (Z8.keep KX (fun i _ hi e => by omega)).mono (D' := fun _ => True) (fun _ _ _ => trivial)
            refine hK.out _ _ (KE) (fun hHeld => ?_)
            clear hK K
            try simp only [Act.put, List.getElem_toArray, List.getElem_cons_zero, List.getElem_cons_succ, List.setIfInBounds_toArray, List.set_cons_zero, List.set_cons_succ]
            generalize (w108.setCell ⟨q7, 0, none⟩ (.slice D0 c.v.length e0)).setCell ⟨q7, 1, none⟩ (.slice D1 c.l.length e1) = we at *
            refine wpAnyH_done (by kernel_rfl) ?_ _
            go_wp2_with fail
            go_meet
            exact ⟨_, D0, e0, D1, e1, rfl, KE, by omega, UE, ⟨_, _, rfl, ZA, ZB⟩⟩
        · skip
          go_simp
          have kk10 : Keep noneOf w0 (w102.alloc (.cells #[.slice none 0 0, .slice none 0 0] 24)) := kk2.alloc _
          have nq10 : w0.heap.size ≤ w102.heap.size := kk2.size
          have sz10 : w102.heap.size < (w102.alloc (.cells #[.slice none 0 0, .slice none 0 0] 24)).heap.size := by simp
          have bx10 := Box.new w102 24 #[.slice none 0 0, .slice none 0 0]
          have zk10_3 := Z2.keepN ((Keep.refl noneOf w102).alloc (.cells #[.slice none 0 0, .slice none 0 0] 24))
          refine hK.out _ _ (kk10) (fun hHeld => ?_)
          clear hK K
          try simp only [Act.put, List.getElem_toArray, List.getElem_cons_zero, List.getElem_cons_succ, List.setIfInBounds_toArray, List.set_cons_zero, List.set_cons_succ]
          generalize hq10 : w102.heap.size = q10 at *
          generalize w102.alloc (.cells #[.slice none 0 0, .slice none 0 0] 24) = wa10 at *
          refine wpAnyH_ready (rs := [4]) (by kernel_rfl) (by simp) (AllReadyH.cons rfl (fun K hK => ?_) AllReadyH.nil)
          go_simp
          have kk11 : Keep noneOf w0 (wa10.alloc (.cells #[] 3)) := kk10.alloc _
          have nq11 : w0.heap.size ≤ wa10.heap.size := kk10.size
          have sz11 : wa10.heap.size < (wa10.alloc (.cells #[] 3)).heap.size := by simp
          have ro11 : (wa10.alloc (.cells #[] 3)).ownsRow w0.heap.size 3 1 (.slice (some ⟨wa10.heap.size, 0, none⟩) 0 0) 0 [] := own_base (World.ownsRow_made wa10 #[] 0 (Nat.le_refl _) (Nat.zero_le _) rfl) nq11
          have zk11_3 := zk10_3.keepN ((Keep.refl noneOf wa10).alloc (.cells #[] 3))
          have bk11 := bx10.alloc (.cells #[] 3)
          have bl11 := bx10.lt
          refine hK.out _ _ (kk11) (fun hHeld => ?_)
          clear hK K
          try simp only [Act.put, List.getElem_toArray, List.getElem_cons_zero, List.getElem_cons_succ, List.setIfInBounds_toArray, List.set_cons_zero, List.set_cons_succ]
          generalize hq11 : wa10.heap.size = q11 at *
          generalize wa10.alloc (.cells #[] 3) = wa11 at *
          refine wpAnyH_ready (rs := [7]) (by kernel_rfl) (by simp) (AllReadyH.cons rfl (fun K hK => ?_) AllReadyH.nil)
          refine step_append_new wa11 w0.heap.size kk11.size rfl _ _ 22 rfl 3 i0 _ Try.underlying22 hi0 hz0 hz1 hz2 rfl q11 _ c.l _ rfl rfl ro11 (H2.out.keepN kk11) (by omega) ?_
          intro v12 w112 Z12 hg12
          have kg12 := (Keep.of_grown hg12).mono (T := fun k => k = q11) (fun i _ e => Option.some.inj e)
          have kk12 : Keep noneOf w0 w112 := kk11.trans kg12 (fun i hi e => by omega)
          have sz12 := kg12.size
          obtain ⟨D1, e1, rfl, _⟩ := Z12.shape
          have zk12_3 := zk11_3.keep kg12 (fun i _ hi e => by omega)
          have bl12 := bk11.lt
          have bk12 := bk11.keep kg12 (fun e => by omega)
          refine hK.out _ _ (kk12) (fun hHeld => ?_)
          clear hK K
          try simp only [Act.put, List.getElem_toArray, List.getElem_cons_zero, List.getElem_cons_succ, List.setIfInBounds_toArray, List.set_cons_zero, List.set_cons_succ]
          generalize hn12 : wa11.heap.size = n12 at *
          refine' wpAnyH_take (i := 8) (v := _) rfl (by kernel_rfl) (by kernel_rfl) (by kernel_rfl) (fun _ _ _ h => h) (Or.inl ⟨by kernel_rfl, ?hy8⟩) (by assumption) ?_
          case hy8 => intro w' hSw; obtain ⟨_, _⟩ := MC.out w' hSw; go_simp; try with_reducible rfl
          simp only [Act.put, List.getElem_toArray, List.getElem_cons_zero, List.getElem_cons_succ, List.setIfInBounds_toArray, List.set_cons_zero, List.set_cons_succ]
          have zz0 := bk12.cell 0
          have zz1 := bk12.cell 1
          have ff0 := bk12.free 0
          have ff1 := bk12.free 1
          refine wpAnyH_ready (rs := [10]) (by kernel_rfl) (by simp) (AllReadyH.cons rfl (fun K hK => ?_) AllReadyH.nil)
          go_simp
          have UE := (bk12.put 0 (.slice D0 c.v.length e0)).put 1 (.slice D1 c.l.length e1)
          have KE := (kk12.setCell (p := ⟨q10, 0, none⟩) (fun hh => absurd hh (by show ¬ q10 < w0.heap.size; omega)) (.slice D0 c.v.length e0)).setCell (p := ⟨q10, 1, none⟩) (fun hh => absurd hh (by show ¬ q10 < w0.heap.size; omega)) (.slice D1 c.l.length e1)
          have KX := ((Keep.refl (fun i => i = q10) w112).setCell (p := ⟨q10, 0, none⟩) (fun _ => rfl) (.slice D0 c.v.length e0)).setCell (p := ⟨q10, 1, none⟩) (fun _ => rfl) (.slice D1 c.l.length e1)
          have ZA := (zk12_3.keep KX (fun i _ hi e => by omega)).mono (D' := fun _ => True) (fun _ _ _ => trivial)
          have ZB := (Z12.keep KX (fun i _ hi e => by omega)).mono (D' := fun _ => True) (fun _ _ _ => trivial)
          refine hK.out _ _ (KE) (fun hHeld => ?_)
          clear hK K
          try simp only [Act.put, List.getElem_toArray, List.getElem_cons_zero, List.getElem_cons_succ, List.setIfInBounds_toArray, List.set_cons_zero, List.set_cons_succ]
          generalize (w112.setCell ⟨q10, 0, none⟩ (.slice D0 c.v.length e0)).setCell ⟨q10, 1, none⟩ (.slice D1 c.l.length e1) = we at *
          refine wpAnyH_done (by kernel_rfl) ?_ _
          go_wp2_with fail
          go_meet
          exact ⟨_, D0, e0, D1, e1, rfl, KE, by omega, UE, ⟨_, _, rfl, ZA, ZB⟩⟩
      · skip
        go_simp
        have kk14 : Keep noneOf w0 (wa1.alloc (.cells #[] 3)) := kk1.alloc _
        have nq14 : w0.heap.size ≤ wa1.heap.size := kk1.size
        have sz14 : wa1.heap.size < (wa1.alloc (.cells #[] 3)).heap.size := by simp
        have ro14 : (wa1.alloc (.cells #[] 3)).ownsRow w0.heap.size 3 1 (.slice (some ⟨wa1.heap.size, 0, none⟩) 0 0) 0 [] := own_base (World.ownsRow_made wa1 #[] 0 (Nat.le_refl _) (Nat.zero_le _) rfl) nq14
        have rk14_0 := ro1.alloc (.cells #[] 3)
        have rl14_0 : q1 < wa1.heap.size := (ro1.lt q1 rfl).2
        refine hK.out _ _ (kk14) (fun hHeld => ?_)
        clear hK K
        try simp only [Act.put, List.getElem_toArray, List.getElem_cons_zero, List.getElem_cons_succ, List.setIfInBounds_toArray, List.set_cons_zero, List.set_cons_succ]
        generalize hq14 : wa1.heap.size = q14 at *
        generalize wa1.alloc (.cells #[] 3) = wa14 at *
        refine wpAnyH_ready (rs := [3, 9]) (by kernel_rfl) (by simp) (AllReadyH.cons rfl (fun K hK => ?_) (AllReadyH.cons rfl (fun K hK => ?_) AllReadyH.nil))
        · skip
          refine step_append_new wa14 w0.heap.size kk14.size rfl _ _ 22 rfl 3 i0 _ Try.underlying22 hi0 hz0 hz1 hz2 rfl q1 _ c.v _ rfl rfl rk14_0 (H1.out.keepN kk14) (by omega) ?_
          intro v15 w115 Z15 hg15
          have kg15 := (Keep.of_grown hg15).mono (T := fun k => k = q1) (fun i _ e => Option.some.inj e)
          have kk15 : Keep noneOf w0 w115 := kk14.trans kg15 (fun i hi e => by omega)
          have sz15 := kg15.size
          obtain ⟨D0, e0, rfl, _⟩ := Z15.shape
          have rk15_4 := own_keep ro14 kg15 (fun i e hh => by have := Option.some.inj (show some q14 = some i from e); omega)
          refine hK.out _ _ (kk15) (fun hHeld => ?_)
          clear hK K
          try simp only [Act.put, List.getElem_toArray, List.getElem_cons_zero, List.getElem_cons_succ, List.setIfInBounds_toArray, List.set_cons_zero, List.set_cons_succ]
          generalize hn15 : wa14.heap.size = n15 at *
          refine wpAnyH_ready (rs := [7, 9]) (by kernel_rfl) (by simp) (AllReadyH.cons rfl (fun K hK => ?_) (AllReadyH.cons rfl (fun K hK => ?_) AllReadyH.nil))
          · skip
            refine step_append_new w115 w0.heap.size kk15.size rfl _ _ 22 rfl 3 i0 _ Try.underlying22 hi0 hz0 hz1 hz2 rfl q14 _ c.l _ rfl rfl rk15_4 (H2.out.keepN kk15) (by omega) ?_
            intro v16 w116 Z16 hg16
            have kg16 := (Keep.of_grown hg16).mono (T := fun k => k = q14) (fun i _ e => Option.some.inj e)
            have kk16 : Keep noneOf w0 w116 := kk15.trans kg16 (fun i hi e => by omega)
            have sz16 := kg16.size
            obtain ⟨D1, e1, rfl, _⟩ := Z16.shape
            have zk16_3 := Z15.keep kg16 (fun i _ hi e => by omega)
            refine hK.out _ _ (kk16) (fun hHeld => ?_)
            clear hK K
            try simp only [Act.put, List.getElem_toArray, List.getElem_cons_zero, List.getElem_cons_succ, List.setIfInBounds_toArray, List.set_cons_zero, List.set_cons_succ]
            generalize hn16 : w115.heap.size = n16 at *
            refine' wpAnyH_take (i := 8) (v := _) rfl (by kernel_rfl) (by kernel_rfl) (by kernel_rfl) (fun _ _ _ h => h) (Or.inl ⟨by kernel_rfl, ?hy8⟩) (by assumption) ?_
            case hy8 => intro w' hSw; obtain ⟨_, _⟩ := MC.out w' hSw; go_simp; try with_reducible rfl
            simp only [Act.put, List.getElem_toArray, List.getElem_cons_zero, List.getElem_cons_succ, List.setIfInBounds_toArray, List.set_cons_zero, List.set_cons_succ]
            refine wpAnyH_ready (rs := [9]) (by kernel_rfl) (by simp) (AllReadyH.cons rfl (fun K hK => ?_) AllReadyH.nil)
            go_simp
            have kk17 : Keep noneOf w0 (w116.alloc (.cells #[.slice none 0 0, .slice none 0 0] 24)) := kk16.alloc _
            have nq17 : w0.heap.size ≤ w116.heap.size := kk16.size
            have sz17 : w116.heap.size < (w116.alloc (.cells #[.slice none 0 0, .slice none 0 0] 24)).heap.size := by simp
            have bx17 := Box.new w116 24 #[.slice none 0 0, .slice none 0 0]
            have zk17_3 := zk16_3.keepN ((Keep.refl noneOf w116).alloc (.cells #[.slice none 0 0, .slice none 0 0] 24))
            have zk17_7 := Z16.keepN ((Keep.refl noneOf w116).alloc (.cells #[.slice none 0 0, .slice none 0 0] 24))
            refine hK.out _ _ (kk17) (fun hHeld => ?_)
            clear hK K
            try simp only [Act.put, List.getElem_toArray, List.getElem_cons_zero, List.getElem_cons_succ, List.setIfInBounds_toArray, List.set_cons_zero, List.set_cons_succ]
            generalize hq17 : w116.heap.size = q17 at *
            generalize w116.alloc (.cells #[.slice none 0 0, .slice none 0 0] 24) = wa17 at *
            have zz0 := bx17.cell 0
            have zz1 := bx17.cell 1
            have ff0 := bx17.free 0
            have ff1 := bx17.free 1
            refine wpAnyH_ready (rs := [10]) (by kernel_rfl) (by simp) (AllReadyH.cons rfl (fun K hK => ?_) AllReadyH.nil)
            go_simp
            have UE := (bx17.put 0 (.slice D0 c.v.length e0)).put 1 (.slice D1 c.l.length e1)
            have KE := (kk17.setCell (p := ⟨q17, 0, none⟩) (fun hh => absurd hh (by show ¬ q17 < w0.heap.size; omega)) (.slice D0 c.v.length e0)).setCell (p := ⟨q17, 1, none⟩) (fun hh => absurd hh (by show ¬ q17 < w0.heap.size; omega)) (.slice D1 c.l.length e1)
            have KX := ((Keep.refl (fun i => i = q17) wa17).setCell (p := ⟨q17, 0, none⟩) (fun _ => rfl) (.slice D0 c.v.length e0)).setCell (p := ⟨q17, 1, none⟩) (fun _ => rfl) (.slice D1 c.l.length e1)
            have ZA := (zk17_3.keep KX (fun i _ hi e => by omega)).mono (D' := fun _ => True) (fun _ _ _ => trivial)
            have ZB := (zk17_7.keep KX (fun i _ hi e => by omega)).mono (D' := fun _ => True) (fun _ _ _ => trivial)
            refine hK.out _ _ (KE) (fun hHeld => ?_)
            clear hK K
            try simp only [Act.put, List.getElem_toArray, List.getElem_cons_zero, List.getElem_cons_succ, List.setIfInBounds_toArray, List.set_cons_zero, List.set_cons_succ]
            generalize (wa17.setCell ⟨q17, 0, none⟩ (.slice D0 c.v.length e0)).setCell ⟨q17, 1, none⟩ (.slice D1 c.l.length e1) = we at *
            refine wpAnyH_done (by kernel_rfl) ?_ _
            go_wp2_with fail
            go_meet
            exact ⟨_, D0, e0, D1, e1, rfl, KE, by omega, UE, ⟨_, _, rfl, ZA, ZB⟩⟩
          · skip
            go_simp
            have kk19 : Keep noneOf w0 (w115.alloc (.cells #[.slice none 0 0, .slice none 0 0] 24)) := kk15.alloc _
            have nq19 : w0.heap.size ≤ w115.heap.size := kk15.size
            have sz19 : w115.heap.size < (w115.alloc (.cells #[.slice none 0 0, .slice none 0 0] 24)).heap.size := by simp
            have bx19 := Box.new w115 24 #[.slice none 0 0, .slice none 0 0]
            have rk19_4 := rk15_4.alloc (.cells #[.slice none 0 0, .slice none 0 0] 24)
            have rl19_4 : q14 < w115.heap.size := (rk15_4.lt q14 rfl).2
            have zk19_3 := Z15.keepN ((Keep.refl noneOf w115).alloc (.cells #[.slice none 0 0, .slice none 0 0] 24))
            refine hK.out _ _ (kk19) (fun hHeld => ?_)
            clear hK K
            try simp only [Act.put, List.getElem_toArray, List.getElem_cons_zero, List.getElem_cons_succ, List.setIfInBounds_toArray, List.set_cons_zero, List.set_cons_succ]
            generalize hq19 : w115.heap.size = q19 at *
            generalize w115.alloc (.cells #[.slice none 0 0, .slice none 0 0] 24) = wa19 at *
            refine wpAnyH_ready (rs := [7]) (by kernel_rfl) (by simp) (AllReadyH.cons rfl (fun K hK => ?_) AllReadyH.nil)
            refine step_append_new wa19 w0.heap.size kk19.size rfl _ _ 22 rfl 3 i0 _ Try.underlying22 hi0 hz0 hz1 hz2 rfl q14 _ c.l _ rfl rfl rk19_4 (H2.out.keepN kk19) (by omega) ?_
            intro v20 w120 Z20 hg20
            have kg20 := (Keep.of_grown hg20).mono (T := fun k => k = q14) (fun i _ e => Option.some.inj e)
            have kk20 : Keep noneOf w0 w120 := kk19.trans kg20 (fun i hi e => by omega)
            have sz20 := kg20.size
            obtain ⟨D1, e1, rfl, _⟩ := Z20.shape
            have zk20_3 := zk19_3.keep kg20 (fun i _ hi e => by omega)
            have bl20 := bx19.lt
            have bk20 := bx19.keep kg20 (fun e => by omega)
            refine hK.out _ _ (kk20) (fun hHeld => ?_)
            clear hK K
            try simp only [Act.put, List.getElem_toArray, List.getElem_cons_zero, List.getElem_cons_succ, List.setIfInBounds_toArray, List.set_cons_zero, List.set_cons_succ]
            generalize hn20 : wa19.heap.size = n20 at *
            refine' wpAnyH_take (i := 8) (v := _) rfl (by kernel_rfl) (by kernel_rfl) (by kernel_rfl) (fun _ _ _ h => h) (Or.inl ⟨by kernel_rfl, ?hy8⟩) (by assumption) ?_
            case hy8 => intro w' hSw; obtain ⟨_, _⟩ := MC.out w' hSw; go_simp; try with_reducible rfl
            simp only [Act.put, List.getElem_toArray, List.getElem_cons_zero, List.getElem_cons_succ, List.setIfInBounds_toArray, List.set_cons_zero, List.set_cons_succ]
            have zz0 := bk20.cell 0
            have zz1 := bk20.cell 1
            have ff0 := bk20.free 0
            have ff1 := bk20.free 1
            refine wpAnyH_ready (rs := [10]) (by kernel_rfl) (by simp) (AllReadyH.cons rfl (fun K hK => ?_) AllReadyH.nil)
            go_simp
            have UE := (bk20.put 0 (.slice D0 c.v.length e0)).put 1 (.slice D1 c.l.length e1)
            have KE := (kk20.setCell (p := ⟨q19, 0, none⟩) (fun hh => absurd hh (by show ¬ q19 < w0.heap.size; omega)) (.slice D0 c.v.length e0)).setCell (p := ⟨q19, 1, none⟩) (fun hh => absurd hh (by show ¬ q19 < w0.heap.size; omega)) (.slice D1 c.l.length e1)
            have KX := ((Keep.refl (fun i => i = q19) w120).setCell (p := ⟨q19, 0, none⟩) (fun _ => rfl) (.slice D0 c.v.length e0)).setCell (p := ⟨q19, 1, none⟩) (fun _ => rfl) (.slice D1 c.l.length e1)
            have ZA := (zk20_3.keep KX (fun i _ hi e => by omega)).mono (D' := fun _ => True) (fun _ _ _ => trivial)
            have ZB := (Z20.keep KX (fun i _ hi e => by omega)).mono (D' := fun _ => True) (fun _ _ _ => trivial)
            refine hK.out _ _ (KE) (fun hHeld => ?_)
            clear hK K
            try simp only [Act.put, List.getElem_toArray, List.getElem_cons_zero, List.getElem_cons_succ, List.setIfInBounds_toArray, List.set_cons_zero, List.set_cons_succ]
            generalize (w120.setCell ⟨q19, 0, none⟩ (.slice D0 c.v.length e0)).setCell ⟨q19, 1, none⟩ (.slice D1 c.l.length e1) = we at *
            refine wpAnyH_done (by kernel_rfl) ?_ _
            go_wp2_with fail
            go_meet
            exact ⟨_, D0, e0, D1, e1, rfl, KE, by omega, UE, ⟨_, _, rfl, ZA, ZB⟩⟩
        · skip
          go_simp
          have kk22 : Keep noneOf w0 (wa14.alloc (.cells #[.slice none 0 0, .slice none 0 0] 24)) := kk14.alloc _
          have nq22 : w0.heap.size ≤ wa14.heap.size := kk14.size
          have sz22 : wa14.heap.size < (wa14.alloc (.cells #[.slice none 0 0, .slice none 0 0] 24)).heap.size := by simp
          have bx22 := Box.new wa14 24 #[.slice none 0 0, .slice none 0 0]
          have rk22_0 := rk14_0.alloc (.cells #[.slice none 0 0, .slice none 0 0] 24)
          have rl22_0 : q1 < wa14.heap.size := (rk14_0.lt q1 rfl).2
          have rk22_4 := ro14.alloc (.cells #[.slice none 0 0, .slice none 0 0] 24)
          have rl22_4 : q14 < wa14.heap.size := (ro14.lt q14 rfl).2
          refine hK.out _ _ (kk22) (fun hHeld => ?_)
          clear hK K
          try simp only [Act.put, List.getElem_toArray, List.getElem_cons_zero, List.getElem_cons_succ, List.setIfInBounds_toArray, List.set_cons_zero, List.set_cons_succ]
          generalize hq22 : wa14.heap.size = q22 at *
          generalize wa14.alloc (.cells #[.slice none 0 0, .slice none 0 0] 24) = wa22 at *
          refine wpAnyH_ready (rs := [3]) (by kernel_rfl) (by simp) (AllReadyH.cons rfl (fun K hK => ?_) AllReadyH.nil)
          refine step_append_new wa22 w0.heap.size kk22.size rfl _ _ 22 rfl 3 i0 _ Try.underlying22 hi0 hz0 hz1 hz2 rfl q1 _ c.v _ rfl rfl rk22_0 (H1.out.keepN kk22) (by omega) ?_
          intro v23 w123 Z23 hg23
          have kg23 := (Keep.of_grown hg23).mono (T := fun k => k = q1) (fun i _ e => Option.some.inj e)
          have kk23 : Keep noneOf w0 w123 := kk22.trans kg23 (fun i hi e => by omega)
          have sz23 := kg23.size
          obtain ⟨D0, e0, rfl, _⟩ := Z23.shape
          have rk23_4 := own_keep rk22_4 kg23 (fun i e hh => by have := Option.some.inj (show some q14 = some i from e); omega)
          have bl23 := bx22.lt
          have bk23 := bx22.keep kg23 (fun e => by omega)
          refine hK.out _ _ (kk23) (fun hHeld => ?_)
          clear hK K
          try simp only [Act.put, List.getElem_toArray, List.getElem_cons_zero, List.getElem_cons_succ, List.setIfInBounds_toArray, List.set_cons_zero, List.set_cons_succ]
          generalize hn23 : wa22.heap.size = n23 at *
          refine wpAnyH_ready (rs := [7]) (by kernel_rfl) (by simp) (AllReadyH.cons rfl (fun K hK => ?_) AllReadyH.nil)
          refine step_append_new w123 w0.heap.size kk23.size rfl _ _ 22 rfl 3 i0 _ Try.underlying22 hi0 hz0 hz1 hz2 rfl q14 _ c.l _ rfl rfl rk23_4 (H2.out.keepN kk23) (by omega) ?_
          intro v24 w124 Z24 hg24
          have kg24 := (Keep.of_grown hg24).mono (T := fun k => k = q14) (fun i _ e => Option.some.inj e)
          have kk24 : Keep noneOf w0 w124 := kk23.trans kg24 (fun i hi e => by omega)
          have sz24 := kg24.size
          obtain ⟨D1, e1, rfl, _⟩ := Z24.shape
          have zk24_3 := Z23.keep kg24 (fun i _ hi e => by omega)
          have bl24 := bk23.lt
          have bk24 := bk23.keep kg24 (fun e => by omega)
          refine hK.out _ _ (kk24) (fun hHeld => ?_)
          clear hK K
          try simp only [Act.put, List.getElem_toArray, List.getElem_cons_zero, List.getElem_cons_succ, List.setIfInBounds_toArray, List.set_cons_zero, List.set_cons_succ]
          generalize hn24 : w123.heap.size = n24 at *
          refine' wpAnyH_take (i := 8) (v := _) rfl (by kernel_rfl) (by kernel_rfl) (by kernel_rfl) (fun _ _ _ h => h) (Or.inl ⟨by kernel_rfl, ?hy8⟩) (by assumption) ?_
          case hy8 => intro w' hSw; obtain ⟨_, _⟩ := MC.out w' hSw; go_simp; try with_reducible rfl
          simp only [Act.put, List.getElem_toArray, List.getElem_cons_zero, List.getElem_cons_succ, List.setIfInBounds_toArray, List.set_cons_zero, List.set_cons_succ]
          have zz0 := bk24.cell 0
          have zz1 := bk24.cell 1
          have ff0 := bk24.free 0
          have ff1 := bk24.free 1
          refine wpAnyH_ready (rs := [10]) (by kernel_rfl) (by simp) (AllReadyH.cons rfl (fun K hK => ?_) AllReadyH.nil)
          go_simp
          have UE := (bk24.put 0 (.slice D0 c.v.length e0)).put 1 (.slice D1 c.l.length e1)
          have KE := (kk24.setCell (p := ⟨q22, 0, none⟩) (fun hh => absurd hh (by show ¬ q22 < w0.heap.size; omega)) (.slice D0 c.v.length e0)).setCell (p := ⟨q22, 1, none⟩) (fun hh => absurd hh (by show ¬ q22 < w0.heap.size; omega)) (.slice D1 c.l.length e1)
          have KX := ((Keep.refl (fun i => i = q22) w124).setCell (p := ⟨q22, 0, none⟩) (fun _ => rfl) (.slice D0 c.v.length e0)).setCell (p := ⟨q22, 1, none⟩) (fun _ => rfl) (.slice D1 c.l.length e1)
          have ZA := (zk24_3.keep KX (fun i _ hi e => by omega)).mono (D' := fun _ => True) (fun _ _ _ => trivial)
          have ZB := (Z24.keep KX (fun i _ hi e => by omega)).mono (D' := fun _ => True) (fun _ _ _ => trivial)
          refine hK.out _ _ (KE) (fun hHeld => ?_)
          clear hK K
          try simp only [Act.put, List.getElem_toArray, List.getElem_cons_zero, List.getElem_cons_succ, List.setIfInBounds_toArray, List.set_cons_zero, List.set_cons_succ]
          generalize (w124.setCell ⟨q22, 0, none⟩ (.slice D0 c.v.length e0)).setCell ⟨q22, 1, none⟩ (.slice D1 c.l.length e1) = we at *
          refine wpAnyH_done (by kernel_rfl) ?_ _
          go_wp2_with fail
          go_meet
          exact ⟨_, D0, e0, D1, e1, rfl, KE, by omega, UE, ⟨_, _, rfl, ZA, ZB⟩⟩
      · skip
        go_simp
        have kk26 : Keep noneOf w0 (wa1.alloc (.cells #[.slice none 0 0, .slice none 0 0] 24)) := kk1.alloc _
        have nq26 : w0.heap.size ≤ wa1.heap.size := kk1.size
        have sz26 : wa1.heap.size < (wa1.alloc (.cells #[.slice none 0 0, .slice none 0 0] 24)).heap.size := by simp
        have bx26 := Box.new wa1 24 #[.slice none 0 0, .slice none 0 0]
        have rk26_0 := ro1.alloc (.cells #[.slice none 0 0, .slice none 0 0] 24)
        have rl26_0 : q1 < wa1.heap.size := (ro1.lt q1 rfl).2
        refine hK.out _ _ (kk26) (fun hHeld => ?_)
        clear hK K
        try simp only [Act.put, List.getElem_toArray, List.getElem_cons_zero, List.getElem_cons_succ, List.setIfInBounds_toArray, List.set_cons_zero, List.set_cons_succ]
        generalize hq26 : wa1.heap.size = q26 at *
        generalize wa1.alloc (.cells #[.slice none 0 0, .slice none 0 0] 24) = wa26 at *
        refine wpAnyH_ready (rs := [3, 4]) (by kernel_rfl) (by simp) (AllReadyH.cons rfl (fun K hK => ?_) (AllReadyH.cons rfl (fun K hK => ?_) AllReadyH.nil))
        · skip
          refine step_append_new wa26 w0.heap.size kk26.size rfl _ _ 22 rfl 3 i0 _ Try.underlying22 hi0 hz0 hz1 hz2 rfl q1 _ c.v _ rfl rfl rk26_0 (H1.out.keepN kk26) (by omega) ?_
          intro v27 w127 Z27 hg27
          have kg27 := (Keep.of_grown hg27).mono (T := fun k => k = q1) (fun i _ e => Option.some.inj e)
          have kk27 : Keep noneOf w0 w127 := kk26.trans kg27 (fun i hi e => by omega)
          have sz27 := kg27.size
          obtain ⟨D0, e0, rfl, _⟩ := Z27.shape
          have bl27 := bx26.lt
          have bk27 := bx26.keep kg27 (fun e => by omega)
          refine hK.out _ _ (kk27) (fun hHeld => ?_)
          clear hK K
          try simp only [Act.put, List.getElem_toArray, List.getElem_cons_zero, List.getElem_cons_succ, List.setIfInBounds_toArray, List.set_cons_zero, List.set_cons_succ]
          generalize hn27 : wa26.heap.size = n27 at *
          refine wpAnyH_ready (rs := [4]) (by kernel_rfl) (by simp) (AllReadyH.cons rfl (fun K hK => ?_) AllReadyH.nil)
          go_simp
          have kk28 : Keep noneOf w0 (w127.alloc (.cells #[] 3)) := kk27.alloc _
          have nq28 : w0.heap.size ≤ w127.heap.size := kk27.size
          have sz28 : w127.heap.size < (w127.alloc (.cells #[] 3)).heap.size := by simp
          have ro28 : (w127.alloc (.cells #[] 3)).ownsRow w0.heap.size 3 1 (.slice (some ⟨w127.heap.size, 0, none⟩) 0 0) 0 [] := own_base (World.ownsRow_made w127 #[] 0 (Nat.le_refl _) (Nat.zero_le _) rfl) nq28
          have zk28_3 := Z27.keepN ((Keep.refl noneOf w127).alloc (.cells #[] 3))
          have bk28 := bk27.alloc (.cells #[] 3)
          have bl28 := bk27.lt
          refine hK.out _ _ (kk28) (fun hHeld => ?_)
          clear hK K
          try simp only [Act.put, List.getElem_toArray, List.getElem_cons_zero, List.getElem_cons_succ, List.setIfInBounds_toArray, List.set_cons_zero, List.set_cons_succ]
          generalize hq28 : w127.heap.size = q28 at *
          generalize w127.alloc (.cells #[] 3) = wa28 at *
          refine wpAnyH_ready (rs := [7]) (by kernel_rfl) (by simp) (AllReadyH.cons rfl (fun K hK => ?_) AllReadyH.nil)
          refine step_append_new wa28 w0.heap.size kk28.size rfl _ _ 22 rfl 3 i0 _ Try.underlying22 hi0 hz0 hz1 hz2 rfl q28 _ c.l _ rfl rfl ro28 (H2.out.keepN kk28) (by omega) ?_
          intro v29 w129 Z29 hg29
          have kg29 := (Keep.of_grown hg29).mono (T := fun k => k = q28) (fun i _ e => Option.some.inj e)
          have kk29 : Keep noneOf w0 w129 := kk28.trans kg29 (fun i hi e => by omega)
          have sz29 := kg29.size
          obtain ⟨D1, e1, rfl, _⟩ := Z29.shape
          have zk29_3 := zk28_3.keep kg29 (fun i _ hi e => by omega)
          have bl29 := bk28.lt
          have bk29 := bk28.keep kg29 (fun e => by omega)
          refine hK.out _ _ (kk29) (fun hHeld => ?_)
          clear hK K
          try simp only [Act.put, List.getElem_toArray, List.getElem_cons_zero, List.getElem_cons_succ, List.setIfInBounds_toArray, List.set_cons_zero, List.set_cons_succ]
          generalize hn29 : wa28.heap.size = n29 at *
          refine' wpAnyH_take (i := 8) (v := _) rfl (by kernel_rfl) (by kernel_rfl) (by kernel_rfl) (fun _ _ _ h => h) (Or.inl ⟨by kernel_rfl, ?hy8⟩) (by assumption) ?_
          case hy8 => intro w' hSw; obtain ⟨_, _⟩ := MC.out w' hSw; go_simp; try with_reducible rfl
          simp only [Act.put, List.getElem_toArray, List.getElem_cons_zero, List.getElem_cons_succ, List.setIfInBounds_toArray, List.set_cons_zero, List.set_cons_succ]
          have zz0 := bk29.cell 0
          have zz1 := bk29.cell 1
          have ff0 := bk29.free 0
          have ff1 := bk29.free 1
          refine wpAnyH_ready (rs := [10]) (by kernel_rfl) (by simp) (AllReadyH.cons rfl (fun K hK => ?_) AllReadyH.nil)
          go_simp
          have UE := (bk29.put 0 (.slice D0 c.v.length e0)).put 1 (.slice D1 c.l.length e1)
          have KE := (kk29.setCell (p := ⟨q26, 0, none⟩) (fun hh => absurd hh (by show ¬ q26 < w0.heap.size; omega)) (.slice D0 c.v.length e0)).setCell (p := ⟨q26, 1, none⟩) (fun hh => absurd hh (by show ¬ q26 < w0.heap.size; omega)) (.slice D1 c.l.length e1)
          have KX := ((Keep.refl (fun i => i = q26) w129).setCell (p := ⟨q26, 0, none⟩) (fun _ => rfl) (.slice D0 c.v.length e0)).setCell (p := ⟨q26, 1, none⟩) (fun _ => rfl) (.slice D1 c.l.length e1)
          have ZA := (zk29_3.keep KX (fun i _ hi e => by omega)).mono (D' := fun _ => True) (fun _ _ _ => trivial)
          have ZB := (Z29.keep KX (fun i _ hi e => by omega)).mono (D' := fun _ => True) (fun _ _ _ => trivial)
          refine hK.out _ _ (KE) (fun hHeld => ?_)
          clear hK K
          try simp only [Act.put, List.getElem_toArray, List.getElem_cons_zero, List.getElem_cons_succ, List.setIfInBounds_toArray, List.set_cons_zero, List.set_cons_succ]
          generalize (w129.setCell ⟨q26, 0, none⟩ (.slice D0 c.v.length e0)).setCell ⟨q26, 1, none⟩ (.slice D1 c.l.length e1) = we at *
          refine wpAnyH_done (by kernel_rfl) ?_ _
          go_wp2_with fail
          go_meet
          exact ⟨_, D0, e0, D1, e1, rfl, KE, by omega, UE, ⟨_, _, rfl, ZA, ZB⟩⟩
        · skip
          go_simp
          have kk31 : Keep noneOf w0 (wa26.alloc (.cells #[] 3)) := kk26.alloc _
          have nq31 : w0.heap.size ≤ wa26.heap.size := kk26.size
          have sz31 : wa26.heap.size < (wa26.alloc (.cells #[] 3)).heap.size := by simp
          have ro31 : (wa26.alloc (.cells #[] 3)).ownsRow w0.heap.size 3 1 (.slice (some ⟨wa26.heap.size, 0, none⟩) 0 0) 0 [] := own_base (World.ownsRow_made wa26 #[] 0 (Nat.le_refl _) (Nat.zero_le _) rfl) nq31
          have rk31_0 := rk26_0.alloc (.cells #[] 3)
          have rl31_0 : q1 < wa26.heap.size := (rk26_0.lt q1 rfl).2
          have bk31 := bx26.alloc (.cells #[] 3)
          have bl31 := bx26.lt
          refine hK.out _ _ (kk31) (fun hHeld => ?_)
          clear hK K
          try simp only [Act.put, List.getElem_toArray, List.getElem_cons_zero, List.getElem_cons_succ, List.setIfInBounds_toArray, List.set_cons_zero, List.set_cons_succ]
          generalize hq31 : wa26.heap.size = q31 at *
          generalize wa26.alloc (.cells #[] 3) = wa31 at *
          refine wpAnyH_ready (rs := [3]) (by kernel_rfl) (by simp) (AllReadyH.cons rfl (fun K hK => ?_) AllReadyH.nil)
          refine step_append_new wa31 w0.heap.size kk31.size rfl _ _ 22 rfl 3 i0 _ Try.underlying22 hi0 hz0 hz1 hz2 rfl q1 _ c.v _ rfl rfl rk31_0 (H1.out.keepN kk31) (by omega) ?_
          intro v32 w132 Z32 hg32
          have kg32 := (Keep.of_grown hg32).mono (T := fun k => k = q1) (fun i _ e => Option.some.inj e)
          have kk32 : Keep noneOf w0 w132 := kk31.trans kg32 (fun i hi e => by omega)
          have sz32 := kg32.size
          obtain ⟨D0, e0, rfl, _⟩ := Z32.shape
          have rk32_4 := own_keep ro31 kg32 (fun i e hh => by have := Option.some.inj (show some q31 = some i from e); omega)
          have bl32 := bk31.lt
          have bk32 := bk31.keep kg32 (fun e => by omega)
          refine hK.out _ _ (kk32) (fun hHeld => ?_)
          clear hK K
          try simp only [Act.put, List.getElem_toArray, List.getElem_cons_zero, List.getElem_cons_succ, List.setIfInBounds_toArray, List.set_cons_zero, List.set_cons_succ]
          generalize hn32 : wa31.heap.size = n32 at *
          refine wpAnyH_ready (rs := [7]) (by kernel_rfl) (by simp) (AllReadyH.cons rfl (fun K hK => ?_) AllReadyH.nil)
          refine step_append_new w132 w0.heap.size kk32.size rfl _ _ 22 rfl 3 i0 _ Try.underlying22 hi0 hz0 hz1 hz2 rfl q31 _ c.l _ rfl rfl rk32_4 (H2.out.keepN kk32) (by omega) ?_
          intro v33 w133 Z33 hg33
          have kg33 := (Keep.of_grown hg33).mono (T := fun k => k = q31) (fun i _ e => Option.some.inj e)
          have kk33 : Keep noneOf w0 w133 := kk32.trans kg33 (fun i hi e => by omega)
          have sz33 := kg33.size
          obtain ⟨D1, e1, rfl, _⟩ := Z33.shape
          have zk33_3 := Z32.keep kg33 (fun i _ hi e => by omega)
          have bl33 := bk32.lt
          have bk33 := bk32.keep kg33 (fun e => by omega)
          refine hK.out _ _ (kk33) (fun hHeld => ?_)
          clear hK K
          try simp only [Act.put, List.getElem_toArray, List.getElem_cons_zero, List.getElem_cons_succ, List.setIfInBounds_toArray, List.set_cons_zero, List.set_cons_succ]
          generalize hn33 : w132.heap.size = n33 at *
          refine' wpAnyH_take (i := 8) (v := _) rfl (by kernel_rfl) (by kernel_rfl) (by kernel_rfl) (fun _ _ _ h => h) (Or.inl ⟨by kernel_rfl, ?hy8⟩) (by assumption) ?_
          case hy8 => intro w' hSw; obtain ⟨_, _⟩ := MC.out w' hSw; go_simp; try with_reducible rfl
          simp only [Act.put, List.getElem_toArray, List.getElem_cons_zero, List.getElem_cons_succ, List.setIfInBounds_toArray, List.set_cons_zero, List.set_cons_succ]
          have zz0 := bk33.cell 0
          have zz1 := bk33.cell 1
          have ff0 := bk33.free 0
          have ff1 := bk33.free 1
          refine wpAnyH_ready (rs := [10]) (by kernel_rfl) (by simp) (AllReadyH.cons rfl (fun K hK => ?_) AllReadyH.nil)
          go_simp
          have UE := (bk33.put 0 (.slice D0 c.v.length e0)).put 1 (.slice D1 c.l.length e1)
          have KE := (kk33.setCell (p := ⟨q26, 0, none⟩) (fun hh => absurd hh (by show ¬ q26 < w0.heap.size; omega)) (.slice D0 c.v.length e0)).setCell (p := ⟨q26, 1, none⟩) (fun hh => absurd hh (by show ¬ q26 < w0.heap.size; omega)) (.slice D1 c.l.length e1)
          have KX := ((Keep.refl (fun i => i = q26) w133).setCell (p := ⟨q26, 0, none⟩) (fun _ => rfl) (.slice D0 c.v.length e0)).setCell (p := ⟨q26, 1, none⟩) (fun _ => rfl) (.slice D1 c.l.length e1)
          have ZA := (zk33_3.keep KX (fun i _ hi e => by omega)).mono (D' := fun _ => True) (fun _ _ _ => trivial)
          have ZB := (Z33.keep KX (fun i _ hi e => by omega)).mono (D' := fun _ => True) (fun _ _ _ => trivial)
          refine hK.out _ _ (KE) (fun hHeld => ?_)
          clear hK K
          try simp only [Act.put, List.getElem_toArray, List.getElem_cons_zero, List.getElem_cons_succ, List.setIfInBounds_toArray, List.set_cons_zero, List.set_cons_succ]
          generalize (w133.setCell ⟨q26, 0, none⟩ (.slice D0 c.v.length e0)).setCell ⟨q26, 1, none⟩ (.slice D1 c.l.length e1) = we at *
          refine wpAnyH_done (by kernel_rfl) ?_ _
          go_wp2_with fail
          go_meet
          exact ⟨_, D0, e0, D1, e1, rfl, KE, by omega, UE, ⟨_, _, rfl, ZA, ZB⟩⟩
    · skip
      go_simp
      have kk35 : Keep noneOf w0 (wz.alloc (.cells #[] 3)) := KZ.alloc _
      have nq35 : w0.heap.size ≤ wz.heap.size := KZ.size
      have sz35 : wz.heap.size < (wz.alloc (.cells #[] 3)).heap.size := by simp
      have ro35 : (wz.alloc (.cells #[] 3)).ownsRow w0.heap.size 3 1 (.slice (some ⟨wz.heap.size, 0, none⟩) 0 0) 0 [] := own_base (World.ownsRow_made wz #[] 0 (Nat.le_refl _) (Nat.zero_le _) rfl) nq35
      refine hK.out _ _ (kk35) (fun hHeld => ?_)
      clear hK K
      try simp only [Act.put, List.getElem_toArray, List.getElem_cons_zero, List.getElem_cons_succ, List.setIfInBounds_toArray, List.set_cons_zero, List.set_cons_succ]
      generalize hq35 : wz.heap.size = q35 at *
      generalize wz.alloc (.cells #[] 3) = wa35 at *
      refine wpAnyH_ready (rs := [0, 9]) (by kernel_rfl) (by simp) (AllReadyH.cons rfl (fun K hK => ?_) (AllReadyH.cons rfl (fun K hK => ?_) AllReadyH.nil))
      · skip
        go_simp
        have kk36 : Keep noneOf w0 (wa35.alloc (.cells #[] 3)) := kk35.alloc _
        have nq36 : w0.heap.size ≤ wa35.heap.size := kk35.size
        have sz36 : wa35.heap.size < (wa35.alloc (.cells #[] 3)).heap.size := by simp
        have ro36 : (wa35.alloc (.cells #[] 3)).ownsRow w0.heap.size 3 1 (.slice (some ⟨wa35.heap.size, 0, none⟩) 0 0) 0 [] := own_base (World.ownsRow_made wa35 #[] 0 (Nat.le_refl _) (Nat.zero_le _) rfl) nq36
        have rk36_4 := ro35.alloc (.cells #[] 3)
        have rl36_4 : q35 < wa35.heap.size := (ro35.lt q35 rfl).2
        refine hK.out _ _ (kk36) (fun hHeld => ?_)
        clear hK K
        try simp only [Act.put, List.getElem_toArray, List.getElem_cons_zero, List.getElem_cons_succ, List.setIfInBounds_toArray, List.set_cons_zero, List.set_cons_succ]
        generalize hq36 : wa35.heap.size = q36 at *
        generalize wa35.alloc (.cells #[] 3) = wa36 at *
        refine wpAnyH_ready (rs := [3, 9]) (by kernel_rfl) (by simp) (AllReadyH.cons rfl (fun K hK => ?_) (AllReadyH.cons rfl (fun K hK => ?_) AllReadyH.nil))
        · skip
          refine step_append_new wa36 w0.heap.size kk36.size rfl _ _ 22 rfl 3 i0 _ Try.underlying22 hi0 hz0 hz1 hz2 rfl q36 _ c.v _ rfl rfl ro36 (H1.out.keepN kk36) (by omega) ?_
          intro v37 w137 Z37 hg37
          have kg37 := (Keep.of_grown hg37).mono (T := fun k => k = q36) (fun i _ e => Option.some.inj e)
          have kk37 : Keep noneOf w0 w137 := kk36.trans kg37 (fun i hi e => by omega)
          have sz37 := kg37.size
          obtain ⟨D0, e0, rfl, _⟩ := Z37.shape
          have rk37_4 := own_keep rk36_4 kg37 (fun i e hh => by have := Option.some.inj (show some q35 = some i from e); omega)
          refine hK.out _ _ (kk37) (fun hHeld => ?_)
          clear hK K
          try simp only [Act.put, List.getElem_toArray, List.getElem_cons_zero, List.getElem_cons_succ, List.setIfInBounds_toArray, List.set_cons_zero, List.set_cons_succ]
          generalize hn37 : wa36.heap.size = n37 at *
          refine wpAnyH_ready (rs := [7, 9]) (by kernel_rfl) (by simp) (AllReadyH.cons rfl (fun K hK => ?_) (AllReadyH.cons rfl (fun K hK => ?_) AllReadyH.nil))
          · skip
            refine step_append_new w137 w0.heap.size kk37.size rfl _ _ 22 rfl 3 i0 _ Try.underlying22 hi0 hz0 hz1 hz2 rfl q35 _ c.l _ rfl rfl rk37_4 (H2.out.keepN kk37) (by omega) ?_
            intro v38 w138 Z38 hg38
            have kg38 := (Keep.of_grown hg38).mono (T := fun k => k = q35) (fun i _ e => Option.some.inj e)
            have kk38 : Keep noneOf w0 w138 := kk37.trans kg38 (fun i hi e => by omega)
            have sz38 := kg38.size
            obtain ⟨D1, e1, rfl, _⟩ := Z38.shape
            have zk38_3 := Z37.keep kg38 (fun i _ hi e => by omega)
            refine hK.out _ _ (kk38) (fun hHeld => ?_)
            clear hK K
            try simp only [Act.put, List.getElem_toArray, List.getElem_cons_zero, List.getElem_cons_succ, List.setIfInBounds_toArray, List.set_cons_zero, List.set_cons_succ]
            generalize hn38 : w137.heap.size = n38 at *
            refine' wpAnyH_take (i := 8) (v := _) rfl (by kernel_rfl) (by kernel_rfl) (by kernel_rfl) (fun _ _ _ h => h) (Or.inl ⟨by kernel_rfl, ?hy8⟩) (by assumption) ?_
            case hy8 => intro w' hSw; obtain ⟨_, _⟩ := MC.out w' hSw; go_simp; try with_reducible rfl
            simp only [Act.put, List.getElem_toArray, List.getElem_cons_zero, List.getElem_cons_succ, List.setIfInBounds_toArray, List.set_cons_zero, List.set_cons_succ]
            refine wpAnyH_ready (rs := [9]) (by kernel_rfl) (by simp) (AllReadyH.cons rfl (fun K hK => ?_) AllReadyH.nil)
            go_simp
            have kk39 : Keep noneOf w0 (w138.alloc (.cells #[.slice none 0 0, .slice none 0 0] 24)) := kk38.alloc _
            have nq39 : w0.heap.size ≤ w138.heap.size := kk38.size
            have sz39 : w138.heap.size < (w138.alloc (.cells #[.slice none 0 0, .slice none 0 0] 24)).heap.size := by simp
            have bx39 := Box.new w138 24 #[.slice none 0 0, .slice none 0 0]
            have zk39_3 := zk38_3.keepN ((Keep.refl noneOf w138).alloc (.cells #[.slice none 0 0, .slice none 0 0] 24))
            have zk39_7 := Z38.keepN ((Keep.refl noneOf w138).alloc (.cells #[.slice none 0 0, .slice none 0 0] 24))
            refine hK.out _ _ (kk39) (fun hHeld => ?_)
            clear hK K
            try simp only [Act.put, List.getElem_toArray, List.getElem_cons_zero, List.getElem_cons_succ, List.setIfInBounds_toArray, List.set_cons_zero, List.set_cons_succ]
            generalize hq39 : w138.heap.size = q39 at *
            generalize w138.alloc (.cells #[.slice none 0 0, .slice none 0 0] 24) = wa39 at *
            have zz0 := bx39.cell 0
            have zz1 := bx39.cell 1
            have ff0 := bx39.free 0
            have ff1 := bx39.free 1
            refine wpAnyH_ready (rs := [10]) (by kernel_rfl) (by simp) (AllReadyH.cons rfl (fun K hK => ?_) AllReadyH.nil)
            go_simp
            have UE := (bx39.put 0 (.slice D0 c.v.length e0)).put 1 (.slice D1 c.l.length e1)
            have KE := (kk39.setCell (p := ⟨q39, 0, none⟩) (fun hh => absurd hh (by show ¬ q39 < w0.heap.size; omega)) (.slice D0 c.v.length e0)).setCell (p := ⟨q39, 1, none⟩) (fun hh => absurd hh (by show ¬ q39 < w0.heap.size; omega)) (.slice D1 c.l.length e1)
            have KX := ((Keep.refl (fun i => i = q39) wa39).setCell (p := ⟨q39, 0, none⟩) (fun _ => rfl) (.slice D0 c.v.length e0)).setCell (p := ⟨q39, 1, none⟩) (fun _ => rfl) (.slice D1 c.l.length e1)
            have ZA := (zk39_3.keep KX (fun i _ hi e => by omega)).mono (D' := fun _ => True) (fun _ _ _ => trivial)
            have ZB := (zk39_7.keep KX (fun i _ hi e => by omega)).mono (D' := fun _ => True) (fun _ _ _ => trivial)
            refine hK.out _ _ (KE) (fun hHeld => ?_)
            clear hK K
            try simp only [Act.put, List.getElem_toArray, List.getElem_cons_zero, List.getElem_cons_succ, List.setIfInBounds_toArray, List.set_cons_zero, List.set_cons_succ]
            generalize (wa39.setCell ⟨q39, 0, none⟩ (.slice D0 c.v.length e0)).setCell ⟨q39, 1, none⟩ (.slice D1 c.l.length e1) = we at *
            refine wpAnyH_done (by kernel_rfl) ?_ _
            go_wp2_with fail
            go_meet
            exact ⟨_, D0, e0, D1, e1, rfl, KE, by omega, UE, ⟨_, _, rfl, ZA, ZB⟩⟩
          · skip
            go_simp
            have kk41 : Keep noneOf w0 (w137.alloc (.cells #[.slice none 0 0, .slice none 0 0] 24)) := kk37.alloc _
            have nq41 : w0.heap.size ≤ w137.heap.size := kk37.size
            have sz41 : w137.heap.size < (w137.alloc (.cells #[.slice none 0 0, .slice none 0 0] 24)).heap.size := by simp
            have bx41 := Box.new w137 24 #[.slice none 0 0, .slice none 0 0]
            have rk41_4 := rk37_4.alloc (.cells #[.slice none 0 0, .slice none 0 0] 24)
            have rl41_4 : q35 < w137.heap.size := (rk37_4.lt q35 rfl).2
            have zk41_3 := Z37.keepN ((Keep.refl noneOf w137).alloc (.cells #[.slice none 0 0, .slice none 0 0] 24))
            refine hK.out _ _ (kk41) (fun hHeld => ?_)
            clear hK K
            try simp only [Act.put, List.getElem_toArray, List.getElem_cons_zero, List.getElem_cons_succ, List.setIfInBounds_toArray, List.set_cons_zero, List.set_cons_succ]
            generalize hq41 : w137.heap.size = q41 at *
            generalize w137.alloc (.cells #[.slice none 0 0, .slice none 0 0] 24) = wa41 at *
            refine wpAnyH_ready (rs := [7]) (by kernel_rfl) (by simp) (AllReadyH.cons rfl (fun K hK => ?_) AllReadyH.nil)
            refine step_append_new wa41 w0.heap.size kk41.size rfl _ _ 22 rfl 3 i0 _ Try.underlying22 hi0 hz0 hz1 hz2 rfl q35 _ c.l _ rfl rfl rk41_4 (H2.out.keepN kk41) (by omega) ?_
            intro v42 w142 Z42 hg42
            have kg42 := (Keep.of_grown hg42).mono (T := fun k => k = q35) (fun i _ e => Option.some.inj e)
            have kk42 : Keep noneOf w0 w142 := kk41.trans kg42 (fun i hi e => by omega)
            have sz42 := kg42.size
            obtain ⟨D1, e1, rfl, _⟩ := Z42.shape
            have zk42_3 := zk41_3.keep kg42 (fun i _ hi e => by omega)
            have bl42 := bx41.lt
            have bk42 := bx41.keep kg42 (fun e => by omega)
            refine hK.out _ _ (kk42) (fun hHeld => ?_)
            clear hK K
            try simp only [Act.put, List.getElem_toArray, List.getElem_cons_zero, List.getElem_cons_succ, List.setIfInBounds_toArray, List.set_cons_zero, List.set_cons_succ]
            generalize hn42 : wa41.heap.size = n42 at *
            refine' wpAnyH_take (i := 8) (v := _) rfl (by kernel_rfl) (by kernel_rfl) (by kernel_rfl) (fun _ _ _ h => h) (Or.inl ⟨by kernel_rfl, ?hy8⟩) (by assumption) ?_
            case hy8 => intro w' hSw; obtain ⟨_, _⟩ := MC.out w' hSw; go_simp; try with_reducible rfl
            simp only [Act.put, List.getElem_toArray, List.getElem_cons_zero, List.getElem_cons_succ, List.setIfInBounds_toArray, List.set_cons_zero, List.set_cons_succ]
            have zz0 := bk42.cell 0
            have zz1 := bk42.cell 1
            have ff0 := bk42.free 0
            have ff1 := bk42.free 1
            refine wpAnyH_ready (rs := [10]) (by kernel_rfl) (by simp) (AllReadyH.cons rfl (fun K hK => ?_) AllReadyH.nil)
            go_simp
            have UE := (bk42.put 0 (.slice D0 c.v.length e0)).put 1 (.slice D1 c.l.length e1)
            have KE := (kk42.setCell (p := ⟨q41, 0, none⟩) (fun hh => absurd hh (by show ¬ q41 < w0.heap.size; omega)) (.slice D0 c.v.length e0)).setCell (p := ⟨q41, 1, none⟩) (fun hh => absurd hh (by show ¬ q41 < w0.heap.size; omega)) (.slice D1 c.l.length e1)
            have KX := ((Keep.refl (fun i => i = q41) w142).setCell (p := ⟨q41, 0, none⟩) (fun _ => rfl) (.slice D0 c.v.length e0)).setCell (p := ⟨q41, 1, none⟩) (fun _ => rfl) (.slice D1 c.l.length e1)
            have ZA := (zk42_3.keep KX (fun i _ hi e => by omega)).mono (D' := fun _ => True) (fun _ _ _ => trivial)
            have ZB := (Z42.keep KX (fun i _ hi e => by omega)).mono (D' := fun _ => True) (fun _ _ _ => trivial)
            refine hK.out _ _ (KE) (fun hHeld => ?_)
            clear hK K
            try simp only [Act.put, List.getElem_toArray, List.getElem_cons_zero, List.getElem_cons_succ, List.setIfInBounds_toArray, List.set_cons_zero, List.set_cons_succ]
            generalize (w142.setCell ⟨q41, 0, none⟩ (.slice D0 c.v.length e0)).setCell ⟨q41, 1, none⟩ (.slice D1 c.l.length e1) = we at *
            refine wpAnyH_done (by kernel_rfl) ?_ _
            go_wp2_with fail
            go_meet
            exact ⟨_, D0, e0, D1, e1, rfl, KE, by omega, UE, ⟨_, _, rfl, ZA, ZB⟩⟩
        · skip
          go_simp
          have kk44 : Keep noneOf w0 (wa36.alloc (.cells #[.slice none 0 0, .slice none 0 0] 24)) := kk36.alloc _
          have nq44 : w0.heap.size ≤ wa36.heap.size := kk36.size
          have sz44 : wa36.heap.size < (wa36.alloc (.cells #[.slice none 0 0, .slice none 0 0] 24)).heap.size := by simp
          have bx44 := Box.new wa36 24 #[.slice none 0 0, .slice none 0 0]
          have rk44_4 := rk36_4.alloc (.cells #[.slice none 0 0, .slice none 0 0] 24)
          have rl44_4 : q35 < wa36.heap.size := (rk36_4.lt q35 rfl).2
          have rk44_0 := ro36.alloc (.cells #[.slice none 0 0, .slice none 0 0] 24)
          have rl44_0 : q36 < wa36.heap.size := (ro36.lt q36 rfl).2
          refine hK.out _ _ (kk44) (fun hHeld => ?_)
          clear hK K
          try simp only [Act.put, List.getElem_toArray, List.getElem_cons_zero, List.getElem_cons_succ, List.setIfInBounds_toArray, List.set_cons_zero, List.set_cons_succ]
          generalize hq44 : wa36.heap.size = q44 at *
          generalize wa36.alloc (.cells #[.slice none 0 0, .slice none 0 0] 24) = wa44 at *
          refine wpAnyH_ready (rs := [3]) (by kernel_rfl) (by simp) (AllReadyH.cons rfl (fun K hK => ?_) AllReadyH.nil)
          refine step_append_new wa44 w0.heap.size kk44.size rfl _ _ 22 rfl 3 i0 _ Try.underlying22 hi0 hz0 hz1 hz2 rfl q36 _ c.v _ rfl rfl rk44_0 (H1.out.keepN kk44) (by omega) ?_
          intro v45 w145 Z45 hg45
          have kg45 := (Keep.of_grown hg45).mono (T := fun k => k = q36) (fun i _ e => Option.some.inj e)
          have kk45 : Keep noneOf w0 w145 := kk44.trans kg45 (fun i hi e => by omega)
          have sz45 := kg45.size
          obtain ⟨D0, e0, rfl, _⟩ := Z45.shape
          have rk45_4 := own_keep rk44_4 kg45 (fun i e hh => by have := Option.some.inj (show some q35 = some i from e); omega)
          have bl45 := bx44.lt
          have bk45 := bx44.keep kg45 (fun e => by omega)
          refine hK.out _ _ (kk45) (fun hHeld => ?_)
          clear hK K
          try simp only [Act.put, List.getElem_toArray, List.getElem_cons_zero, List.getElem_cons_succ, List.setIfInBounds_toArray, List.set_cons_zero, List.set_cons_succ]
          generalize hn45 : wa44.heap.size = n45 at *
          refine wpAnyH_ready (rs := [7]) (by kernel_rfl) (by simp) (AllReadyH.cons rfl (fun K hK => ?_) AllReadyH.nil)
          refine step_append_new w145 w0.heap.size kk45.size rfl _ _ 22 rfl 3 i0 _ Try.underlying22 hi0 hz0 hz1 hz2 rfl q35 _ c.l _ rfl rfl rk45_4 (H2.out.keepN kk45) (by omega) ?_
          intro v46 w146 Z46 hg46
          have kg46 := (Keep.of_grown hg46).mono (T := fun k => k = q35) (fun i _ e => Option.some.inj e)
          have kk46 : Keep noneOf w0 w146 := kk45.trans kg46 (fun i hi e => by omega)
          have sz46 := kg46.size
          obtain ⟨D1, e1, rfl, _⟩ := Z46.shape
          have zk46_3 := Z45.keep kg46 (fun i _ hi e => by omega)
          have bl46 := bk45.lt
          have bk46 := bk45.keep kg46 (fun e => by omega)
          refine hK.out _ _ (kk46) (fun hHeld => ?_)
          clear hK K
          try simp only [Act.put, List.getElem_toArray, List.getElem_cons_zero, List.getElem_cons_succ, List.setIfInBounds_toArray, List.set_cons_zero, List.set_cons_succ]
          generalize hn46 : w145.heap.size = n46 at *
          refine' wpAnyH_take (i := 8) (v := _) rfl (by kernel_rfl) (by kernel_rfl) (by kernel_rfl) (fun _ _ _ h => h) (Or.inl ⟨by kernel_rfl, ?hy8⟩) (by assumption) ?_
          case hy8 => intro w' hSw; obtain ⟨_, _⟩ := MC.out w' hSw; go_simp; try with_reducible rfl
          simp only [Act.put, List.getElem_toArray, List.getElem_cons_zero, List.getElem_cons_succ, List.setIfInBounds_toArray, List.set_cons_zero, List.set_cons_succ]
          have zz0 := bk46.cell 0
          have zz1 := bk46.cell 1
          have ff0 := bk46.free 0
          have ff1 := bk46.free 1
          refine wpAnyH_ready (rs := [10]) (by kernel_rfl) (by simp) (AllReadyH.cons rfl (fun K hK => ?_) AllReadyH.nil)
          go_simp
          have UE := (bk46.put 0 (.slice D0 c.v.length e0)).put 1 (.slice D1 c.l.length e1)
          have KE := (kk46.setCell (p := ⟨q44, 0, none⟩) (fun hh => absurd hh (by show ¬ q44 < w0.heap.size; omega)) (.slice D0 c.v.length e0)).setCell (p := ⟨q44, 1, none⟩) (fun hh => absurd hh (by show ¬ q44 < w0.heap.size; omega)) (.slice D1 c.l.length e1)
          have KX := ((Keep.refl (fun i => i = q44) w146).setCell (p := ⟨q44, 0, none⟩) (fun _ => rfl) (.slice D0 c.v.length e0)).setCell (p := ⟨q44, 1, none⟩) (fun _ => rfl) (.slice D1 c.l.length e1)
          have ZA := (zk46_3.keep KX (fun i _ hi e => by omega)).mono (D' := fun _ => True) (fun _ _ _ => trivial)
          have ZB := (Z46.keep KX (fun i _ hi e => by omega)).mono (D' := fun _ => True) (fun _ _ _ => trivial)
          refine hK.out _ _ (KE) (fun hHeld => ?_)
          clear hK K
          try simp only [Act.put, List.getElem_toArray, List.getElem_cons_zero, List.getElem_cons_succ, List.setIfInBounds_toArray, List.set_cons_zero, List.set_cons_succ]
          generalize (w146.setCell ⟨q44, 0, none⟩ (.slice D0 c.v.length e0)).setCell ⟨q44, 1, none⟩ (.slice D1 c.l.length e1) = we at *
          refine wpAnyH_done (by kernel_rfl) ?_ _
          go_wp2_with fail
          go_meet
          exact ⟨_, D0, e0, D1, e1, rfl, KE, by omega, UE, ⟨_, _, rfl, ZA, ZB⟩⟩
      · skip
        go_simp
        have kk48 : Keep noneOf w0 (wa35.alloc (.cells #[.slice none 0 0, .slice none 0 0] 24)) := kk35.alloc _
        have nq48 : w0.heap.size ≤ wa35.heap.size := kk35.size
        have sz48 : wa35.heap.size < (wa35.alloc (.cells #[.slice none 0 0, .slice none 0 0] 24)).heap.size := by simp
        have bx48 := Box.new wa35 24 #[.slice none 0 0, .slice none 0 0]
        have rk48_4 := ro35.alloc (.cells #[.slice none 0 0, .slice none 0 0] 24)
        have rl48_4 : q35 < wa35.heap.size := (ro35.lt q35 rfl).2
        refine hK.out _ _ (kk48) (fun hHeld => ?_)
        clear hK K
        try simp only [Act.put, List.getElem_toArray, List.getElem_cons_zero, List.getElem_cons_succ, List.setIfInBounds_toArray, List.set_cons_zero, List.set_cons_succ]
        generalize hq48 : wa35.heap.size = q48 at *
        generalize wa35.alloc (.cells #[.slice none 0 0, .slice none 0 0] 24) = wa48 at *
        refine wpAnyH_ready (rs := [0]) (by kernel_rfl) (by simp) (AllReadyH.cons rfl (fun K hK => ?_) AllReadyH.nil)
        go_simp
        have kk49 : Keep noneOf w0 (wa48.alloc (.cells #[] 3)) := kk48.alloc _
        have nq49 : w0.heap.size ≤ wa48.heap.size := kk48.size
        have sz49 : wa48.heap.size < (wa48.alloc (.cells #[] 3)).heap.size := by simp
        have ro49 : (wa48.alloc (.cells #[] 3)).ownsRow w0.heap.size 3 1 (.slice (some ⟨wa48.heap.size, 0, none⟩) 0 0) 0 [] := own_base (World.ownsRow_made wa48 #[] 0 (Nat.le_refl _) (Nat.zero_le _) rfl) nq49
        have rk49_4 := rk48_4.alloc (.cells #[] 3)
        have rl49_4 : q35 < wa48.heap.size := (rk48_4.lt q35 rfl).2
        have bk49 := bx48.alloc (.cells #[] 3)
        have bl49 := bx48.lt
        refine hK.out _ _ (kk49) (fun hHeld => ?_)
        clear hK K
        try simp only [Act.put, List.getElem_toArray, List.getElem_cons_zero, List.getElem_cons_succ, List.setIfInBounds_toArray, List.set_cons_zero, List.set_cons_succ]
        generalize hq49 : wa48.heap.size = q49 at *
        generalize wa48.alloc (.cells #[] 3) = wa49 at *
        refine wpAnyH_ready (rs := [3]) (by kernel_rfl) (by simp) (AllReadyH.cons rfl (fun K hK => ?_) AllReadyH.nil)
        refine step_append_new wa49 w0.heap.size kk49.size rfl _ _ 22 rfl 3 i0 _ Try.underlying22 hi0 hz0 hz1 hz2 rfl q49 _ c.v _ rfl rfl ro49 (H1.out.keepN kk49) (by omega) ?_
        intro v50 w150 Z50 hg50
        have kg50 := (Keep.of_grown hg50).mono (T := fun k => k = q49) (fun i _ e => Option.some.inj e)
        have kk50 : Keep noneOf w0 w150 := kk49.trans kg50 (fun i hi e => by omega)
        have sz50 := kg50.size
        obtain ⟨D0, e0, rfl, _⟩ := Z50.shape
        have rk50_4 := own_keep rk49_4 kg50 (fun i e hh => by have := Option.some.inj (show some q35 = some i from e); omega)
        have bl50 := bk49.lt
        have bk50 := bk49.keep kg50 (fun e => by omega)
        refine hK.out _ _ (kk50) (fun hHeld => ?_)
        clear hK K
        try simp only [Act.put, List.getElem_toArray, List.getElem_cons_zero, List.getElem_cons_succ, List.setIfInBounds_toArray, List.set_cons_zero, List.set_cons_succ]
        generalize hn50 : wa49.heap.size = n50 at *
        refine wpAnyH_ready (rs := [7]) (by kernel_rfl) (by simp) (AllReadyH.cons rfl (fun K hK => ?_) AllReadyH.nil)
        refine step_append_new w150 w0.heap.size kk50.size rfl _ _ 22 rfl 3 i0 _ Try.underlying22 hi0 hz0 hz1 hz2 rfl q35 _ c.l _ rfl rfl rk50_4 (H2.out.keepN kk50) (by omega) ?_
        intro v51 w151 Z51 hg51
        have kg51 := (Keep.of_grown hg51).mono (T := fun k => k = q35) (fun i _ e => Option.some.inj e)
        have kk51 : Keep noneOf w0 w151 := kk50.trans kg51 (fun i hi e => by omega)
        have sz51 := kg51.size
        obtain ⟨D1, e1, rfl, _⟩ := Z51.shape
        have zk51_3 := Z50.keep kg51 (fun i _ hi e => by omega)
        have bl51 := bk50.lt
        have bk51 := bk50.keep kg51 (fun e => by omega)
        refine hK.out _ _ (kk51) (fun hHeld => ?_)
        clear hK K
        try simp only [Act.put, List.getElem_toArray, List.getElem_cons_zero, List.getElem_cons_succ, List.setIfInBounds_toArray, List.set_cons_zero, List.set_cons_succ]
        generalize hn51 : w150.heap.size = n51 at *
        refine' wpAnyH_take (i := 8) (v := _) rfl (by kernel_rfl) (by kernel_rfl) (by kernel_rfl) (fun _ _ _ h => h) (Or.inl ⟨by kernel_rfl, ?hy8⟩) (by assumption) ?_
        case hy8 => intro w' hSw; obtain ⟨_, _⟩ := MC.out w' hSw; go_simp; try with_reducible rfl
        simp only [Act.put, List.getElem_toArray, List.getElem_cons_zero, List.getElem_cons_succ, List.setIfInBounds_toArray, List.set_cons_zero, List.set_cons_succ]
        have zz0 := bk51.cell 0
        have zz1 := bk51.cell 1
        have ff0 := bk51.free 0
        have ff1 := bk51.free 1
        refine wpAnyH_ready (rs := [10]) (by kernel_rfl) (by simp) (AllReadyH.cons rfl (fun K hK => ?_) AllReadyH.nil)
        go_simp
        have UE := (bk51.put 0 (.slice D0 c.v.length e0)).put 1 (.slice D1 c.l.length e1)
        have KE := (kk51.setCell (p := ⟨q48, 0, none⟩) (fun hh => absurd hh (by show ¬ q48 < w0.heap.size; omega)) (.slice D0 c.v.length e0)).setCell (p := ⟨q48, 1, none⟩) (fun hh => absurd hh (by show ¬ q48 < w0.heap.size; omega)) (.slice D1 c.l.length e1)
        have KX := ((Keep.refl (fun i => i = q48) w151).setCell (p := ⟨q48, 0, none⟩) (fun _ => rfl) (.slice D0 c.v.length e0)).setCell (p := ⟨q48, 1, none⟩) (fun _ => rfl) (.slice D1 c.l.length e1)
        have ZA := (zk51_3.keep KX (fun i _ hi e => by omega)).mono (D' := fun _ => True) (fun _ _ _ => trivial)
        have ZB := (Z51.keep KX (fun i _ hi e => by omega)).mono (D' := fun _ => True) (fun _ _ _ => trivial)
        refine hK.out _ _ (KE) (fun hHeld => ?_)
        clear hK K
        try simp only [Act.put, List.getElem_toArray, List.getElem_cons_zero, List.getElem_cons_succ, List.setIfInBounds_toArray, List.set_cons_zero, List.set_cons_succ]
        generalize (w151.setCell ⟨q48, 0, none⟩ (.slice D0 c.v.length e0)).setCell ⟨q48, 1, none⟩ (.slice D1 c.l.length e1) = we at *
        refine wpAnyH_done (by kernel_rfl) ?_ _
        go_wp2_with fail
        go_meet
        exact ⟨_, D0, e0, D1, e1, rfl, KE, by omega, UE, ⟨_, _, rfl, ZA, ZB⟩⟩
    · skip
      go_simp
      have kk53 : Keep noneOf w0 (wz.alloc (.cells #[.slice none 0 0, .slice none 0 0] 24)) := KZ.alloc _
      have nq53 : w0.heap.size ≤ wz.heap.size := KZ.size
      have sz53 : wz.heap.size < (wz.alloc (.cells #[.slice none 0 0, .slice none 0 0] 24)).heap.size := by simp
      have bx53 := Box.new wz 24 #[.slice none 0 0, .slice none 0 0]
      refine hK.out _ _ (kk53) (fun hHeld => ?_)
      clear hK K
      try simp only [Act.put, List.getElem_toArray, List.getElem_cons_zero, List.getElem_cons_succ, List.setIfInBounds_toArray, List.set_cons_zero, List.set_cons_succ]
      generalize hq53 : wz.heap.size = q53 at *
      generalize wz.alloc (.cells #[.slice none 0 0, .slice none 0 0] 24) = wa53 at *
      refine wpAnyH_ready (rs := [0, 4]) (by kernel_rfl) (by simp) (AllReadyH.cons rfl (fun K hK => ?_) (AllReadyH.cons rfl (fun K hK => ?_) AllReadyH.nil))
      · skip
        go_simp
        have kk54 : Keep noneOf w0 (wa53.alloc (.cells #[] 3)) := kk53.alloc _
        have nq54 : w0.heap.size ≤ wa53.heap.size := kk53.size
        have sz54 : wa53.heap.size < (wa53.alloc (.cells #[] 3)).heap.size := by simp
        have ro54 : (wa53.alloc (.cells #[] 3)).ownsRow w0.heap.size 3 1 (.slice (some ⟨wa53.heap.size, 0, none⟩) 0 0) 0 [] := own_base (World.ownsRow_made wa53 #[] 0 (Nat.le_refl _) (Nat.zero_le _) rfl) nq54
        have bk54 := bx53.alloc (.cells #[] 3)
        have bl54 := bx53.lt
        refine hK.out _ _ (kk54) (fun hHeld => ?_)
        clear hK K
        try simp only [Act.put, List.getElem_toArray, List.getElem_cons_zero, List.getElem_cons_succ, List.setIfInBounds_toArray, List.set_cons_zero, List.set_cons_succ]
        generalize hq54 : wa53.heap.size = q54 at *
        generalize wa53.alloc (.cells #[] 3) = wa54 at *
        refine wpAnyH_ready (rs := [3, 4]) (by kernel_rfl) (by simp) (AllReadyH.cons rfl (fun K hK => ?_) (AllReadyH.cons rfl (fun K hK => ?_) AllReadyH.nil))
        · skip
          refine step_append_new wa54 w0.heap.size kk54.size rfl _ _ 22 rfl 3 i0 _ Try.underlying22 hi0 hz0 hz1 hz2 rfl q54 _ c.v _ rfl rfl ro54 (H1.out.keepN kk54) (by omega) ?_
          intro v55 w155 Z55 hg55
          have kg55 := (Keep.of_grown hg55).mono (T := fun k => k = q54) (fun i _ e => Option.some.inj e)
          have kk55 : Keep noneOf w0 w155 := kk54.trans kg55 (fun i hi e => by omega)
          have sz55 := kg55.size
          obtain ⟨D0, e0, rfl, _⟩ := Z55.shape
          have bl55 := bk54.lt
          have bk55 := bk54.keep kg55 (fun e => by omega)
          refine hK.out _ _ (kk55) (fun hHeld => ?_)
          clear hK K
          try simp only [Act.put, List.getElem_toArray, List.getElem_cons_zero, List.getElem_cons_succ, List.setIfInBounds_toArray, List.set_cons_zero, List.set_cons_succ]
          generalize hn55 : wa54.heap.size = n55 at *
          refine wpAnyH_ready (rs := [4]) (by kernel_rfl) (by simp) (AllReadyH.cons rfl (fun K hK => ?_) AllReadyH.nil)
          go_simp
          have kk56 : Keep noneOf w0 (w155.alloc (.cells #[] 3)) := kk55.alloc _
          have nq56 : w0.heap.size ≤ w155.heap.size := kk55.size
          have sz56 : w155.heap.size < (w155.alloc (.cells #[] 3)).heap.size := by simp
          have ro56 : (w155.alloc (.cells #[] 3)).ownsRow w0.heap.size 3 1 (.slice (some ⟨w155.heap.size, 0, none⟩) 0 0) 0 [] := own_base (World.ownsRow_made w155 #[] 0 (Nat.le_refl _) (Nat.zero_le _) rfl) nq56
          have zk56_3 := Z55.keepN ((Keep.refl noneOf w155).alloc (.cells #[] 3))
          have bk56 := bk55.alloc (.cells #[] 3)
          have bl56 := bk55.lt
          refine hK.out _ _ (kk56) (fun hHeld => ?_)
          clear hK K
          try simp only [Act.put, List.getElem_toArray, List.getElem_cons_zero, List.getElem_cons_succ, List.setIfInBounds_toArray, List.set_cons_zero, List.set_cons_succ]
          generalize hq56 : w155.heap.size = q56 at *
          generalize w155.alloc (.cells #[] 3) = wa56 at *
          refine wpAnyH_ready (rs := [7]) (by kernel_rfl) (by simp) (AllReadyH.cons rfl (fun K hK => ?_) AllReadyH.nil)
          refine step_append_new wa56 w0.heap.size kk56.size rfl _ _ 22 rfl 3 i0 _ Try.underlying22 hi0 hz0 hz1 hz2 rfl q56 _ c.l _ rfl rfl ro56 (H2.out.keepN kk56) (by omega) ?_
          intro v57 w157 Z57 hg57
          have kg57 := (Keep.of_grown hg57).mono (T := fun k => k = q56) (fun i _ e => Option.some.inj e)
          have kk57 : Keep noneOf w0 w157 := kk56.trans kg57 (fun i hi e => by omega)
          have sz57 := kg57.size
          obtain ⟨D1, e1, rfl, _⟩ := Z57.shape
          have zk57_3 := zk56_3.keep kg57 (fun i _ hi e => by omega)
          have bl57 := bk56.lt
          have bk57 := bk56.keep kg57 (fun e => by omega)
          refine hK.out _ _ (kk57) (fun hHeld => ?_)
          clear hK K
          try simp only [Act.put, List.getElem_toArray, List.getElem_cons_zero, List.getElem_cons_succ, List.setIfInBounds_toArray, List.set_cons_zero, List.set_cons_succ]
          generalize hn57 : wa56.heap.size = n57 at *
          refine' wpAnyH_take (i := 8) (v := _) rfl (by kernel_rfl) (by kernel_rfl) (by kernel_rfl) (fun _ _ _ h => h) (Or.inl ⟨by kernel_rfl, ?hy8⟩) (by assumption) ?_
          case hy8 => intro w' hSw; obtain ⟨_, _⟩ := MC.out w' hSw; go_simp; try with_reducible rfl
          simp only [Act.put, List.getElem_toArray, List.getElem_cons_zero, List.getElem_cons_succ, List.setIfInBounds_toArray, List.set_cons_zero, List.set_cons_succ]
          have zz0 := bk57.cell 0
          have zz1 := bk57.cell 1
          have ff0 := bk57.free 0
          have ff1 := bk57.free 1
          refine wpAnyH_ready (rs := [10]) (by kernel_rfl) (by simp) (AllReadyH.cons rfl (fun K hK => ?_) AllReadyH.nil)
          go_simp
          have UE := (bk57.put 0 (.slice D0 c.v.length e0)).put 1 (.slice D1 c.l.length e1)
          have KE := (kk57.setCell (p := ⟨q53, 0, none⟩) (fun hh => absurd hh (by show ¬ q53 < w0.heap.size; omega)) (.slice D0 c.v.length e0)).setCell (p := ⟨q53, 1, none⟩) (fun hh => absurd hh (by show ¬ q53 < w0.heap.size; omega)) (.slice D1 c.l.length e1)
          have KX := ((Keep.refl (fun i => i = q53) w157).setCell (p := ⟨q53, 0, none⟩) (fun _ => rfl) (.slice D0 c.v.length e0)).setCell (p := ⟨q53, 1, none⟩) (fun _ => rfl) (.slice D1 c.l.length e1)
          have ZA := (zk57_3.keep KX (fun i _ hi e => by omega)).mono (D' := fun _ => True) (fun _ _ _ => trivial)
          have ZB := (Z57.keep KX (fun i _ hi e => by omega)).mono (D' := fun _ => True) (fun _ _ _ => trivial)
          refine hK.out _ _ (KE) (fun hHeld => ?_)
          clear hK K
          try simp only [Act.put, List.getElem_toArray, List.getElem_cons_zero, List.getElem_cons_succ, List.setIfInBounds_toArray, List.set_cons_zero, List.set_cons_succ]
          generalize (w157.setCell ⟨q53, 0, none⟩ (.slice D0 c.v.length e0)).setCell ⟨q53, 1, none⟩ (.slice D1 c.l.length e1) = we at *
          refine wpAnyH_done (by kernel_rfl) ?_ _
          go_wp2_with fail
          go_meet
          exact ⟨_, D0, e0, D1, e1, rfl, KE, by omega, UE, ⟨_, _, rfl, ZA, ZB⟩⟩
        · skip
          go_simp
          have kk59 : Keep noneOf w0 (wa54.alloc (.cells #[] 3)) := kk54.alloc _
          have nq59 : w0.heap.size ≤ wa54.heap.size := kk54.size
          have sz59 : wa54.heap.size < (wa54.alloc (.cells #[] 3)).heap.size := by simp
          have ro59 : (wa54.alloc (.cells #[] 3)).ownsRow w0.heap.size 3 1 (.slice (some ⟨wa54.heap.size, 0, none⟩) 0 0) 0 [] := own_base (World.ownsRow_made wa54 #[] 0 (Nat.le_refl _) (Nat.zero_le _) rfl) nq59
          have rk59_0 := ro54.alloc (.cells #[] 3)
          have rl59_0 : q54 < wa54.heap.size := (ro54.lt q54 rfl).2
          have bk59 := bk54.alloc (.cells #[] 3)
          have bl59 := bk54.lt
          refine hK.out _ _ (kk59) (fun hHeld => ?_)
          clear hK K
          try simp only [Act.put, List.getElem_toArray, List.getElem_cons_zero, List.getElem_cons_succ, List.setIfInBounds_toArray, List.set_cons_zero, List.set_cons_succ]
          generalize hq59 : wa54.heap.size = q59 at *
          generalize wa54.alloc (.cells #[] 3) = wa59 at *
          refine wpAnyH_ready (rs := [3]) (by kernel_rfl) (by simp) (AllReadyH.cons rfl (fun K hK => ?_) AllReadyH.nil)
          refine step_append_new wa59 w0.heap.size kk59.size rfl _ _ 22 rfl 3 i0 _ Try.underlying22 hi0 hz0 hz1 hz2 rfl q54 _ c.v _ rfl rfl rk59_0 (H1.out.keepN kk59) (by omega) ?_
          intro v60 w160 Z60 hg60
          have kg60 := (Keep.of_grown hg60).mono (T := fun k => k = q54) (fun i _ e => Option.some.inj e)
          have kk60 : Keep noneOf w0 w160 := kk59.trans kg60 (fun i hi e => by omega)
          have sz60 := kg60.size
          obtain ⟨D0, e0, rfl, _⟩ := Z60.shape
          have rk60_4 := own_keep ro59 kg60 (fun i e hh => by have := Option.some.inj (show some q59 = some i from e); omega)
          have bl60 := bk59.lt
          have bk60 := bk59.keep kg60 (fun e => by omega)
          refine hK.out _ _ (kk60) (fun hHeld => ?_)
          clear hK K
          try simp only [Act.put, List.getElem_toArray, List.getElem_cons_zero, List.getElem_cons_succ, List.setIfInBounds_toArray, List.set_cons_zero, List.set_cons_succ]
          generalize hn60 : wa59.heap.size = n60 at *
          refine wpAnyH_ready (rs := [7]) (by kernel_rfl) (by simp) (AllReadyH.cons rfl (fun K hK => ?_) AllReadyH.nil)
          refine step_append_new w160 w0.heap.size kk60.size rfl _ _ 22 rfl 3 i0 _ Try.underlying22 hi0 hz0 hz1 hz2 rfl q59 _ c.l _ rfl rfl rk60_4 (H2.out.keepN kk60) (by omega) ?_
          intro v61 w161 Z61 hg61
          have kg61 := (Keep.of_grown hg61).mono (T := fun k => k = q59) (fun i _ e => Option.some.inj e)
          have kk61 : Keep noneOf w0 w161 := kk60.trans kg61 (fun i hi e => by omega)
          have sz61 := kg61.size
          obtain ⟨D1, e1, rfl, _⟩ := Z61.shape
          have zk61_3 := Z60.keep kg61 (fun i _ hi e => by omega)
          have bl61 := bk60.lt
          have bk61 := bk60.keep kg61 (fun e => by omega)
          refine hK.out _ _ (kk61) (fun hHeld => ?_)
          clear hK K
          try simp only [Act.put, List.getElem_toArray, List.getElem_cons_zero, List.getElem_cons_succ, List.setIfInBounds_toArray, List.set_cons_zero, List.set_cons_succ]
          generalize hn61 : w160.heap.size = n61 at *
          refine' wpAnyH_take (i := 8) (v := _) rfl (by kernel_rfl) (by kernel_rfl) (by kernel_rfl) (fun _ _ _ h => h) (Or.inl ⟨by kernel_rfl, ?hy8⟩) (by assumption) ?_
          case hy8 => intro w' hSw; obtain ⟨_, _⟩ := MC.out w' hSw; go_simp; try with_reducible rfl
          simp only [Act.put, List.getElem_toArray, List.getElem_cons_zero, List.getElem_cons_succ, List.setIfInBounds_toArray, List.set_cons_zero, List.set_cons_succ]
          have zz0 := bk61.cell 0
          have zz1 := bk61.cell 1
          have ff0 := bk61.free 0
          have ff1 := bk61.free 1
          refine wpAnyH_ready (rs := [10]) (by kernel_rfl) (by simp) (AllReadyH.cons rfl (fun K hK => ?_) AllReadyH.nil)
          go_simp
          have UE := (bk61.put 0 (.slice D0 c.v.length e0)).put 1 (.slice D1 c.l.length e1)
          have KE := (kk61.setCell (p := ⟨q53, 0, none⟩) (fun hh => absurd hh (by show ¬ q53 < w0.heap.size; omega)) (.slice D0 c.v.length e0)).setCell (p := ⟨q53, 1, none⟩) (fun hh => absurd hh (by show ¬ q53 < w0.heap.size; omega)) (.slice D1 c.l.length e1)
          have KX := ((Keep.refl (fun i => i = q53) w161).setCell (p := ⟨q53, 0, none⟩) (fun _ => rfl) (.slice D0 c.v.length e0)).setCell (p := ⟨q53, 1, none⟩) (fun _ => rfl) (.slice D1 c.l.length e1)
          have ZA := (zk61_3.keep KX (fun i _ hi e => by omega)).mono (D' := fun _ => True) (fun _ _ _ => trivial)
          have ZB := (Z61.keep KX (fun i _ hi e => by omega)).mono (D' := fun _ => True) (fun _ _ _ => trivial)
          refine hK.out _ _ (KE) (fun hHeld => ?_)
          clear hK K
          try simp only [Act.put, List.getElem_toArray, List.getElem_cons_zero, List.getElem_cons_succ, List.setIfInBounds_toArray, List.set_cons_zero, List.set_cons_succ]
          generalize (w161.setCell ⟨q53, 0, none⟩ (.slice D0 c.v.length e0)).setCell ⟨q53, 1, none⟩ (.slice D1 c.l.length e1) = we at *
          refine wpAnyH_done (by kernel_rfl) ?_ _
          go_wp2_with fail
          go_meet
          exact ⟨_, D0, e0, D1, e1, rfl, KE, by omega, UE, ⟨_, _, rfl, ZA, ZB⟩⟩
      · skip
        go_simp
        have kk63 : Keep noneOf w0 (wa53.alloc (.cells #[] 3)) := kk53.alloc _
        have nq63 : w0.heap.size ≤ wa53.heap.size := kk53.size
        have sz63 : wa53.heap.size < (wa53.alloc (.cells #[] 3)).heap.size := by simp
        have ro63 : (wa53.alloc (.cells #[] 3)).ownsRow w0.heap.size 3 1 (.slice (some ⟨wa53.heap.size, 0, none⟩) 0 0) 0 [] := own_base (World.ownsRow_made wa53 #[] 0 (Nat.le_refl _) (Nat.zero_le _) rfl) nq63
        have bk63 := bx53.alloc (.cells #[] 3)
        have bl63 := bx53.lt
        refine hK.out _ _ (kk63) (fun hHeld => ?_)
        clear hK K
        try simp only [Act.put, List.getElem_toArray, List.getElem_cons_zero, List.getElem_cons_succ, List.setIfInBounds_toArray, List.set_cons_zero, List.set_cons_succ]
        generalize hq63 : wa53.heap.size = q63 at *
        generalize wa53.alloc (.cells #[] 3) = wa63 at *
        refine wpAnyH_ready (rs := [0]) (by kernel_rfl) (by simp) (AllReadyH.cons rfl (fun K hK => ?_) AllReadyH.nil)
        go_simp
        have kk64 : Keep noneOf w0 (wa63.alloc (.cells #[] 3)) := kk63.alloc _
        have nq64 : w0.heap.size ≤ wa63.heap.size := kk63.size
        have sz64 : wa63.heap.size < (wa63.alloc (.cells #[] 3)).heap.size := by simp
        have ro64 : (wa63.alloc (.cells #[] 3)).ownsRow w0.heap.size 3 1 (.slice (some ⟨wa63.heap.size, 0, none⟩) 0 0) 0 [] := own_base (World.ownsRow_made wa63 #[] 0 (Nat.le_refl _) (Nat.zero_le _) rfl) nq64
        have rk64_4 := ro63.alloc (.cells #[] 3)
        have rl64_4 : q63 < wa63.heap.size := (ro63.lt q63 rfl).2
        have bk64 := bk63.alloc (.cells #[] 3)
        have bl64 := bk63.lt
        refine hK.out _ _ (kk64) (fun hHeld => ?_)
        clear hK K
        try simp only [Act.put, List.getElem_toArray, List.getElem_cons_zero, List.getElem_cons_succ, List.setIfInBounds_toArray, List.set_cons_zero, List.set_cons_succ]
        generalize hq64 : wa63.heap.size = q64 at *
        generalize wa63.alloc (.cells #[] 3) = wa64 at *
        refine wpAnyH_ready (rs := [3]) (by kernel_rfl) (by simp) (AllReadyH.cons rfl (fun K hK => ?_) AllReadyH.nil)
        refine step_append_new wa64 w0.heap.size kk64.size rfl _ _ 22 rfl 3 i0 _ Try.underlying22 hi0 hz0 hz1 hz2 rfl q64 _ c.v _ rfl rfl ro64 (H1.out.keepN kk64) (by omega) ?_
        intro v65 w165 Z65 hg65
        have kg65 := (Keep.of_grown hg65).mono (T := fun k => k = q64) (fun i _ e => Option.some.inj e)
        have kk65 : Keep noneOf w0 w165 := kk64.trans kg65 (fun i hi e => by omega)
        have sz65 := kg65.size
        obtain ⟨D0, e0, rfl, _⟩ := Z65.shape
        have rk65_4 := own_keep rk64_4 kg65 (fun i e hh => by have := Option.some.inj (show some q63 = some i from e); omega)
        have bl65 := bk64.lt
        have bk65 := bk64.keep kg65 (fun e => by omega)
        refine hK.out _ _ (kk65) (fun hHeld => ?_)
        clear hK K
        try simp only [Act.put, List.getElem_toArray, List.getElem_cons_zero, List.getElem_cons_succ, List.setIfInBounds_toArray, List.set_cons_zero, List.set_cons_succ]
        generalize hn65 : wa64.heap.size = n65 at *
        refine wpAnyH_ready (rs := [7]) (by kernel_rfl) (by simp) (AllReadyH.cons rfl (fun K hK => ?_) AllReadyH.nil)
        refine step_append_new w165 w0.heap.size kk65.size rfl _ _ 22 rfl 3 i0 _ Try.underlying22 hi0 hz0 hz1 hz2 rfl q63 _ c.l _ rfl rfl rk65_4 (H2.out.keepN kk65) (by omega) ?_
        intro v66 w166 Z66 hg66
        have kg66 := (Keep.of_grown hg66).mono (T := fun k => k = q63) (fun i _ e => Option.some.inj e)
        have kk66 : Keep noneOf w0 w166 := kk65.trans kg66 (fun i hi e => by omega)
        have sz66 := kg66.size
        obtain ⟨D1, e1, rfl, _⟩ := Z66.shape
        have zk66_3 := Z65.keep kg66 (fun i _ hi e => by omega)
        have bl66 := bk65.lt
        have bk66 := bk65.keep kg66 (fun e => by omega)
        refine hK.out _ _ (kk66) (fun hHeld => ?_)
        clear hK K
        try simp only [Act.put, List.getElem_toArray, List.getElem_cons_zero, List.getElem_cons_succ, List.setIfInBounds_toArray, List.set_cons_zero, List.set_cons_succ]
        generalize hn66 : w165.heap.size = n66 at *
        refine' wpAnyH_take (i := 8) (v := _) rfl (by kernel_rfl) (by kernel_rfl) (by kernel_rfl) (fun _ _ _ h => h) (Or.inl ⟨by kernel_rfl, ?hy8⟩) (by assumption) ?_
        case hy8 => intro w' hSw; obtain ⟨_, _⟩ := MC.out w' hSw; go_simp; try with_reducible rfl
        simp only [Act.put, List.getElem_toArray, List.getElem_cons_zero, List.getElem_cons_succ, List.setIfInBounds_toArray, List.set_cons_zero, List.set_cons_succ]
        have zz0 := bk66.cell 0
        have zz1 := bk66.cell 1
        have ff0 := bk66.free 0
        have ff1 := bk66.free 1
        refine wpAnyH_ready (rs := [10]) (by kernel_rfl) (by simp) (AllReadyH.cons rfl (fun K hK => ?_) AllReadyH.nil)
        go_simp
        have UE := (bk66.put 0 (.slice D0 c.v.length e0)).put 1 (.slice D1 c.l.length e1)
        have KE := (kk66.setCell (p := ⟨q53, 0, none⟩) (fun hh => absurd hh (by show ¬ q53 < w0.heap.size; omega)) (.slice D0 c.v.length e0)).setCell (p := ⟨q53, 1, none⟩) (fun hh => absurd hh (by show ¬ q53 < w0.heap.size; omega)) (.slice D1 c.l.length e1)
        have KX := ((Keep.refl (fun i => i = q53) w166).setCell (p := ⟨q53, 0, none⟩) (fun _ => rfl) (.slice D0 c.v.length e0)).setCell (p := ⟨q53, 1, none⟩) (fun _ => rfl) (.slice D1 c.l.length e1)
        have ZA := (zk66_3.keep KX (fun i _ hi e => by omega)).mono (D' := fun _ => True) (fun _ _ _ => trivial)
        have ZB := (Z66.keep KX (fun i _ hi e => by omega)).mono (D' := fun _ => True) (fun _ _ _ => trivial)
        refine hK.out _ _ (KE) (fun hHeld => ?_)
        clear hK K
        try simp only [Act.put, List.getElem_toArray, List.getElem_cons_zero, List.getElem_cons_succ, List.setIfInBounds_toArray, List.set_cons_zero, List.set_cons_succ]
        generalize (w166.setCell ⟨q53, 0, none⟩ (.slice D0 c.v.length e0)).setCell ⟨q53, 1, none⟩ (.slice D1 c.l.length e1) = we at *
        refine wpAnyH_done (by kernel_rfl) ?_ _
        go_wp2_with fail
        go_meet
        exact ⟨_, D0, e0, D1, e1, rfl, KE, by omega, UE, ⟨_, _, rfl, ZA, ZB⟩⟩
  case rest =>
    obtain ⟨q5, D0, e0, D1, e1, rfl, KF, n5, B5, C5⟩ := hcut
    have HKF := Lib.hid KF
    have HB5 := Lib.hid B5
    have HC5 := Lib.hid C5
    have HKW := Lib.hid (HK2.out.trans KF (fun _ _ h => h))
    have x0 : wc.cell? ⟨w.heap.size, 0, none⟩ = some (.slice A c.v.length ca) := (HX0.out.keep KF id).cell 0
    have x1 : wc.cell? ⟨w.heap.size, 1, none⟩ = some (.slice B c.l.length cb) := (HX0.out.keep KF id).cell 1
    have y0 : wc.cell? ⟨w.heap.size + 1, 0, none⟩ = some (.int .i64 kind) := (HX1.out.keep KF id).cell 0
    have y1 : wc.cell? ⟨w.heap.size + 1, 1, none⟩ = some (.int .i64 node) := (HX1.out.keep KF id).cell 1
    have z0 : wc.cell? ⟨q5, 0, none⟩ = some (.slice D0 c.v.length e0) := B5.cell 0
    have z1 : wc.cell? ⟨q5, 1, none⟩ = some (.slice D1 c.l.length e1) := B5.cell 1
    have HAP := Lib.hid (apply_any wc _ _ c kind node C5)
    have HRA : Hid (∀ w', Keep noneOf w w' → Calls Try.prog 21 #[.agg #[.slice A c.v.length ca, .slice B c.l.length cb], .agg #[.int .i64 kind, .int .i64 node]] w' (Applied (apP c kind node) w')) := fun w' k => rapply_any w' _ _ c kind node (HH.out.keepN k) hfv hfl
    have HFV := Lib.hid hfv
    have HFL := Lib.hid hfl
    have HK0 := HKW.out
    obtain ⟨⟨rc, re⟩, hr⟩ : ∃ r, apP c kind node = r := ⟨_, rfl⟩
    have HOK := Lib.hid (show re = 0 → chkP rc = 0 from fun h0 => by
      have := (ap_valid (c := c) (kind := kind) (node := node) (by rw [hr]; exact h0)).2
      rw [hr] at this
      exact (chk_iff _).2 this)
    rw [hr] at HAP HRA
    clear hr KF n5 B5 C5 HK0
    go_wp2_with fail
    refine HAP.out.mono ?_
    rintro e wd ⟨va, rfl, ⟨_, _, rfl, ha0, ha1⟩, ka⟩
    obtain ⟨E0, f0, rfl, _⟩ := ha0.shape
    obtain ⟨E1, f1, rfl, _⟩ := ha1.shape
    simp only at ha0 ha1 ⊢
    have kb : Keep noneOf wd (wd.alloc (.cells #[.slice E0 rc.v.length f0, .slice E1 rc.l.length f1] 24)) := (Keep.refl noneOf wd).alloc _
    have HKD := Lib.hid (ka.trans kb (fun _ _ h => h))
    have HBA := Lib.hid (Box.new wd 24 #[.slice E0 rc.v.length f0, .slice E1 rc.l.length f1])
    have HCA : Hid (CfAt (wd.alloc (.cells #[.slice E0 rc.v.length f0, .slice E1 rc.l.length f1] 24)) (fun _ => True) (.agg #[.slice E0 rc.v.length f0, .slice E1 rc.l.length f1]) rc) := ⟨_, _, rfl, ha0.keepN kb, ha1.keepN kb⟩
    have HXC := Lib.hid ((HX0.out.keep HKF.out id).keep HKD.out id)
    have HYC := Lib.hid ((HX1.out.keep HKF.out id).keep HKD.out id)
    have HZC := Lib.hid (HB5.out.keep HKD.out id)
    have HK5 := Lib.hid (HKW.out.trans HKD.out (fun _ _ h => h))
    have HRB := Lib.hid (HRA.out _ HK5.out)
    clear x0 x1 y0 y1 z0 z1 ha0 ha1 ka kb HAP
    have x0 := HXC.out.cell 0
    have x1 := HXC.out.cell 1
    have y0 := HYC.out.cell 0
    have y1 := HYC.out.cell 1
    simp only [List.getElem?_toArray, List.getElem?_cons_zero, List.getElem?_cons_succ] at x0 x1 y0 y1
    have hl3 := HBA.out.lt
    go_upto_region 3 with fail
    generalize wd.alloc (.cells #[.slice E0 rc.v.length f0, .slice E1 rc.l.length f1] 24) = w5 at *
    generalize wd.heap.size = pa at *
    go_wp2_with fail
    refine HRB.out.mono ?_
    rintro e we ⟨vb, rfl, ⟨_, _, rfl, hb0, hb1⟩, ka⟩
    obtain ⟨G0, g0, rfl, _⟩ := hb0.shape
    obtain ⟨G1, g1, rfl, _⟩ := hb1.shape
    simp only at hb0 hb1 ⊢
    have kb : Keep noneOf we (we.alloc (.cells #[.slice G0 rc.v.length g0, .slice G1 rc.l.length g1] 24)) := (Keep.refl noneOf we).alloc _
    have HKE := Lib.hid (ka.trans kb (fun _ _ h => h))
    have HBB := Lib.hid (Box.new we 24 #[.slice G0 rc.v.length g0, .slice G1 rc.l.length g1])
    have HCB : Hid (CfAt (we.alloc (.cells #[.slice G0 rc.v.length g0, .slice G1 rc.l.length g1] 24)) (fun _ => True) (.agg #[.slice G0 rc.v.length g0, .slice G1 rc.l.length g1]) rc) := ⟨_, _, rfl, hb0.keepN kb, hb1.keepN kb⟩
    have hl4 := HBB.out.lt
    clear x0 x1 y0 y1 hb0 hb1 ka kb HRB
    go_upto_region 4 with fail
    generalize we.alloc (.cells #[.slice G0 rc.v.length g0, .slice G1 rc.l.length g1] 24) = w6 at *
    generalize we.heap.size = pb at *
    have HK6 := Lib.hid (HK5.out.trans HKE.out (fun _ _ h => h))
    have HG6 := Lib.hid ((HC5.out.keepN HKD.out).keepN HKE.out)
    have HA6 := Lib.hid (HCA.out.keepN HKE.out)
    have HH6 := Lib.hid (HH.out.keepN HK6.out)
    have MD : Hid (∀ w', Keep noneOf w6 w' → w'.cell? ⟨w.heap.size, 0, none⟩ = some (.slice A c.v.length ca) ∧ w'.cell? ⟨w.heap.size, 1, none⟩ = some (.slice B c.l.length cb) ∧ w'.cell? ⟨q5, 0, none⟩ = some (.slice D0 c.v.length e0) ∧ w'.cell? ⟨q5, 1, none⟩ = some (.slice D1 c.l.length e1) ∧ w'.cell? ⟨pa, 0, none⟩ = some (.slice E0 rc.v.length f0) ∧ w'.cell? ⟨pa, 1, none⟩ = some (.slice E1 rc.l.length f1) ∧ w'.cell? ⟨pb, 0, none⟩ = some (.slice G0 rc.v.length g0) ∧ w'.cell? ⟨pb, 1, none⟩ = some (.slice G1 rc.l.length g1)) := fun w' k => by
      have a := (HXC.out.keep HKE.out id).keep k id
      have b := (HZC.out.keep HKE.out id).keep k id
      have d := (HBA.out.keep HKE.out id).keep k id
      have f := HBB.out.keep k id
      exact ⟨a.cell 0, a.cell 1, b.cell 0, b.cell 1, d.cell 0, d.cell 1, f.cell 0, f.cell 1⟩
    go_wp2_with fail
    refine (alive_any _).mono ?_
    rintro e w7 ⟨rfl, k7⟩
    have HK7 := Lib.hid k7
    obtain ⟨x0, x1, z0, z1, a0, a1, b0, b1⟩ := MD.out _ HK7.out
    have S1 := Lib.hid (rsame_any w7 _ _ _ _ rc rc (HA6.out.keepN k7) (HCB.out.keepN k7))
    rw [same_iff.2 rfl] at S1
    clear k7
    go_wp2_with fail
    refine S1.out.mono ?_
    rintro e w8 ⟨rfl, k8⟩
    have HK8 := Lib.hid (HK7.out.trans k8 (fun _ _ h => h))
    clear x0 x1 z0 z1 a0 a1 b0 b1 k8 S1
    obtain ⟨x0, x1, z0, z1, a0, a1, b0, b1⟩ := MD.out _ HK8.out
    have S2 := Lib.hid (rsame_any w8 _ _ _ _ c c (HG6.out.keepN HK8.out) (HH6.out.keepN HK8.out))
    rw [same_iff.2 rfl] at S2
    have ge : (re == re) = true := by simp
    go_wp2_with fail
    refine S2.out.mono ?_
    rintro e w9 ⟨rfl, k9⟩
    have HK9 := Lib.hid (HK8.out.trans k9 (fun _ _ h => h))
    clear x0 x1 z0 z1 a0 a1 b0 b1 k9 S2
    obtain ⟨x0, x1, z0, z1, a0, a1, b0, b1⟩ := MD.out _ HK9.out
    by_cases hz : re = 0
    · subst hz
      have hok : chkP rc = 0 := HOK.out (by first | rfl | trivial)
      have S3 := Lib.hid (check_any w9 _ _ rc (HA6.out.keepN HK9.out))
      rw [hok] at S3
      go_wp2_with fail
      refine S3.out.mono ?_
      rintro e w10 ⟨rfl, k10⟩
      have HKF' := Lib.hid (HK6.out.trans (HK9.out.trans k10 (fun _ _ h => h)) (fun _ _ h => h))
      clear k10 x0 x1 z0 z1 a0 a1 b0 b1
      go_wp2
      go_ret
      exact ⟨rfl, HKF'.out⟩
    · have gz : (re != 0) = true := bne_iff_ne.2 hz
      have HKF' := Lib.hid (HK6.out.trans HK9.out (fun _ _ h => h))
      clear hz x0 x1 z0 z1 a0 a1 b0 b1
      go_wp2
      go_ret
      exact ⟨rfl, HKF'.out⟩

namespace ConfigChanges
set_option maxRecDepth 100000 in
theorem lifted (os : Os) (started : os.Started) (H : Type) (enc : TypeId × Value → H) :
    ReturnsInHanded {} Try.checked os 4 .any (Rows.configChangesSpec.pre6 enc Try.prog Try.f4 Rows.configChangesRow.domain false) (Rows.configChangesSpec.post enc Try.prog Try.f4 false true false false) := by
  refine returnsInHanded_of_change_sized (C := Try.checked) own started (by kernel_rfl) Try.func4
    (ChangeSpec.witness6 (enc := enc) (C := Try.checked) false ⟨#[], #[.agg #[.slice none 0 0, .slice none 0 0], .agg #[.int .i64 0, .int .i64 0]], []⟩ 8 (by kernel_rfl) (by kernel_rfl) (by kernel_rfl) (by kernel_rfl)) ?_
  intro W base args ds gs before hval0 hW hcnd hsz _
  have hval : ∀ (j : Nat) t v, Try.f4.params[j]? = some t → args[j]? = some v → Value.okWide Try.prog W .any base t v := hval0
  have hW' := hW
  obtain ⟨p, q, hA0, hV, rfl, hfz, hnd⟩ := hW
  have hA : DataW.TrodAll enc Try.prog W 0 (fun _ => true) true Try.f4.params.toList args.toList ds p := hA0
  rw [Try.params4] at hA hval
  obtain ⟨v0, vs0, d0, ds0, p0, q0, hargs, rfl, rfl, h0, r0⟩ := trodAll_cons hA
  obtain ⟨v1, vs1, d1, ds1, p1, q1, rfl, rfl, rfl, h1, r1⟩ := trodAll_cons r0
  obtain ⟨rfl, rfl, rfl⟩ := trodAll_nil r1
  obtain rfl : args = #[v0, v1] := by cases args; simp_all
  obtain ⟨rfl, rfl⟩ := trodVars_none hV
  have k0 := h0
  have lt0 : ∀ x ∈ p0, x.block < W.heap.size := by obtain ⟨m, hm⟩ := k0; exact DataW.trod_lt m _ _ _ hm
  have k1 := h1
  have lt1 : ∀ x ∈ p1, x.block < W.heap.size := by obtain ⟨m, hm⟩ := k1; exact DataW.trod_lt m _ _ _ hm
  obtain ⟨c0, hc0, hv0, hl0⟩ := open_arg_cfg (hval 0 24 v0 rfl rfl) h0 (light_arg hsz (j := 0) rfl rfl)
  obtain ⟨kd1, nd1, rfl⟩ := open_arg_change (hval 1 33 v1 rfl rfl) h1
  clear hA0 hval0
  refine (changes_walk W v0 c0 kd1 nd1 hc0 hv0 hl0).mono fun e W' ⟨he, bel0⟩ => ?_
  subst he
  have bel := bel0.all
  exact ⟨_, rfl, _, _, _, [], _, [], hW', trodAll_mk1 (shut_bool Try.underlying4 _), (trodAll_cons_mk (Below.trod laidOut (by kernel_rfl) (of_decide_eq_true (by kernel_rfl)) k0 bel lt0) (trodAll_cons_mk (Below.trod laidOut (by kernel_rfl) (of_decide_eq_true (by kernel_rfl)) k1 bel lt1) trodAll_mk0)), rfl, bel.frame _, fun h => by cases h⟩

theorem over : Rows.configChangesRow.holds Try.pinned (OpenSpec.ofChange Rows.configChangesSpec) :=
  OpenClaim.holds_of_wide 4 Try.f4 rfl rfl rfl rfl rfl rfl rfl ⟨rfl, rfl, rfl, rfl, rfl⟩ rfl rfl rfl rfl rfl (by kernel_rfl) Try.func4 (by kernel_rfl)
    (of_decide_eq_true (by kernel_rfl)) (by unfold Func.isWrapper; first | (rw [if_pos (by decide +kernel)]; kernel_rfl) | (rw [if_neg (by decide +kernel)]; exact ⟨rfl, rfl⟩))
    (fun os started H enc _ => lifted os started H enc)

theorem proved : Rows.ConfigChangesSaid := over
end ConfigChanges
end Go.Proofs.Ytmncjibokpieoaa
