import Derived.Test.YtkoikmdmejhhhaaGreatBs47
namespace Go.Proofs.YtkoikmdmejhhhaaGreat
open Go.RowKit
def ViewTold (r : Int × Int × List Pst) (w : World) (e : Ending) (w' : World) : Prop := ∃ A c, e = .returned (.agg #[.int .i64 r.1, .int .u64 r.2.1, .slice A r.2.2.length c]) ∧ Sts w' (fun i => w.heap.size ≤ i) (.slice A r.2.2.length c) r.2.2 ∧ Keep noneOf w w'
set_option maxRecDepth 100000 in
set_option maxHeartbeats 8000000 in
set_option linter.unusedSimpArgs false in
theorem view_any (w : World) (D : Nat → Prop) (q : Qm) (h : QAt w D q) (hi : Inv q.plain) (id : Int) :
    Calls Tryz.prog 20 #[.pointer (some ⟨q.p, 0, none⟩), .int .u64 id] w (ViewTold (viewP q.plain id) w) := by
  have ka := (Keep.refl noneOf w).alloc (.cells #[.int .i64 0, .int .u64 0, .slice none 0 0] 47)
  have HA := Lib.hid (Box.new w 47 #[.int .i64 0, .int .u64 0, .slice none 0 0])
  have HKA := Lib.hid ka
  have HQ := Lib.hid (h.stay ka)
  have HI := Lib.hid hi
  have hpl : q.p < w.heap.size := h.box.lt
  have HLT := Lib.hid h.lt
  have FD := Lib.hid (qfind_any _ D q (h.stay ka) id)
  obtain ⟨Ag, cg, hgv⟩ := h.shape
  have HGV := Lib.hid hgv
  have hgf := h.few
  unfold maxLen at hgf
  generalize hR : viewP q.plain id = R
  have HR := Lib.hid hR
  clear h hi ka hgv hR
  go_enter Tryz.func20, Tryz.ntmps20
  go_wp2_with fail
  refine FD.out.mono ?_
  rintro e w2 ⟨rfl, k2⟩
  have HQ2 := Lib.hid (HQ.out.stay k2)
  have HA2 := Lib.hid (HA.out.keep k2 (fun h => h))
  have HK2 := Lib.hid (HKA.out.trans k2 (fun _ _ h => h))
  clear FD k2 HA HKA HQ
  generalize ha : w.heap.size = a at *
  have HAE := Lib.hid ha
  have hpa : q.p ≠ a := by omega
  clear ha
  obtain ⟨y0, y1, y2⟩ := HA2.out.three
  have z0 := HA2.out.free 0
  have z1 := HA2.out.free 1
  have z2 := HA2.out.free 2
  have p0 : w2.cell? ⟨q.p, 0, none⟩ = some (.int .u64 q.now) := HQ2.out.box.cell 0
  cases hf : findG q.plain id with
  | none =>
    have hr : R = (121, q.now, []) := by
      rw [← HR.out]
      unfold viewP
      rw [hf]
      rfl
    subst hr
    have hb3 := HA2.out.put3 (.int .i64 121) (.int .u64 q.now) (.slice none 0 0)
    have k3 := (((Keep.refl (fun i => i = a) w2).setCell (p := ⟨a, 0, none⟩) (fun _ => rfl) (.int .i64 121)).setCell (p := ⟨a, 1, none⟩) (fun _ => rfl) (.int .u64 q.now)).setCell (p := ⟨a, 2, none⟩) (fun _ => rfl) (.slice none 0 0)
    have HB3 := Lib.hid hb3
    have HK3 := Lib.hid (HK2.out.trans k3 (fun i hi e => by have := HAE.out; omega))
    clear hb3 k3 HR hf
    simp only [Option.getD, Option.isSome]
    go_wp2
    generalize ((w2.setCell ⟨a, 0, none⟩ (.int .i64 121)).setCell ⟨a, 1, none⟩ (.int .u64 q.now)).setCell ⟨a, 2, none⟩ (.slice none 0 0) = wf at *
    obtain ⟨r0, r1, r2⟩ := HB3.out.three
    exact bodyPost_ret (v := .agg #[.int .i64 121, .int .u64 q.now, .slice none 0 0]) (by simp [results, Tryz.results20, go_sem, r0, r1, r2]) rfl ⟨none, 0, rfl, Sts.nil _ _, HK3.out⟩
  | some i =>
    obtain ⟨gq, hg0, _⟩ := findIdx_at hf
    obtain ⟨g, hg, rfl⟩ := gm_of hg0
    have hr : R = (0, q.now, g.st) := by
      rw [← HR.out]
      unfold viewP
      rw [hf]
      dsimp only
      rw [getD_some hg0]
      rfl
    subst hr
    have hm := List.mem_of_getElem? hg
    obtain ⟨g0, cap, hgv, hg0D, hg0lt, hg0p, d0, d1, d2, fr2⟩ := HQ2.out.rows hg
    rw [HGV.out] at hgv
    obtain ⟨rfl, rfl⟩ : Ag = some ⟨g0, 0, none⟩ ∧ cg = cap := by simpa using hgv
    have hS := HQ2.out.states hm
    obtain ⟨As, cs, hsv⟩ := hS.shape
    rw [hsv] at d2 hS
    have h32 := (inv_few HI.out hm).1
    have hDa : ¬ D a := fun e => by have := HLT.out a e; omega
    have hg0a : g0 ≠ a := fun e => hDa (e ▸ hg0D)
    have hil := (List.getElem?_eq_some_iff.1 hg).1
    have q0 : (0 : Int) ≤ (i : Int) := by omega
    have q1 : (i : Int) < (q.gs.length : Int) := by omega
    have p4 : w2.cell? ⟨q.p, 4, none⟩ = some (.slice (some ⟨g0, 0, none⟩) q.gs.length cg) := by rw [← HGV.out]; exact HQ2.out.box.cell 4
    have MC : Hid (∀ w', Keep (fun b => b = a) w2 w' → w'.cell? ⟨q.p, 0, none⟩ = some (.int .u64 q.now) ∧ w'.cell? ⟨q.p, 4, none⟩ = some (.slice (some ⟨g0, 0, none⟩) q.gs.length cg) ∧ w'.cell? ⟨g0, i * 3 + 2, none⟩ = some (.slice As g.st.length cs)) := Lib.hid fun w' k' =>
      ⟨(HQ2.out.box.keep k' hpa).cell 0, (k'.cell (p := ⟨q.p, 4, none⟩) (block_of_cell p4) hpa).trans p4, (k'.cell (p := ⟨g0, i * 3 + 2, none⟩) hg0lt hg0a).trans d2⟩
    have CS : Hid (∀ w', Keep noneOf w2 w' → Calls Tryz.prog 51 #[.slice As g.st.length cs] w' (Copies Pst.cells 3 64 g.st w')) := Lib.hid fun w' k' => cloneS_any w' _ _ g.st (hS.keep k' (fun _ _ _ h => h)) (by rw [reach_is]; omega)
    have K0 := Keep.refl noneOf w2
    have KS := (Keep.refl (fun b => b = a) w2).drew
    clear HR hf hg0 hg hm hgv d0 d1 d2 fr2 hS hsv p4 hg0D
    simp only [Option.getD, Option.isSome]
    go_upto_region 4 with fail
    refine wp_region_held_drew (S := fun w' => Keep (fun b => b = a) w2 w') (by kernel_rfl) (KS) (fun hHeld => ?_)
    refine' wpAnyH_take (i := 0) (v := _) rfl (by kernel_rfl) (by kernel_rfl) (by kernel_rfl) (fun _ _ _ h => h) (Or.inl ⟨by kernel_rfl, ?hy0⟩) (by assumption) ?_
    case hy0 => intro w' hSw; obtain ⟨_, _, _⟩ := MC.out w' hSw; go_simp; try with_reducible rfl
    simp only [Act.put, List.getElem_toArray, List.getElem_cons_zero, List.getElem_cons_succ, List.setIfInBounds_toArray, List.set_cons_zero, List.set_cons_succ]
    refine' wpAnyH_take (i := 1) (v := _) rfl (by kernel_rfl) (by kernel_rfl) (by kernel_rfl) (fun _ _ _ h => h) (Or.inl ⟨by kernel_rfl, ?hy1⟩) (by assumption) ?_
    case hy1 => intro w' hSw; obtain ⟨_, _, _⟩ := MC.out w' hSw; go_simp; try with_reducible rfl
    simp only [Act.put, List.getElem_toArray, List.getElem_cons_zero, List.getElem_cons_succ, List.setIfInBounds_toArray, List.set_cons_zero, List.set_cons_succ]
    refine' wpAnyH_take (i := 2) (v := _) rfl (by kernel_rfl) (by kernel_rfl) (by kernel_rfl) (fun _ _ _ h => h) (Or.inl ⟨by kernel_rfl, ?hy2⟩) (by assumption) ?_
    case hy2 => intro w' hSw; obtain ⟨_, _, _⟩ := MC.out w' hSw; go_simp; try with_reducible rfl
    simp only [Act.put, List.getElem_toArray, List.getElem_cons_zero, List.getElem_cons_succ, List.setIfInBounds_toArray, List.set_cons_zero, List.set_cons_succ]
    refine' wpAnyH_take (i := 3) (v := _) rfl (by kernel_rfl) (by kernel_rfl) (by kernel_rfl) (fun _ _ _ h => h) (Or.inl ⟨by kernel_rfl, ?hy3⟩) (by assumption) ?_
    case hy3 => intro w' hSw; obtain ⟨_, _, _⟩ := MC.out w' hSw; go_simp; try with_reducible rfl
    simp only [Act.put, List.getElem_toArray, List.getElem_cons_zero, List.getElem_cons_succ, List.setIfInBounds_toArray, List.set_cons_zero, List.set_cons_succ]
    refine' wpAnyH_take (i := 4) (v := _) rfl (by kernel_rfl) (by kernel_rfl) (by kernel_rfl) (fun _ _ _ h => h) (Or.inl ⟨by kernel_rfl, ?hy4⟩) (by assumption) ?_
    case hy4 => intro w' hSw; obtain ⟨_, _, _⟩ := MC.out w' hSw; go_simp; try with_reducible rfl
    simp only [Act.put, List.getElem_toArray, List.getElem_cons_zero, List.getElem_cons_succ, List.setIfInBounds_toArray, List.set_cons_zero, List.set_cons_succ]
    refine' wpAnyH_take (i := 5) (v := _) rfl (by kernel_rfl) (by kernel_rfl) (by kernel_rfl) (fun _ _ _ h => h) (Or.inl ⟨by kernel_rfl, ?hy5⟩) (by assumption) ?_
    case hy5 => intro w' hSw; obtain ⟨_, _, _⟩ := MC.out w' hSw; go_simp; try with_reducible rfl
    simp only [Act.put, List.getElem_toArray, List.getElem_cons_zero, List.getElem_cons_succ, List.setIfInBounds_toArray, List.set_cons_zero, List.set_cons_succ]
    refine' wpAnyH_take (i := 6) (v := _) rfl (by kernel_rfl) (by kernel_rfl) (by kernel_rfl) (fun _ _ _ h => h) (Or.inl ⟨by kernel_rfl, ?hy6⟩) (by assumption) ?_
    case hy6 => intro w' hSw; obtain ⟨_, _, _⟩ := MC.out w' hSw; go_simp; try with_reducible rfl
    simp only [Act.put, List.getElem_toArray, List.getElem_cons_zero, List.getElem_cons_succ, List.setIfInBounds_toArray, List.set_cons_zero, List.set_cons_succ]
    refine' wpAnyH_take (i := 7) (v := _) rfl (by kernel_rfl) (by kernel_rfl) (by kernel_rfl) (fun _ _ _ h => h) (Or.inl ⟨by kernel_rfl, ?hy7⟩) (by assumption) ?_
    case hy7 => intro w' hSw; obtain ⟨_, _, _⟩ := MC.out w' hSw; go_simp; try with_reducible rfl
    simp only [Act.put, List.getElem_toArray, List.getElem_cons_zero, List.getElem_cons_succ, List.setIfInBounds_toArray, List.set_cons_zero, List.set_cons_succ]
    refine' wpAnyH_take (i := 8) (v := _) rfl (by kernel_rfl) (by kernel_rfl) (by kernel_rfl) (fun _ _ _ h => h) (Or.inl ⟨by kernel_rfl, ?hy8⟩) (by assumption) ?_
    case hy8 => intro w' hSw; obtain ⟨_, _, _⟩ := MC.out w' hSw; go_simp; try with_reducible rfl
    simp only [Act.put, List.getElem_toArray, List.getElem_cons_zero, List.getElem_cons_succ, List.setIfInBounds_toArray, List.set_cons_zero, List.set_cons_succ]
    refine' wpAnyH_take (i := 9) (v := _) rfl (by kernel_rfl) (by kernel_rfl) (by kernel_rfl) (fun _ _ _ h => h) (Or.inl ⟨by kernel_rfl, ?hy9⟩) (by assumption) ?_
    case hy9 => intro w' hSw; obtain ⟨_, _, _⟩ := MC.out w' hSw; go_simp; try with_reducible rfl
    simp only [Act.put, List.getElem_toArray, List.getElem_cons_zero, List.getElem_cons_succ, List.setIfInBounds_toArray, List.set_cons_zero, List.set_cons_succ]
    refine' wpAnyH_take (i := 10) (v := _) rfl (by kernel_rfl) (by kernel_rfl) (by kernel_rfl) (fun _ _ _ h => h) (Or.inl ⟨by kernel_rfl, ?hy10⟩) (by assumption) ?_
    case hy10 => intro w' hSw; obtain ⟨_, _, _⟩ := MC.out w' hSw; go_simp; try with_reducible rfl
    simp only [Act.put, List.getElem_toArray, List.getElem_cons_zero, List.getElem_cons_succ, List.setIfInBounds_toArray, List.set_cons_zero, List.set_cons_succ]
    refine' wpAnyH_take (i := 11) (v := _) rfl (by kernel_rfl) (by kernel_rfl) (by kernel_rfl) (fun _ _ _ h => h) (Or.inl ⟨by kernel_rfl, ?hy11⟩) (by assumption) ?_
    case hy11 => intro w' hSw; obtain ⟨_, _, _⟩ := MC.out w' hSw; go_simp; try with_reducible rfl
    simp only [Act.put, List.getElem_toArray, List.getElem_cons_zero, List.getElem_cons_succ, List.setIfInBounds_toArray, List.set_cons_zero, List.set_cons_succ]
    refine wpAnyH_ready (rs := [12]) (by kernel_rfl) (by simp) (AllReadyH.cons rfl (fun K hK => ?_) AllReadyH.nil)
    go_simp
    go_at_call 51
    refine (CS.out _ K0.drew).mono ?_
    rintro e w5 ⟨v5, rfl, ho5, k5⟩
    have K5 : Keep noneOf w2 w5 := K0.drew.trans k5 (fun _ _ h => h)
    obtain ⟨A5, c5, rfl⟩ := own_shape ho5
    have hb5 := HA2.out.keep K5 (fun h => h)
    obtain ⟨y0, y1, y2⟩ := hb5.three
    have z0 := hb5.free 0
    have z1 := hb5.free 1
    have z2 := hb5.free 2
    have hb6 := hb5.put3 (.int .i64 0) (.int .u64 q.now) (.slice A5 g.st.length c5)
    have k6 := (((Keep.refl (fun i => i = a) w5).setCell (p := ⟨a, 0, none⟩) (fun _ => rfl) (.int .i64 0)).setCell (p := ⟨a, 1, none⟩) (fun _ => rfl) (.int .u64 q.now)).setCell (p := ⟨a, 2, none⟩) (fun _ => rfl) (.slice A5 g.st.length c5)
    have hs2 : a < w2.heap.size := HA2.out.lt
    have HF : Hid (ViewTold (0, q.now, g.st) w (.returned (.agg #[.int .i64 0, .int .u64 q.now, .slice A5 g.st.length c5])) (((w5.setCell ⟨a, 0, none⟩ (.int .i64 0)).setCell ⟨a, 1, none⟩ (.int .u64 q.now)).setCell ⟨a, 2, none⟩ (.slice A5 g.st.length c5))) := Lib.hid ⟨_, _, rfl, by
      have h1 : Sts w5 (fun b => w2.heap.size ≤ b) (.slice A5 g.st.length c5) g.st := own_row_in ho5 (fun b hb => by
        rcases ho5.2 with ⟨e, _⟩ | ⟨gg, cap, cur, e, hbb, _⟩
        · rw [e] at hb; cases hb
        · rw [e] at hb
          have : gg = b := by simpa [Value.ownBlock] using hb
          have : w2.heap.size ≤ gg := hbb
          omega)
      exact (h1.keep k6 (fun j _ hj e => by omega)).mono (fun j _ hj => by have := HAE.out; omega), (HK2.out.trans K5 (fun _ _ h => h)).trans k6 (fun j hj e => by have := HAE.out; omega)⟩
    go_wp2_with fail
    refine hK.out _ _ (Keep.wide K5) (fun hHeld => ?_)
    clear hK K
    try simp only [Act.put, List.getElem_toArray, List.getElem_cons_zero, List.getElem_cons_succ, List.setIfInBounds_toArray, List.set_cons_zero, List.set_cons_succ]
    refine' wpAnyH_take (i := 13) (v := _) rfl (by kernel_rfl) (by kernel_rfl) (by kernel_rfl) (fun _ _ _ h => h) (Or.inl ⟨by kernel_rfl, ?hy13⟩) (by assumption) ?_
    case hy13 => intro w' hSw; obtain ⟨_, _, _⟩ := MC.out w' hSw; go_simp; try with_reducible rfl
    simp only [Act.put, List.getElem_toArray, List.getElem_cons_zero, List.getElem_cons_succ, List.setIfInBounds_toArray, List.set_cons_zero, List.set_cons_succ]
    refine wpAnyH_ready (rs := [14]) (by kernel_rfl) (by simp) (AllReadyH.cons rfl (fun K hK => ?_) AllReadyH.nil)
    go_simp
    refine hK.out _ _ ((Keep.wide K5).trans k6 (fun _ _ e => e)) (fun hHeld => ?_)
    clear hK K
    try simp only [Act.put, List.getElem_toArray, List.getElem_cons_zero, List.getElem_cons_succ, List.setIfInBounds_toArray, List.set_cons_zero, List.set_cons_succ]
    refine wpAnyH_done (by kernel_rfl) ?_ _
    obtain ⟨r0, r1, r2⟩ := hb6.three
    clear K0 KS CS MC K5 k5 ho5 hb5 hb6 k6 y0 y1 y2 z0 z1 z2
    generalize ((w5.setCell ⟨a, 0, none⟩ (.int .i64 0)).setCell ⟨a, 1, none⟩ (.int .u64 q.now)).setCell ⟨a, 2, none⟩ (.slice A5 g.st.length c5) = wf at *
    go_wp2
    exact bodyPost_ret (v := .agg #[.int .i64 0, .int .u64 q.now, .slice A5 g.st.length c5]) (by simp [results, Tryz.results20, go_sem, r0, r1, r2]) rfl HF.out
end Go.Proofs.YtkoikmdmejhhhaaGreat
