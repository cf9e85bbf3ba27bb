import Derived.Test.YtkoikmdmejhhhaaGreatBs25
import Derived.Test.YtkoikmdmejhhhaaGreatBs45
import Derived.Test.YtkoikmdmejhhhaaGreatBs46
namespace Go.Proofs.YtkoikmdmejhhhaaGreat
open Go.RowKit
set_option maxRecDepth 100000 in
theorem now_any (w : World) (D : Nat → Prop) (q : Qm) (h : QAt w D q) : Calls Tryz.prog 24 #[.pointer (some ⟨q.p, 0, none⟩)] w fun e w' => e = .returned (.int .u64 q.now) ∧ w' = w := by
  have p0 : w.cell? ⟨q.p, 0, none⟩ = some (.int .u64 q.now) := h.box.cell 0
  clear h
  go_enter Tryz.func24, Tryz.ntmps24
  go_wp2
  go_ret
  exact ⟨rfl, rfl⟩
theorem inv_small {q : Qm} (hi : Inv q.plain) {g : Gm} (hg : g ∈ q.gs) : Small g := by
  obtain ⟨h1, h2, h3, _⟩ := inv_few hi hg
  have hf := (check_fits h3).1
  unfold grFits at hf
  rw [Bool.and_eq_true, List.all_eq_true] at hf
  refine ⟨by rw [reach_is]; omega, fun t ht => ?_, by rw [reach_is]; omega⟩
  have := hf.2 t.plain (List.mem_map.2 ⟨t, ht, rfl⟩)
  unfold ptFits at this
  simp at this
  have h4 : t.plain.needs.length = t.needs.length := rfl
  rw [reach_is]
  omega
theorem QAt.gms {w : World} {D : Nat → Prop} {q : Qm} (h : QAt w D q) : Gms w (fun i => D i) q.gv q.gs :=
  ⟨own_row_in h.gr (fun b e => h.inD b (.inr (.inr (.inr (.inl e))))), fun g hg => ⟨Tgs.monoQ (h.tg g hg) (fun _ _ hi => hi.1), (h.states hg).mono (fun i _ hi => h.inD i hi)⟩⟩
def DumpTold (q : Qm) (w : World) (e : Ending) (w' : World) : Prop := ∃ im : Im, e = .returned im.agg ∧ im.plain = q.plain ∧ im.lies w' (fun i => w.heap.size ≤ i) ∧ Keep noneOf w w'
set_option maxRecDepth 100000 in
set_option maxHeartbeats 8000000 in
set_option linter.unusedSimpArgs false in
theorem dump_any (w : World) (D : Nat → Prop) (q : Qm) (h : QAt w D q) (hi : Inv q.plain) (hk : ∀ k ∈ q.built, (k : Int) < 18446744073709551616) :
    Calls Tryz.prog 23 #[.pointer (some ⟨q.p, 0, none⟩)] w (DumpTold q w) := by
  have ka := (Keep.refl noneOf w).alloc (.cells #[.int .u64 0, .int .u64 0, .int .u64 0, .slice none 0 0, .slice none 0 0, .slice none 0 0] 30)
  have HA := Lib.hid (Box.new w 30 #[.int .u64 0, .int .u64 0, .int .u64 0, .slice none 0 0, .slice none 0 0, .slice none 0 0])
  have HKA := Lib.hid ka
  have HQ := Lib.hid (h.stay ka)
  have HI := Lib.hid hi
  have HK := Lib.hid hk
  have hpl : q.p < w.heap.size := h.box.lt
  obtain ⟨Ag, cg, hgv⟩ := h.shape
  obtain ⟨Ab, cb, hbv⟩ := own_shape h.bl
  have HGV := Lib.hid hgv
  have HBV := Lib.hid hbv
  clear h hi hk ka hgv hbv
  go_enter Tryz.func23, Tryz.ntmps23
  go_upto_region 1 with fail
  generalize w.alloc (.cells #[.int .u64 0, .int .u64 0, .int .u64 0, .slice none 0 0, .slice none 0 0, .slice none 0 0] 30) = w1 at *
  generalize ha : w.heap.size = a at *
  have HAE := Lib.hid ha
  clear ha
  have hpa : q.p ≠ a := by omega
  have MC : Hid (∀ w', Keep (fun b => b = a) w1 w' → w'.cell? ⟨q.p, 0, none⟩ = some (.int .u64 q.now) ∧ w'.cell? ⟨q.p, 1, none⟩ = some (.int .u64 q.ng) ∧ w'.cell? ⟨q.p, 2, none⟩ = some (.int .u64 q.nt) ∧ w'.cell? ⟨q.p, 3, none⟩ = some (.pointer (some ⟨q.tp, 0, none⟩)) ∧ w'.cell? ⟨q.p, 4, none⟩ = some (.slice Ag q.gs.length cg) ∧ w'.cell? ⟨q.p, 5, none⟩ = some (.slice Ab q.built.length cb)) := Lib.hid fun w' k' => by
    have b := HQ.out.box.keep k' hpa
    unfold Qm.cells at b
    rw [HGV.out, HBV.out] at b
    exact b.six
  have K0 := Keep.refl noneOf w1
  have KS := (Keep.refl (fun b => b = a) w1).drew
  have NX := Lib.hid (fun w' => next_any_L w' q.nt)
  refine wp_region_held_drew (S := fun w' => Keep (fun b => b = a) w1 w') (by kernel_rfl) (KS) (fun hHeld => ?_)
  refine' wpAnyH_take (i := 0) (v := _) rfl (by kernel_rfl) (by kernel_rfl) (by kernel_rfl) (fun _ _ _ h => h) (Or.inl ⟨by kernel_rfl, ?hy0⟩) (by assumption) ?_
  case hy0 => intro w' hSw; obtain ⟨_, _, _, _, _, _⟩ := MC.out w' hSw; go_simp; try with_reducible rfl
  simp only [Act.put, List.getElem_toArray, List.getElem_cons_zero, List.getElem_cons_succ, List.setIfInBounds_toArray, List.set_cons_zero, List.set_cons_succ]
  refine' wpAnyH_take (i := 1) (v := _) rfl (by kernel_rfl) (by kernel_rfl) (by kernel_rfl) (fun _ _ _ h => h) (Or.inl ⟨by kernel_rfl, ?hy1⟩) (by assumption) ?_
  case hy1 => intro w' hSw; obtain ⟨_, _, _, _, _, _⟩ := MC.out w' hSw; go_simp; try with_reducible rfl
  simp only [Act.put, List.getElem_toArray, List.getElem_cons_zero, List.getElem_cons_succ, List.setIfInBounds_toArray, List.set_cons_zero, List.set_cons_succ]
  refine' wpAnyH_take (i := 2) (v := _) rfl (by kernel_rfl) (by kernel_rfl) (by kernel_rfl) (fun _ _ _ h => h) (Or.inl ⟨by kernel_rfl, ?hy2⟩) (by assumption) ?_
  case hy2 => intro w' hSw; obtain ⟨_, _, _, _, _, _⟩ := MC.out w' hSw; go_simp; try with_reducible rfl
  simp only [Act.put, List.getElem_toArray, List.getElem_cons_zero, List.getElem_cons_succ, List.setIfInBounds_toArray, List.set_cons_zero, List.set_cons_succ]
  refine' wpAnyH_take (i := 3) (v := _) rfl (by kernel_rfl) (by kernel_rfl) (by kernel_rfl) (fun _ _ _ h => h) (Or.inl ⟨by kernel_rfl, ?hy3⟩) (by assumption) ?_
  case hy3 => intro w' hSw; obtain ⟨_, _, _, _, _, _⟩ := MC.out w' hSw; go_simp; try with_reducible rfl
  simp only [Act.put, List.getElem_toArray, List.getElem_cons_zero, List.getElem_cons_succ, List.setIfInBounds_toArray, List.set_cons_zero, List.set_cons_succ]
  refine' wpAnyH_take (i := 4) (v := _) rfl (by kernel_rfl) (by kernel_rfl) (by kernel_rfl) (fun _ _ _ h => h) (Or.inl ⟨by kernel_rfl, ?hy4⟩) (by assumption) ?_
  case hy4 => intro w' hSw; obtain ⟨_, _, _, _, _, _⟩ := MC.out w' hSw; go_simp; try with_reducible rfl
  simp only [Act.put, List.getElem_toArray, List.getElem_cons_zero, List.getElem_cons_succ, List.setIfInBounds_toArray, List.set_cons_zero, List.set_cons_succ]
  refine' wpAnyH_take (i := 5) (v := _) rfl (by kernel_rfl) (by kernel_rfl) (by kernel_rfl) (fun _ _ _ h => h) (Or.inl ⟨by kernel_rfl, ?hy5⟩) (by assumption) ?_
  case hy5 => intro w' hSw; obtain ⟨_, _, _, _, _, _⟩ := MC.out w' hSw; go_simp; try with_reducible rfl
  simp only [Act.put, List.getElem_toArray, List.getElem_cons_zero, List.getElem_cons_succ, List.setIfInBounds_toArray, List.set_cons_zero, List.set_cons_succ]
  refine' wpAnyH_take (i := 6) (v := _) rfl (by kernel_rfl) (by kernel_rfl) (by kernel_rfl) (fun _ _ _ h => h) (Or.inl ⟨by kernel_rfl, ?hy6⟩) (by assumption) ?_
  case hy6 => intro w' hSw; obtain ⟨_, _, _, _, _, _⟩ := MC.out w' hSw; go_simp; try with_reducible rfl
  simp only [Act.put, List.getElem_toArray, List.getElem_cons_zero, List.getElem_cons_succ, List.setIfInBounds_toArray, List.set_cons_zero, List.set_cons_succ]
  refine' wpAnyH_take (i := 7) (v := _) rfl (by kernel_rfl) (by kernel_rfl) (by kernel_rfl) (fun _ _ _ h => h) (Or.inl ⟨by kernel_rfl, ?hy7⟩) (by assumption) ?_
  case hy7 => intro w' hSw; obtain ⟨_, _, _, _, _, _⟩ := MC.out w' hSw; go_simp; try with_reducible rfl
  simp only [Act.put, List.getElem_toArray, List.getElem_cons_zero, List.getElem_cons_succ, List.setIfInBounds_toArray, List.set_cons_zero, List.set_cons_succ]
  refine' wpAnyH_take (i := 8) (v := _) rfl (by kernel_rfl) (by kernel_rfl) (by kernel_rfl) (fun _ _ _ h => h) (Or.inl ⟨by kernel_rfl, ?hy8⟩) (by assumption) ?_
  case hy8 => intro w' hSw; obtain ⟨_, _, _, _, _, _⟩ := MC.out w' hSw; go_simp; try with_reducible rfl
  simp only [Act.put, List.getElem_toArray, List.getElem_cons_zero, List.getElem_cons_succ, List.setIfInBounds_toArray, List.set_cons_zero, List.set_cons_succ]
  refine' wpAnyH_take (i := 9) (v := _) rfl (by kernel_rfl) (by kernel_rfl) (by kernel_rfl) (fun _ _ _ h => h) (Or.inl ⟨by kernel_rfl, ?hy9⟩) (by assumption) ?_
  case hy9 => intro w' hSw; obtain ⟨_, _, _, _, _, _⟩ := MC.out w' hSw; go_simp; try with_reducible rfl
  simp only [Act.put, List.getElem_toArray, List.getElem_cons_zero, List.getElem_cons_succ, List.setIfInBounds_toArray, List.set_cons_zero, List.set_cons_succ]
  refine' wpAnyH_take (i := 10) (v := _) rfl (by kernel_rfl) (by kernel_rfl) (by kernel_rfl) (fun _ _ _ h => h) (Or.inl ⟨by kernel_rfl, ?hy10⟩) (by assumption) ?_
  case hy10 => intro w' hSw; obtain ⟨_, _, _, _, _, _⟩ := MC.out w' hSw; go_simp; try with_reducible rfl
  simp only [Act.put, List.getElem_toArray, List.getElem_cons_zero, List.getElem_cons_succ, List.setIfInBounds_toArray, List.set_cons_zero, List.set_cons_succ]
  refine' wpAnyH_take (i := 11) (v := _) rfl (by kernel_rfl) (by kernel_rfl) (by kernel_rfl) (fun _ _ _ h => h) (Or.inl ⟨by kernel_rfl, ?hy11⟩) (by assumption) ?_
  case hy11 => intro w' hSw; obtain ⟨_, _, _, _, _, _⟩ := MC.out w' hSw; go_simp; try with_reducible rfl
  simp only [Act.put, List.getElem_toArray, List.getElem_cons_zero, List.getElem_cons_succ, List.setIfInBounds_toArray, List.set_cons_zero, List.set_cons_succ]
  refine' wpAnyH_take (i := 13) (v := _) rfl (by kernel_rfl) (by kernel_rfl) (by kernel_rfl) (fun _ _ _ h => h) (Or.inl ⟨by kernel_rfl, ?hy13⟩) (by assumption) ?_
  case hy13 => intro w' hSw; obtain ⟨_, _, _, _, _, _⟩ := MC.out w' hSw; go_simp; try with_reducible rfl
  simp only [Act.put, List.getElem_toArray, List.getElem_cons_zero, List.getElem_cons_succ, List.setIfInBounds_toArray, List.set_cons_zero, List.set_cons_succ]
  refine' wpAnyH_take (i := 14) (v := _) rfl (by kernel_rfl) (by kernel_rfl) (by kernel_rfl) (fun _ _ _ h => h) (Or.inl ⟨by kernel_rfl, ?hy14⟩) (by assumption) ?_
  case hy14 => intro w' hSw; obtain ⟨_, _, _, _, _, _⟩ := MC.out w' hSw; go_simp; try with_reducible rfl
  simp only [Act.put, List.getElem_toArray, List.getElem_cons_zero, List.getElem_cons_succ, List.setIfInBounds_toArray, List.set_cons_zero, List.set_cons_succ]
  refine' wpAnyH_take (i := 15) (v := _) rfl (by kernel_rfl) (by kernel_rfl) (by kernel_rfl) (fun _ _ _ h => h) (Or.inl ⟨by kernel_rfl, ?hy15⟩) (by assumption) ?_
  case hy15 => intro w' hSw; obtain ⟨_, _, _, _, _, _⟩ := MC.out w' hSw; go_simp; try with_reducible rfl
  simp only [Act.put, List.getElem_toArray, List.getElem_cons_zero, List.getElem_cons_succ, List.setIfInBounds_toArray, List.set_cons_zero, List.set_cons_succ]
  refine' wpAnyH_take (i := 16) (v := _) rfl (by kernel_rfl) (by kernel_rfl) (by kernel_rfl) (fun _ _ _ h => h) (Or.inl ⟨by kernel_rfl, ?hy16⟩) (by assumption) ?_
  case hy16 => intro w' hSw; obtain ⟨_, _, _, _, _, _⟩ := MC.out w' hSw; go_simp; try with_reducible rfl
  simp only [Act.put, List.getElem_toArray, List.getElem_cons_zero, List.getElem_cons_succ, List.setIfInBounds_toArray, List.set_cons_zero, List.set_cons_succ]
  refine' wpAnyH_take (i := 18) (v := _) rfl (by kernel_rfl) (by kernel_rfl) (by kernel_rfl) (fun _ _ _ h => h) (Or.inl ⟨by kernel_rfl, ?hy18⟩) (by assumption) ?_
  case hy18 => intro w' hSw; obtain ⟨_, _, _, _, _, _⟩ := MC.out w' hSw; go_simp; try with_reducible rfl
  simp only [Act.put, List.getElem_toArray, List.getElem_cons_zero, List.getElem_cons_succ, List.setIfInBounds_toArray, List.set_cons_zero, List.set_cons_succ]
  refine' wpAnyH_take (i := 19) (v := _) rfl (by kernel_rfl) (by kernel_rfl) (by kernel_rfl) (fun _ _ _ h => h) (Or.inl ⟨by kernel_rfl, ?hy19⟩) (by assumption) ?_
  case hy19 => intro w' hSw; obtain ⟨_, _, _, _, _, _⟩ := MC.out w' hSw; go_simp; try with_reducible rfl
  simp only [Act.put, List.getElem_toArray, List.getElem_cons_zero, List.getElem_cons_succ, List.setIfInBounds_toArray, List.set_cons_zero, List.set_cons_succ]
  refine' wpAnyH_take (i := 20) (v := _) rfl (by kernel_rfl) (by kernel_rfl) (by kernel_rfl) (fun _ _ _ h => h) (Or.inl ⟨by kernel_rfl, ?hy20⟩) (by assumption) ?_
  case hy20 => intro w' hSw; obtain ⟨_, _, _, _, _, _⟩ := MC.out w' hSw; go_simp; try with_reducible rfl
  simp only [Act.put, List.getElem_toArray, List.getElem_cons_zero, List.getElem_cons_succ, List.setIfInBounds_toArray, List.set_cons_zero, List.set_cons_succ]
  refine' wpAnyH_take (i := 21) (v := _) rfl (by kernel_rfl) (by kernel_rfl) (by kernel_rfl) (fun _ _ _ h => h) (Or.inl ⟨by kernel_rfl, ?hy21⟩) (by assumption) ?_
  case hy21 => intro w' hSw; obtain ⟨_, _, _, _, _, _⟩ := MC.out w' hSw; go_simp; try with_reducible rfl
  simp only [Act.put, List.getElem_toArray, List.getElem_cons_zero, List.getElem_cons_succ, List.setIfInBounds_toArray, List.set_cons_zero, List.set_cons_succ]
  refine' wpAnyH_take (i := 23) (v := _) rfl (by kernel_rfl) (by kernel_rfl) (by kernel_rfl) (fun _ _ _ h => h) (Or.inl ⟨by kernel_rfl, ?hy23⟩) (by assumption) ?_
  case hy23 => intro w' hSw; obtain ⟨_, _, _, _, _, _⟩ := MC.out w' hSw; go_simp; try with_reducible rfl
  simp only [Act.put, List.getElem_toArray, List.getElem_cons_zero, List.getElem_cons_succ, List.setIfInBounds_toArray, List.set_cons_zero, List.set_cons_succ]
  refine' wpAnyH_take (i := 24) (v := _) rfl (by kernel_rfl) (by kernel_rfl) (by kernel_rfl) (fun _ _ _ h => h) (Or.inl ⟨by kernel_rfl, ?hy24⟩) (by assumption) ?_
  case hy24 => intro w' hSw; obtain ⟨_, _, _, _, _, _⟩ := MC.out w' hSw; go_simp; try with_reducible rfl
  simp only [Act.put, List.getElem_toArray, List.getElem_cons_zero, List.getElem_cons_succ, List.setIfInBounds_toArray, List.set_cons_zero, List.set_cons_succ]
  refine' wpAnyH_take (i := 25) (v := _) rfl (by kernel_rfl) (by kernel_rfl) (by kernel_rfl) (fun _ _ _ h => h) (Or.inl ⟨by kernel_rfl, ?hy25⟩) (by assumption) ?_
  case hy25 => intro w' hSw; obtain ⟨_, _, _, _, _, _⟩ := MC.out w' hSw; go_simp; try with_reducible rfl
  simp only [Act.put, List.getElem_toArray, List.getElem_cons_zero, List.getElem_cons_succ, List.setIfInBounds_toArray, List.set_cons_zero, List.set_cons_succ]
  refine' wpAnyH_take (i := 26) (v := _) rfl (by kernel_rfl) (by kernel_rfl) (by kernel_rfl) (fun _ _ _ h => h) (Or.inl ⟨by kernel_rfl, ?hy26⟩) (by assumption) ?_
  case hy26 => intro w' hSw; obtain ⟨_, _, _, _, _, _⟩ := MC.out w' hSw; go_simp; try with_reducible rfl
  simp only [Act.put, List.getElem_toArray, List.getElem_cons_zero, List.getElem_cons_succ, List.setIfInBounds_toArray, List.set_cons_zero, List.set_cons_succ]
  refine wpAnyH_ready (rs := [12]) (by kernel_rfl) (by simp) (AllReadyH.cons rfl (fun K hK => ?_) AllReadyH.nil)
  go_simp
  go_at_call 54
  refine (NX.out _).mono ?_
  rintro e w2 ⟨rfl, k2⟩
  have K2 : Keep noneOf w1 w2 := K0.drew.trans k2 (fun _ _ h => h)
  go_wp2_with fail
  refine hK.out _ _ (Keep.wide K2) (fun hHeld => ?_)
  clear hK K
  try simp only [Act.put, List.getElem_toArray, List.getElem_cons_zero, List.getElem_cons_succ, List.setIfInBounds_toArray, List.set_cons_zero, List.set_cons_succ]
  have RW := Lib.hid (rows_any w2 q.tp q.m q.ses (HQ.out.stay K2).tab HI.out.sesFew)
  refine wpAnyH_ready (rs := [17]) (by kernel_rfl) (by simp) (AllReadyH.cons rfl (fun K hK => ?_) AllReadyH.nil)
  go_simp
  go_at_call 55
  refine RW.out.mono ?_
  rintro e w3 ⟨v3, rfl, hses, k3⟩
  have K3 : Keep noneOf w1 w3 := K2.trans k3 (fun _ _ h => h)
  obtain ⟨A3, c3, rfl⟩ := hses.shape
  go_wp2_with fail
  refine hK.out _ _ (Keep.wide K3) (fun hHeld => ?_)
  clear hK K
  try simp only [Act.put, List.getElem_toArray, List.getElem_cons_zero, List.getElem_cons_succ, List.setIfInBounds_toArray, List.set_cons_zero, List.set_cons_succ]
  have CR : Hid (Calls Tryz.prog 56 #[.slice Ag q.gs.length cg] w3 (CopiesR q.gs w3)) := Lib.hid (by
    have := copiedRows_any w3 _ _ q.gs (HQ.out.stay K3).gms (by rw [reach_is]; have h1 := HI.out.gsFew; have h2 : q.plain.gs.length = q.gs.length := List.length_map ..; omega) (fun g hg => inv_small HI.out hg)
    rw [HGV.out] at this
    exact this)
  refine wpAnyH_ready (rs := [22]) (by kernel_rfl) (by simp) (AllReadyH.cons rfl (fun K hK => ?_) AllReadyH.nil)
  go_simp
  go_at_call 56
  refine CR.out.mono ?_
  rintro e w4 ⟨v4, us, rfl, hup, hgm, k4⟩
  have K4 : Keep noneOf w1 w4 := K3.trans k4 (fun _ _ h => h)
  obtain ⟨A4, c4, rfl⟩ := hgm.1.shape
  go_wp2_with fail
  refine hK.out _ _ (Keep.wide K4) (fun hHeld => ?_)
  clear hK K
  try simp only [Act.put, List.getElem_toArray, List.getElem_cons_zero, List.getElem_cons_succ, List.setIfInBounds_toArray, List.set_cons_zero, List.set_cons_succ]
  have CK : Hid (Calls Tryz.prog 57 #[.slice Ab q.built.length cb] w4 (Copies kc 1 23 q.built w4)) := Lib.hid (by
    have hm : Many kc 1 w4 q.O q.bv q.built := by
      unfold Many
      rw [← map_kc]
      exact (HQ.out.stay K4).keys
    have := cloneK_any w4 _ _ q.built hm (by rw [reach_is]; have h1 : q.plain.built.length ≤ 256 := HI.out.bltFew; have h2 : q.plain.built = q.built := rfl; rw [h2] at h1; omega) (fun x _ u hu => by simp [kc] at hu; subst hu; rfl)
    rw [HBV.out] at this
    exact this)
  refine wpAnyH_ready (rs := [27]) (by kernel_rfl) (by simp) (AllReadyH.cons rfl (fun K hK => ?_) AllReadyH.nil)
  go_simp
  go_at_call 57
  refine CK.out.mono ?_
  rintro e w5 ⟨v5, rfl, ho5, k5⟩
  have K5 : Keep noneOf w1 w5 := K4.trans k5 (fun _ _ h => h)
  obtain ⟨A5, c5, rfl⟩ := own_shape ho5
  have hb5 := HA.out.keep K5 id
  obtain ⟨y0, y1, y2, y3, y4, y5⟩ := hb5.six
  obtain ⟨z0, z1, z2, z3, z4, z5⟩ := hb5.free6
  have hb6 := hb5.put6 (.int .u64 q.now) (.int .u64 q.ng) (.int .u64 q.nt) (.slice A3 q.ses.length c3) (.slice A4 us.length c4) (.slice A5 q.built.length c5)
  have k6 := (Keep.refl (fun b => b = a) w5).put6 (b := a) (fun _ => rfl) (.int .u64 q.now) (.int .u64 q.ng) (.int .u64 q.nt) (.slice A3 q.ses.length c3) (.slice A4 us.length c4) (.slice A5 q.built.length c5)
  have HF : Hid (DumpTold q w (.returned (.agg #[.int .u64 q.now, .int .u64 q.ng, .int .u64 q.nt, .slice A3 q.ses.length c3, .slice A4 us.length c4, .slice A5 q.built.length c5])) (sixPut w5 a (.int .u64 q.now) (.int .u64 q.ng) (.int .u64 q.nt) (.slice A3 q.ses.length c3) (.slice A4 us.length c4) (.slice A5 q.built.length c5))) := Lib.hid (by
    have hs1 : a < w1.heap.size := HA.out.lt
    refine ⟨⟨q.now, q.ng, q.nt, .slice A3 q.ses.length c3, .slice A4 us.length c4, .slice A5 q.built.length c5, q.ses, us, q.built⟩, rfl, by unfold Im.plain Qm.plain; rw [hup], ⟨?_, ?_, ?_, HK.out⟩, (HKA.out.trans K5 (fun _ _ h => h)).trans k6 (fun i hi e => by have := HAE.out; omega)⟩
    · have h1 := (hses.keep (k4.trans k5 (fun _ _ h => h)) (fun _ _ _ => id)).keep k6 (fun i _ hi e => by have := K2.size; omega)
      exact h1.mono (fun i _ hi => by have := K2.size; have := HAE.out; omega)
    · have h1 := (hgm.keep k5 (fun _ _ _ => id)).keep k6 (fun i _ hi e => by have := K3.size; omega)
      exact h1.mono (fun i _ hi => by have := K3.size; have := HAE.out; omega)
    · have h1 : Row w5 (fun b => w4.heap.size ≤ b) (.slice A5 q.built.length c5) q.built.length 1 (q.built.flatMap kc) := own_row_in ho5 (fun b hb => by
        rcases ho5.2 with ⟨e, _⟩ | ⟨gg, cap, cur, e, hbb, _⟩
        · rw [e] at hb; cases hb
        · rw [e] at hb
          have : gg = b := by simpa [Value.ownBlock] using hb
          omega)
      rw [← map_kc] at h1
      have h2 := h1.keep k6 (fun i _ hi e => by have := K4.size; omega)
      exact h2.mono (fun i _ hi => by have := K4.size; have := HAE.out; omega))
  go_wp2_with fail
  refine hK.out _ _ (Keep.wide K5) (fun hHeld => ?_)
  clear hK K
  try simp only [Act.put, List.getElem_toArray, List.getElem_cons_zero, List.getElem_cons_succ, List.setIfInBounds_toArray, List.set_cons_zero, List.set_cons_succ]
  refine' wpAnyH_take (i := 28) (v := _) rfl (by kernel_rfl) (by kernel_rfl) (by kernel_rfl) (fun _ _ _ h => h) (Or.inl ⟨by kernel_rfl, ?hy28⟩) (by assumption) ?_
  case hy28 => intro w' hSw; obtain ⟨_, _, _, _, _, _⟩ := MC.out w' hSw; go_simp; try with_reducible rfl
  simp only [Act.put, List.getElem_toArray, List.getElem_cons_zero, List.getElem_cons_succ, List.setIfInBounds_toArray, List.set_cons_zero, List.set_cons_succ]
  refine wpAnyH_ready (rs := [29]) (by kernel_rfl) (by simp) (AllReadyH.cons rfl (fun K hK => ?_) AllReadyH.nil)
  go_simp
  refine hK.out _ _ ((Keep.wide K5).trans k6 (fun _ _ e => e)) (fun hHeld => ?_)
  clear hK K
  try simp only [Act.put, List.getElem_toArray, List.getElem_cons_zero, List.getElem_cons_succ, List.setIfInBounds_toArray, List.set_cons_zero, List.set_cons_succ]
  refine wpAnyH_done (by kernel_rfl) ?_ _
  obtain ⟨r0, r1, r2, r3, r4, r5⟩ := hb6.six
  clear K0 KS NX RW CR CK MC K2 K3 K4 K5 k2 k3 k4 k5 hses hgm ho5 hb5 hb6 k6 y0 y1 y2 y3 y4 y5 z0 z1 z2 z3 z4 z5
  unfold sixPut at HF r0 r1 r2 r3 r4 r5
  generalize (((((w5.setCell ⟨a, 0, none⟩ (.int .u64 q.now)).setCell ⟨a, 1, none⟩ (.int .u64 q.ng)).setCell ⟨a, 2, none⟩ (.int .u64 q.nt)).setCell ⟨a, 3, none⟩ (.slice A3 q.ses.length c3)).setCell ⟨a, 4, none⟩ (.slice A4 us.length c4)).setCell ⟨a, 5, none⟩ (.slice A5 q.built.length c5) = wf at *
  go_wp2
  exact bodyPost_ret (v := .agg #[.int .u64 q.now, .int .u64 q.ng, .int .u64 q.nt, .slice A3 q.ses.length c3, .slice A4 us.length c4, .slice A5 q.built.length c5]) (by simp [results, Tryz.results23, go_sem, r0, r1, r2, r3, r4, r5]) rfl HF.out
end Go.Proofs.YtkoikmdmejhhhaaGreat
