import Derived.Deep.DeepCutAuto
import Derived.Test.YtkoikmdmejhhhaaGreatBs16
import Derived.Test.YtkoikmdmejhhhaaGreatBs18
namespace Go.Proofs.YtkoikmdmejhhhaaGreat
open Go.RowKit Go.Maps
section
variable {P : Program}
theorem step_mapUpdate {H : Type} {ops : Array Oper} {o : Oper} {a : Act} {w : World} {K' : Act → World → Prop} {Q : Exit → Act → World → Prop} {E : Prop} (hgd : o.guard = none) (m x v : Operand) (t : TypeId) (hop : o.op = Op.mapUpdate t m x v)
    (k e : TypeId) (K : Keyed P k) (ht : P.underlying t = some (.map k e)) (R : Value → Option (DataW H × List MemPlace)) (b n : Nat) (D : DataW H)
    (hm : a.eval m = .map (some b)) (hown : w.ownsMap P k R b n D) (hn : n < maxLen) (key val : Value) (kl : Lit) (hx : a.eval x = key) (hv : a.eval v = val) (hkey : keyOf P k key = some kl)
    (d : DataW H) (ps : List MemPlace) (hval : R val = some (d, ps))
    (h : ∀ w', w'.ownsMap P k R b (n + 1) (D.put kl d) → w.grownBy w' (some b) → K' (a.put o.dst undef) w') :
    if Region.wanted o (yielded ops a.tmps) = true then Oper.wp P o a w K' Q else E := by
  have hw : Region.wanted o (yielded ops a.tmps) = true := by simp [Region.wanted, hgd]
  rw [if_pos hw]
  obtain ⟨w', hrun, r1, r2⟩ := hown.update K ht hn hkey hval
  unfold Oper.wp
  simp [execOp, hop, hm, hx, hv, hrun, Result.andThen]
  exact h w' r1 r2
end
set_option maxRecDepth 100000 in
set_option maxHeartbeats 2000000 in
set_option linter.unusedSimpArgs false in
theorem keep_any (w : World) (p m : Nat) (l : List Ro) (x s : Int) (a : An) (h : TabAt w p m l) (h0 : 0 ≤ x) (h1 : x ≤ top) (hfew : l.length ≤ 16) :
    Calls Tryz.prog 78 #[.pointer (some ⟨p, 0, none⟩), .int .u64 x, .int .u64 s, a.agg] w fun e w' => e = .returned (.int .i64 (keepE l x s)) ∧ TabAt w' p m (keepL l x s a) ∧ Keep (fun i => i = m) w w' := by
  have H := Lib.hid h
  have HL : Hid (∀ o, Calls Tryz.prog 77 #[.pointer (some ⟨p, 0, none⟩), .int .u64 x, .int .u64 s] (w.alloc o) fun e w' => e = .returned (.tuple #[(lookA l x s).agg, .bool (lookB l x s), .int .i64 (lookE l x s)]) ∧ Keep noneOf (w.alloc o) w') := Lib.hid fun o => look_any _ p m l x s (h.stay ((Keep.refl noneOf w).alloc o)) h0 h1
  have HX : Hid (0 ≤ x ∧ x ≤ top) := Lib.hid ⟨h0, h1⟩
  have HF := Lib.hid hfew
  obtain ⟨ac, ai, at_, au, ag, am⟩ := a
  have hb0 := Box.new w 40 #[.int .i64 ac, .int .u64 ai, .int .u64 at_, .int .u64 au, .string ag, .string am]
  have HB0 := Lib.hid hb0
  unfold An.agg at HL ⊢
  dsimp only at HL ⊢
  clear h h0 h1 hfew hb0
  generalize lookA l x s = A at *
  obtain ⟨bc, bi, bt, bu, bg, bm⟩ := A
  by_cases he : lookE l x s = 0
  · cases hbb : lookB l x s with
    | true =>
      have e1 : keepE l x s = 111 := by unfold keepE; rw [if_neg (fun h => h he), hbb]; rfl
      have e2 : keepL l x s ⟨ac, ai, at_, au, ag, am⟩ = l := by unfold keepL; rw [e1]; rfl
      rw [e1, e2]
      rw [hbb, he] at HL
      clear e1 e2 he hbb
      go_enter Tryz.func78, Tryz.ntmps78
      go_wp2_with fail
      refine (HL.out _).mono ?_
      rintro e w1 ⟨rfl, k1⟩
      have HK := Lib.hid (((Keep.refl noneOf w).alloc _).trans k1 (fun _ _ h => h))
      clear k1 HL
      go_wp2
      go_ret
      have K := HK.out.alloc (.cells #[.int .i64 bc, .int .u64 bi, .int .u64 bt, .int .u64 bu, .string bg, .string bm] 40)
      exact ⟨rfl, H.out.stay K, K.mono (fun _ _ h => h.elim)⟩
    | false =>
      have e1 : keepE l x s = 0 := by unfold keepE; rw [if_neg (fun h => h he), hbb]; rfl
      have e2 : keepL l x s ⟨ac, ai, at_, au, ag, am⟩ = putR l ⟨x, s, ⟨ac, ai, at_, au, ag, am⟩⟩ := by unfold keepL; rw [if_pos e1]
      rw [e1, e2]
      rw [hbb, he] at HL
      have HP : Hid ((datum l).put (keyI x) (lastD s ⟨ac, ai, at_, au, ag, am⟩) = datum (putR l ⟨x, s, ⟨ac, ai, at_, au, ag, am⟩⟩)) := Lib.hid (put_datum l ⟨x, s, ⟨ac, ai, at_, au, ag, am⟩⟩)
      have HN : Hid (l.length < maxLen) := Lib.hid (by have := HF.out; unfold maxLen; omega)
      clear e1 e2 he hbb
      go_enter Tryz.func78, Tryz.ntmps78
      go_wp2_with fail
      refine (HL.out _).mono ?_
      rintro e w1 ⟨rfl, k1⟩
      have HK := Lib.hid (((Keep.refl noneOf w).alloc _).trans k1 (fun _ _ h => h))
      have HB1 := Lib.hid (HB0.out.keep k1 id)
      clear k1 HL HB0
      go_upto_region 6 with fail
      have hK2 := HK.out.alloc (.cells #[.int .i64 bc, .int .u64 bi, .int .u64 bt, .int .u64 bu, .string bg, .string bm] 40)
      have hB2 := HB1.out.alloc (.cells #[.int .i64 bc, .int .u64 bi, .int .u64 bt, .int .u64 bu, .string bg, .string bm] 40)
      generalize w1.alloc (.cells #[.int .i64 bc, .int .u64 bi, .int .u64 bt, .int .u64 bu, .string bg, .string bm] 40) = w2 at *
      have hT2 := H.out.stay hK2
      have MC : Hid (∀ w', Keep noneOf w2 w' → w'.cell? ⟨p, 0, none⟩ = some (.map (some m)) ∧ w'.cell? ⟨w.heap.size, 0, none⟩ = some (.int .i64 ac) ∧ w'.cell? ⟨w.heap.size, 1, none⟩ = some (.int .u64 ai) ∧ w'.cell? ⟨w.heap.size, 2, none⟩ = some (.int .u64 at_) ∧ w'.cell? ⟨w.heap.size, 3, none⟩ = some (.int .u64 au) ∧ w'.cell? ⟨w.heap.size, 4, none⟩ = some (.string ag) ∧ w'.cell? ⟨w.heap.size, 5, none⟩ = some (.string am)) := Lib.hid fun w' k => ⟨(hT2.box.keep k id).cell 0, (hB2.keep k id).cell 0, (hB2.keep k id).cell 1, (hB2.keep k id).cell 2, (hB2.keep k id).cell 3, (hB2.keep k id).cell 4, (hB2.keep k id).cell 5⟩
      have KD : Keep noneOf w2 w2.drew := (Keep.refl noneOf w2).drew
      have HT2 := Lib.hid (hT2.stay KD)
      have HK2 := Lib.hid (hK2.trans KD (fun _ _ h => h))
      have HB2 := Lib.hid (hB2.keep KD id)
      have HM0 : Hid (¬ w.heap.size = m) := Lib.hid (by have := H.out.lt.2; omega)
      clear hK2 hB2 hT2 HK HB1
      refine wp_region_held_drew (S := fun w' => w'.cell? ⟨p, 0, none⟩ = some (.map (some m)) ∧ w'.cell? ⟨w.heap.size, 0, none⟩ = some (.int .i64 ac) ∧ w'.cell? ⟨w.heap.size, 1, none⟩ = some (.int .u64 ai) ∧ w'.cell? ⟨w.heap.size, 2, none⟩ = some (.int .u64 at_) ∧ w'.cell? ⟨w.heap.size, 3, none⟩ = some (.int .u64 au) ∧ w'.cell? ⟨w.heap.size, 4, none⟩ = some (.string ag) ∧ w'.cell? ⟨w.heap.size, 5, none⟩ = some (.string am)) (by kernel_rfl) (MC.out _ KD) (fun hHeld => ?_)
      refine' wpAnyH_take (i := 0) (v := _) rfl (by kernel_rfl) (by kernel_rfl) (by kernel_rfl) (fun _ _ _ h => h) (Or.inl ⟨by kernel_rfl, ?hy0⟩) (by assumption) ?_
      case hy0 => intro w hSw; (try dsimp only at hSw); obtain ⟨_, _, _, _, _, _, _⟩ := hSw; go_simp; try with_reducible rfl
      simp only [Act.put, List.getElem_toArray, List.getElem_cons_zero, List.getElem_cons_succ, List.setIfInBounds_toArray, List.set_cons_zero, List.set_cons_succ]
      refine' wpAnyH_take (i := 1) (v := _) rfl (by kernel_rfl) (by kernel_rfl) (by kernel_rfl) (fun _ _ _ h => h) (Or.inl ⟨by kernel_rfl, ?hy1⟩) (by assumption) ?_
      case hy1 => intro w hSw; (try dsimp only at hSw); obtain ⟨_, _, _, _, _, _, _⟩ := hSw; go_simp; try with_reducible rfl
      simp only [Act.put, List.getElem_toArray, List.getElem_cons_zero, List.getElem_cons_succ, List.setIfInBounds_toArray, List.set_cons_zero, List.set_cons_succ]
      refine' wpAnyH_take (i := 2) (v := _) rfl (by kernel_rfl) (by kernel_rfl) (by kernel_rfl) (fun _ _ _ h => h) (Or.inl ⟨by kernel_rfl, ?hy2⟩) (by assumption) ?_
      case hy2 => intro w hSw; (try dsimp only at hSw); obtain ⟨_, _, _, _, _, _, _⟩ := hSw; go_simp; try with_reducible rfl
      simp only [Act.put, List.getElem_toArray, List.getElem_cons_zero, List.getElem_cons_succ, List.setIfInBounds_toArray, List.set_cons_zero, List.set_cons_succ]
      refine' wpAnyH_take (i := 3) (v := _) rfl (by kernel_rfl) (by kernel_rfl) (by kernel_rfl) (fun _ _ _ h => h) (Or.inl ⟨by kernel_rfl, ?hy3⟩) (by assumption) ?_
      case hy3 => intro w hSw; (try dsimp only at hSw); obtain ⟨_, _, _, _, _, _, _⟩ := hSw; go_simp; try with_reducible rfl
      simp only [Act.put, List.getElem_toArray, List.getElem_cons_zero, List.getElem_cons_succ, List.setIfInBounds_toArray, List.set_cons_zero, List.set_cons_succ]
      refine' wpAnyH_take (i := 4) (v := _) rfl (by kernel_rfl) (by kernel_rfl) (by kernel_rfl) (fun _ _ _ h => h) (Or.inl ⟨by kernel_rfl, ?hy4⟩) (by assumption) ?_
      case hy4 => intro w hSw; (try dsimp only at hSw); obtain ⟨_, _, _, _, _, _, _⟩ := hSw; go_simp; try with_reducible rfl
      simp only [Act.put, List.getElem_toArray, List.getElem_cons_zero, List.getElem_cons_succ, List.setIfInBounds_toArray, List.set_cons_zero, List.set_cons_succ]
      refine' wpAnyH_take (i := 5) (v := _) rfl (by kernel_rfl) (by kernel_rfl) (by kernel_rfl) (fun _ _ _ h => h) (Or.inl ⟨by kernel_rfl, ?hy5⟩) (by assumption) ?_
      case hy5 => intro w hSw; (try dsimp only at hSw); obtain ⟨_, _, _, _, _, _, _⟩ := hSw; go_simp; try with_reducible rfl
      simp only [Act.put, List.getElem_toArray, List.getElem_cons_zero, List.getElem_cons_succ, List.setIfInBounds_toArray, List.set_cons_zero, List.set_cons_succ]
      refine' wpAnyH_take (i := 6) (v := _) rfl (by kernel_rfl) (by kernel_rfl) (by kernel_rfl) (fun _ _ _ h => h) (Or.inl ⟨by kernel_rfl, ?hy6⟩) (by assumption) ?_
      case hy6 => intro w hSw; (try dsimp only at hSw); obtain ⟨_, _, _, _, _, _, _⟩ := hSw; go_simp; try with_reducible rfl
      simp only [Act.put, List.getElem_toArray, List.getElem_cons_zero, List.getElem_cons_succ, List.setIfInBounds_toArray, List.set_cons_zero, List.set_cons_succ]
      refine' wpAnyH_take (i := 7) (v := _) rfl (by kernel_rfl) (by kernel_rfl) (by kernel_rfl) (fun _ _ _ h => h) (Or.inl ⟨by kernel_rfl, ?hy7⟩) (by assumption) ?_
      case hy7 => intro w hSw; (try dsimp only at hSw); obtain ⟨_, _, _, _, _, _, _⟩ := hSw; go_simp; try with_reducible rfl
      simp only [Act.put, List.getElem_toArray, List.getElem_cons_zero, List.getElem_cons_succ, List.setIfInBounds_toArray, List.set_cons_zero, List.set_cons_succ]
      refine wpAnyH_ready (rs := [8]) (by kernel_rfl) (by simp) (AllReadyH.cons rfl (fun K hK => ?_) AllReadyH.nil)
      refine step_mapUpdate (by kernel_rfl) (.tmp 27) (.tmp 28) (.tmp 31) 119 (by kernel_rfl) 23 142 law Tryz.underlying119 lastElem m _ _ (by kernel_rfl) HT2.out.map HN.out (.int .u64 x) (lastV s ⟨ac, ai, at_, au, ag, am⟩) (keyI x) (by kernel_rfl) (by kernel_rfl) (key_of HX.out.1 HX.out.2) (lastD s ⟨ac, ai, at_, au, ag, am⟩) [] (lastElem_mk _ _) ?_
      intro w3 hown3 hgrow3
      rw [HP.out] at hown3
      have HT3 := Lib.hid (tab_put HT2.out hown3 hgrow3)
      have hm0 := HM0.out
      have MC3 : w3.cell? ⟨p, 0, none⟩ = some (.map (some m)) ∧ w3.cell? ⟨w.heap.size, 0, none⟩ = some (.int .i64 ac) ∧ w3.cell? ⟨w.heap.size, 1, none⟩ = some (.int .u64 ai) ∧ w3.cell? ⟨w.heap.size, 2, none⟩ = some (.int .u64 at_) ∧ w3.cell? ⟨w.heap.size, 3, none⟩ = some (.int .u64 au) ∧ w3.cell? ⟨w.heap.size, 4, none⟩ = some (.string ag) ∧ w3.cell? ⟨w.heap.size, 5, none⟩ = some (.string am) := by
        have hb3 := HB2.out.keep HT3.out.2 hm0
        exact ⟨HT3.out.1.box.cell 0, hb3.cell 0, hb3.cell 1, hb3.cell 2, hb3.cell 3, hb3.cell 4, hb3.cell 5⟩
      refine hK.out _ _ MC3 (fun _ => ?_)
      clear hK K
      refine wpAnyH_done (by kernel_rfl) ?_ _
      clear hHeld hown3 hgrow3 KD
      go_wp2
      go_ret
      exact ⟨rfl, HT3.out.1, (HK2.out.mono (fun _ _ h => h.elim)).trans HT3.out.2 (fun _ _ e => e)⟩
  · have e1 : keepE l x s = lookE l x s := by unfold keepE; rw [if_pos he]
    have e2 : keepL l x s ⟨ac, ai, at_, au, ag, am⟩ = l := by unfold keepL; rw [e1, if_neg he]
    rw [e1, e2]
    have g : (lookE l x s != 0) = true := bne_iff_ne.2 he
    clear e1 e2 he
    generalize lookE l x s = E at *
    generalize lookB l x s = bb at *
    go_enter Tryz.func78, Tryz.ntmps78
    go_wp2_with fail
    refine (HL.out _).mono ?_
    rintro e w1 ⟨rfl, k1⟩
    have HK := Lib.hid (((Keep.refl noneOf w).alloc _).trans k1 (fun _ _ h => h))
    clear k1 HL
    go_wp2
    go_ret
    have K := HK.out.alloc (.cells #[.int .i64 bc, .int .u64 bi, .int .u64 bt, .int .u64 bu, .string bg, .string bm] 40)
    exact ⟨rfl, H.out.stay K, K.mono (fun _ _ h => h.elim)⟩
end Go.Proofs.YtkoikmdmejhhhaaGreat
