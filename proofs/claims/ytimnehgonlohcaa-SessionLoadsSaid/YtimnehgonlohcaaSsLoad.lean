/-
  Package session: Load.
-/
import Derived.Test.YtimnehgonlohcaaSsMay
namespace Go.Proofs.Ytimnehgonlohcaa
open Go.Shelf Go.RowKit Go.Maps

/-- What Load answers. -/
def Loads (l : List Ro) (w : World) (e : Ending) (w' : World) : Prop :=
  (MayP l ∧ ∃ p m, e = .returned (.tuple #[.pointer (some ⟨p, 0, none⟩), .int .i64 0]) ∧ TabAt w' p m l ∧ w.heap.size ≤ m ∧ Keep noneOf w w') ∨ (¬ MayP l ∧ e = .returned (.tuple #[.pointer none, .int .i64 1]) ∧ Keep noneOf w w')
theorem put_last {l : List Ro} {r : Ro} (h : ∀ g ∈ l, g.id < r.id) : putR l r = l ++ [r] := by
  have h1 : delR l r.id = l := by
    unfold delR
    rw [List.filter_eq_self]
    intro g hg
    have := h g hg
    simp
    omega
  unfold putR
  rw [h1]
  clear h1
  induction l with
  | nil => rfl
  | cons g l ih =>
    have := h g (List.mem_cons_self ..)
    unfold insR
    rw [if_neg (by omega), ih (fun x hx => h x (List.mem_cons_of_mem _ hx))]
    rfl
/-- The id ahead of a place. -/
def bfOf (l : List Ro) (k : Nat) : Int := if k = 0 then 0 else match l[k - 1]? with
  | some q => q.id
  | none => 0
theorem bf_next {l : List Ro} {k : Nat} {r : Ro} (h : l[k]? = some r) : bfOf l (k + 1) = r.id := by
  unfold bfOf
  rw [if_neg (by omega), Nat.add_sub_cancel, h]
theorem bf_pos {l : List Ro} (h : ∀ r ∈ l, (0 ≤ r.id ∧ r.id ≤ top) ∧ 0 ≤ r.seq ∧ r.seq ≤ top) (k : Nat) : 0 ≤ bfOf l k := by
  unfold bfOf
  split
  · exact Int.le_refl _
  · split
    · rename_i q hq
      exact (h q (List.mem_of_getElem? hq)).1.1
    · exact Int.le_refl _
theorem bf_bad {l : List Ro} (h : ∀ r ∈ l, (0 ≤ r.id ∧ r.id ≤ top) ∧ 0 ≤ r.seq ∧ r.seq ≤ top) {k : Nat} {r : Ro} (hr : l[k]? = some r) (hle : r.id ≤ bfOf l k) : ¬ Good l k := by
  intro hg
  obtain ⟨h1, h2, _⟩ := hg r hr
  have h0 := (h r (List.mem_of_getElem? hr)).1.1
  unfold bfOf at hle
  by_cases hk : k = 0
  · rw [if_pos hk] at hle
    omega
  · rw [if_neg hk] at hle
    have hkl := (List.getElem?_eq_some_iff.1 hr).1
    have hq : l[k - 1]? = some (l[k - 1]'(by omega)) := List.getElem?_eq_getElem (by omega)
    rw [hq] at hle
    have := h2 _ (by omega) hq
    simp only at hle
    omega
theorem bf_good {l : List Ro} (h : ∀ r ∈ l, (0 ≤ r.id ∧ r.id ≤ top) ∧ 0 ≤ r.seq ∧ r.seq ≤ top) {k : Nat} {r : Ro} (hr : l[k]? = some r) (hlt : ¬ r.id ≤ bfOf l k) (hs : r.seq = 0 → r.ans = .zero) : Good l k := by
  intro r' hr'
  rw [hr] at hr'
  injection hr' with hr'
  subst hr'
  have h0 := bf_pos h k
  refine ⟨by omega, fun q hk hq => ?_, hs⟩
  unfold bfOf at hlt
  rw [if_neg (by omega), hq] at hlt
  simp only at hlt
  omega
theorem bf_under {l : List Ro} {k : Nat} {x : Int} (hp : (l.take k).Pairwise (fun a b => a.id < b.id)) (hk : k ≤ l.length) (hx : bfOf l k < x) : ∀ g ∈ l.take k, g.id < x := by
  intro g hg
  obtain ⟨j, hj⟩ := List.getElem?_of_mem hg
  have hjl := (List.getElem?_eq_some_iff.1 hj).1
  rw [List.length_take] at hjl
  have hk0 : k ≠ 0 := by omega
  have hq : l[k - 1]? = some (l[k - 1]'(by omega)) := List.getElem?_eq_getElem (by omega)
  unfold bfOf at hx
  rw [if_neg hk0, hq] at hx
  simp only at hx
  rcases Nat.lt_or_ge j (k - 1) with h1 | h1
  · have h2 := (List.pairwise_iff_getElem.1 hp) j (k - 1) (by rw [List.length_take]; omega) (by rw [List.length_take]; omega) h1
    have e1 : (l.take k)[j]'(by rw [List.length_take]; omega) = g := by
      have := List.getElem?_eq_getElem (l := l.take k) (i := j) (by rw [List.length_take]; omega)
      rw [hj] at this
      injection this with this
      exact this.symm
    have e2 : (l.take k)[k - 1]'(by rw [List.length_take]; omega) = l[k - 1]'(by omega) := List.getElem_take
    rw [e1, e2] at h2
    omega
  · obtain rfl : j = k - 1 := by omega
    rw [List.getElem?_take_of_lt (by omega), hq] at hj
    injection hj with hj
    rw [← hj]
    exact hx
theorem box_eight {w : World} {g : Nat} {t : TypeId} {x0 x1 x2 x3 x4 x5 x6 x7 : Value} (h : Box w g t #[x0, x1, x2, x3, x4, x5, x6, x7]) :
    w.cell? ⟨g, 0, none⟩ = some x0 ∧ w.cell? ⟨g, 1, none⟩ = some x1 ∧ w.cell? ⟨g, 2, none⟩ = some x2 ∧ w.cell? ⟨g, 3, none⟩ = some x3 ∧ w.cell? ⟨g, 4, none⟩ = some x4 ∧ w.cell? ⟨g, 5, none⟩ = some x5 ∧ w.cell? ⟨g, 6, none⟩ = some x6 ∧ w.cell? ⟨g, 7, none⟩ = some x7 :=
  ⟨h.cell 0, h.cell 1, h.cell 2, h.cell 3, h.cell 4, h.cell 5, h.cell 6, h.cell 7⟩

set_option maxRecDepth 100000 in
set_option maxHeartbeats 4000000 in
set_option linter.unusedSimpArgs false in
theorem load_any (w : World) (D : Nat → Prop) (v : Value) (l : List Ro) (h : Many Ro.cells 8 w D v l) (hin : ∀ r ∈ l, (0 ≤ r.id ∧ r.id ≤ top) ∧ 0 ≤ r.seq ∧ r.seq ≤ top) : Calls Try.prog 13 #[v] w (Loads l w) := by
  obtain ⟨A, c, rfl⟩ := h.shape
  have hfew := h.few
  unfold maxLen at hfew
  have HH := Lib.hid h
  have HIN := Lib.hid hin
  have NW := Lib.hid (new_any w)
  have hz := zeroA
  unfold An.agg An.zero at hz
  clear h hin
  by_cases h16 : l.length ≤ 16
  · have H16 := Lib.hid h16
    have g16 : ¬ ((16 : Int) < (l.length : Int)) := by omega
    clear h16
    go_enter Try.func13, Try.ntmps13
    go_wp2_with fail
    refine NW.out.mono ?_
    rintro e w1 ⟨rfl, T1, k1⟩
    have HK1 := Lib.hid k1
    have HT1 := Lib.hid T1
    clear NW T1 k1
    generalize hp : w.heap.size + 1 = p at *
    obtain ⟨m, hm⟩ : ∃ m, w.heap.size = m := ⟨_, rfl⟩
    have HM : Hid (w.heap.size ≤ m) := Lib.hid (Nat.le_of_eq hm)
    rw [hm] at HT1
    clear hm hp
    go_wp2
    go_loopw [5, 14] (fun bf i wr => ∃ (k : Nat), k ≤ l.length ∧ i = .int .i64 k ∧ bf = .int .u64 (bfOf l k) ∧ Keep noneOf w wr ∧ TabAt wr p m (l.take k) ∧ ∀ j, j < k → Good l j) (fun _ i _ => l.length - (intOf i).toNat)
    case atStart => exact ⟨0, Nat.zero_le _, rfl, rfl, HK1.out, HT1.out, fun j hj => absurd hj (Nat.not_lt_zero _)⟩
    case round =>
      obtain ⟨k, hk, rfl, rfl, hkeep, htab, hgood⟩ := hrel
      have HG := Lib.hid hgood
      have HKP := Lib.hid hkeep
      have HTB := Lib.hid htab
      have HKL := Lib.hid hk
      clear hgood
      by_cases hlt : k < l.length
      · have hx : l[k]? = some l[k] := List.getElem?_eq_getElem hlt
        obtain ⟨b, o, rfl, hblk, _, hcell⟩ := (HH.out.keep hkeep (fun _ _ _ => id)).cell (fun _ => rfl) hx
        have HX := Lib.hid hx
        have hri := HIN.out _ (List.mem_of_getElem? hx)
        generalize l[k] = r at *
        obtain ⟨c0, c1, c2, c3, c4, c5, c6, c7⟩ := ro_cells b o k _ _ hcell
        obtain ⟨nz, hnq⟩ : ∃ nz, (!decide (r.ans = An.zero)) = nz := ⟨_, rfl⟩
        have hneq : ∀ w', (binOp .neq 32 r.ans.agg An.zero.agg).run Try.prog w' = .ok (.bool nz) w' := fun w' => by rw [← hnq]; exact run_neqA w' _ _
        have HNQ := Lib.hid hnq
        have HRI := Lib.hid hri
        have HBAD := Lib.hid (fun h => bf_bad HIN.out hx h)
        have HGOOD := Lib.hid (fun h1 h2 => bf_good HIN.out hx h1 h2)
        have HNX := Lib.hid (bf_next hx)
        have HUN := Lib.hid (fun h => bf_under (x := r.id) htab.rising HKL.out h)
        have HTK : Hid (l.take (k + 1) = l.take k ++ [r]) := Lib.hid (by rw [List.take_add_one, hx]; rfl)
        clear hnq hri hx hcell
        obtain ⟨i, s, ⟨ac, ai, at_, au, ag, am⟩⟩ := r
        unfold An.agg An.zero at hneq
        dsimp only at c0 c1 c2 c3 c4 c5 c6 c7 hneq HBAD HGOOD HNX HUN HRI HNQ
        have q0 : (0 : Int) ≤ (k : Int) := by omega
        have q1 : (k : Int) < (l.length : Int) := by omega
        have ka := (Keep.refl noneOf wr).alloc (.cells #[.int .u64 i, .int .u64 s, .int .i64 ac, .int .u64 ai, .int .u64 at_, .int .u64 au, .string ag, .string am] 58)
        have HB := Lib.hid (Box.new wr 58 #[.int .u64 i, .int .u64 s, .int .i64 ac, .int .u64 ai, .int .u64 at_, .int .u64 au, .string ag, .string am])
        have HQ : Hid (¬ wr.heap.size = m) := Lib.hid (by have := htab.lt.2; omega)
        have HT2 := Lib.hid (htab.stay ka)
        have HK2 := Lib.hid (hkeep.trans ka (fun _ _ h => h))
        clear ka htab hkeep HKP HTB
        go_upto_region 8 with fail
        generalize (wr.alloc (.cells #[.int .u64 i, .int .u64 s, .int .i64 ac, .int .u64 ai, .int .u64 at_, .int .u64 au, .string ag, .string am] 58)) = w2 at *
        generalize wr.heap.size = q at *
        clear c0 c1 c2 c3 c4 c5 c6 c7
        obtain ⟨c0, c1, c2, c3, c4, c5, c6, c7⟩ := box_eight HB.out
        generalize bfOf l k = bf at *
        by_cases hle : i ≤ bf
        · have HNM := Lib.hid (good_not (HBAD.out hle))
          go_wp2
          exact bodyPost_ret (v := .tuple #[.pointer none, .int .i64 1]) (by simp [results, Try.results13, go_sem]) rfl (.inr ⟨HNM.out, rfl, HK2.out⟩)
        · by_cases hbad : s = 0 ∧ nz = true
          · obtain ⟨rfl, rfl⟩ := hbad
            have HNM : Hid (¬ MayP l) := Lib.hid (good_not fun hg => by
              have h1 := (hg _ HX.out).2.2 rfl
              have h2 := HNQ.out
              simp only at h1
              rw [h1] at h2
              simp at h2)
            go_wp2
            exact bodyPost_ret (v := .tuple #[.pointer none, .int .i64 1]) (by simp [results, Try.results13, go_sem]) rfl (.inr ⟨HNM.out, rfl, HK2.out⟩)
          · have HGK := Lib.hid (HGOOD.out hle (fun h => by
              have h2 := HNQ.out
              cases nz with
              | true => exact absurd ⟨h, rfl⟩ hbad
              | false => simpa using h2))
            have HP : Hid ((datum (l.take k)).put (keyI i) (lastD s ⟨ac, ai, at_, au, ag, am⟩) = datum (l.take (k + 1))) := Lib.hid (by
              rw [HTK.out, ← put_last (HUN.out (by omega))]
              exact put_datum (l.take k) ⟨i, s, ⟨ac, ai, at_, au, ag, am⟩⟩)
            have HN : Hid ((l.take k).length < maxLen) := Lib.hid (by rw [List.length_take]; have := H16.out; unfold maxLen; omega)
            have MC : Hid (∀ w', Keep (fun i => i = m) w2 w' → _) := Lib.hid fun w' k' => And.intro ((HT2.out.box.keep k' (fun e => HT2.out.ne e)).cell 0) (box_eight (HB.out.keep k' HQ.out))
            have KD : Keep noneOf w2 w2.drew := (Keep.refl noneOf w2).drew
            have HT3 := Lib.hid (HT2.out.stay KD)
            have HK3 := Lib.hid (HK2.out.trans KD (fun _ _ h => h))
            have HB3 := Lib.hid (HB.out.keep KD id)
            by_cases hs : s = 0
            · subst hs
              cases nz with
              | true => exact absurd ⟨rfl, rfl⟩ hbad
              | false =>
                clear hbad
                go_upto_region 10 with fail
                refine wp_region_held_drew (S := fun w' => Keep (fun i => i = m) w2 w') (by kernel_rfl) (KD.mono (fun _ _ h => h.elim)) (fun hHeld => ?_)
                refine' wpAnyH_take (i := 0) (v := _) rfl (by kernel_rfl) (by kernel_rfl) (by kernel_rfl) (fun _ _ _ h => h) (Or.inl ⟨by kernel_rfl, ?hy0⟩) (by assumption) ?_
                case hy0 => intro w' hSw; obtain ⟨_, _, _, _, _, _, _, _, _⟩ := MC.out w' hSw; go_simp; try with_reducible rfl
                simp only [Act.put, List.getElem_toArray, List.getElem_cons_zero, List.getElem_cons_succ, List.setIfInBounds_toArray, List.set_cons_zero, List.set_cons_succ]
                refine' wpAnyH_take (i := 1) (v := _) rfl (by kernel_rfl) (by kernel_rfl) (by kernel_rfl) (fun _ _ _ h => h) (Or.inl ⟨by kernel_rfl, ?hy1⟩) (by assumption) ?_
                case hy1 => intro w' hSw; obtain ⟨_, _, _, _, _, _, _, _, _⟩ := MC.out w' hSw; go_simp; try with_reducible rfl
                simp only [Act.put, List.getElem_toArray, List.getElem_cons_zero, List.getElem_cons_succ, List.setIfInBounds_toArray, List.set_cons_zero, List.set_cons_succ]
                refine' wpAnyH_take (i := 2) (v := _) rfl (by kernel_rfl) (by kernel_rfl) (by kernel_rfl) (fun _ _ _ h => h) (Or.inl ⟨by kernel_rfl, ?hy2⟩) (by assumption) ?_
                case hy2 => intro w' hSw; obtain ⟨_, _, _, _, _, _, _, _, _⟩ := MC.out w' hSw; go_simp; try with_reducible rfl
                simp only [Act.put, List.getElem_toArray, List.getElem_cons_zero, List.getElem_cons_succ, List.setIfInBounds_toArray, List.set_cons_zero, List.set_cons_succ]
                refine' wpAnyH_take (i := 3) (v := _) rfl (by kernel_rfl) (by kernel_rfl) (by kernel_rfl) (fun _ _ _ h => h) (Or.inl ⟨by kernel_rfl, ?hy3⟩) (by assumption) ?_
                case hy3 => intro w' hSw; obtain ⟨_, _, _, _, _, _, _, _, _⟩ := MC.out w' hSw; go_simp; try with_reducible rfl
                simp only [Act.put, List.getElem_toArray, List.getElem_cons_zero, List.getElem_cons_succ, List.setIfInBounds_toArray, List.set_cons_zero, List.set_cons_succ]
                refine' wpAnyH_take (i := 4) (v := _) rfl (by kernel_rfl) (by kernel_rfl) (by kernel_rfl) (fun _ _ _ h => h) (Or.inl ⟨by kernel_rfl, ?hy4⟩) (by assumption) ?_
                case hy4 => intro w' hSw; obtain ⟨_, _, _, _, _, _, _, _, _⟩ := MC.out w' hSw; go_simp; try with_reducible rfl
                simp only [Act.put, List.getElem_toArray, List.getElem_cons_zero, List.getElem_cons_succ, List.setIfInBounds_toArray, List.set_cons_zero, List.set_cons_succ]
                refine' wpAnyH_take (i := 5) (v := _) rfl (by kernel_rfl) (by kernel_rfl) (by kernel_rfl) (fun _ _ _ h => h) (Or.inl ⟨by kernel_rfl, ?hy5⟩) (by assumption) ?_
                case hy5 => intro w' hSw; obtain ⟨_, _, _, _, _, _, _, _, _⟩ := MC.out w' hSw; go_simp; try with_reducible rfl
                simp only [Act.put, List.getElem_toArray, List.getElem_cons_zero, List.getElem_cons_succ, List.setIfInBounds_toArray, List.set_cons_zero, List.set_cons_succ]
                refine' wpAnyH_take (i := 6) (v := _) rfl (by kernel_rfl) (by kernel_rfl) (by kernel_rfl) (fun _ _ _ h => h) (Or.inl ⟨by kernel_rfl, ?hy6⟩) (by assumption) ?_
                case hy6 => intro w' hSw; obtain ⟨_, _, _, _, _, _, _, _, _⟩ := MC.out w' hSw; go_simp; try with_reducible rfl
                simp only [Act.put, List.getElem_toArray, List.getElem_cons_zero, List.getElem_cons_succ, List.setIfInBounds_toArray, List.set_cons_zero, List.set_cons_succ]
                refine' wpAnyH_take (i := 7) (v := _) rfl (by kernel_rfl) (by kernel_rfl) (by kernel_rfl) (fun _ _ _ h => h) (Or.inl ⟨by kernel_rfl, ?hy7⟩) (by assumption) ?_
                case hy7 => intro w' hSw; obtain ⟨_, _, _, _, _, _, _, _, _⟩ := MC.out w' hSw; go_simp; try with_reducible rfl
                simp only [Act.put, List.getElem_toArray, List.getElem_cons_zero, List.getElem_cons_succ, List.setIfInBounds_toArray, List.set_cons_zero, List.set_cons_succ]
                refine' wpAnyH_take (i := 8) (v := _) rfl (by kernel_rfl) (by kernel_rfl) (by kernel_rfl) (fun _ _ _ h => h) (Or.inl ⟨by kernel_rfl, ?hy8⟩) (by assumption) ?_
                case hy8 => intro w' hSw; obtain ⟨_, _, _, _, _, _, _, _, _⟩ := MC.out w' hSw; go_simp; try with_reducible rfl
                simp only [Act.put, List.getElem_toArray, List.getElem_cons_zero, List.getElem_cons_succ, List.setIfInBounds_toArray, List.set_cons_zero, List.set_cons_succ]
                refine' wpAnyH_take (i := 9) (v := _) rfl (by kernel_rfl) (by kernel_rfl) (by kernel_rfl) (fun _ _ _ h => h) (Or.inl ⟨by kernel_rfl, ?hy9⟩) (by assumption) ?_
                case hy9 => intro w' hSw; obtain ⟨_, _, _, _, _, _, _, _, _⟩ := MC.out w' hSw; go_simp; try with_reducible rfl
                simp only [Act.put, List.getElem_toArray, List.getElem_cons_zero, List.getElem_cons_succ, List.setIfInBounds_toArray, List.set_cons_zero, List.set_cons_succ]
                refine' wpAnyH_take (i := 10) (v := _) rfl (by kernel_rfl) (by kernel_rfl) (by kernel_rfl) (fun _ _ _ h => h) (Or.inl ⟨by kernel_rfl, ?hy10⟩) (by assumption) ?_
                case hy10 => intro w' hSw; obtain ⟨_, _, _, _, _, _, _, _, _⟩ := MC.out w' hSw; go_simp; try with_reducible rfl
                simp only [Act.put, List.getElem_toArray, List.getElem_cons_zero, List.getElem_cons_succ, List.setIfInBounds_toArray, List.set_cons_zero, List.set_cons_succ]
                refine wpAnyH_ready (rs := [11]) (by kernel_rfl) (by simp) (AllReadyH.cons rfl (fun K hK => ?_) AllReadyH.nil)
                refine step_mapUpdate (by kernel_rfl) (.tmp 36) (.tmp 38) (.tmp 43) 50 (by kernel_rfl) 29 60 law Try.underlying50 lastElem m _ _ (by kernel_rfl) HT3.out.map HN.out (.int .u64 i) (lastV 0 ⟨ac, ai, at_, au, ag, am⟩) (keyI i) (by kernel_rfl) (by kernel_rfl) (key_of HRI.out.1.1 HRI.out.1.2) (lastD 0 ⟨ac, ai, at_, au, ag, am⟩) [] (lastElem_mk _ _) ?_
                intro w4 hown4 hgrow4
                rw [HP.out] at hown4
                have HT4 := Lib.hid (tab_put HT3.out hown4 hgrow4)
                have HK4 := Lib.hid (HK3.out.newer HT4.out.2 HM.out)
                have HB4 := Lib.hid (HB3.out.keep HT4.out.2 HQ.out)
                refine hK.out _ _ ((KD.mono (fun _ _ h => h.elim)).trans HT4.out.2 (fun _ _ h => h)) (fun _ => ?_)
                clear hK K hHeld hown4 hgrow4 KD
                refine wpAnyH_done (by kernel_rfl) ?_ _
                clear c0 c1 c2 c3 c4 c5 c6 c7
                obtain ⟨c0, c1, c2, c3, c4, c5, c6, c7⟩ := box_eight HB4.out
                go_wp2
                go_roundw
                case rel => exact ⟨k + 1, by omega, by go_num, by rw [HNX.out], HK4.out, HT4.out.1, fun j hj => by
                  rcases Nat.lt_or_ge j k with h1 | h1
                  · exact HG.out j h1
                  · obtain rfl : j = k := by omega
                    exact HGK.out⟩
                case measure => simp [intOf]; omega
            · have gs : (s == 0) = false := beq_eq_false_iff_ne.2 hs
              clear hs hbad
              go_upto_region 10 with fail
              refine wp_region_held_drew (S := fun w' => Keep (fun i => i = m) w2 w') (by kernel_rfl) (KD.mono (fun _ _ h => h.elim)) (fun hHeld => ?_)
              refine' wpAnyH_take (i := 0) (v := _) rfl (by kernel_rfl) (by kernel_rfl) (by kernel_rfl) (fun _ _ _ h => h) (Or.inl ⟨by kernel_rfl, ?hy0⟩) (by assumption) ?_
              case hy0 => intro w' hSw; obtain ⟨_, _, _, _, _, _, _, _, _⟩ := MC.out w' hSw; go_simp; try with_reducible rfl
              simp only [Act.put, List.getElem_toArray, List.getElem_cons_zero, List.getElem_cons_succ, List.setIfInBounds_toArray, List.set_cons_zero, List.set_cons_succ]
              refine' wpAnyH_take (i := 1) (v := _) rfl (by kernel_rfl) (by kernel_rfl) (by kernel_rfl) (fun _ _ _ h => h) (Or.inl ⟨by kernel_rfl, ?hy1⟩) (by assumption) ?_
              case hy1 => intro w' hSw; obtain ⟨_, _, _, _, _, _, _, _, _⟩ := MC.out w' hSw; go_simp; try with_reducible rfl
              simp only [Act.put, List.getElem_toArray, List.getElem_cons_zero, List.getElem_cons_succ, List.setIfInBounds_toArray, List.set_cons_zero, List.set_cons_succ]
              refine' wpAnyH_take (i := 2) (v := _) rfl (by kernel_rfl) (by kernel_rfl) (by kernel_rfl) (fun _ _ _ h => h) (Or.inl ⟨by kernel_rfl, ?hy2⟩) (by assumption) ?_
              case hy2 => intro w' hSw; obtain ⟨_, _, _, _, _, _, _, _, _⟩ := MC.out w' hSw; go_simp; try with_reducible rfl
              simp only [Act.put, List.getElem_toArray, List.getElem_cons_zero, List.getElem_cons_succ, List.setIfInBounds_toArray, List.set_cons_zero, List.set_cons_succ]
              refine' wpAnyH_take (i := 3) (v := _) rfl (by kernel_rfl) (by kernel_rfl) (by kernel_rfl) (fun _ _ _ h => h) (Or.inl ⟨by kernel_rfl, ?hy3⟩) (by assumption) ?_
              case hy3 => intro w' hSw; obtain ⟨_, _, _, _, _, _, _, _, _⟩ := MC.out w' hSw; go_simp; try with_reducible rfl
              simp only [Act.put, List.getElem_toArray, List.getElem_cons_zero, List.getElem_cons_succ, List.setIfInBounds_toArray, List.set_cons_zero, List.set_cons_succ]
              refine' wpAnyH_take (i := 4) (v := _) rfl (by kernel_rfl) (by kernel_rfl) (by kernel_rfl) (fun _ _ _ h => h) (Or.inl ⟨by kernel_rfl, ?hy4⟩) (by assumption) ?_
              case hy4 => intro w' hSw; obtain ⟨_, _, _, _, _, _, _, _, _⟩ := MC.out w' hSw; go_simp; try with_reducible rfl
              simp only [Act.put, List.getElem_toArray, List.getElem_cons_zero, List.getElem_cons_succ, List.setIfInBounds_toArray, List.set_cons_zero, List.set_cons_succ]
              refine' wpAnyH_take (i := 5) (v := _) rfl (by kernel_rfl) (by kernel_rfl) (by kernel_rfl) (fun _ _ _ h => h) (Or.inl ⟨by kernel_rfl, ?hy5⟩) (by assumption) ?_
              case hy5 => intro w' hSw; obtain ⟨_, _, _, _, _, _, _, _, _⟩ := MC.out w' hSw; go_simp; try with_reducible rfl
              simp only [Act.put, List.getElem_toArray, List.getElem_cons_zero, List.getElem_cons_succ, List.setIfInBounds_toArray, List.set_cons_zero, List.set_cons_succ]
              refine' wpAnyH_take (i := 6) (v := _) rfl (by kernel_rfl) (by kernel_rfl) (by kernel_rfl) (fun _ _ _ h => h) (Or.inl ⟨by kernel_rfl, ?hy6⟩) (by assumption) ?_
              case hy6 => intro w' hSw; obtain ⟨_, _, _, _, _, _, _, _, _⟩ := MC.out w' hSw; go_simp; try with_reducible rfl
              simp only [Act.put, List.getElem_toArray, List.getElem_cons_zero, List.getElem_cons_succ, List.setIfInBounds_toArray, List.set_cons_zero, List.set_cons_succ]
              refine' wpAnyH_take (i := 7) (v := _) rfl (by kernel_rfl) (by kernel_rfl) (by kernel_rfl) (fun _ _ _ h => h) (Or.inl ⟨by kernel_rfl, ?hy7⟩) (by assumption) ?_
              case hy7 => intro w' hSw; obtain ⟨_, _, _, _, _, _, _, _, _⟩ := MC.out w' hSw; go_simp; try with_reducible rfl
              simp only [Act.put, List.getElem_toArray, List.getElem_cons_zero, List.getElem_cons_succ, List.setIfInBounds_toArray, List.set_cons_zero, List.set_cons_succ]
              refine' wpAnyH_take (i := 8) (v := _) rfl (by kernel_rfl) (by kernel_rfl) (by kernel_rfl) (fun _ _ _ h => h) (Or.inl ⟨by kernel_rfl, ?hy8⟩) (by assumption) ?_
              case hy8 => intro w' hSw; obtain ⟨_, _, _, _, _, _, _, _, _⟩ := MC.out w' hSw; go_simp; try with_reducible rfl
              simp only [Act.put, List.getElem_toArray, List.getElem_cons_zero, List.getElem_cons_succ, List.setIfInBounds_toArray, List.set_cons_zero, List.set_cons_succ]
              refine' wpAnyH_take (i := 9) (v := _) rfl (by kernel_rfl) (by kernel_rfl) (by kernel_rfl) (fun _ _ _ h => h) (Or.inl ⟨by kernel_rfl, ?hy9⟩) (by assumption) ?_
              case hy9 => intro w' hSw; obtain ⟨_, _, _, _, _, _, _, _, _⟩ := MC.out w' hSw; go_simp; try with_reducible rfl
              simp only [Act.put, List.getElem_toArray, List.getElem_cons_zero, List.getElem_cons_succ, List.setIfInBounds_toArray, List.set_cons_zero, List.set_cons_succ]
              refine' wpAnyH_take (i := 10) (v := _) rfl (by kernel_rfl) (by kernel_rfl) (by kernel_rfl) (fun _ _ _ h => h) (Or.inl ⟨by kernel_rfl, ?hy10⟩) (by assumption) ?_
              case hy10 => intro w' hSw; obtain ⟨_, _, _, _, _, _, _, _, _⟩ := MC.out w' hSw; go_simp; try with_reducible rfl
              simp only [Act.put, List.getElem_toArray, List.getElem_cons_zero, List.getElem_cons_succ, List.setIfInBounds_toArray, List.set_cons_zero, List.set_cons_succ]
              refine wpAnyH_ready (rs := [11]) (by kernel_rfl) (by simp) (AllReadyH.cons rfl (fun K hK => ?_) AllReadyH.nil)
              refine step_mapUpdate (by kernel_rfl) (.tmp 36) (.tmp 38) (.tmp 43) 50 (by kernel_rfl) 29 60 law Try.underlying50 lastElem m _ _ (by kernel_rfl) HT3.out.map HN.out (.int .u64 i) (lastV s ⟨ac, ai, at_, au, ag, am⟩) (keyI i) (by kernel_rfl) (by kernel_rfl) (key_of HRI.out.1.1 HRI.out.1.2) (lastD s ⟨ac, ai, at_, au, ag, am⟩) [] (lastElem_mk _ _) ?_
              intro w4 hown4 hgrow4
              rw [HP.out] at hown4
              have HT4 := Lib.hid (tab_put HT3.out hown4 hgrow4)
              have HK4 := Lib.hid (HK3.out.newer HT4.out.2 HM.out)
              have HB4 := Lib.hid (HB3.out.keep HT4.out.2 HQ.out)
              refine hK.out _ _ ((KD.mono (fun _ _ h => h.elim)).trans HT4.out.2 (fun _ _ h => h)) (fun _ => ?_)
              clear hK K hHeld hown4 hgrow4 KD
              refine wpAnyH_done (by kernel_rfl) ?_ _
              clear c0 c1 c2 c3 c4 c5 c6 c7
              obtain ⟨c0, c1, c2, c3, c4, c5, c6, c7⟩ := box_eight HB4.out
              go_wp2
              go_roundw
              case rel => exact ⟨k + 1, by omega, by go_num, by rw [HNX.out], HK4.out, HT4.out.1, fun j hj => by
                rcases Nat.lt_or_ge j k with h1 | h1
                · exact HG.out j h1
                · obtain rfl : j = k := by omega
                  exact HGK.out⟩
              case measure => simp [intOf]; omega
      · have hkn : ¬ ((k : Int) < (l.length : Int)) := by omega
        have HA : Hid (∀ j, Good l j) := Lib.hid fun j => by
          by_cases hj : j < k
          · exact HG.out j hj
          · intro r hr
            have := (List.getElem?_eq_some_iff.1 hr).1
            omega
        have hkl : k = l.length := by omega
        have HT9 := Lib.hid (show TabAt wr p m l by rw [hkl, List.take_length] at htab; exact htab)
        clear hkeep hlt htab HTB
        go_wp2
        exact bodyPost_ret (v := .tuple #[.pointer (some ⟨p, 0, none⟩), .int .i64 0]) (by simp [results, Try.results13, go_sem]) rfl (.inl ⟨⟨HA.out, H16.out⟩, p, m, rfl, HT9.out, HM.out, HKP.out⟩)
  · have H16 := Lib.hid h16
    have g16 : (16 : Int) < (l.length : Int) := by omega
    clear h16
    go_enter Try.func13, Try.ntmps13
    go_wp2
    exact bodyPost_ret (v := .tuple #[.pointer none, .int .i64 1]) (by simp [results, Try.results13, go_sem]) rfl (.inr ⟨fun h => H16.out h.2, rfl, Keep.refl _ _⟩)
end Go.Proofs.Ytimnehgonlohcaa
