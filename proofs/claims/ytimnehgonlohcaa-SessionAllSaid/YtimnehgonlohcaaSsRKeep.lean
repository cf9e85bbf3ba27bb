/-
  dockyardref11: Keep.
-/
import Derived.Test.YtimnehgonlohcaaSsROpen
namespace Go.Proofs.Ytimnehgonlohcaa
open Go.Shelf Go.RowKit Go.Maps Go.Sort

theorem put_set : ∀ {l : List Ro} {k : Nat} {r0 r : Ro}, l.Pairwise (fun a b => a.id < b.id) → l[k]? = some r0 → r0.id = r.id → putR l r = l.set k r
  | [], k, r0, r, _, h, _ => by simp at h
  | g :: l, 0, r0, r, hp, h, he => by
    simp at h
    subst h
    rw [List.pairwise_cons] at hp
    unfold putR
    have h1 : delR (g :: l) r.id = l := by
      unfold delR
      rw [List.filter_cons_of_neg (by simp [he]), List.filter_eq_self]
      intro x hx
      have := hp.1 x hx
      simp
      omega
    rw [h1]
    cases l with
    | nil => rfl
    | cons x l =>
      have := hp.1 x (List.mem_cons_self ..)
      unfold insR
      rw [if_pos (by omega)]
      rfl
  | g :: l, k + 1, r0, r, hp, h, he => by
    simp at h
    have hp' := hp
    rw [List.pairwise_cons] at hp
    have hlt := hp.1 r0 (List.mem_of_getElem? h)
    unfold putR
    have h1 : delR (g :: l) r.id = g :: delR l r.id := by
      unfold delR
      rw [List.filter_cons_of_pos (by simp; omega)]
    rw [h1]
    have ih := put_set (r := r) hp.2 h he
    unfold putR at ih
    unfold insR
    rw [if_neg (by omega), ih]
    rfl
theorem box_sets {w : World} {g : Nat} {t : TypeId} {cs : Array Value} (h : Box w g t cs) (k : Nat) (r : Ro) :
    Box ((((((((w.setCell ⟨g, k * 8, none⟩ (.int .u64 r.id)).setCell ⟨g, k * 8 + 1, none⟩ (.int .u64 r.seq)).setCell ⟨g, k * 8 + 2, none⟩ (.int .i64 r.ans.code)).setCell ⟨g, k * 8 + 3, none⟩ (.int .u64 r.ans.id)).setCell ⟨g, k * 8 + 4, none⟩ (.int .u64 r.ans.tok)).setCell ⟨g, k * 8 + 5, none⟩ (.int .u64 r.ans.unt)).setCell ⟨g, k * 8 + 6, none⟩ (.string r.ans.tgt)).setCell ⟨g, k * 8 + 7, none⟩ (.string r.ans.cmd)) g t (setMany cs (k * 8) r.cells) :=
  (((((((h.put (k * 8) _).put (k * 8 + 1) _).put (k * 8 + 2) _).put (k * 8 + 3) _).put (k * 8 + 4) _).put (k * 8 + 5) _).put (k * 8 + 6) _).put (k * 8 + 7) _
theorem keep_sets (w : World) (g k : Nat) (r : Ro) :
    Keep (fun i => i = g) w ((((((((w.setCell ⟨g, k * 8, none⟩ (.int .u64 r.id)).setCell ⟨g, k * 8 + 1, none⟩ (.int .u64 r.seq)).setCell ⟨g, k * 8 + 2, none⟩ (.int .i64 r.ans.code)).setCell ⟨g, k * 8 + 3, none⟩ (.int .u64 r.ans.id)).setCell ⟨g, k * 8 + 4, none⟩ (.int .u64 r.ans.tok)).setCell ⟨g, k * 8 + 5, none⟩ (.int .u64 r.ans.unt)).setCell ⟨g, k * 8 + 6, none⟩ (.string r.ans.tgt)).setCell ⟨g, k * 8 + 7, none⟩ (.string r.ans.cmd)) :=
  ((((((((Keep.refl (fun i => i = g) w).setCell (p := ⟨g, k * 8, none⟩) (fun _ => rfl) _).setCell (p := ⟨g, k * 8 + 1, none⟩) (fun _ => rfl) _).setCell (p := ⟨g, k * 8 + 2, none⟩) (fun _ => rfl) _).setCell (p := ⟨g, k * 8 + 3, none⟩) (fun _ => rfl) _).setCell (p := ⟨g, k * 8 + 4, none⟩) (fun _ => rfl) _).setCell (p := ⟨g, k * 8 + 5, none⟩) (fun _ => rfl) _).setCell (p := ⟨g, k * 8 + 6, none⟩) (fun _ => rfl) _).setCell (p := ⟨g, k * 8 + 7, none⟩) (fun _ => rfl) _
theorem many_set {w : World} {g cap k : Nat} {cur : Array Value} {l : List Ro} {r : Ro} (h : Box w g 58 (setMany cur (k * 8) r.cells)) (hsz : cur.size = cap * 8) (hn : l.length ≤ cap) (hcm : cap ≤ maxLen) (htk : cur.toList.take (l.length * 8) = l.flatMap Ro.cells) (hk : k < l.length) :
    Many Ro.cells 8 w (fun i => i = g) (.slice (some ⟨g, 0, none⟩) l.length cap) (l.set k r) := by
  have hll : (l.set k r).length = l.length := List.length_set
  refine ⟨_, cap, by rw [hll], by omega, hcm, fun e => (by cases e), fm_length Ro.cells 8 (fun _ => rfl) _, fun h0 => ⟨_, rfl, rfl, h.lt, rfl, fun j x hj => ?_⟩⟩
  have hjl := (List.getElem?_eq_some_iff.1 hj).1
  rw [fm_length Ro.cells 8 (fun _ => rfl), hll] at hjl
  have hd : j / 8 < l.length := by omega
  have hm : j % 8 < 8 := Nat.mod_lt _ (by decide)
  have hjj : j / 8 * 8 + j % 8 = j := by omega
  show w.cell? ⟨g, 0 + j, none⟩ = _
  rw [Nat.zero_add, h.cell j]
  have hjs : j < cur.size := by omega
  rw [Array.getElem?_eq_getElem (by rw [size_setMany]; exact hjs), ← getElem!_pos, get_setMany _ _ _ j hjs]
  have hrl : r.cells.length = 8 := rfl
  by_cases hi : j / 8 = k
  · have hx : (l.set k r)[j / 8]? = some r := by rw [hi, List.getElem?_set_self hk]
    have := fm_at Ro.cells 8 (fun _ => rfl) hx (j % 8) hm
    rw [hjj, hj, List.getElem?_eq_getElem (by rw [hrl]; exact hm)] at this
    rw [if_pos (by rw [hrl]; omega), this, show j - k * 8 = j % 8 from by omega, getElem!_pos r.cells (j % 8) (by rw [hrl]; exact hm)]
  · have hx : (l.set k r)[j / 8]? = some l[j / 8] := by rw [List.getElem?_set_ne (fun e => hi e.symm), List.getElem?_eq_getElem hd]
    have e1 := fm_at Ro.cells 8 (fun _ => rfl) hx (j % 8) hm
    have e2 := fm_at Ro.cells 8 (fun _ => rfl) (List.getElem?_eq_getElem hd) (j % 8) hm
    rw [hjj, hj] at e1
    rw [hjj, ← htk, List.getElem?_take_of_lt (by omega), Array.getElem?_toList, ← e1, Array.getElem?_eq_getElem hjs] at e2
    rw [if_neg (by rw [hrl]; omega), getElem!_pos cur j hjs]
    exact e2

theorem row_open {w : World} {g : Nat} {t : TypeId} {cur : Array Value} (h : Box w g t cur) {k : Nat} (hs : k * 8 + 8 ≤ cur.size) :
    ∃ y0 y1 y2 y3 y4 y5 y6 y7 : Value, (w.cell? ⟨g, k * 8, none⟩ = some y0 ∧ w.cell? ⟨g, k * 8 + 1, none⟩ = some y1 ∧ w.cell? ⟨g, k * 8 + 2, none⟩ = some y2 ∧ w.cell? ⟨g, k * 8 + 3, none⟩ = some y3 ∧ w.cell? ⟨g, k * 8 + 4, none⟩ = some y4 ∧ w.cell? ⟨g, k * 8 + 5, none⟩ = some y5 ∧ w.cell? ⟨g, k * 8 + 6, none⟩ = some y6 ∧ w.cell? ⟨g, k * 8 + 7, none⟩ = some y7) ∧
      w.frozen? ⟨g, k * 8, none⟩ = false ∧ w.frozen? ⟨g, k * 8 + 1, none⟩ = false ∧ w.frozen? ⟨g, k * 8 + 2, none⟩ = false ∧ w.frozen? ⟨g, k * 8 + 3, none⟩ = false ∧ w.frozen? ⟨g, k * 8 + 4, none⟩ = false ∧ w.frozen? ⟨g, k * 8 + 5, none⟩ = false ∧ w.frozen? ⟨g, k * 8 + 6, none⟩ = false ∧ w.frozen? ⟨g, k * 8 + 7, none⟩ = false := by
  have hc : ∀ i (hi : i < cur.size), w.cell? ⟨g, i, none⟩ = some cur[i] := fun i hi => by rw [h.cell i, Array.getElem?_eq_getElem hi]
  exact ⟨_, _, _, _, _, _, _, _, ⟨hc _ (by omega), hc _ (by omega), hc _ (by omega), hc _ (by omega), hc _ (by omega), hc _ (by omega), hc _ (by omega), hc _ (by omega)⟩, h.free _, h.free _, h.free _, h.free _, h.free _, h.free _, h.free _, h.free _⟩

set_option maxRecDepth 100000 in
set_option maxHeartbeats 2000000 in
set_option linter.unusedSimpArgs false in
theorem refKeep_any (w : World) (D : Nat → Prop) (v : Value) (l : List Ro) (x s : Int) (a : An) (h : Many Ro.cells 8 w D v l) (hp : l.Pairwise (fun a b => a.id < b.id)) (hf : l.length ≤ 16) :
    Calls Try.prog 20 #[v, .int .u64 x, .int .u64 s, a.agg] w fun e w' => ∃ v', e = .returned (.tuple #[v', .int .i64 (keepE l x s)]) ∧ Many Ro.cells 8 w' (fun i => D i ∨ w.heap.size ≤ i) v' (keepL l x s a) ∧ Keep noneOf w w' := by
  obtain ⟨A, c, rfl⟩ := h.shape
  have HH := Lib.hid h
  have HF := Lib.hid hf
  have HP := Lib.hid hp
  have HL : Hid (∀ o, Calls Try.prog 19 #[.slice A l.length c, .int .u64 x, .int .u64 s] (w.alloc o) fun e w' => e = .returned (.tuple #[(lookA l x s).agg, .bool (lookB l x s), .int .i64 (lookE l x s)]) ∧ Keep noneOf (w.alloc o) w') := Lib.hid fun o => refLook_any _ D _ l x s (h.keep ((Keep.refl noneOf w).alloc o) (fun _ _ _ => id))
  obtain ⟨ac, ai, at_, au, ag, am⟩ := a
  have HB0 := Lib.hid (Box.new w 32 #[.int .i64 ac, .int .u64 ai, .int .u64 at_, .int .u64 au, .string ag, .string am])
  unfold An.agg at HL ⊢
  dsimp only at HL ⊢
  clear h hf hp
  generalize lookA l x s = B at *
  obtain ⟨bc, bi, bt, bu, bg, bm⟩ := B
  by_cases he : lookE l x s = 0
  · cases hbb : lookB l x s with
    | true =>
      have e1 : keepE l x s = 111 := by unfold keepE; rw [if_neg (fun h => h he), hbb]; rfl
      have e2 : keepL l x s ⟨ac, ai, at_, au, ag, am⟩ = l := by unfold keepL; rw [e1]; rfl
      rw [e1, e2]
      rw [hbb, he] at HL
      clear e1 e2 he hbb
      go_enter Try.func20, Try.ntmps20
      go_wp2_with fail
      refine (HL.out _).mono ?_
      rintro e w1 ⟨rfl, k1⟩
      have HK := Lib.hid ((((Keep.refl noneOf w).alloc _).trans k1 (fun _ _ h => h)).alloc (.cells #[.int .i64 bc, .int .u64 bi, .int .u64 bt, .int .u64 bu, .string bg, .string bm] 32))
      clear k1 HL
      go_wp2
      exact bodyPost_ret (v := .tuple #[.slice A l.length c, .int .i64 111]) (by simp [results, Try.results20, go_sem]) rfl ⟨_, rfl, (HH.out.keep HK.out (fun _ _ _ => id)).mono (fun i _ h => .inl h), HK.out⟩
    | false =>
      have e1 : keepE l x s = 0 := by unfold keepE; rw [if_neg (fun h => h he), hbb]; rfl
      obtain ⟨r0, hr0, _⟩ := keep_ok e1
      obtain ⟨k, hat, hk⟩ := at_some hr0
      have hid := (findR_mem hr0).2
      have e2 : keepL l x s ⟨ac, ai, at_, au, ag, am⟩ = l.set k ⟨x, s, ⟨ac, ai, at_, au, ag, am⟩⟩ := by unfold keepL; rw [if_pos e1]; exact put_set HP.out hk hid
      rw [e1, e2]
      rw [hbb, he] at HL
      have hkl := (List.getElem?_eq_some_iff.1 hk).1
      have HAT : Hid (∀ (w' : World), Many Ro.cells 8 w' D (.slice A l.length c) l → Calls Try.prog 25 #[.slice A l.length c, .int .u64 x] w' fun e w'' => e = .returned (.int .i64 (k : Int)) ∧ w'' = w') := Lib.hid fun w' hM => by
        have := at_any w' D _ l x hM
        rw [hat] at this
        exact this
      clear e1 e2 he hbb hr0 hat hk hid
      go_enter Try.func20, Try.ntmps20
      go_wp2_with fail
      refine (HL.out _).mono ?_
      rintro e w1 ⟨rfl, k1⟩
      have HK1 := Lib.hid (((Keep.refl noneOf w).alloc _).trans k1 (fun _ _ h => h))
      have HB1 := Lib.hid (HB0.out.keep k1 id)
      clear k1 HL HB0
      go_upto_region 6 with fail
      have hK2 := HK1.out.alloc (.cells #[.int .i64 bc, .int .u64 bi, .int .u64 bt, .int .u64 bu, .string bg, .string bm] 32)
      have hB2 := HB1.out.alloc (.cells #[.int .i64 bc, .int .u64 bi, .int .u64 bt, .int .u64 bu, .string bg, .string bm] 32)
      generalize w1.alloc (.cells #[.int .i64 bc, .int .u64 bi, .int .u64 bt, .int .u64 bu, .string bg, .string bm] 32) = w2 at *
      have HK2 := Lib.hid hK2
      have HB2 := Lib.hid hB2
      have HE2 : Hid ((w2.alloc (.cells #[] 58)).ownsRow w2.heap.size 58 8 (.slice (some ⟨w2.heap.size, 0, none⟩) 0 0) ([] : List Ro).length (([] : List Ro).flatMap Ro.cells)) := Lib.hid ⟨rfl, .inr ⟨_, 0, #[], rfl, Nat.le_refl _, Box.new w2 _ _, Nat.le_refl _, Nat.zero_le _, rfl, rfl⟩⟩
      clear hK2 hB2 HK1 HB1
      go_upto_region 7 with (first
        | (at_builtin; refine wpList_append_ros _ rfl _ _ rfl w2.heap.size (.slice (some ⟨w2.heap.size, 0, none⟩) 0 0) _ [] l D rfl rfl HE2.out (HH.out.keep (HK2.out.alloc _) (fun _ _ _ => id)) (by have := HF.out; simp; omega) (by simp) ?_; intro v3 w3 hown3 hg3 _; rw [List.nil_append] at hown3; have HO3 := Lib.hid hown3; have HG3 := Lib.hid ((((Keep.refl noneOf w2).alloc (.cells #[] 58)).trans (Keep.of_grown hg3) (fun i hi e => by have e2 : i = w2.heap.size := (by simpa [Value.ownBlock] using e); omega))); clear hown3 hg3)
        | fail)
      have hlen : l.length = (l.length - 1) + 1 := by omega
      have hown := HO3.out
      obtain ⟨hxl, ⟨_, hz0⟩ | ⟨g, cap, cur, rfl, hgb, hgh, hnc, hcm, hsz, htk⟩⟩ := hown
      · omega
      have HG : Hid (¬ w.heap.size = g ∧ w.heap.size ≤ g) := Lib.hid (by have h1 := HB2.out.lt; have h2 := HK2.out.size; omega)
      have HBX := Lib.hid (show Box w3 g 58 cur from hgh)
      have HIN := Lib.hid (And.intro hsz (And.intro hnc (And.intro hcm htk)))
      have HK3 := Lib.hid (HK2.out.trans HG3.out (fun _ _ h => h))
      have HB3 := Lib.hid (HB2.out.keep HG3.out id)
      clear hxl hgb hgh hnc hcm hsz htk hlen HO3 HG3 HK2 HB2 HE2
      have MC : Hid (∀ w', Keep (fun i => i = g) w3 w' → _) := Lib.hid fun w' k' => And.intro ((HB3.out.keep k' HG.out.1).cell 0) (And.intro ((HB3.out.keep k' HG.out.1).cell 1) (And.intro ((HB3.out.keep k' HG.out.1).cell 2) (And.intro ((HB3.out.keep k' HG.out.1).cell 3) (And.intro ((HB3.out.keep k' HG.out.1).cell 4) ((HB3.out.keep k' HG.out.1).cell 5)))))
      have MD : Hid (∀ w', Keep (fun i => i = g) w3 w' → Many Ro.cells 8 w' D (.slice A l.length c) l) := Lib.hid fun w' k' => HH.out.keep (HK3.out.trans k' (T := fun i => i = g) (S := noneOf) (fun i hi e => by have := HG.out.2; omega)) (fun _ _ _ => id)
      have q0 : (0 : Int) ≤ (k : Int) := by omega
      have q1 : (k : Int) < (l.length : Int) := by omega
      have KD : Keep (fun i => i = g) w3 w3.drew := (Keep.refl (fun i => i = g) w3).drew
      refine wp_region_held_drew (S := fun w' => Keep (fun i => i = g) w3 w') (by kernel_rfl) KD (fun hHeld => ?_)
      refine' wpAnyH_take (i := 0) (v := _) rfl (by kernel_rfl) (by kernel_rfl) (by kernel_rfl) (fun _ _ _ h => h) (Or.inl ⟨by kernel_rfl, ?hy0⟩) (by assumption) ?_
      case hy0 => intro w' hSw; obtain ⟨_, _, _, _, _, _⟩ := MC.out w' hSw; go_simp; try with_reducible rfl
      simp only [Act.put, List.getElem_toArray, List.getElem_cons_zero, List.getElem_cons_succ, List.setIfInBounds_toArray, List.set_cons_zero, List.set_cons_succ]
      refine' wpAnyH_take (i := 1) (v := _) rfl (by kernel_rfl) (by kernel_rfl) (by kernel_rfl) (fun _ _ _ h => h) (Or.inl ⟨by kernel_rfl, ?hy1⟩) (by assumption) ?_
      case hy1 => intro w' hSw; obtain ⟨_, _, _, _, _, _⟩ := MC.out w' hSw; go_simp; try with_reducible rfl
      simp only [Act.put, List.getElem_toArray, List.getElem_cons_zero, List.getElem_cons_succ, List.setIfInBounds_toArray, List.set_cons_zero, List.set_cons_succ]
      refine' wpAnyH_take (i := 2) (v := _) rfl (by kernel_rfl) (by kernel_rfl) (by kernel_rfl) (fun _ _ _ h => h) (Or.inl ⟨by kernel_rfl, ?hy2⟩) (by assumption) ?_
      case hy2 => intro w' hSw; obtain ⟨_, _, _, _, _, _⟩ := MC.out w' hSw; go_simp; try with_reducible rfl
      simp only [Act.put, List.getElem_toArray, List.getElem_cons_zero, List.getElem_cons_succ, List.setIfInBounds_toArray, List.set_cons_zero, List.set_cons_succ]
      refine' wpAnyH_take (i := 4) (v := _) rfl (by kernel_rfl) (by kernel_rfl) (by kernel_rfl) (fun _ _ _ h => h) (Or.inl ⟨by kernel_rfl, ?hy4⟩) (by assumption) ?_
      case hy4 => intro w' hSw; obtain ⟨_, _, _, _, _, _⟩ := MC.out w' hSw; go_simp; try with_reducible rfl
      simp only [Act.put, List.getElem_toArray, List.getElem_cons_zero, List.getElem_cons_succ, List.setIfInBounds_toArray, List.set_cons_zero, List.set_cons_succ]
      refine' wpAnyH_take (i := 5) (v := _) rfl (by kernel_rfl) (by kernel_rfl) (by kernel_rfl) (fun _ _ _ h => h) (Or.inl ⟨by kernel_rfl, ?hy5⟩) (by assumption) ?_
      case hy5 => intro w' hSw; obtain ⟨_, _, _, _, _, _⟩ := MC.out w' hSw; go_simp; try with_reducible rfl
      simp only [Act.put, List.getElem_toArray, List.getElem_cons_zero, List.getElem_cons_succ, List.setIfInBounds_toArray, List.set_cons_zero, List.set_cons_succ]
      refine' wpAnyH_take (i := 6) (v := _) rfl (by kernel_rfl) (by kernel_rfl) (by kernel_rfl) (fun _ _ _ h => h) (Or.inl ⟨by kernel_rfl, ?hy6⟩) (by assumption) ?_
      case hy6 => intro w' hSw; obtain ⟨_, _, _, _, _, _⟩ := MC.out w' hSw; go_simp; try with_reducible rfl
      simp only [Act.put, List.getElem_toArray, List.getElem_cons_zero, List.getElem_cons_succ, List.setIfInBounds_toArray, List.set_cons_zero, List.set_cons_succ]
      refine' wpAnyH_take (i := 7) (v := _) rfl (by kernel_rfl) (by kernel_rfl) (by kernel_rfl) (fun _ _ _ h => h) (Or.inl ⟨by kernel_rfl, ?hy7⟩) (by assumption) ?_
      case hy7 => intro w' hSw; obtain ⟨_, _, _, _, _, _⟩ := MC.out w' hSw; go_simp; try with_reducible rfl
      simp only [Act.put, List.getElem_toArray, List.getElem_cons_zero, List.getElem_cons_succ, List.setIfInBounds_toArray, List.set_cons_zero, List.set_cons_succ]
      refine wpAnyH_ready (rs := [3]) (by kernel_rfl) (by simp) (AllReadyH.cons rfl (fun K hK => ?_) AllReadyH.nil)
      go_simp
      go_at_call 25
      refine (HAT.out _ (MD.out _ KD)).mono ?_
      rintro e w' ⟨rfl, rfl⟩
      go_wp2_with fail
      refine hK.out _ _ hHeld (fun hHeld2 => ?_)
      clear hK K hHeld
      try simp only [Act.put, List.getElem_toArray, List.getElem_cons_zero, List.getElem_cons_succ, List.setIfInBounds_toArray, List.set_cons_zero, List.set_cons_succ]
      refine' wpAnyH_take (i := 8) (v := _) rfl (by kernel_rfl) (by kernel_rfl) (by kernel_rfl) (fun _ _ _ h => h) (Or.inl ⟨by kernel_rfl, ?hy8⟩) (by assumption) ?_
      case hy8 => intro w' hSw; obtain ⟨_, _, _, _, _, _⟩ := MC.out w' hSw; go_simp; try with_reducible rfl
      simp only [Act.put, List.getElem_toArray, List.getElem_cons_zero, List.getElem_cons_succ, List.setIfInBounds_toArray, List.set_cons_zero, List.set_cons_succ]
      refine wpAnyH_ready (rs := [9]) (by kernel_rfl) (by simp) (AllReadyH.cons rfl (fun K hK => ?_) AllReadyH.nil)
      obtain ⟨y0, y1, y2, y3, y4, y5, y6, y7, ⟨m0, m1, m2, m3, m4, m5, m6, m7⟩, f0, f1, f2, f3, f4, f5, f6, f7⟩ := row_open HBX.out (k := k) (by have := HIN.out.1; have := HIN.out.2.1; omega)
      go_simp
      have KS := (keep_sets w3 g k ⟨x, s, ⟨ac, ai, at_, au, ag, am⟩⟩).drew
      have HMS := Lib.hid (many_set (box_sets HBX.out k ⟨x, s, ⟨ac, ai, at_, au, ag, am⟩⟩) HIN.out.1 HIN.out.2.1 HIN.out.2.2.1 HIN.out.2.2.2 hkl)
      refine hK.out _ _ KS (fun _ => ?_)
      have HKF := Lib.hid (HK3.out.trans KS (T := fun i => i = g) (S := noneOf) (fun i hi e => by have := HG.out.2; omega))
      have HMF := Lib.hid (HMS.out.keep (Keep.refl noneOf _).drew (fun _ _ _ => id))
      clear hK K hHeld2 KS HMS m0 m1 m2 m3 m4 m5 m6 m7 f0 f1 f2 f3 f4 f5 f6 f7
      refine wpAnyH_done (by kernel_rfl) ?_ _
      dsimp only at HKF HMF
      generalize World.drew _ = w9 at *
      go_wp2
      exact bodyPost_ret (v := .tuple #[.slice (some ⟨g, 0, none⟩) l.length cap, .int .i64 0]) (by simp [results, Try.results20, go_sem]) rfl ⟨_, rfl, HMF.out.mono (fun i _ e => .inr (by have := HG.out.2; omega)), HKF.out⟩
  · have e1 : keepE l x s = lookE l x s := by unfold keepE; rw [if_pos he]
    have e2 : keepL l x s ⟨ac, ai, at_, au, ag, am⟩ = l := by unfold keepL; rw [e1, if_neg he]
    rw [e1, e2]
    have g : (lookE l x s != 0) = true := bne_iff_ne.2 he
    clear e1 e2 he
    generalize lookE l x s = E at *
    generalize lookB l x s = bb at *
    go_enter Try.func20, Try.ntmps20
    go_wp2_with fail
    refine (HL.out _).mono ?_
    rintro e w1 ⟨rfl, k1⟩
    have HK := Lib.hid ((((Keep.refl noneOf w).alloc _).trans k1 (fun _ _ h => h)).alloc (.cells #[.int .i64 bc, .int .u64 bi, .int .u64 bt, .int .u64 bu, .string bg, .string bm] 32))
    clear k1 HL
    go_wp2
    exact bodyPost_ret (v := .tuple #[.slice A l.length c, .int .i64 E]) (by simp [results, Try.results20, go_sem]) rfl ⟨_, rfl, (HH.out.keep HK.out (fun _ _ _ => id)).mono (fun i _ h => .inl h), HK.out⟩
end Go.Proofs.Ytimnehgonlohcaa
