import Derived.Test.YtffoeodjbbkdjaaGreatBs17
namespace Go.Proofs.YtffoeodjbbkdjaaGreat
theorem settle_iff {ps : List Pt} {l : List Pst} (hq : grCheck ps = 0) (hl : l.length = ps.length) : grSettle ps l = l ↔ ∀ (i : Nat) (x : Pst), l[i]? = some x → x.s = 0 → outc (needSt ps l i) = 0 := by
 constructor
 ·
  intro h i x hx h0
  have hi : i < ps.length := by rw [← hl]; exact (List.getElem?_eq_some_iff.1 hx).1
  have hs := grSettle_sol hq hl i hi
  rw [h, hx] at hs
  injection hs with hs
  refine Classical.byContradiction fun hne => ?_
  unfold settleAt at hs
  have hg : l.getD i Pst.zero = x := by rw [List.getD_eq_getElem?_getD, hx]; rfl
  rw [hg, if_pos ⟨h0, hne⟩] at hs
  rw [hs] at h0
  exact hne h0
 ·
  intro h
  refine (grSettle_only hq hl hl (fun p hp => ?_)).symm
  have hx : l[p]? = some (l[p]'(by omega)) := List.getElem?_eq_getElem (by omega)
  have hg : l.getD p Pst.zero = l[p]'(by omega) := by rw [List.getD_eq_getElem?_getD, hx]; rfl
  unfold settleAt
  rw [hg, if_neg (fun hh => hh.2 (h p _ hx hh.1))]
  exact hx
theorem outc_same {ss tt : List Int} (hl : ss.length = tt.length) (h : ∀ (i : Nat) (s t : Int), ss[i]? = some s → tt[i]? = some t → lostS s = lostS t ∧ (s == 3) = (t == 3)) : outc ss = outc tt := by
 have h1 : ss.any lostS = tt.any lostS ∧ ss.all (fun s => s == 3) = tt.all (fun s => s == 3) := by
  induction ss generalizing tt with
  | nil =>
   cases tt with
   | nil => exact ⟨rfl, rfl⟩
   | cons _ _ => cases hl
  | cons a ss ih =>
   cases tt with
   | nil => cases hl
   | cons b tt =>
    have h0 := h 0 a b rfl rfl
    have hr := ih (tt := tt) (by simpa using hl) (fun i s t hs ht => h (i + 1) s t (by simpa using hs) (by simpa using ht))
    simp only [List.any_cons, List.all_cons]
    rw [h0.1, h0.2, hr.1, hr.2]
    exact ⟨rfl, rfl⟩
 unfold outc
 rw [h1.1, h1.2]
theorem settled_like {ps : List Pt} {l m : List Pst} (hq : grCheck ps = 0) (hl : l.length = ps.length) (hm : m.length = ps.length) (hs : grSettle ps l = l)
  (h : ∀ (i : Nat) (x y : Pst), l[i]? = some x → m[i]? = some y → (y.s = 0 → x.s = 0) ∧ lostS x.s = lostS y.s ∧ (x.s == 3) = (y.s == 3)) : grSettle ps m = m := by
 rw [settle_iff hq hm]
 rw [settle_iff hq hl] at hs
 intro i y hy h0
 have hi := (List.getElem?_eq_some_iff.1 hy).1
 have hx : l[i]? = some (l[i]'(by omega)) := List.getElem?_eq_getElem (by omega)
 have := hs i _ hx ((h i _ y hx hy).1 h0)
 rw [← this]
 unfold needSt
 refine outc_same (by rw [List.length_map, List.length_map]) (fun j s t hsj htj => ?_)
 rw [List.getElem?_map] at hsj htj
 cases hn : (needsAt ps (i : Int))[j]? with
 | none => rw [hn] at hsj; cases hsj
 | some n =>
  rw [hn] at hsj htj
  simp only [Option.map_some, Option.some.injEq] at hsj htj
  subst hsj htj
  by_cases hnl : n < ps.length
  ·
   have e1 : l[n]? = some (l[n]'(by omega)) := List.getElem?_eq_getElem (by omega)
   have e2 : m[n]? = some (m[n]'(by omega)) := List.getElem?_eq_getElem (by omega)
   have := h n _ _ e1 e2
   rw [List.getD_eq_getElem?_getD, List.getD_eq_getElem?_getD, e1, e2]
   exact ⟨this.2.1.symm, this.2.2.symm⟩
  ·
   rw [List.getD_eq_getElem?_getD, List.getD_eq_getElem?_getD, List.getElem?_eq_none (by omega), List.getElem?_eq_none (by omega)]
   exact ⟨rfl, rfl⟩
theorem settled_none {ps : List Pt} {l : List Pst} (hq : grCheck ps = 0) (hl : l.length = ps.length) (h : ∀ x ∈ l, x.s ≠ 0) : grSettle ps l = l := by
 rw [settle_iff hq hl]
 intro i x hx h0
 exact absurd h0 (h x (List.mem_of_getElem? hx))
theorem settle_twice (ps : List Pt) (l : List Pst) (hq : grCheck ps = 0) (hl : l.length = ps.length) : grSettle ps (grSettle ps l) = grSettle ps l := by
 have hR : (grSettle ps l).length = ps.length := by rw [grSettle_length (by rw [order_len hq, hl]), hl]
 rw [settle_iff hq hR]
 intro i x h hx
 have hi : i < ps.length := by rw [← hR]; exact (List.getElem?_eq_some_iff.1 h).1
 rw [grSettle_sol hq hl i hi] at h
 injection h with h
 generalize grSettle ps l = R at *
 refine Classical.byContradiction fun hne => ?_
 rw [← h] at hx
 unfold settleAt at hx
 split at hx
 ·
  exact hne hx
 ·
  rename_i hn
  exact hn ⟨hx, hne⟩
theorem settle_from {ps : List Pt} {l : List Pst} (hq : grCheck ps = 0) (hl : l.length = ps.length) {i : Nat} {y : Pst} (h : (grSettle ps l)[i]? = some y) : l[i]? = some y ∨ ((y.s = 5 ∨ y.s = 1) ∧ y.t = 0 ∧ y.u = 0 ∧ ∃ x, l[i]? = some x ∧ x.s = 0) := by
 have hR : (grSettle ps l).length = ps.length := by rw [grSettle_length (by rw [order_len hq, hl]), hl]
 have hi : i < ps.length := by rw [← hR]; exact (List.getElem?_eq_some_iff.1 h).1
 rw [grSettle_sol hq hl i hi] at h
 injection h with h
 have hx : l[i]? = some (l[i]'(by omega)) := List.getElem?_eq_getElem (by omega)
 have hg : l.getD i Pst.zero = l[i]'(by omega) := by rw [List.getD_eq_getElem?_getD, hx]; rfl
 unfold settleAt at h
 rw [hg] at h
 split at h
 ·
  rename_i hc
  right
  rw [← h]
  have := outc_range (needSt ps (grSettle ps l) i)
  exact ⟨by rcases this with e | e | e; exact .inl e; exact .inr e; exact absurd e hc.2, rfl, rfl, _, hx, hc.1⟩
 ·
  left
  rw [← h]
  exact hx
theorem toks_sub : ∀ {l m : List Pst}, l.length = m.length → (∀ (i : Nat) (y : Pst), m[i]? = some y → y.s = 2 → ∃ x, l[i]? = some x ∧ x.s = 2 ∧ x.t = y.t) → (toksOf m).Sublist (toksOf l)
 | [], [], _, _ => List.Sublist.refl _
 | [], _ :: _, h, _ => by cases h
 | _ :: _, [], h, _ => by cases h
 | x :: l, y :: m, hl, h => by
  have ih := toks_sub (l := l) (m := m) (by simpa using hl) (fun i z hz h2 => by
   have := h (i + 1) z (by simpa using hz) h2
   simpa using this)
  unfold toksOf at ih ⊢
  rw [List.filter_cons, List.filter_cons]
  by_cases hy : y.s = 2
  ·
   obtain ⟨x', e, hx, ht⟩ := h 0 y rfl hy
   have e' : x = x' := by simpa using e
   subst e'
   rw [if_pos (by simpa using hy), if_pos (by simpa using hx), List.map_cons, List.map_cons, ht]
   exact ih.cons_cons _
  ·
   rw [if_neg (by simpa using hy)]
   split
   ·
    rw [List.map_cons]
    exact ih.cons _
   ·
    exact ih
theorem toks_sub_gs : ∀ {gs hs : List Gq}, gs.length = hs.length → (∀ (i : Nat) (g h : Gq), gs[i]? = some g → hs[i]? = some h → (toksOf h.st).Sublist (toksOf g.st)) → (hs.flatMap (fun g => toksOf g.st)).Sublist (gs.flatMap (fun g => toksOf g.st))
 | [], [], _, _ => List.Sublist.refl _
 | [], _ :: _, h, _ => by cases h
 | _ :: _, [], h, _ => by cases h
 | g :: gs, h :: hs, hl, hh => by
  rw [List.flatMap_cons, List.flatMap_cons]
  exact (hh 0 g h rfl rfl).append (toks_sub_gs (by simpa using hl) (fun i a b ha hb => hh (i + 1) a b (by simpa using ha) (by simpa using hb)))
end Go.Proofs.YtffoeodjbbkdjaaGreat
namespace Go.Proofs.YtffoeodjbbkdjaaGreat
theorem first_some {f : Gq → Option Nat} : ∀ {gs : List Gq} {i j k : Nat}, firstG f gs i = some (j, k) → i ≤ j ∧ ∃ g, gs[j - i]? = some g ∧ f g = some k
 | [], i, j, k, h => by cases h
 | g :: gs, i, j, k, h => by
  unfold firstG at h
  cases hg : f g with
  | some n =>
   rw [hg] at h
   injection h with h
   injection h with h1 h2
   subst h1 h2
   exact ⟨Nat.le_refl _, g, by simp, hg⟩
  | none =>
   rw [hg] at h
   obtain ⟨h1, g', h2, h3⟩ := first_some h
   refine ⟨by omega, g', ?_, h3⟩
   rw [show j - i = (j - (i + 1)) + 1 from by omega, List.getElem?_cons_succ]
   exact h2
theorem first_zero {f : Gq → Option Nat} {gs : List Gq} {j k : Nat} (h : firstG f gs 0 = some (j, k)) : ∃ g, gs[j]? = some g ∧ f g = some k := by
 obtain ⟨_, g, h2, h3⟩ := first_some h
 exact ⟨g, h2, h3⟩
theorem getD_some {gs : List Gq} {i : Nat} {g : Gq} (h : gs[i]? = some g) : gs.getD i noG = g := by
 rw [List.getD_eq_getElem?_getD, h]
 rfl
theorem getS_some {l : List Pst} {i : Nat} {x : Pst} (h : l[i]? = some x) : l.getD i Pst.zero = x := by
 rw [List.getD_eq_getElem?_getD, h]
 rfl
theorem findIdx_at {α : Type} {f : α → Bool} {l : List α} {k : Nat} (h : l.findIdx? f = some k) : ∃ x, l[k]? = some x ∧ f x = true := by
 obtain ⟨hk, h1, _⟩ := List.findIdx?_eq_some_iff_getElem.1 h
 exact ⟨l[k], List.getElem?_eq_getElem hk, h1⟩
theorem withG_at (q : Qp) (i : Nat) (l : List Pst) (j : Nat) : (withG q i l).gs[j]? = if i = j then (q.gs[j]?).map (fun g => { g with st := l }) else q.gs[j]? := by
 unfold withG
 show (q.gs.modify i _)[j]? = _
 rw [List.getElem?_modify]
 by_cases h : i = j
 ·
  rw [if_pos h]
  subst h
  cases q.gs[i]? <;> simp
 ·
  rw [if_neg h]
  cases q.gs[j]? <;> simp [h]
theorem up_of {gs hs : List Gq} (h : gs.Pairwise (fun a b => a.id < b.id)) (hl : hs.length = gs.length) (hh : ∀ (j : Nat) (b : Gq), hs[j]? = some b → ∃ a, gs[j]? = some a ∧ a.id = b.id) : hs.Pairwise (fun a b => a.id < b.id) := by
 rw [List.pairwise_iff_getElem] at h ⊢
 intro i j hi hj hij
 obtain ⟨a, ha, ea⟩ := hh i _ (List.getElem?_eq_getElem hi)
 obtain ⟨b, hb, eb⟩ := hh j _ (List.getElem?_eq_getElem hj)
 have h1 := h i j (by omega) (by omega) hij
 rw [List.getElem?_eq_getElem (by omega)] at ha hb
 injection ha with ha
 injection hb with hb
 rw [← ea, ← eb, ← ha, ← hb]
 exact h1
theorem inv_with {q : Qp} (h : Inv q) {i : Nat} {g : Gq} (hg : q.gs[i]? = some g) {l : List Pst} (hok : GqOk q.ng q.nt q.now { g with st := l }) (ht : (toksOf l).Sublist (toksOf g.st)) : Inv (withG q i l) := by
 have hlen : (withG q i l).gs.length = q.gs.length := by unfold withG; simp
 refine ⟨h.now0, h.ng, h.nt, h.sesUp, h.sesIn, h.sesFew, by rw [hlen]; exact h.gsFew, ?_, ?_, ?_, h.bltFew, h.bltNo⟩
 ·
  refine up_of h.gsUp hlen (fun j b hb => ?_)
  rw [withG_at] at hb
  split at hb
  ·
   rename_i e
   subst e
   rw [hg] at hb
   simp at hb
   exact ⟨g, hg, by rw [← hb]⟩
  ·
   exact ⟨b, hb, rfl⟩
 ·
  intro b hb
  obtain ⟨j, hj⟩ := List.getElem?_of_mem hb
  rw [withG_at] at hj
  split at hj
  ·
   rename_i e
   subst e
   rw [hg] at hj
   simp at hj
   rw [← hj]
   exact hok
  ·
   exact h.gsIn b (List.mem_of_getElem? hj)
 ·
  refine List.Sublist.nodup ?_ h.toks
  refine toks_sub_gs hlen.symm (fun j a b ha hb => ?_)
  rw [withG_at] at hb
  split at hb
  ·
   rename_i e
   subst e
   rw [hg] at ha
   injection ha with ha
   subst ha
   rw [hg] at hb
   simp at hb
   rw [← hb]
   exact ht
  ·
   rw [ha] at hb
   injection hb with hb
   subst hb
   exact List.Sublist.refl _
theorem set_at (l : List Pst) (n : Nat) (y : Pst) (i : Nat) (z : Pst) (h : (l.set n y)[i]? = some z) : (i = n ∧ z = y ∧ n < l.length) ∨ (i ≠ n ∧ l[i]? = some z) := by
 rw [List.getElem?_set] at h
 split at h
 ·
  rename_i e
  split at h
  ·
   rename_i hl
   injection h with h
   exact .inl ⟨e.symm, h.symm, hl⟩
  ·
   cases h
 ·
  rename_i e
  exact .inr ⟨fun x => e x.symm, h⟩
theorem StOk.more {nt nt' now : Int} {x : Pst} (h : StOk nt now x) (hn : nt ≤ nt') : StOk nt' now x := ⟨h.1, h.2.1, fun e => by have := h.2.2 e; omega⟩
theorem ok_set {ng nt now : Int} {g : Gq} (h : GqOk ng nt now g) {n : Nat} {y : Pst} (hy : StOk nt now y) (hs : grSettle g.ps (g.st.set n y) = g.st.set n y) : GqOk ng nt now { g with st := g.st.set n y } := by
 obtain ⟨h1, h2, h3, h4, h5, h6⟩ := h
 refine ⟨h1, h2, h3, by simpa using h4, hs, fun z hz => ?_⟩
 obtain ⟨i, hi⟩ := List.getElem?_of_mem hz
 rcases set_at _ _ _ _ _ hi with ⟨_, rfl, _⟩ | ⟨_, hi⟩
 ·
  exact hy
 ·
  exact h6 z (List.mem_of_getElem? hi)
theorem settled_set {ng nt now : Int} {g : Gq} (h : GqOk ng nt now g) {n : Nat} {x y : Pst} (hx : g.st[n]? = some x) (h0 : y.s = 0 → x.s = 0) (hl : lostS x.s = lostS y.s) (h3 : (x.s == 3) = (y.s == 3)) : grSettle g.ps (g.st.set n y) = g.st.set n y := by
 obtain ⟨_, _, hq, hlen, hs, _⟩ := h
 refine settled_like hq hlen (by simpa using hlen) hs (fun i a b ha hb => ?_)
 rcases set_at _ _ _ _ _ hb with ⟨rfl, rfl, _⟩ | ⟨_, hi⟩
 ·
  rw [hx] at ha
  injection ha with ha
  subst ha
  exact ⟨h0, hl, h3⟩
 ·
  rw [hi] at ha
  injection ha with ha
  subst ha
  exact ⟨id, rfl, rfl⟩
theorem held_is {x : Pst} {tok now : Int} (h : holdsB x tok now = true) : x.s = 2 ∧ x.t = tok ∧ tok ≠ 0 ∧ now < x.u := by
 unfold holdsB at h
 simp only [Bool.and_eq_true, beq_iff_eq, bne_iff_ne, ne_eq, decide_eq_true_eq] at h
 exact ⟨h.1.1.1, h.1.1.2, h.1.2, h.2⟩
theorem held_some {q : Qp} {tok : Int} {i n : Nat} (h : heldAt q tok = some (i, n)) : ∃ g x, q.gs[i]? = some g ∧ g.st[n]? = some x ∧ holdsB x tok q.now = true := by
 obtain ⟨g, hg, hf⟩ := first_zero h
 obtain ⟨x, hx, hh⟩ := findIdx_at hf
 exact ⟨g, x, hg, hx, hh⟩
theorem ready_some {q : Qp} {i n : Nat} (h : readyAt q = some (i, n)) : ∃ g x, q.gs[i]? = some g ∧ g.st[n]? = some x ∧ x.s = 1 := by
 obtain ⟨g, hg, hf⟩ := first_zero h
 obtain ⟨x, hx, hh⟩ := findIdx_at hf
 exact ⟨g, x, hg, hx, by simpa using hh⟩
theorem ok_settle {ng nt now : Int} {g : Gq} (h : GqOk ng nt now g) {n : Nat} {y : Pst} (hy : StOk nt now y) : GqOk ng nt now { g with st := grSettle g.ps (g.st.set n y) } := by
 obtain ⟨h1, h2, h3, h4, h5, h6⟩ := h
 have hl : (g.st.set n y).length = g.ps.length := by simpa using h4
 refine ⟨h1, h2, h3, ?_, settle_twice _ _ h3 hl, fun z hz => ?_⟩
 ·
  show (grSettle g.ps (g.st.set n y)).length = g.ps.length
  rw [grSettle_length (by rw [order_len h3, hl]), hl]
 ·
  obtain ⟨i, hi⟩ := List.getElem?_of_mem hz
  rcases settle_from h3 hl hi with hi | ⟨hs, ht, hu, _⟩
  ·
   rcases set_at _ _ _ _ _ hi with ⟨_, rfl, _⟩ | ⟨_, hi⟩
   ·
    exact hy
   ·
    exact h6 z (List.mem_of_getElem? hi)
  ·
   exact ⟨by omega, fun _ => ⟨ht, hu⟩, fun e => by omega⟩
theorem toks_settle {ng nt now : Int} {g : Gq} (h : GqOk ng nt now g) {n : Nat} {y : Pst} (hy : y.s ≠ 2) : (toksOf (grSettle g.ps (g.st.set n y))).Sublist (toksOf g.st) := by
 obtain ⟨_, _, h3, h4, _, _⟩ := h
 have hl : (g.st.set n y).length = g.ps.length := by simpa using h4
 refine toks_sub (by rw [grSettle_length (by rw [order_len h3, hl]), hl, h4]) (fun i z hz h2 => ?_)
 rcases settle_from h3 hl hz with hi | ⟨hs, _⟩
 ·
  rcases set_at _ _ _ _ _ hi with ⟨_, rfl, _⟩ | ⟨_, hi⟩
  ·
   exact absurd h2 hy
  ·
   exact ⟨z, hi, h2, rfl⟩
 ·
  omega
end Go.Proofs.YtffoeodjbbkdjaaGreat
namespace Go.Proofs.YtffoeodjbbkdjaaGreat
theorem toksG_app (a b : List Gq) : toksG (a ++ b) = toksG a ++ toksG b := by unfold toksG; rw [List.flatMap_append]
theorem tok_of {q : Qp} (h : Inv q) {t : Int} (ht : t ∈ toksG q.gs) : 0 < t ∧ t < q.nt := by
 unfold toksG at ht
 obtain ⟨g, hg, h1⟩ := List.mem_flatMap.1 ht
 unfold toksOf at h1
 obtain ⟨x, hx, rfl⟩ := List.mem_map.1 h1
 obtain ⟨hx1, hx2⟩ := List.mem_filter.1 hx
 have := (h.gsIn g hg).2.2.2.2.2 x hx1
 have := this.2.2 (by simpa using hx2)
 omega
theorem toks_new {gs : List Gq} {i n : Nat} {g : Gq} {x y : Pst} (hg : gs[i]? = some g) (hx : g.st[n]? = some x) (h1 : x.s ≠ 2) (h2 : y.s = 2) (hn : (toksG gs).Nodup) (hy : y.t ∉ toksG gs) : (toksG (gs.modify i (fun g => { g with st := g.st.set n y }))).Nodup := by
 have hil := (List.getElem?_eq_some_iff.1 hg).1
 have hnl := (List.getElem?_eq_some_iff.1 hx).1
 have e1 : gs = gs.take i ++ g :: gs.drop (i + 1) := by
  have := (List.getElem?_eq_some_iff.1 hg).2
  rw [← this, List.getElem_cons_drop, List.take_append_drop]
 have e2 : gs.modify i (fun g => { g with st := g.st.set n y }) = gs.take i ++ { g with st := g.st.set n y } :: gs.drop (i + 1) := by
  rw [List.modify_eq_take_cons_drop hil]
  have := (List.getElem?_eq_some_iff.1 hg).2
  rw [this]
 have e3 : g.st = g.st.take n ++ x :: g.st.drop (n + 1) := by
  have := (List.getElem?_eq_some_iff.1 hx).2
  rw [← this, List.getElem_cons_drop, List.take_append_drop]
 have e4 : g.st.set n y = g.st.take n ++ y :: g.st.drop (n + 1) := by
  rw [List.set_eq_take_append_cons_drop, if_pos hnl]
 have t1 : toksOf g.st = toksOf (g.st.take n) ++ toksOf (g.st.drop (n + 1)) := by
  conv => lhs; rw [e3]
  unfold toksOf
  rw [List.filter_append, List.filter_cons, if_neg (by simpa using h1), List.map_append]
 have t2 : toksOf (g.st.set n y) = toksOf (g.st.take n) ++ y.t :: toksOf (g.st.drop (n + 1)) := by
  rw [e4]
  unfold toksOf
  rw [List.filter_append, List.filter_cons, if_pos (by simpa using h2), List.map_append, List.map_cons]
 have t3 : toksG gs = toksG (gs.take i) ++ ((toksOf (g.st.take n) ++ toksOf (g.st.drop (n + 1))) ++ toksG (gs.drop (i + 1))) := by
  conv => lhs; rw [e1]
  rw [toksG_app]
  unfold toksG
  rw [List.flatMap_cons, t1]
 have t4 : toksG (gs.modify i (fun g => { g with st := g.st.set n y })) = toksG (gs.take i) ++ ((toksOf (g.st.take n) ++ y.t :: toksOf (g.st.drop (n + 1))) ++ toksG (gs.drop (i + 1))) := by
  rw [e2, toksG_app]
  unfold toksG
  rw [List.flatMap_cons, t2]
 have hp : (toksG (gs.modify i (fun g => { g with st := g.st.set n y }))).Perm (y.t :: toksG gs) := by
  rw [t4, t3]
  refine (List.Perm.append_left _ ((List.perm_middle).append_right _)).trans ?_
  rw [List.cons_append]
  exact List.perm_middle
 rw [hp.nodup_iff, List.nodup_cons]
 exact ⟨hy, hn⟩
theorem inv_submit {q : Qp} (h : Inv q) (c : Cq) : Inv (submitP q c).1 := by
 unfold submitP
 by_cases hq : grCheck c.ps = 0
 ·
  rw [if_neg (fun e => e hq)]
  by_cases hf : 16 ≤ q.gs.length ∨ q.ng = top
  ·
   rw [if_pos hf]
   exact h
  ·
   rw [if_neg hf]
   have hng := h.ng
   have hst : (grStart c.ps (grFresh c.ps (fun k => q.built.contains k))).length = c.ps.length ∧ ∀ x ∈ grStart c.ps (grFresh c.ps (fun k => q.built.contains k)), (x.s = 0 ∨ x.s = 1 ∨ x.s = 3 ∨ x.s = 5) ∧ x.t = 0 ∧ x.u = 0 := by
    generalize grFresh c.ps (fun k => q.built.contains k) = fs
    unfold grStart
    have hb : (stBegin c.ps.length fs).length = c.ps.length := by unfold stBegin; simp
    refine ⟨by rw [grSettle_length (by rw [order_len hq, hb]), hb], fun x hx => ?_⟩
    obtain ⟨i, hi⟩ := List.getElem?_of_mem hx
    rcases settle_from hq hb hi with hi | ⟨hs, ht, hu, _⟩
    ·
     unfold stBegin at hi
     rw [List.getElem?_map] at hi
     cases hr : (List.range c.ps.length)[i]? with
     | none => rw [hr] at hi; cases hi
     | some k =>
      rw [hr] at hi
      simp only [Option.map_some, Option.some.injEq] at hi
      subst hi
      refine ⟨?_, rfl, rfl⟩
      simp only
      split <;> simp
    ·
     exact ⟨by omega, ht, hu⟩
   have hset : grSettle c.ps (grStart c.ps (grFresh c.ps (fun k => q.built.contains k))) = grStart c.ps (grFresh c.ps (fun k => q.built.contains k)) := by
    unfold grStart
    exact settle_twice _ _ hq (by unfold stBegin; simp)
   generalize grStart c.ps (grFresh c.ps (fun k => q.built.contains k)) = l at *
   refine ⟨h.now0, ?_, h.nt, h.sesUp, h.sesIn, h.sesFew, ?_, ?_, ?_, ?_, h.bltFew, h.bltNo⟩
   ·
    show 1 ≤ q.ng + 1 ∧ q.ng + 1 ≤ top
    omega
   ·
    show (q.gs ++ [_]).length ≤ 16
    simp
    omega
   ·
    show (q.gs ++ [_]).Pairwise _
    rw [List.pairwise_append]
    refine ⟨h.gsUp, List.pairwise_singleton _ _, fun a ha b hb => ?_⟩
    rw [List.mem_singleton.1 hb]
    exact (h.gsIn a ha).2.1
   ·
    intro g hg
    rcases List.mem_append.1 hg with hg | hg
    ·
     obtain ⟨a1, a2, a3⟩ := h.gsIn g hg
     exact ⟨a1, Int.lt_trans a2 (Int.lt_succ _), a3⟩
    ·
     rw [List.mem_singleton.1 hg]
     refine ⟨by show 0 < q.ng; omega, Int.lt_succ _, hq, hst.1, hset, fun x hx => ?_⟩
     have := hst.2 x hx
     exact ⟨by omega, fun _ => this.2, fun e => by omega⟩
   ·
    show (toksG (q.gs ++ [_])).Nodup
    rw [toksG_app]
    have : toksG [(⟨q.ng, c.ps, l⟩ : Gq)] = [] := by
     unfold toksG toksOf
     rw [List.flatMap_cons, List.flatMap_nil, List.append_nil, List.map_eq_nil_iff, List.filter_eq_nil_iff]
     intro x hx
     have := hst.2 x hx
     simp
     omega
    rw [this, List.append_nil]
    exact h.toks
 ·
  rw [if_pos hq]
  exact h
theorem inv_claim {q : Qp} (h : Inv q) : Inv (claimP q).1 := by
 unfold claimP
 cases hr : readyAt q with
 | none => exact h
 | some p =>
  obtain ⟨i, n⟩ := p
  obtain ⟨g, x, hg, hx, hs⟩ := ready_some hr
  simp only
  rw [getD_some hg]
  have hnt := h.nt
  have hnow := h.now0
  by_cases hb : q.nt = top ∨ late < q.now
  ·
   have : granted q.nt q.now = (q.nt, Pst.zero, 101) := by unfold granted; rw [if_pos hb]
   rw [this, if_pos (show (101 : Int) ≠ 0 by decide)]
   exact h
  ·
   have hgr : granted q.nt q.now = (q.nt + 1, ⟨2, q.nt, q.now + 8⟩, 0) := by unfold granted; rw [if_neg hb]
   rw [hgr, if_neg (show ¬ (0 : Int) ≠ 0 by decide)]
   have hgok := h.gsIn g (List.mem_of_getElem? hg)
   have hle : q.now + 8 ≤ top := by unfold late at hb; unfold top; omega
   have hyok : StOk (q.nt + 1) q.now ⟨2, q.nt, q.now + 8⟩ := ⟨⟨show (0 : Int) ≤ 2 by decide, show (2 : Int) ≤ 6 by decide⟩, fun e => absurd rfl e, fun _ => ⟨by show 0 < q.nt; omega, Int.lt_succ _, by show q.now < q.now + 8; omega, hle⟩⟩
   have hlen : (withG q i (g.st.set n ⟨2, q.nt, q.now + 8⟩)).gs.length = q.gs.length := by unfold withG; simp
   have hmod : (withG q i (g.st.set n ⟨2, q.nt, q.now + 8⟩)).gs = q.gs.modify i (fun g => { g with st := g.st.set n ⟨2, q.nt, q.now + 8⟩ }) := by
    apply List.ext_getElem?
    intro j
    rw [withG_at, List.getElem?_modify]
    by_cases e : i = j
    ·
     subst e
     rw [if_pos rfl, hg]
     simp
    ·
     rw [if_neg e]
     cases q.gs[j]? <;> simp [e]
   refine ⟨h.now0, ?_, ?_, h.sesUp, h.sesIn, h.sesFew, by show (withG q i _).gs.length ≤ 16; rw [hlen]; exact h.gsFew, ?_, ?_, ?_, h.bltFew, h.bltNo⟩
   ·
    exact h.ng
   ·
    show 1 ≤ q.nt + 1 ∧ q.nt + 1 ≤ top
    omega
   ·
    show (withG q i _).gs.Pairwise _
    refine up_of h.gsUp hlen (fun j b hb => ?_)
    rw [withG_at] at hb
    split at hb
    ·
     rename_i e
     subst e
     rw [hg] at hb
     simp at hb
     exact ⟨g, hg, by rw [← hb]⟩
    ·
     exact ⟨b, hb, rfl⟩
   ·
    intro b hb
    have hb' : b ∈ (withG q i (g.st.set n ⟨2, q.nt, q.now + 8⟩)).gs := hb
    obtain ⟨j, hj⟩ := List.getElem?_of_mem hb'
    rw [withG_at] at hj
    split at hj
    ·
     rename_i e
     subst e
     rw [hg] at hj
     simp at hj
     rw [← hj]
     obtain ⟨a1, a2, a3, a4, a5, a6⟩ := hgok
     refine ok_set (ng := q.ng) (nt := q.nt + 1) (now := q.now) (g := g) ⟨a1, a2, a3, a4, a5, fun z hz => (a6 z hz).more (Int.le_of_lt (Int.lt_succ _))⟩ hyok ?_
     exact settled_set (h.gsIn g (List.mem_of_getElem? hg)) hx (fun e => by cases e) (by rw [hs]; rfl) (by rw [hs]; rfl)
    ·
     obtain ⟨a1, a2, a3, a4, a5, a6⟩ := h.gsIn b (List.mem_of_getElem? hj)
     exact ⟨a1, a2, a3, a4, a5, fun z hz => (a6 z hz).more (Int.le_of_lt (Int.lt_succ _))⟩
   ·
    show (toksG (withG q i _).gs).Nodup
    rw [hmod]
    exact toks_new hg hx (by rw [hs]; decide) rfl h.toks (fun ht => by have := (tok_of h ht).2; exact absurd this (Int.lt_irrefl _))
theorem inv_renew {q : Qp} (h : Inv q) (c : Cq) : Inv (renewP q c).1 := by
 unfold renewP
 cases hr : heldAt q c.tok with
 | none => exact h
 | some p =>
  obtain ⟨i, n⟩ := p
  obtain ⟨g, x, hg, hx, hh⟩ := held_some hr
  obtain ⟨hs, ht, h0, hu⟩ := held_is hh
  simp only
  rw [getD_some hg, getS_some hx]
  have hnow := h.now0
  have hok := h.gsIn g (List.mem_of_getElem? hg)
  have hxok := hok.2.2.2.2.2 x (List.mem_of_getElem? hx)
  by_cases hl : late < q.now
  ·
   have hrn : renewed x c.tok q.now = (Pst.zero, 101) := by unfold renewed; rw [hh, if_neg (by simp), if_pos hl]
   rw [hrn, if_pos (show (101 : Int) ≠ 0 by decide)]
   exact h
  ·
   have hrn : renewed x c.tok q.now = (⟨x.s, x.t, max x.u (q.now + 8)⟩, 0) := by unfold renewed; rw [hh, if_neg (by simp), if_neg hl]
   rw [hrn, if_neg (show ¬ (0 : Int) ≠ 0 by decide)]
   have h2 := hxok.2.2 hs
   have hle : q.now + 8 ≤ top := by unfold late at hl; unfold top; omega
   have hy : StOk q.nt q.now ⟨x.s, x.t, max x.u (q.now + 8)⟩ := ⟨hxok.1, fun e => absurd hs e, fun _ => ⟨h2.1, h2.2.1, by show q.now < max x.u (q.now + 8); omega, by show max x.u (q.now + 8) ≤ top; omega⟩⟩
   refine inv_with h hg (ok_set hok hy (settled_set hok hx id rfl rfl)) (toks_sub (by simp) (fun j z hz h2 => ?_))
   rcases set_at _ _ _ _ _ hz with ⟨rfl, rfl, _⟩ | ⟨_, hj⟩
   ·
    exact ⟨x, hx, hs, rfl⟩
   ·
    exact ⟨z, hj, h2, rfl⟩
theorem built_few {b : List Nat} {k : Nat} (h : b.length ≤ 256) : (builtP b k).length ≤ 256 := by
 unfold builtP
 split
 ·
  exact h
 ·
  rw [List.length_drop]
  omega
theorem built_no {b : List Nat} {k : Nat} (h : b.Nodup) : (builtP b k).Nodup := by
 unfold builtP
 split
 ·
  exact h
 ·
  rename_i hc
  refine List.Sublist.nodup (List.drop_sublist _ _) ?_
  rw [List.nodup_append]
  refine ⟨h, by simp, fun a ha c hcm => ?_⟩
  rw [List.mem_singleton.1 hcm]
  rintro rfl
  exact hc (by simpa using ha)
theorem inv_report {q : Qp} (h : Inv q) (c : Cq) : Inv (reportP q c).1 := by
 unfold reportP
 cases hr : heldAt q c.tok with
 | none => exact h
 | some p =>
  obtain ⟨i, n⟩ := p
  obtain ⟨g, x, hg, hx, hh⟩ := held_some hr
  simp only
  rw [getD_some hg]
  have hok := h.gsIn g (List.mem_of_getElem? hg)
  have hz : (if c.good = true then (3 : Int) else 4) = 3 ∨ (if c.good = true then (3 : Int) else 4) = 4 := by split <;> simp
  generalize (if c.good = true then (3 : Int) else 4) = z at *
  have hy : StOk q.nt q.now ⟨z, 0, 0⟩ := ⟨by show 0 ≤ z ∧ z ≤ 6; omega, fun _ => ⟨rfl, rfl⟩, fun e => by have e2 : z = 2 := e; omega⟩
  have hw := inv_with h hg (ok_settle (n := n) hok hy) (toks_settle hok (fun e => by have e2 : z = 2 := e; omega))
  split
  ·
   exact ⟨hw.now0, hw.ng, hw.nt, hw.sesUp, hw.sesIn, hw.sesFew, hw.gsFew, hw.gsUp, hw.gsIn, hw.toks, built_few h.bltFew, built_no h.bltNo⟩
  ·
   exact hw
theorem repl_pl {st : Int} {f : Pst → Bool} {l : List Pst} {i : Nat} {y : Pst} (h : (repl st f l)[i]? = some y) : ∃ x, l[i]? = some x ∧ y = if f x = true then ⟨st, 0, 0⟩ else x := by
 unfold repl at h
 rw [List.getElem?_map] at h
 cases hx : l[i]? with
 | none => rw [hx] at h; cases h
 | some x =>
  rw [hx] at h
  simp only [Option.map_some, Option.some.injEq] at h
  exact ⟨x, rfl, h.symm⟩
theorem repl_ln (st : Int) (f : Pst → Bool) (l : List Pst) : (repl st f l).length = l.length := by unfold repl; simp
theorem inv_cancel {q : Qp} (h : Inv q) (c : Cq) : Inv (cancelP q c).1 := by
 unfold cancelP
 cases hr : findG q c.id with
 | none => exact h
 | some i =>
  obtain ⟨g, hg, _⟩ := findIdx_at hr
  simp only
  rw [getD_some hg]
  split
  ·
   have hsub : (q.gs.eraseIdx i).Sublist q.gs := List.eraseIdx_sublist _ _
   refine ⟨h.now0, h.ng, h.nt, h.sesUp, h.sesIn, h.sesFew, Nat.le_trans hsub.length_le h.gsFew, h.gsUp.sublist hsub, fun b hb => h.gsIn b (hsub.subset hb), ?_, h.bltFew, h.bltNo⟩
   refine List.Sublist.nodup ?_ h.toks
   show (toksG (q.gs.eraseIdx i)).Sublist (toksG q.gs)
   unfold toksG
   have : ∀ {a b : List Gq}, a.Sublist b → (a.flatMap (fun g => toksOf g.st)).Sublist (b.flatMap (fun g => toksOf g.st)) := by
    intro a b hab
    induction hab with
    | slnil => exact List.Sublist.refl _
    | cons x _ ih => rw [List.flatMap_cons]; exact ih.trans (List.sublist_append_right _ _)
    | cons_cons x _ ih => rw [List.flatMap_cons, List.flatMap_cons]; exact List.Sublist.append (List.Sublist.refl _) ih
   exact this hsub
  ·
   have hok := h.gsIn g (List.mem_of_getElem? hg)
   obtain ⟨a1, a2, a3, a4, a5, a6⟩ := hok
   have hfin : ∀ x ∈ repl 6 (fun x => !finB x.s) g.st, finB x.s = true ∧ StOk q.nt q.now x := by
    intro y hy
    obtain ⟨j, hj⟩ := List.getElem?_of_mem hy
    obtain ⟨x, hx, e⟩ := repl_pl hj
    have hxo := a6 x (List.mem_of_getElem? hx)
    split at e
    ·
     subst e
     exact ⟨by decide, ⟨by decide, by decide⟩, fun _ => ⟨rfl, rfl⟩, fun e => by cases e⟩
    ·
     rename_i hf
     subst e
     exact ⟨by simpa using hf, hxo⟩
   refine inv_with h hg ⟨a1, a2, a3, by show (repl 6 _ g.st).length = _; rw [repl_ln]; exact a4, ?_, fun x hx => (hfin x hx).2⟩ (toks_sub (repl_ln ..).symm (fun j y hj h2 => ?_))
   ·
    refine settled_none a3 (by rw [repl_ln]; exact a4) (fun x hx h0 => ?_)
    have := (hfin x hx).1
    rw [h0] at this
    cases this
   ·
    have := (hfin y (List.mem_of_getElem? hj)).1
    rw [h2] at this
    cases this
theorem inv_expire {q : Qp} (h : Inv q) {t : Int} (ht : q.now < t) (ht2 : t ≤ top) : Inv { q with now := t, gs := q.gs.map (fun g => { g with st := repl 1 (pastB t) g.st }) } := by
 have hnow := h.now0
 refine ⟨by show 0 ≤ t ∧ t ≤ top; omega, h.ng, h.nt, h.sesUp, h.sesIn, h.sesFew, by simpa using h.gsFew, ?_, ?_, ?_, h.bltFew, h.bltNo⟩
 ·
  refine up_of h.gsUp (by simp) (fun j b hb => ?_)
  rw [List.getElem?_map] at hb
  cases hg : q.gs[j]? with
  | none => rw [hg] at hb; cases hb
  | some g =>
   rw [hg] at hb
   simp only [Option.map_some, Option.some.injEq] at hb
   exact ⟨g, rfl, by rw [← hb]⟩
 ·
  intro b hb
  obtain ⟨g, hg, rfl⟩ := List.mem_map.1 hb
  obtain ⟨a1, a2, a3, a4, a5, a6⟩ := h.gsIn g hg
  refine ⟨a1, a2, a3, by show (repl 1 _ g.st).length = _; rw [repl_ln]; exact a4, ?_, fun y hy => ?_⟩
  ·
   refine settled_like a3 a4 (by rw [repl_ln]; exact a4) a5 (fun i x y hx hy => ?_)
   obtain ⟨x', hx', e⟩ := repl_pl hy
   rw [hx] at hx'
   injection hx' with hx'
   subst hx'
   split at e
   ·
    rename_i hp
    unfold pastB at hp
    simp only [Bool.and_eq_true, beq_iff_eq] at hp
    subst e
    exact ⟨fun e => (by cases e), by rw [hp.1]; rfl, by rw [hp.1]; rfl⟩
   ·
    subst e
    exact ⟨id, rfl, rfl⟩
  ·
   obtain ⟨i, hi⟩ := List.getElem?_of_mem hy
   obtain ⟨x, hx, e⟩ := repl_pl hi
   have hxo := a6 x (List.mem_of_getElem? hx)
   split at e
   ·
    subst e
    exact ⟨⟨by decide, by decide⟩, fun _ => ⟨rfl, rfl⟩, fun e => by cases e⟩
   ·
    rename_i hp
    subst e
    refine ⟨hxo.1, hxo.2.1, fun h2 => ?_⟩
    have h3 := hxo.2.2 h2
    refine ⟨h3.1, h3.2.1, ?_, h3.2.2.2⟩
    unfold pastB at hp
    rw [h2] at hp
    simp at hp
    exact hp
 ·
  refine List.Sublist.nodup ?_ h.toks
  refine toks_sub_gs (by simp) (fun j g b hg hb => ?_)
  rw [List.getElem?_map, hg] at hb
  simp only [Option.map_some, Option.some.injEq] at hb
  subst hb
  refine toks_sub (repl_ln ..).symm (fun i y hy h2 => ?_)
  obtain ⟨x, hx, e⟩ := repl_pl hy
  split at e
  ·
   subst e
   cases h2
  ·
   subst e
   exact ⟨_, hx, h2, rfl⟩
end Go.Proofs.YtffoeodjbbkdjaaGreat
