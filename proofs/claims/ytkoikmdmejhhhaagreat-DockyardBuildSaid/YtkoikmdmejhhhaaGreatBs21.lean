import Derived.Test.YtkoikmdmejhhhaaGreatBs20
namespace Go.Proofs.YtkoikmdmejhhhaaGreat
theorem settle_iff {ps : List Pt} {l : List Pst} (hq : grCheck ps = 0) (hl : l.length = ps.length) : grSettle ps l = l ↔ ∀ (i : Nat) (x : Pst), l[i]? = some x → x.s = 0 → outc (needSt ps l i) = 0 := by
  constructor
  · intro h i x hx h0
    have hi : i < ps.length := by rw [← hl]; exact (List.getElem?_eq_some_iff.1 hx).1
    have hs := grSettle_sol hq hl i hi
    rw [h, hx] at hs
    injection hs with hs
    refine Classical.byContradiction fun hne => ?_
    unfold settleAt at hs
    have hg : l.getD i Pst.zero = x := by rw [List.getD_eq_getElem?_getD, hx]; rfl
    rw [hg, if_pos ⟨h0, hne⟩] at hs
    rw [hs] at h0
    exact hne h0
  · intro h
    refine (grSettle_only hq hl hl (fun p hp => ?_)).symm
    have hx : l[p]? = some (l[p]'(by omega)) := List.getElem?_eq_getElem (by omega)
    have hg : l.getD p Pst.zero = l[p]'(by omega) := by rw [List.getD_eq_getElem?_getD, hx]; rfl
    unfold settleAt
    rw [hg, if_neg (fun hh => hh.2 (h p _ hx hh.1))]
    exact hx
theorem outc_same {ss tt : List Int} (hl : ss.length = tt.length) (h : ∀ (i : Nat) (s t : Int), ss[i]? = some s → tt[i]? = some t → lostS s = lostS t ∧ (s == 3) = (t == 3)) : outc ss = outc tt := by
  have h1 : ss.any lostS = tt.any lostS ∧ ss.all (fun s => s == 3) = tt.all (fun s => s == 3) := by
    induction ss generalizing tt with
    | nil =>
      cases tt with
      | nil => exact ⟨rfl, rfl⟩
      | cons _ _ => cases hl
    | cons a ss ih =>
      cases tt with
      | nil => cases hl
      | cons b tt =>
        have h0 := h 0 a b rfl rfl
        have hr := ih (tt := tt) (by simpa using hl) (fun i s t hs ht => h (i + 1) s t (by simpa using hs) (by simpa using ht))
        simp only [List.any_cons, List.all_cons]
        rw [h0.1, h0.2, hr.1, hr.2]
        exact ⟨rfl, rfl⟩
  unfold outc
  rw [h1.1, h1.2]
theorem settled_like {ps : List Pt} {l m : List Pst} (hq : grCheck ps = 0) (hl : l.length = ps.length) (hm : m.length = ps.length) (hs : grSettle ps l = l)
    (h : ∀ (i : Nat) (x y : Pst), l[i]? = some x → m[i]? = some y → (y.s = 0 → x.s = 0) ∧ lostS x.s = lostS y.s ∧ (x.s == 3) = (y.s == 3)) : grSettle ps m = m := by
  rw [settle_iff hq hm]
  rw [settle_iff hq hl] at hs
  intro i y hy h0
  have hi := (List.getElem?_eq_some_iff.1 hy).1
  have hx : l[i]? = some (l[i]'(by omega)) := List.getElem?_eq_getElem (by omega)
  have := hs i _ hx ((h i _ y hx hy).1 h0)
  rw [← this]
  unfold needSt
  refine outc_same (by rw [List.length_map, List.length_map]) (fun j s t hsj htj => ?_)
  rw [List.getElem?_map] at hsj htj
  cases hn : (needsAt ps (i : Int))[j]? with
  | none => rw [hn] at hsj; cases hsj
  | some n =>
    rw [hn] at hsj htj
    simp only [Option.map_some, Option.some.injEq] at hsj htj
    subst hsj htj
    by_cases hnl : n < ps.length
    · have e1 : l[n]? = some (l[n]'(by omega)) := List.getElem?_eq_getElem (by omega)
      have e2 : m[n]? = some (m[n]'(by omega)) := List.getElem?_eq_getElem (by omega)
      have := h n _ _ e1 e2
      rw [List.getD_eq_getElem?_getD, List.getD_eq_getElem?_getD, e1, e2]
      exact ⟨this.2.1.symm, this.2.2.symm⟩
    · rw [List.getD_eq_getElem?_getD, List.getD_eq_getElem?_getD, List.getElem?_eq_none (by omega), List.getElem?_eq_none (by omega)]
      exact ⟨rfl, rfl⟩
theorem settled_none {ps : List Pt} {l : List Pst} (hq : grCheck ps = 0) (hl : l.length = ps.length) (h : ∀ x ∈ l, x.s ≠ 0) : grSettle ps l = l := by
  rw [settle_iff hq hl]
  intro i x hx h0
  exact absurd h0 (h x (List.mem_of_getElem? hx))
theorem settle_twice (ps : List Pt) (l : List Pst) (hq : grCheck ps = 0) (hl : l.length = ps.length) : grSettle ps (grSettle ps l) = grSettle ps l := by
  have hR : (grSettle ps l).length = ps.length := by rw [grSettle_length (by rw [order_len hq, hl]), hl]
  rw [settle_iff hq hR]
  intro i x h hx
  have hi : i < ps.length := by rw [← hR]; exact (List.getElem?_eq_some_iff.1 h).1
  rw [grSettle_sol hq hl i hi] at h
  injection h with h
  generalize grSettle ps l = R at *
  refine Classical.byContradiction fun hne => ?_
  rw [← h] at hx
  unfold settleAt at hx
  split at hx
  · exact hne hx
  · rename_i hn
    exact hn ⟨hx, hne⟩
theorem settle_from {ps : List Pt} {l : List Pst} (hq : grCheck ps = 0) (hl : l.length = ps.length) {i : Nat} {y : Pst} (h : (grSettle ps l)[i]? = some y) : l[i]? = some y ∨ ((y.s = 5 ∨ y.s = 1) ∧ y.t = 0 ∧ y.u = 0 ∧ ∃ x, l[i]? = some x ∧ x.s = 0) := by
  have hR : (grSettle ps l).length = ps.length := by rw [grSettle_length (by rw [order_len hq, hl]), hl]
  have hi : i < ps.length := by rw [← hR]; exact (List.getElem?_eq_some_iff.1 h).1
  rw [grSettle_sol hq hl i hi] at h
  injection h with h
  have hx : l[i]? = some (l[i]'(by omega)) := List.getElem?_eq_getElem (by omega)
  have hg : l.getD i Pst.zero = l[i]'(by omega) := by rw [List.getD_eq_getElem?_getD, hx]; rfl
  unfold settleAt at h
  rw [hg] at h
  split at h
  · rename_i hc
    right
    rw [← h]
    have := outc_range (needSt ps (grSettle ps l) i)
    exact ⟨by rcases this with e | e | e; exact .inl e; exact .inr e; exact absurd e hc.2, rfl, rfl, _, hx, hc.1⟩
  · left
    rw [← h]
    exact hx
theorem toks_sub : ∀ {l m : List Pst}, l.length = m.length → (∀ (i : Nat) (y : Pst), m[i]? = some y → y.s = 2 → ∃ x, l[i]? = some x ∧ x.s = 2 ∧ x.t = y.t) → (toksOf m).Sublist (toksOf l)
  | [], [], _, _ => List.Sublist.refl _
  | [], _ :: _, h, _ => by cases h
  | _ :: _, [], h, _ => by cases h
  | x :: l, y :: m, hl, h => by
    have ih := toks_sub (l := l) (m := m) (by simpa using hl) (fun i z hz h2 => by
      have := h (i + 1) z (by simpa using hz) h2
      simpa using this)
    unfold toksOf at ih ⊢
    rw [List.filter_cons, List.filter_cons]
    by_cases hy : y.s = 2
    · obtain ⟨x', e, hx, ht⟩ := h 0 y rfl hy
      have e' : x = x' := by simpa using e
      subst e'
      rw [if_pos (by simpa using hy), if_pos (by simpa using hx), List.map_cons, List.map_cons, ht]
      exact ih.cons_cons _
    · rw [if_neg (by simpa using hy)]
      split
      · rw [List.map_cons]
        exact ih.cons _
      · exact ih
theorem toks_sub_gs : ∀ {gs hs : List Gq}, gs.length = hs.length → (∀ (i : Nat) (g h : Gq), gs[i]? = some g → hs[i]? = some h → (toksOf h.st).Sublist (toksOf g.st)) → (hs.flatMap (fun g => toksOf g.st)).Sublist (gs.flatMap (fun g => toksOf g.st))
  | [], [], _, _ => List.Sublist.refl _
  | [], _ :: _, h, _ => by cases h
  | _ :: _, [], h, _ => by cases h
  | g :: gs, h :: hs, hl, hh => by
    rw [List.flatMap_cons, List.flatMap_cons]
    exact (hh 0 g h rfl rfl).append (toks_sub_gs (by simpa using hl) (fun i a b ha hb => hh (i + 1) a b (by simpa using ha) (by simpa using hb)))
end Go.Proofs.YtkoikmdmejhhhaaGreat
namespace Go.Proofs.YtkoikmdmejhhhaaGreat
theorem first_some {f : Gq → Option Nat} : ∀ {gs : List Gq} {i j k : Nat}, firstG f gs i = some (j, k) → i ≤ j ∧ ∃ g, gs[j - i]? = some g ∧ f g = some k
  | [], i, j, k, h => by cases h
  | g :: gs, i, j, k, h => by
    unfold firstG at h
    cases hg : f g with
    | some n =>
      rw [hg] at h
      injection h with h
      injection h with h1 h2
      subst h1 h2
      exact ⟨Nat.le_refl _, g, by simp, hg⟩
    | none =>
      rw [hg] at h
      obtain ⟨h1, g', h2, h3⟩ := first_some h
      refine ⟨by omega, g', ?_, h3⟩
      rw [show j - i = (j - (i + 1)) + 1 from by omega, List.getElem?_cons_succ]
      exact h2
theorem first_zero {f : Gq → Option Nat} {gs : List Gq} {j k : Nat} (h : firstG f gs 0 = some (j, k)) : ∃ g, gs[j]? = some g ∧ f g = some k := by
  obtain ⟨_, g, h2, h3⟩ := first_some h
  exact ⟨g, h2, h3⟩
theorem getD_some {gs : List Gq} {i : Nat} {g : Gq} (h : gs[i]? = some g) : gs.getD i noG = g := by
  rw [List.getD_eq_getElem?_getD, h]
  rfl
theorem getS_some {l : List Pst} {i : Nat} {x : Pst} (h : l[i]? = some x) : l.getD i Pst.zero = x := by
  rw [List.getD_eq_getElem?_getD, h]
  rfl
theorem findIdx_at {α : Type} {f : α → Bool} {l : List α} {k : Nat} (h : l.findIdx? f = some k) : ∃ x, l[k]? = some x ∧ f x = true := by
  obtain ⟨hk, h1, _⟩ := List.findIdx?_eq_some_iff_getElem.1 h
  exact ⟨l[k], List.getElem?_eq_getElem hk, h1⟩
theorem withG_at (q : Qp) (i : Nat) (l : List Pst) (j : Nat) : (withG q i l).gs[j]? = if i = j then (q.gs[j]?).map (fun g => { g with st := l }) else q.gs[j]? := by
  unfold withG
  show (q.gs.modify i _)[j]? = _
  rw [List.getElem?_modify]
  by_cases h : i = j
  · rw [if_pos h]
    subst h
    cases q.gs[i]? <;> simp
  · rw [if_neg h]
    cases q.gs[j]? <;> simp [h]
theorem up_of {gs hs : List Gq} (h : gs.Pairwise (fun a b => a.id < b.id)) (hl : hs.length = gs.length) (hh : ∀ (j : Nat) (b : Gq), hs[j]? = some b → ∃ a, gs[j]? = some a ∧ a.id = b.id) : hs.Pairwise (fun a b => a.id < b.id) := by
  rw [List.pairwise_iff_getElem] at h ⊢
  intro i j hi hj hij
  obtain ⟨a, ha, ea⟩ := hh i _ (List.getElem?_eq_getElem hi)
  obtain ⟨b, hb, eb⟩ := hh j _ (List.getElem?_eq_getElem hj)
  have h1 := h i j (by omega) (by omega) hij
  rw [List.getElem?_eq_getElem (by omega)] at ha hb
  injection ha with ha
  injection hb with hb
  rw [← ea, ← eb, ← ha, ← hb]
  exact h1
theorem inv_with {q : Qp} (h : Inv q) {i : Nat} {g : Gq} (hg : q.gs[i]? = some g) {l : List Pst} (hok : GqOk q.ng q.nt q.now { g with st := l }) (ht : (toksOf l).Sublist (toksOf g.st)) : Inv (withG q i l) := by
  have hlen : (withG q i l).gs.length = q.gs.length := by unfold withG; simp
  refine ⟨h.now0, h.ng, h.nt, h.sesUp, h.sesIn, h.sesFew, by rw [hlen]; exact h.gsFew, ?_, ?_, ?_, h.bltFew, h.bltNo⟩
  · refine up_of h.gsUp hlen (fun j b hb => ?_)
    rw [withG_at] at hb
    split at hb
    · rename_i e
      subst e
      rw [hg] at hb
      simp at hb
      exact ⟨g, hg, by rw [← hb]⟩
    · exact ⟨b, hb, rfl⟩
  · intro b hb
    obtain ⟨j, hj⟩ := List.getElem?_of_mem hb
    rw [withG_at] at hj
    split at hj
    · rename_i e
      subst e
      rw [hg] at hj
      simp at hj
      rw [← hj]
      exact hok
    · exact h.gsIn b (List.mem_of_getElem? hj)
  · refine List.Sublist.nodup ?_ h.toks
    refine toks_sub_gs hlen.symm (fun j a b ha hb => ?_)
    rw [withG_at] at hb
    split at hb
    · rename_i e
      subst e
      rw [hg] at ha
      injection ha with ha
      subst ha
      rw [hg] at hb
      simp at hb
      rw [← hb]
      exact ht
    · rw [ha] at hb
      injection hb with hb
      subst hb
      exact List.Sublist.refl _
theorem set_at (l : List Pst) (n : Nat) (y : Pst) (i : Nat) (z : Pst) (h : (l.set n y)[i]? = some z) : (i = n ∧ z = y ∧ n < l.length) ∨ (i ≠ n ∧ l[i]? = some z) := by
  rw [List.getElem?_set] at h
  split at h
  · rename_i e
    split at h
    · rename_i hl
      injection h with h
      exact .inl ⟨e.symm, h.symm, hl⟩
    · cases h
  · rename_i e
    exact .inr ⟨fun x => e x.symm, h⟩
theorem StOk.more {nt nt' now : Int} {x : Pst} (h : StOk nt now x) (hn : nt ≤ nt') : StOk nt' now x := ⟨h.1, h.2.1, fun e => by have := h.2.2 e; omega⟩
theorem ok_set {ng nt now : Int} {g : Gq} (h : GqOk ng nt now g) {n : Nat} {y : Pst} (hy : StOk nt now y) (hs : grSettle g.ps (g.st.set n y) = g.st.set n y) : GqOk ng nt now { g with st := g.st.set n y } := by
  obtain ⟨h1, h2, h3, h4, h5, h6⟩ := h
  refine ⟨h1, h2, h3, by simpa using h4, hs, fun z hz => ?_⟩
  obtain ⟨i, hi⟩ := List.getElem?_of_mem hz
  rcases set_at _ _ _ _ _ hi with ⟨_, rfl, _⟩ | ⟨_, hi⟩
  · exact hy
  · exact h6 z (List.mem_of_getElem? hi)
theorem settled_set {ng nt now : Int} {g : Gq} (h : GqOk ng nt now g) {n : Nat} {x y : Pst} (hx : g.st[n]? = some x) (h0 : y.s = 0 → x.s = 0) (hl : lostS x.s = lostS y.s) (h3 : (x.s == 3) = (y.s == 3)) : grSettle g.ps (g.st.set n y) = g.st.set n y := by
  obtain ⟨_, _, hq, hlen, hs, _⟩ := h
  refine settled_like hq hlen (by simpa using hlen) hs (fun i a b ha hb => ?_)
  rcases set_at _ _ _ _ _ hb with ⟨rfl, rfl, _⟩ | ⟨_, hi⟩
  · rw [hx] at ha
    injection ha with ha
    subst ha
    exact ⟨h0, hl, h3⟩
  · rw [hi] at ha
    injection ha with ha
    subst ha
    exact ⟨id, rfl, rfl⟩
theorem held_is {x : Pst} {tok now : Int} (h : holdsB x tok now = true) : x.s = 2 ∧ x.t = tok ∧ tok ≠ 0 ∧ now < x.u := by
  unfold holdsB at h
  simp only [Bool.and_eq_true, beq_iff_eq, bne_iff_ne, ne_eq, decide_eq_true_eq] at h
  exact ⟨h.1.1.1, h.1.1.2, h.1.2, h.2⟩
theorem held_some {q : Qp} {tok : Int} {i n : Nat} (h : heldAt q tok = some (i, n)) : ∃ g x, q.gs[i]? = some g ∧ g.st[n]? = some x ∧ holdsB x tok q.now = true := by
  obtain ⟨g, hg, hf⟩ := first_zero h
  obtain ⟨x, hx, hh⟩ := findIdx_at hf
  exact ⟨g, x, hg, hx, hh⟩
theorem ready_some {q : Qp} {i n : Nat} (h : readyAt q = some (i, n)) : ∃ g x, q.gs[i]? = some g ∧ g.st[n]? = some x ∧ x.s = 1 := by
  obtain ⟨g, hg, hf⟩ := first_zero h
  obtain ⟨x, hx, hh⟩ := findIdx_at hf
  exact ⟨g, x, hg, hx, by simpa using hh⟩
theorem ok_settle {ng nt now : Int} {g : Gq} (h : GqOk ng nt now g) {n : Nat} {y : Pst} (hy : StOk nt now y) : GqOk ng nt now { g with st := grSettle g.ps (g.st.set n y) } := by
  obtain ⟨h1, h2, h3, h4, h5, h6⟩ := h
  have hl : (g.st.set n y).length = g.ps.length := by simpa using h4
  refine ⟨h1, h2, h3, ?_, settle_twice _ _ h3 hl, fun z hz => ?_⟩
  · show (grSettle g.ps (g.st.set n y)).length = g.ps.length
    rw [grSettle_length (by rw [order_len h3, hl]), hl]
  · obtain ⟨i, hi⟩ := List.getElem?_of_mem hz
    rcases settle_from h3 hl hi with hi | ⟨hs, ht, hu, _⟩
    · rcases set_at _ _ _ _ _ hi with ⟨_, rfl, _⟩ | ⟨_, hi⟩
      · exact hy
      · exact h6 z (List.mem_of_getElem? hi)
    · exact ⟨by omega, fun _ => ⟨ht, hu⟩, fun e => by omega⟩
theorem toks_settle {ng nt now : Int} {g : Gq} (h : GqOk ng nt now g) {n : Nat} {y : Pst} (hy : y.s ≠ 2) : (toksOf (grSettle g.ps (g.st.set n y))).Sublist (toksOf g.st) := by
  obtain ⟨_, _, h3, h4, _, _⟩ := h
  have hl : (g.st.set n y).length = g.ps.length := by simpa using h4
  refine toks_sub (by rw [grSettle_length (by rw [order_len h3, hl]), hl, h4]) (fun i z hz h2 => ?_)
  rcases settle_from h3 hl hz with hi | ⟨hs, _⟩
  · rcases set_at _ _ _ _ _ hi with ⟨_, rfl, _⟩ | ⟨_, hi⟩
    · exact absurd h2 hy
    · exact ⟨z, hi, h2, rfl⟩
  · omega
end Go.Proofs.YtkoikmdmejhhhaaGreat
