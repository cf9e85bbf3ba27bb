import Derived.Test.YtffoeodjbbkdjaaGreatBs24
namespace Go.Proofs.YtffoeodjbbkdjaaGreat
open Go.RowKit
section
variable {α : Type} {ec : α → List Value} {k : Nat}
theorem take_set {α : Type} (l : List α) (n i : Nat) (u : α) : (l.set i u).take n = (l.take n).set i u := by
 refine List.ext_getElem? fun j => ?_
 rw [List.getElem?_take, List.getElem?_set, List.getElem?_set, List.getElem?_take, List.length_take]
 by_cases hj : j < n
 ·
  rw [if_pos hj, if_pos hj]
  by_cases hi : i = j
  ·
   rw [if_pos hi, if_pos hi]
   by_cases hl : i < l.length
   ·
    rw [if_pos hl, if_pos (by omega)]
   ·
    rw [if_neg hl, if_neg (by omega)]
  ·
   rw [if_neg hi, if_neg hi]
 ·
  rw [if_neg hj, if_neg hj]
  split
  ·
   rw [if_neg (by omega)]
  ·
   rfl
theorem own_at {w : World} {base g cap : Nat} {e : TypeId} {l : List α} (hk : ∀ x, (ec x).length = k) (h : w.ownsRow base e k (.slice (some ⟨g, 0, none⟩) l.length cap) l.length (l.flatMap ec)) {i j : Nat} {x : α} (hx : l[i]? = some x) (hj : j < k) :
  w.cell? ⟨g, i * k + j, none⟩ = (ec x)[j]? ∧ w.frozen? ⟨g, i * k + j, none⟩ = false := by
 obtain ⟨hl, h⟩ := h
 rcases h with ⟨e1, _⟩ | ⟨g', cap', cur, e1, hb, hg, hle, hmx, hsz, htk⟩
 ·
  cases e1
 ·
  obtain ⟨rfl, rfl⟩ : g = g' ∧ cap = cap' := by simpa using e1
  refine ⟨?_, Box.free (cs := cur) (t := e) hg _⟩
  rw [Box.cell (cs := cur) (t := e) hg, ← fm_at ec k hk hx j hj, ← htk, List.getElem?_take]
  have hil := (List.getElem?_eq_some_iff.1 hx).1
  have : (i + 1) * k ≤ l.length * k := Nat.mul_le_mul_right _ hil
  rw [Nat.succ_mul] at this
  rw [if_pos (by omega), Array.getElem?_toList]
theorem own_put {w : World} {base g cap : Nat} {e : TypeId} {l : List α} (hk : ∀ x, (ec x).length = k) (h : w.ownsRow base e k (.slice (some ⟨g, 0, none⟩) l.length cap) l.length (l.flatMap ec)) {i j : Nat} {x x' : α} {u : Value} (hx : l[i]? = some x) (hj : j < k) (he : ec x' = (ec x).set j u) :
  (w.setCell ⟨g, i * k + j, none⟩ u).ownsRow base e k (.slice (some ⟨g, 0, none⟩) (l.set i x').length cap) (l.set i x').length ((l.set i x').flatMap ec) := by
 obtain ⟨hl, h⟩ := h
 rcases h with ⟨e1, _⟩ | ⟨g', cap', cur, e1, hb, hg, hle, hmx, hsz, htk⟩
 ·
  cases e1
 ·
  obtain ⟨rfl, rfl⟩ : g = g' ∧ cap = cap' := by simpa using e1
  refine ⟨fm_length ec k hk _, .inr ⟨g, cap, cur.setIfInBounds (i * k + j) u, rfl, hb, Box.put (cs := cur) (t := e) hg _ _, by rw [List.length_set]; exact hle, hmx, by rw [Array.size_setIfInBounds]; exact hsz, ?_⟩⟩
  rw [Array.toList_setIfInBounds, take_set, List.length_set, htk, fm_set hk hx hj he]
end
theorem OwnS.at_ {w : World} {g cap : Nat} {l : List Pst} (h : OwnS w (.slice (some ⟨g, 0, none⟩) l.length cap) l) {n : Nat} {x : Pst} (hx : l[n]? = some x) :
  (w.cell? ⟨g, n * 3, none⟩ = some (.int .i64 x.s) ∧ w.cell? ⟨g, n * 3 + 1, none⟩ = some (.int .u64 x.t) ∧ w.cell? ⟨g, n * 3 + 2, none⟩ = some (.int .u64 x.u)) ∧ w.frozen? ⟨g, n * 3, none⟩ = false ∧ w.frozen? ⟨g, n * 3 + 1, none⟩ = false ∧ w.frozen? ⟨g, n * 3 + 2, none⟩ = false :=
 ⟨⟨(own_at (ec := Pst.cells) (fun _ => rfl) h hx (j := 0) (by decide)).1, (own_at (ec := Pst.cells) (fun _ => rfl) h hx (j := 1) (by decide)).1, (own_at (ec := Pst.cells) (fun _ => rfl) h hx (j := 2) (by decide)).1⟩,
  (own_at (ec := Pst.cells) (fun _ => rfl) h hx (j := 0) (by decide)).2, (own_at (ec := Pst.cells) (fun _ => rfl) h hx (j := 1) (by decide)).2, (own_at (ec := Pst.cells) (fun _ => rfl) h hx (j := 2) (by decide)).2⟩
abbrev threePut (w : World) (b o : Nat) (x0 x1 x2 : Value) : World := ((w.setCell ⟨b, o, none⟩ x0).setCell ⟨b, o + 1, none⟩ x1).setCell ⟨b, o + 2, none⟩ x2
theorem keep_three (w : World) (b o : Nat) (x0 x1 x2 : Value) : Keep (fun i => i = b) w (threePut w b o x0 x1 x2) :=
 (((Keep.refl (fun i => i = b) w).setCell (p := ⟨b, o, none⟩) (fun _ => rfl) x0).setCell (p := ⟨b, o + 1, none⟩) (fun _ => rfl) x1).setCell (p := ⟨b, o + 2, none⟩) (fun _ => rfl) x2
theorem OwnS.put {w : World} {g cap : Nat} {l : List Pst} (h : OwnS w (.slice (some ⟨g, 0, none⟩) l.length cap) l) {n : Nat} (hn : n < l.length) (y : Pst) :
  OwnS (threePut w g (n * 3) (.int .i64 y.s) (.int .u64 y.t) (.int .u64 y.u)) (.slice (some ⟨g, 0, none⟩) l.length cap) (l.set n y) := by
 obtain ⟨x, hx⟩ : ∃ x, l[n]? = some x := ⟨_, List.getElem?_eq_getElem hn⟩
 have h1 := own_put (ec := Pst.cells) (fun _ => rfl) h hx (j := 0) (x' := ⟨y.s, x.t, x.u⟩) (u := .int .i64 y.s) (by decide) rfl
 have hx1 : (l.set n ⟨y.s, x.t, x.u⟩)[n]? = some ⟨y.s, x.t, x.u⟩ := by rw [List.getElem?_set_self hn]
 have h2 := own_put (ec := Pst.cells) (fun _ => rfl) h1 hx1 (j := 1) (x' := ⟨y.s, y.t, x.u⟩) (u := .int .u64 y.t) (by decide) rfl
 rw [List.set_set] at h2
 have hx2 : (l.set n ⟨y.s, y.t, x.u⟩)[n]? = some ⟨y.s, y.t, x.u⟩ := by rw [List.getElem?_set_self hn]
 have h3 := own_put (ec := Pst.cells) (fun _ => rfl) h2 hx2 (j := 2) (x' := y) (u := .int .u64 y.u) (by decide) rfl
 rw [List.set_set, List.length_set] at h3
 unfold OwnS threePut
 rw [List.length_set]
 exact h3
section
variable {w w' : World} {D : Nat → Prop} {q : Qm}
theorem O_set {i : Nat} {g : Gm} {sv : Value} {st : List Pst} {now ng nt : Int} {ses : List Ro} {b : Nat} (h : Qm.O { q with now := now, ng := ng, nt := nt, ses := ses, gs := q.gs.set i { g with sv := sv, st := st } } b) : q.O b ∨ sv.ownBlock = some b := by
 rcases h with h | h | h | h | h | ⟨a, ha, h⟩
 ·
  exact .inl (.inl h)
 ·
  exact .inl (.inr (.inl h))
 ·
  exact .inl (.inr (.inr (.inl h)))
 ·
  exact .inl (.inr (.inr (.inr (.inl h))))
 ·
  exact .inl (.inr (.inr (.inr (.inr (.inl h)))))
 ·
  rcases List.mem_or_eq_of_mem_set ha with ha | rfl
  ·
   exact .inl (.inr (.inr (.inr (.inr (.inr ⟨a, ha, h⟩)))))
  ·
   exact .inr h
theorem O_of {g : Gm} (hg : g ∈ q.gs) {b : Nat} (h : g.sv.ownBlock = some b) : q.O b := .inr (.inr (.inr (.inr (.inr ⟨g, hg, h⟩))))
theorem QAt.other (h : QAt w D q) {i : Nat} {g : Gm} (hg : q.gs[i]? = some g) {a : Gm} (ha : a ∈ q.gs) {b : Nat} (hb : g.sv.ownBlock = some b) (hab : a.sv.ownBlock = some b) : a = g := by
 obtain ⟨j, hj⟩ := List.getElem?_of_mem ha
 obtain ⟨hi, he⟩ := List.getElem?_eq_some_iff.1 hg
 obtain ⟨hjl, hje⟩ := List.getElem?_eq_some_iff.1 hj
 have hap := h.apart
 unfold Apart at hap
 rw [List.pairwise_iff_getElem] at hap
 rcases Nat.lt_trichotomy i j with hij | hij | hij
 ·
  exact absurd hab (by have := hap i j hi hjl hij b (by rw [he]; exact hb); rwa [hje] at this)
 ·
  subst hij; rw [hg] at hj; injection hj with hj; exact hj.symm
 ·
  exact absurd hb (by have := hap j i hjl hi hij b (by rw [hje]; exact hab); rwa [he] at this)
theorem QAt.putState (h : QAt w D q) {i : Nat} {g : Gm} (hg : q.gs[i]? = some g) {sb cap : Nat} (hv : g.sv = .slice (some ⟨sb, 0, none⟩) g.st.length cap) {n : Nat} (hn : n < g.st.length) (y : Pst) :
  QAt (threePut w sb (n * 3) (.int .i64 y.s) (.int .u64 y.t) (.int .u64 y.u)) D { q with gs := q.gs.set i { g with st := g.st.set n y } } := by
 have hm := List.mem_of_getElem? hg
 have hb : g.sv.ownBlock = some sb := by rw [hv]; rfl
 have k := keep_three w sb (n * 3) (.int .i64 y.s) (.int .u64 y.t) (.int .u64 y.u)
 have hgl : (q.gs.set i { g with st := g.st.set n y }).length = q.gs.length := List.length_set ..
 have hfl : (q.gs.set i { g with st := g.st.set n y }).flatMap Gm.cells = q.gs.flatMap Gm.cells := by
  conv => rhs; rw [← set_same q.gs i g hg]
  refine List.ext_getElem? fun j => ?_
  have key : ∀ (l : List Gm) (i : Nat), (l.set i { g with st := g.st.set n y }).flatMap Gm.cells = (l.set i g).flatMap Gm.cells := fun l i => by
   induction l generalizing i with
   | nil => rfl
   | cons a l ih =>
    cases i with
    | zero => rfl
    | succ i => rw [List.set_cons_succ, List.set_cons_succ, List.flatMap_cons, List.flatMap_cons, ih]
  rw [key]
 have hO : ∀ b, Qm.O { q with gs := q.gs.set i { g with st := g.st.set n y } } b ↔ q.O b := fun b => by
  constructor
  ·
   intro hb'
   rcases O_set (g := g) (sv := g.sv) (now := q.now) (ng := q.ng) (nt := q.nt) (ses := q.ses) hb' with h1 | h1
   ·
    exact h1
   ·
    exact O_of hm h1
  ·
   rintro (h1 | h1 | h1 | h1 | h1 | ⟨a, ha, h1⟩)
   ·
    exact .inl h1
   ·
    exact .inr (.inl h1)
   ·
    exact .inr (.inr (.inl h1))
   ·
    exact .inr (.inr (.inr (.inl h1)))
   ·
    exact .inr (.inr (.inr (.inr (.inl h1))))
   ·
    obtain ⟨j, hj⟩ := List.getElem?_of_mem ha
    by_cases hij : i = j
    ·
     subst hij
     rw [hg] at hj
     injection hj with hj
     subst hj
     exact .inr (.inr (.inr (.inr (.inr ⟨{ g with st := g.st.set n y }, List.mem_of_getElem? (by rw [List.getElem?_set_self (List.getElem?_eq_some_iff.1 hg).1]), h1⟩))))
    ·
     exact .inr (.inr (.inr (.inr (.inr ⟨a, List.mem_of_getElem? (by rw [List.getElem?_set_ne hij]; exact hj), h1⟩))))
 refine ⟨h.box.keep k (fun e => h.s_ne_p hm (e ▸ hb)), h.tab.keep k (fun e => h.s_ne_tp hm (e ▸ hb)) (fun e => h.s_ne_m hm (e ▸ hb)), ?_, own_keep h.bl k (fun j hj e => h.s_ne_b hm j (e ▸ hb) hj), ?_, ?_, ?_, fun b hb' => h.inD b ((hO b).1 hb'), fun b hb' => Nat.lt_of_lt_of_le (h.lt b hb') k.size⟩
 ·
  unfold OwnG
  rw [hgl, hfl]
  exact own_keep h.gr k (fun j hj e => h.s_ne_g hm j (e ▸ hb) hj)
 ·
  intro a ha
  rcases List.mem_or_eq_of_mem_set ha with ha | rfl
  ·
   by_cases e : a.sv.ownBlock = some sb
   ·
    have := h.other hg ha hb e
    subst this
    obtain ⟨j, hj⟩ := List.getElem?_of_mem ‹a ∈ q.gs.set i _›
    by_cases hij : i = j
    ·
     subst hij
     rw [List.getElem?_set_self (List.getElem?_eq_some_iff.1 hg).1] at hj
     injection hj with hj
     have h1 := h.st a hm
     rw [hv] at h1
     have h2 := OwnS.put h1 hn y
     have e2 : a.st = a.st.set n y := congrArg Gm.st hj.symm
     rw [hv, e2]
     rw [← e2]
     rw [← e2] at h2
     exact h2
    ·
     rw [List.getElem?_set_ne hij] at hj
     exfalso
     obtain ⟨hi, he⟩ := List.getElem?_eq_some_iff.1 hg
     obtain ⟨hjl, hje⟩ := List.getElem?_eq_some_iff.1 hj
     have hap := h.apart
     unfold Apart at hap
     rw [List.pairwise_iff_getElem] at hap
     rcases Nat.lt_or_gt_of_ne hij with hlt | hlt
     ·
      exact hap i j hi hjl hlt sb (by rw [he]; exact hb) (by rw [hje]; exact hb)
     ·
      exact hap j i hjl hi hlt sb (by rw [hje]; exact hb) (by rw [he]; exact hb)
   ·
    exact own_keep (h.st a ha) k (fun j hj e' => e (by rw [← e']; exact hj))
  ·
   have h1 := h.st g hm
   rw [hv] at h1
   have h2 := OwnS.put h1 hn y
   unfold OwnS at h2 ⊢
   dsimp only
   rw [hv, List.length_set]
   rw [List.length_set] at h2
   exact h2
 ·
  exact apart_set h.apart hg (fun a ha j h1 h2 => ⟨h.other hg ha h2 h1, rfl⟩)
 ·
  intro a ha
  obtain ⟨a', ha', e1, e2⟩ : ∃ a' ∈ q.gs, a'.gv = a.gv ∧ a'.ts = a.ts := by
   rcases List.mem_or_eq_of_mem_set ha with ha | rfl
   ·
    exact ⟨a, ha, rfl, rfl⟩
   ·
    exact ⟨g, hm, rfl, rfl⟩
  rw [← e1, ← e2]
  exact Tgs.monoQ ((h.tg a' ha').keep k (fun j _ hj e => hj.2 (e ▸ O_of hm hb))) (fun j _ hj => ⟨hj.1, fun e => hj.2 ((hO j).1 e)⟩)
theorem QAt.setSts (h : QAt w D q) {i : Nat} {g : Gm} (hg : q.gs[i]? = some g) {g0 cap : Nat} (hgv : q.gv = .slice (some ⟨g0, 0, none⟩) q.gs.length cap) {v : Value} {st : List Pst} (hv : OwnS w v st) {D' : Nat → Prop} (hD : ∀ i, D i → D' i) (hlt : ∀ i, D' i → i < w.heap.size) (hn : ∀ b, v.ownBlock = some b → D' b ∧ ¬ D b) :
  QAt (w.setCell ⟨g0, i * 3 + 2, none⟩ v) D' { q with gs := q.gs.set i { g with sv := v, st := st } } := by
 have hm := List.mem_of_getElem? hg
 have hb : q.gv.ownBlock = some g0 := by rw [hgv]; rfl
 have k : Keep (fun i => i = g0) w (w.setCell ⟨g0, i * 3 + 2, none⟩ v) := (Keep.refl (fun i => i = g0) w).setCell (fun _ => rfl) _
 have hO : ∀ b, Qm.O { q with gs := q.gs.set i { g with sv := v, st := st } } b → q.O b ∨ (D' b ∧ ¬ D b) := fun b hb' => by
  rcases O_set (now := q.now) (ng := q.ng) (nt := q.nt) (ses := q.ses) hb' with h1 | h1
  ·
   exact .inl h1
  ·
   exact .inr (hn b h1)
 have hgr := h.gr
 unfold OwnG at hgr
 rw [hgv] at hgr
 refine ⟨h.box.keep k (fun e => h.g_ne_p (e ▸ hb)), h.tab.keep k (fun e => h.g_ne_tp (e ▸ hb)) (fun e => h.g_ne_m (e ▸ hb)), ?_, own_keep h.bl k (fun j hj e => h.g_ne_b j (e ▸ hb) hj), ?_, ?_, ?_, fun b hb' => (hO b hb').elim (fun e => hD b (h.inD b e)) (fun e => e.1), fun b hb' => Nat.lt_of_lt_of_le (hlt b hb') k.size⟩
 ·
  have := own_put (ec := Gm.cells) (fun _ => rfl) hgr hg (j := 2) (x' := { g with sv := v, st := st }) (u := v) (by decide) rfl
  unfold OwnG
  dsimp only
  rw [hgv, List.length_set]
  rw [List.length_set] at this
  exact this
 ·
  intro a ha
  rcases List.mem_or_eq_of_mem_set ha with ha | rfl
  ·
   exact own_keep (h.st a ha) k (fun j hj e => h.s_ne_g ha j hj (e ▸ hb))
  ·
   exact own_keep hv k (fun j hj e => own_own hv h.gr (by decide) j hj (e ▸ hb))
 ·
  exact apart_set h.apart hg (fun a ha j h1 h2 => absurd (h.inD j (O_of ha h1)) (hn j h2).2)
 ·
  intro a ha
  obtain ⟨a', ha', e1, e2⟩ : ∃ a' ∈ q.gs, a'.gv = a.gv ∧ a'.ts = a.ts := by
   rcases List.mem_or_eq_of_mem_set ha with ha | rfl
   ·
    exact ⟨a, ha, rfl, rfl⟩
   ·
    exact ⟨g, hm, rfl, rfl⟩
  rw [← e1, ← e2]
  exact Tgs.monoQ ((h.tg a' ha').keep k (fun j _ hj e => hj.2 (.inr (.inr (.inr (.inl (e ▸ hb))))))) (fun j _ hj => ⟨hD j hj.1, fun e => (hO j e).elim hj.2 (fun e => e.2 hj.1)⟩)
theorem QAt.slices (h : QAt w D q) {S : Nat → Prop} (k : Keep S w w') (hS : ∀ i, S i → i = q.p ∨ q.gv.ownBlock = some i ∨ q.bv.ownBlock = some i) {ng : Int} {gv bv : Value} {gs : List Gm} {ks : List Nat} {D' : Nat → Prop}
  (hb : Box w' q.p 72 #[.int .u64 q.now, .int .u64 ng, .int .u64 q.nt, .pointer (some ⟨q.tp, 0, none⟩), gv, bv]) (hgr : OwnG w' gv gs) (hbl : OwnK w' bv ks)
  (hgs : ∀ g ∈ gs, g ∈ q.gs ∨ (g ∉ q.gs ∧ OwnS w' g.sv g.st ∧ (∀ b, g.sv.ownBlock = some b → ¬ D b ∧ D' b) ∧ Tgs w' (fun i => D' i ∧ ¬ D i ∧ g.sv.ownBlock ≠ some i ∧ gv.ownBlock ≠ some i) g.gv g.ts)) (hone : ∀ g ∈ gs, ∀ a ∈ gs, g ∉ q.gs → a ∉ q.gs → g = a) (hap : Apart gs)
  (hgb : ∀ b, gv.ownBlock = some b → q.gv.ownBlock = some b ∨ (¬ D b ∧ D' b)) (hbb : ∀ b, bv.ownBlock = some b → q.bv.ownBlock = some b ∨ (¬ D b ∧ D' b ∧ gs = q.gs)) (hD : ∀ i, D i → D' i) (hlt : ∀ i, D' i → i < w'.heap.size) :
  QAt w' D' { q with ng := ng, gv := gv, bv := bv, gs := gs, built := ks } := by
 have hp : ∀ j, S j → D j := fun j hj => (hS j hj).elim (fun e => e ▸ h.inD _ (.inl rfl)) (fun e => e.elim (fun e => h.inD _ (.inr (.inr (.inr (.inl e))))) (fun e => h.inD _ (.inr (.inr (.inr (.inr (.inl e)))))))
 refine ⟨hb, h.tab.keep k (fun e => ?_) (fun e => ?_), hgr, hbl, ?_, hap, ?_, ?_, hlt⟩
 ·
  rcases hS _ e with e | e | e
  ·
   exact h.p_ne_tp e.symm
  ·
   exact h.g_ne_tp e
  ·
   exact h.b_ne_tp e
 ·
  rcases hS _ e with e | e | e
  ·
   exact h.p_ne_m e.symm
  ·
   exact h.g_ne_m e
  ·
   exact h.b_ne_m e
 ·
  intro g hg
  rcases hgs g hg with hq | hn
  ·
   refine own_keep (h.st g hq) k (fun j hj e => ?_)
   rcases hS _ e with e | e | e
   ·
    exact h.s_ne_p hq (e ▸ hj)
   ·
    exact h.s_ne_g hq j hj e
   ·
    exact h.s_ne_b hq j hj e
  ·
   exact hn.2.1
 ·
  intro g hg
  rcases hgs g hg with hq | hn
  ·
   refine Tgs.monoQ ((h.tg g hq).keep k (fun j _ hj e => hj.2 ?_)) (fun j _ hj => ⟨hD j hj.1, ?_⟩)
   ·
    rcases hS _ e with e | e | e
    ·
     exact .inl e
    ·
     exact .inr (.inr (.inr (.inl e)))
    ·
     exact .inr (.inr (.inr (.inr (.inl e))))
   ·
    rintro (e | e | e | e | e | ⟨a, ha, e⟩)
    ·
     exact hj.2 (.inl e)
    ·
     exact hj.2 (.inr (.inl e))
    ·
     exact hj.2 (.inr (.inr (.inl e)))
    ·
     exact (hgb j e).elim (fun e => hj.2 (.inr (.inr (.inr (.inl e))))) (fun e => e.1 hj.1)
    ·
     exact (hbb j e).elim (fun e => hj.2 (.inr (.inr (.inr (.inr (.inl e)))))) (fun e => e.1 hj.1)
    ·
     rcases hgs a ha with haq | han
     ·
      exact hj.2 (O_of haq e)
     ·
      exact (han.2.2.1 j e).1 hj.1
  ·
   refine Tgs.monoQ hn.2.2.2 (fun j _ hj => ⟨hj.1, ?_⟩)
   rintro (e | e | e | e | e | ⟨a, ha, e⟩)
   ·
    exact hj.2.1 (e ▸ h.inD _ (.inl rfl))
   ·
    exact hj.2.1 (e ▸ h.inD _ (.inr (.inl rfl)))
   ·
    exact hj.2.1 (e ▸ h.inD _ (.inr (.inr (.inl rfl))))
   ·
    exact hj.2.2.2 e
   ·
    rcases hbb j e with e | e
    ·
     exact hj.2.1 (h.inD _ (.inr (.inr (.inr (.inr (.inl e))))))
    ·
     exact hn.1 (e.2.2 ▸ hg)
   ·
    rcases hgs a ha with haq | han
    ·
     exact hj.2.1 (h.inD _ (O_of haq e))
    ·
     exact hj.2.2.1 (hone g hg a ha hn.1 han.1 ▸ e)
 ·
  rintro b (e | e | e | e | e | ⟨a, ha, e⟩)
  ·
   exact hD _ (e ▸ h.inD _ (.inl rfl))
  ·
   exact hD _ (e ▸ h.inD _ (.inr (.inl rfl)))
  ·
   exact hD _ (e ▸ h.inD _ (.inr (.inr (.inl rfl))))
  ·
   exact (hgb b e).elim (fun e => hD _ (h.inD _ (.inr (.inr (.inr (.inl e)))))) (fun e => e.2)
  ·
   exact (hbb b e).elim (fun e => hD _ (h.inD _ (.inr (.inr (.inr (.inr (.inl e))))))) (fun e => e.2.1)
  ·
   rcases hgs a ha with haq | han
   ·
    exact hD _ (h.inD _ (O_of haq e))
   ·
    exact (han.2.2.1 b e).2
end
end Go.Proofs.YtffoeodjbbkdjaaGreat
