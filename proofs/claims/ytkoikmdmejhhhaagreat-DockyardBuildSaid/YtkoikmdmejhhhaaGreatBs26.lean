import Derived.Test.YtkoikmdmejhhhaaGreatBs23
namespace Go.Proofs.YtkoikmdmejhhhaaGreat
theorem done_ses (q : Qp) (l : List Ro) (c : Cq) : doneP { q with ses := l } c = ({ (doneP q c).1 with ses := l }, (doneP q c).2) := by
  unfold doneP
  split
  · unfold submitP
    dsimp only
    split
    · rfl
    · split <;> rfl
  · split
    · unfold claimP
      have e : readyAt { q with ses := l } = readyAt q := rfl
      rw [e]
      cases readyAt q with
      | none => rfl
      | some p =>
        dsimp only
        split <;> rfl
    · split
      · unfold renewP
        have e : heldAt { q with ses := l } c.tok = heldAt q c.tok := rfl
        rw [e]
        cases heldAt q c.tok with
        | none => rfl
        | some p =>
          dsimp only
          split <;> rfl
      · split
        · unfold reportP
          have e : heldAt { q with ses := l } c.tok = heldAt q c.tok := rfl
          rw [e]
          cases heldAt q c.tok with
          | none => rfl
          | some p =>
            dsimp only
            split <;> rfl
        · unfold cancelP
          have e : findG { q with ses := l } c.id = findG q c.id := rfl
          rw [e]
          cases findG q c.id with
          | none => rfl
          | some i =>
            dsimp only
            split <;> rfl
def Behind (q : Qp) (S s : Int) : Prop := ∃ r, findR q.ses S = some r ∧ r.seq < s
theorem Behind.more {q : Qp} {S s s' : Int} (h : Behind q S s) (hs : s ≤ s') : Behind q S s' := by
  obtain ⟨r, hr, hl⟩ := h
  exact ⟨r, hr, by omega⟩
theorem told {q : Qp} {c : Cq} (hk : 2 ≤ c.kind ∧ c.kind ≤ 6) (h : Behind q c.ses c.seq) (h1 : 1 ≤ c.seq) : applyP q c = ({ (doneP q c).1 with ses := putR q.ses ⟨c.ses, c.seq, (doneP q c).2⟩ }, (doneP q c).2) ∧ Behind (applyP q c).1 c.ses (c.seq + 1) := by
  obtain ⟨r, hr, hlt⟩ := h
  obtain ⟨_, e2, e3⟩ := look_at (s := c.seq) hr
  rw [if_neg (by omega)] at e3
  rw [decide_eq_false (by omega)] at e2
  have hke : keepE q.ses c.ses c.seq = 0 := by unfold keepE; rw [e3, e2]; rfl
  have e : applyP q c = ({ (doneP q c).1 with ses := putR q.ses ⟨c.ses, c.seq, (doneP q c).2⟩ }, (doneP q c).2) := by
    unfold applyP keepL
    rw [if_neg (by omega), if_neg (by omega), if_neg (by omega), e3, if_neg (by omega), e2, if_neg (by decide), if_pos hke]
  refine ⟨e, ?_⟩
  rw [e]
  exact ⟨_, find_put q.ses ⟨c.ses, c.seq, (doneP q c).2⟩, by show c.seq < c.seq + 1; omega⟩
structure Works (q : Qp) (S s : Int) (k : Nat) : Prop where
  inv : Inv q
  free : NoLease q.gs
  few : countG q.gs ≤ k
  now : q.now ≤ late
  nt : q.nt + k < top
  ses : Behind q S s
theorem works_round {q : Qp} {S s : Int} {k : Nat} (h : Works q S s k) (hs : 1 ≤ s) (hS : 0 ≤ S ∧ S ≤ top) (hsm : s + 1 ≤ top) {c c' : Cq} (hc : c.kind = 3 ∧ c.ses = S ∧ c.seq = s ∧ 0 ≤ c.time ∧ c.time ≤ top) (hc' : c'.kind = 5 ∧ c'.ses = S ∧ c'.seq = s + 1 ∧ c'.good = true ∧ 0 ≤ c'.time ∧ c'.time ≤ top) (ht : c'.tok = (applyP q c).2.tok) :
    ((applyP q c).2.code = 122 ∧ ∀ g ∈ (applyP q c).1.gs, overB g.st = true) ∨ ((applyP q c).2.code = 0 ∧ (applyP (applyP q c).1 c').2.code = 0 ∧ 1 ≤ k ∧ Works (applyP (applyP q c).1 c').1 S (s + 2) (k - 1)) := by
  obtain ⟨k1, k2, k3, k4, k5⟩ := hc
  obtain ⟨l1, l2, l3, l4, l5, l6⟩ := hc'
  obtain ⟨e1, b1⟩ := told (q := q) (c := c) (by omega) (by rw [k2, k3]; exact h.ses) (by omega)
  have hd : doneP q c = claimP q := by unfold doneP; rw [if_neg (by omega), if_pos k1]
  have i1 := inv_apply h.inv (c := c) ⟨by rw [k2]; exact hS, by omega, ⟨k4, k5⟩⟩
  cases hr : readyAt q with
  | none =>
    left
    have hcl : claimP q = (q, .err 122) := by unfold claimP; rw [hr]
    rw [e1, hd, hcl]
    exact ⟨rfl, fun g hg => idle_over h.inv h.free hr g hg⟩
  | some p =>
    right
    rw [hd] at e1
    have htok : c'.tok = (claimP q).2.tok := by rw [ht, e1]
    have hpos : 1 ≤ k := by
      obtain ⟨i, n⟩ := p
      obtain ⟨g, x, hg, hx, hsx⟩ := ready_some hr
      have c1 := countG_modify [] hg
      have c2 : 1 ≤ g.st.countP nf := by
        rw [Nat.succ_le_iff, List.countP_pos_iff]
        exact ⟨x, List.mem_of_getElem? hx, by unfold nf; rw [hsx]; rfl⟩
      have := h.few
      simp only [List.countP_nil] at c1
      omega
    have hw0 := h.nt
    obtain ⟨w1, w2, -⟩ := work_round h.inv h.free (by omega) h.now hr c' (by
      have hnt := h.inv.nt
      have := (work_round h.inv h.free (by omega) h.now hr { c' with tok := q.nt } rfl l4).2.1
      rw [htok, this]) l4
    obtain ⟨_, _, w3, w4, w5, w6, w7, w8⟩ := work_round h.inv h.free (by omega) h.now hr c' (by rw [htok, w2]) l4
    have b1' : Behind (applyP q c).1 c'.ses c'.seq := by rw [l2, l3, ← k2, ← k3]; exact b1
    obtain ⟨e2, b2⟩ := told (q := (applyP q c).1) (c := c') (by omega) b1' (by omega)
    have hd2 : ∀ Q, doneP Q c' = reportP Q c' := fun Q => by unfold doneP; rw [if_neg (by omega), if_neg (by omega), if_neg (by omega), if_pos l1]
    have i2 := inv_apply i1 (c := c') ⟨by rw [l2]; exact hS, by omega, ⟨l5, l6⟩⟩
    have hds := done_ses (claimP q).1 (putR q.ses ⟨c.ses, c.seq, (claimP q).2⟩) c'
    have eq1 : (applyP q c).1 = { (claimP q).1 with ses := putR q.ses ⟨c.ses, c.seq, (claimP q).2⟩ } := by rw [e1]
    have e2' : (applyP (applyP q c).1 c').1.gs = (reportP (claimP q).1 c').1.gs ∧ (applyP (applyP q c).1 c').1.now = (reportP (claimP q).1 c').1.now ∧ (applyP (applyP q c).1 c').1.nt = (reportP (claimP q).1 c').1.nt ∧ (applyP (applyP q c).1 c').2 = (reportP (claimP q).1 c').2 := by
      rw [e2, eq1, hds, hd2]
      exact ⟨rfl, rfl, rfl, rfl⟩
    obtain ⟨f1, f2, f3, f4⟩ := e2'
    refine ⟨by rw [e1]; exact w1, by rw [f4]; exact w3, hpos, ⟨i2, by rw [f1]; exact w4, by rw [f1]; have := h.few; omega, by rw [f2, w6]; exact h.now, by rw [f3, w7]; omega, ?_⟩⟩
    have b2' := b2
    rw [l2, l3] at b2'
    rw [show s + 2 = s + 1 + 1 from by omega]
    exact b2'
theorem free_after {q : Qp} (h : Inv q) {t : Int} (ht : ∀ g ∈ q.gs, ∀ x ∈ g.st, x.s = 2 → x.u ≤ t) : NoLease (q.gs.map (fun g => { g with st := repl 1 (pastB t) g.st })) := by
  intro b hb y hy
  obtain ⟨g, hg, rfl⟩ := List.mem_map.1 hb
  obtain ⟨i, hi⟩ := List.getElem?_of_mem hy
  obtain ⟨x, hx, e⟩ := repl_pl hi
  have hxm := List.mem_of_getElem? hx
  have := h.gsIn g hg
  split at e
  · subst e
    show (1 : Int) ≠ 2; decide
  · rename_i hp
    subst e
    intro h2
    apply hp
    unfold pastB
    rw [h2]
    simp only [beq_self_eq_true, Bool.true_and, decide_eq_true_eq]
    exact ht g hg y hxm h2
def Near (q : Qp) : Prop := ∀ g ∈ q.gs, ∀ x ∈ g.st, x.s = 2 → x.u ≤ q.now + 8
theorem near_new : Near Qp.new := fun g hg => by cases hg
theorem near_with {q : Qp} (h : Near q) {i : Nat} {l : List Pst} (hl : ∀ x ∈ l, x.s = 2 → x.u ≤ q.now + 8) : Near (withG q i l) := by
  intro b hb y hy h2
  obtain ⟨k, hk⟩ := List.getElem?_of_mem hb
  rw [withG_at] at hk
  split at hk
  · cases hg : q.gs[k]? with
    | none => rw [hg] at hk; cases hk
    | some g =>
      rw [hg] at hk
      simp only [Option.map_some, Option.some.injEq] at hk
      subst hk
      exact hl y hy h2
  · exact h b (List.mem_of_getElem? hk) y hy h2
theorem near_done {q : Qp} (hi : Inv q) (h : Near q) (c : Cq) : Near (doneP q c).1 := by
  unfold doneP
  split
  · unfold submitP
    split
    · exact h
    · rename_i hq
      split
      · exact h
      · intro g hg x hx h2
        rcases List.mem_append.1 hg with hg | hg
        · exact h g hg x hx h2
        · exfalso
          rw [List.mem_singleton.1 hg] at hx
          have hq' : grCheck c.ps = 0 := Classical.byContradiction hq
          have hx' : x ∈ grSettle c.ps (stBegin c.ps.length (grFresh c.ps (fun k => q.built.contains k))) := hx
          obtain ⟨j, hj⟩ := List.getElem?_of_mem hx'
          rcases settle_from hq' (by unfold stBegin; simp) hj with hj | ⟨hs, _⟩
          · unfold stBegin at hj
            rw [List.getElem?_map] at hj
            cases hr : (List.range c.ps.length)[j]? with
            | none => rw [hr] at hj; cases hj
            | some k =>
              rw [hr] at hj
              simp only [Option.map_some, Option.some.injEq] at hj
              subst hj
              revert h2
              simp only
              split <;> simp
          · omega
  · split
    · unfold claimP
      cases hr : readyAt q with
      | none => exact h
      | some p =>
        obtain ⟨i, n⟩ := p
        obtain ⟨g, x, hg, hx, hs⟩ := ready_some hr
        simp only
        rw [getD_some hg]
        by_cases hb : q.nt = top ∨ late < q.now
        · have : granted q.nt q.now = (q.nt, Pst.zero, 101) := by unfold granted; rw [if_pos hb]
          rw [this, if_pos (show (101 : Int) ≠ 0 by decide)]
          exact h
        · have : granted q.nt q.now = (q.nt + 1, ⟨2, q.nt, q.now + 8⟩, 0) := by unfold granted; rw [if_neg hb]
          rw [this, if_neg (show ¬ (0 : Int) ≠ 0 by decide)]
          refine near_with (q := q) h (i := i) (fun y hy h2 => ?_)
          obtain ⟨j, hj⟩ := List.getElem?_of_mem hy
          rcases set_at _ _ _ _ _ hj with ⟨_, rfl, _⟩ | ⟨_, hj⟩
          · exact Int.le_refl _
          · exact h g (List.mem_of_getElem? hg) y (List.mem_of_getElem? hj) h2
    · split
      · unfold renewP
        cases hr : heldAt q c.tok with
        | none => exact h
        | some p =>
          obtain ⟨i, n⟩ := p
          obtain ⟨g, x, hg, hx, hh⟩ := held_some hr
          obtain ⟨hs, _, _, _⟩ := held_is hh
          simp only
          rw [getD_some hg, getS_some hx]
          have hxn := h g (List.mem_of_getElem? hg) x (List.mem_of_getElem? hx) hs
          by_cases hl : late < q.now
          · have hrn : renewed x c.tok q.now = (Pst.zero, 101) := by unfold renewed; rw [hh, if_neg (by simp), if_pos hl]
            rw [hrn, if_pos (show (101 : Int) ≠ 0 by decide)]
            exact h
          · have hrn : renewed x c.tok q.now = (⟨x.s, x.t, max x.u (q.now + 8)⟩, 0) := by unfold renewed; rw [hh, if_neg (by simp), if_neg hl]
            rw [hrn, if_neg (show ¬ (0 : Int) ≠ 0 by decide)]
            refine near_with h (fun y hy h2 => ?_)
            obtain ⟨j, hj⟩ := List.getElem?_of_mem hy
            rcases set_at _ _ _ _ _ hj with ⟨_, rfl, _⟩ | ⟨_, hj⟩
            · show max x.u (q.now + 8) ≤ q.now + 8
              omega
            · exact h g (List.mem_of_getElem? hg) y (List.mem_of_getElem? hj) h2
      · split
        · unfold reportP
          cases hr : heldAt q c.tok with
          | none => exact h
          | some p =>
            obtain ⟨i, n⟩ := p
            obtain ⟨g, x, hg, hx, hh⟩ := held_some hr
            simp only
            rw [getD_some hg]
            obtain ⟨_, _, a3, a4, _, _⟩ := hi.gsIn g (List.mem_of_getElem? hg)
            have hz : (if c.good = true then (3 : Int) else 4) = 3 ∨ (if c.good = true then (3 : Int) else 4) = 4 := by split <;> simp
            generalize (if c.good = true then (3 : Int) else 4) = z at *
            have hl : (g.st.set n ⟨z, 0, 0⟩).length = g.ps.length := by simpa using a4
            have hw : Near (withG q i (grSettle g.ps (g.st.set n ⟨z, 0, 0⟩))) := near_with h (fun y hy h2 => by
              obtain ⟨j, hj⟩ := List.getElem?_of_mem hy
              rcases settle_from a3 hl hj with hj | ⟨hs, _⟩
              · rcases set_at _ _ _ _ _ hj with ⟨_, rfl, _⟩ | ⟨_, hj⟩
                · have e2 : z = 2 := h2
                  omega
                · exact h g (List.mem_of_getElem? hg) y (List.mem_of_getElem? hj) h2
              · omega)
            split
            · exact hw
            · exact hw
        · unfold cancelP
          cases hr : findG q c.id with
          | none => exact h
          | some i =>
            obtain ⟨g, hg, _⟩ := findIdx_at hr
            simp only
            rw [getD_some hg]
            split
            · exact fun b hb => h b ((List.eraseIdx_sublist _ _).subset hb)
            · refine near_with h (fun y hy h2 => ?_)
              obtain ⟨j, hj⟩ := List.getElem?_of_mem hy
              obtain ⟨x, hx, e⟩ := repl_pl hj
              split at e
              · subst e
                cases h2
              · subst e
                exact h g (List.mem_of_getElem? hg) y (List.mem_of_getElem? hx) h2
theorem near_apply {q : Qp} (hi : Inv q) (h : Near q) (c : Cq) : Near (applyP q c).1 := by
  unfold applyP
  split
  · split
    · exact h
    · rename_i ht
      intro b hb y hy h2
      obtain ⟨g, hg, rfl⟩ := List.mem_map.1 hb
      obtain ⟨j, hj⟩ := List.getElem?_of_mem hy
      obtain ⟨x, hx, e⟩ := repl_pl hj
      split at e
      · subst e
        cases h2
      · subst e
        have := h g hg y (List.mem_of_getElem? hx) h2
        show y.u ≤ c.time + 8
        omega
  · split
    · exact h
    · split
      · exact h
      · split
        · exact h
        · split
          · exact h
          · exact near_done hi h c
end Go.Proofs.YtkoikmdmejhhhaaGreat
namespace Go.Proofs.YtkoikmdmejhhhaaGreat
structure Bld (ps : List Pt) (F : Nat → Prop) (l : List Pst) : Prop where
  len : l.length = ps.length
  rng : ∀ x ∈ l, x.s = 0 ∨ x.s = 1 ∨ x.s = 3 ∨ x.s = 4 ∨ x.s = 5
  had : ∀ (i : Nat) (x : Pst), l[i]? = some x → x.s = 1 ∨ x.s = 3 ∨ x.s = 4 → ∀ k ∈ needsAt ps (i : Int), (l.getD k .zero).s = 3
  lost : ∀ (i : Nat) (x : Pst), l[i]? = some x → x.s = 5 → ∃ k ∈ needsAt ps (i : Int), lostS (l.getD k .zero).s = true
  fail : ∀ (i : Nat) (x : Pst), l[i]? = some x → (x.s = 4 ↔ F i)
end Go.Proofs.YtkoikmdmejhhhaaGreat
namespace Go.Proofs.YtkoikmdmejhhhaaGreat
structure Blt (q : Qp) (i0 : Nat) (id : Int) (ps : List Pt) (k : Nat) : Prop where
  inv : Inv q
  at_ : ∃ g, q.gs[i0]? = some g ∧ g.id = id ∧ g.ps = ps ∧ Bld ps (fun _ => False) g.st ∧ (∀ (i : Nat) (x : Pst), g.st[i]? = some x → x.s = 3 → (grKeys ps).getD i 0 ∈ q.built) ∧ g.st.countP nf ≤ k
  others : ∀ (j : Nat) (b : Gq), j ≠ i0 → q.gs[j]? = some b → overB b.st = true
  few : q.built.length + k ≤ 256
  now : q.now ≤ late
  nt : q.nt + k < top
theorem over_not {l : List Pst} (h : overB l = true) {x : Pst} (hx : x ∈ l) : x.s ≠ 0 ∧ x.s ≠ 1 ∧ x.s ≠ 2 := by
  unfold overB at h
  rw [List.all_eq_true] at h
  have := h x hx
  unfold finB at this
  simp only [Bool.and_eq_true, decide_eq_true_eq] at this
  omega
theorem Blt.free {q : Qp} {i0 : Nat} {id : Int} {ps : List Pt} {k : Nat} (h : Blt q i0 id ps k) : NoLease q.gs := by
  intro b hb x hx
  obtain ⟨j, hj⟩ := List.getElem?_of_mem hb
  by_cases e : j = i0
  · subst e
    obtain ⟨g, hg, _, _, hB, _⟩ := h.at_
    rw [hj] at hg
    injection hg with hg
    subst hg
    have := hB.rng x hx
    omega
  · exact (over_not (h.others j b e hj) hx).2.2
theorem Blt.more {q q' : Qp} {i0 : Nat} {id : Int} {ps : List Pt} {k : Nat} (h : Blt q i0 id ps k) (hi : Inv q') (e1 : q'.gs = q.gs) (e2 : q'.built = q.built) (e3 : q'.now = q.now) (e4 : q'.nt = q.nt) : Blt q' i0 id ps k :=
  ⟨hi, by rw [e1, e2]; exact h.at_, by rw [e1]; exact h.others, by rw [e2]; exact h.few, by rw [e3]; exact h.now, by rw [e4]; exact h.nt⟩
end Go.Proofs.YtkoikmdmejhhhaaGreat
namespace Go.Proofs.YtkoikmdmejhhhaaGreat
def nameP (ps : List Pt) (n : Nat) : ByteArray := ((ps[n]?).map Pt.name).getD ⟨#[]⟩
structure Dbl (q : Qp) (i0 : Nat) (id : Int) (ps : List Pt) (fs : List ByteArray) (k : Nat) : Prop where
  inv : Inv q
  at_ : ∃ g, q.gs[i0]? = some g ∧ g.id = id ∧ g.ps = ps ∧ Bld ps (fun i => nameP ps i ∈ fs) g.st ∧ g.st.countP nf ≤ k
  others : ∀ (j : Nat) (b : Gq), j ≠ i0 → q.gs[j]? = some b → overB b.st = true
  now : q.now ≤ late
  nt : q.nt + k < top
theorem Dbl.free {q : Qp} {i0 : Nat} {id : Int} {ps : List Pt} {fs : List ByteArray} {k : Nat} (h : Dbl q i0 id ps fs k) : NoLease q.gs := by
  intro b hb x hx
  obtain ⟨j, hj⟩ := List.getElem?_of_mem hb
  by_cases e : j = i0
  · subst e
    obtain ⟨g, hg, _, _, hB, _⟩ := h.at_
    rw [hj] at hg
    injection hg with hg
    subst hg
    have := hB.rng x hx
    omega
  · exact (over_not (h.others j b e hj) hx).2.2
theorem Dbl.more {q q' : Qp} {i0 : Nat} {id : Int} {ps : List Pt} {fs : List ByteArray} {k : Nat} (h : Dbl q i0 id ps fs k) (hi : Inv q') (e1 : q'.gs = q.gs) (e3 : q'.now = q.now) (e4 : q'.nt = q.nt) : Dbl q' i0 id ps fs k :=
  ⟨hi, by rw [e1]; exact h.at_, by rw [e1]; exact h.others, by rw [e3]; exact h.now, by rw [e4]; exact h.nt⟩
end Go.Proofs.YtkoikmdmejhhhaaGreat
namespace Go.Proofs.YtkoikmdmejhhhaaGreat
theorem advance_like {p : Qp} {l : List Ro} {c : Cq} (hk : c.kind = 7) (ht : p.now < c.time) :
    applyP { p with ses := l } c = ({ ({ p with now := c.time, gs := p.gs.map (fun g => { g with st := repl 1 (pastB c.time) g.st }) } : Qp) with ses := l }, .zero) := by
  unfold applyP
  rw [if_pos hk, if_neg (by show ¬ c.time ≤ p.now; omega)]
end Go.Proofs.YtkoikmdmejhhhaaGreat
namespace Go.Proofs.YtkoikmdmejhhhaaGreat
theorem open_found {l : List Ro} {S : Int} (h : openE l S = 0) : ∃ r, findR (openL l S) S = some r := by
  by_cases h0 : S = 0
  · unfold openE at h
    rw [if_pos h0] at h
    exact absurd h (by decide)
  · cases hf : findR l S with
    | some r =>
      refine ⟨r, ?_⟩
      unfold openL
      rw [if_neg h0, hf]
      simp [hf]
    | none =>
      unfold openE at h
      rw [if_neg h0, hf] at h
      by_cases hl : 16 ≤ l.length
      · simp [hl] at h
      · refine ⟨⟨S, 0, .zero⟩, ?_⟩
        unfold openL
        rw [if_neg h0, hf]
        simp only [Option.isSome_none, Bool.false_eq_true, if_false, if_neg hl]
        exact find_ins ⟨S, 0, .zero⟩ l (no_find hf)
theorem works_start {q : Qp} (h : Inv q) (hn : Near q) {S : Int} {c1 c2 : Cq} (k1 : c1.kind = 1 ∧ c1.ses = S) (k2 : c2.kind = 7) (ht : c2.time = q.now + 16) (hnow : q.now + 16 ≤ late) (hnt : q.nt + 512 < top) (h0 : (applyP q c1).2.code = 0)
    (hc1 : CqOk c1) (hc2 : CqOk c2) : ∃ r, findR (applyP (applyP q c1).1 c2).1.ses S = some r ∧ Works (applyP (applyP q c1).1 c2).1 S (r.seq + 1) 512 := by
  have e1 : applyP q c1 = ({ q with ses := openL q.ses S }, .err (openE q.ses S)) := by
    unfold applyP
    rw [if_neg (by omega), if_pos k1.1, k1.2]
  have e2 : applyP (applyP q c1).1 c2 = ({ ({ q with now := c2.time, gs := q.gs.map (fun g => { g with st := repl 1 (pastB c2.time) g.st }) } : Qp) with ses := openL q.ses S }, .zero) := by
    rw [e1]
    exact advance_like k2 (by omega)
  have i1 := inv_apply h hc1
  have i2 := inv_apply i1 hc2
  have hopen : openE q.ses S = 0 := by
    rw [e1] at h0
    exact h0
  obtain ⟨r, hr⟩ := open_found hopen
  have f1 : (applyP (applyP q c1).1 c2).1.ses = openL q.ses S := by rw [e2]
  have f2 : (applyP (applyP q c1).1 c2).1.gs = q.gs.map (fun g => { g with st := repl 1 (pastB c2.time) g.st }) := by rw [e2]
  have f3 : (applyP (applyP q c1).1 c2).1.now = c2.time := by rw [e2]
  have f4 : (applyP (applyP q c1).1 c2).1.nt = q.nt := by rw [e2]
  refine ⟨r, by rw [f1]; exact hr, ⟨i2, ?_, ?_, by rw [f3]; omega, by rw [f4]; omega, ⟨r, by rw [f1]; exact hr, by omega⟩⟩⟩
  · rw [f2]
    exact free_after h (fun g hg x hx h2 => by have := hn g hg x hx h2; omega)
  · have := countG_few (gs := (applyP (applyP q c1).1 c2).1.gs) (fun g hg => by
      have := i2.gsIn g hg
      exact ⟨this.2.2.1, this.2.2.2.1⟩)
    have := i2.gsFew
    omega
theorem ran_inv {l : List Cq} (hl : ∀ c ∈ l, CqOk c) : Inv (ranP Qp.new l) ∧ Near (ranP Qp.new l) := by
  have key : ∀ (l : List Cq) (q : Qp), Inv q → Near q → (∀ c ∈ l, CqOk c) → Inv (ranP q l) ∧ Near (ranP q l) := by
    intro l
    induction l with
    | nil => exact fun q h hn _ => ⟨h, hn⟩
    | cons c l ih =>
      intro q h hn hl
      exact ih _ (inv_apply h (hl c (List.mem_cons_self ..))) (near_apply h hn c) (fun x hx => hl x (List.mem_cons_of_mem _ hx))
  exact key l _ inv_new near_new hl
theorem ran_next (q : Qp) (l : List Cq) (c : Cq) : ranP q (l ++ [c]) = (applyP (ranP q l) c).1 := by unfold ranP; rw [List.foldl_append]; rfl
end Go.Proofs.YtkoikmdmejhhhaaGreat
