import Derived.Test.YtkoikmdmejhhhaaGreatBs22
namespace Go.Proofs.YtkoikmdmejhhhaaGreat
structure CqOk (c : Cq) : Prop where
  ses : 0 ≤ c.ses ∧ c.ses ≤ top
  seq : 0 ≤ c.seq ∧ c.seq ≤ top
  time : 0 ≤ c.time ∧ c.time ≤ top
theorem ins_up (r : Ro) : ∀ (l : List Ro), l.Pairwise (fun a b => a.id < b.id) → (∀ g ∈ l, g.id ≠ r.id) → (insR r l).Pairwise (fun a b => a.id < b.id)
  | [], _, _ => by unfold insR; simp
  | g :: l, h, hne => by
    rw [List.pairwise_cons] at h
    unfold insR
    split
    · rename_i hlt
      rw [List.pairwise_cons, List.pairwise_cons]
      refine ⟨fun x hx => ?_, h⟩
      rcases List.mem_cons.1 hx with rfl | hx
      · exact hlt
      · have := h.1 x hx; omega
    · rename_i hlt
      rw [List.pairwise_cons]
      refine ⟨fun x hx => ?_, ins_up r l h.2 (fun x hx => hne x (List.mem_cons_of_mem _ hx))⟩
      rcases List.mem_cons.1 ((ins_perm r l).mem_iff.1 hx) with rfl | hx
      · have := hne g (List.mem_cons_self ..); omega
      · exact h.1 x hx
def SesOk (l : List Ro) : Prop := l.Pairwise (fun a b => a.id < b.id) ∧ (∀ r ∈ l, (0 < r.id ∧ r.id ≤ top) ∧ (0 ≤ r.seq ∧ r.seq ≤ top) ∧ (r.seq = 0 → r.ans = .zero)) ∧ l.length ≤ 16
theorem no_find {l : List Ro} {x : Int} (h : findR l x = none) : ∀ g ∈ l, g.id ≠ x := by
  intro g hg e
  unfold findR at h
  rw [List.find?_eq_none] at h
  exact h g hg (by simpa using e)
theorem ses_open {l : List Ro} (h : SesOk l) {x : Int} (hx : 0 ≤ x ∧ x ≤ top) : SesOk (openL l x) := by
  refine ⟨?_, ?_, open_few h.2.2⟩
  · unfold openL
    split
    · exact h.1
    · split
      · exact h.1
      · split
        · exact h.1
        · rename_i h1 h2 h3
          refine ins_up _ _ h.1 (no_find ?_)
          cases hq : findR l x with
          | none => rfl
          | some r => rw [hq] at h2; exact absurd rfl h2
  · intro r hr
    unfold openL at hr
    split at hr
    · exact h.2.1 r hr
    · rename_i h0
      split at hr
      · exact h.2.1 r hr
      · split at hr
        · exact h.2.1 r hr
        · rcases List.mem_cons.1 ((ins_perm _ l).mem_iff.1 hr) with rfl | hr
          · exact ⟨⟨by show 0 < x; omega, hx.2⟩, ⟨Int.le_refl _, show (0 : Int) ≤ top by unfold top; decide⟩, fun _ => rfl⟩
          · exact h.2.1 r hr
theorem ses_keep {l : List Ro} (h : SesOk l) {x s : Int} {a : An} (hs : 0 ≤ s ∧ s ≤ top) : SesOk (keepL l x s a) := by
  refine ⟨?_, ?_, keep_few h.2.2⟩
  · unfold keepL
    split
    · unfold putR
      refine ins_up _ _ (h.1.sublist List.filter_sublist) (fun g hg => ?_)
      unfold delR at hg
      simpa using (List.mem_filter.1 hg).2
    · exact h.1
  · intro r hr
    unfold keepL at hr
    split at hr
    · rename_i hk
      obtain ⟨r0, h0, _, hs0⟩ := keep_ok hk
      obtain ⟨hm, hid⟩ := findR_mem h0
      have hb := h.2.1 r0 hm
      unfold putR at hr
      rcases List.mem_cons.1 ((ins_perm _ _).mem_iff.1 hr) with rfl | hr
      · exact ⟨by rw [← hid]; exact hb.1, hs, fun e => absurd e hs0⟩
      · unfold delR at hr
        exact h.2.1 r (List.mem_filter.1 hr).1
    · exact h.2.1 r hr
theorem Inv.sesOk {q : Qp} (h : Inv q) : SesOk q.ses := ⟨h.sesUp, h.sesIn, h.sesFew⟩
theorem Inv.withSes {q : Qp} (h : Inv q) {l : List Ro} (hl : SesOk l) : Inv { q with ses := l } := ⟨h.now0, h.ng, h.nt, hl.1, hl.2.1, hl.2.2, h.gsFew, h.gsUp, h.gsIn, h.toks, h.bltFew, h.bltNo⟩
theorem inv_done {q : Qp} (h : Inv q) (c : Cq) : Inv (doneP q c).1 := by
  unfold doneP
  split
  · exact inv_submit h c
  · split
    · exact inv_claim h
    · split
      · exact inv_renew h c
      · split
        · exact inv_report h c
        · exact inv_cancel h c
theorem done_same (q : Qp) (c : Cq) : (doneP q c).1.now = q.now ∧ (doneP q c).1.ses = q.ses ∧ q.nt ≤ (doneP q c).1.nt := by
  unfold doneP
  split
  · unfold submitP
    split
    · exact ⟨rfl, rfl, Int.le_refl _⟩
    · split <;> exact ⟨rfl, rfl, Int.le_refl _⟩
  · split
    · unfold claimP
      split
      · exact ⟨rfl, rfl, Int.le_refl _⟩
      · simp only
        split
        · exact ⟨rfl, rfl, Int.le_refl _⟩
        · refine ⟨rfl, rfl, ?_⟩
          show q.nt ≤ (granted q.nt q.now).1
          unfold granted
          split
          · exact Int.le_refl _
          · exact Int.le_of_lt (Int.lt_succ _)
    · split
      · unfold renewP
        split
        · exact ⟨rfl, rfl, Int.le_refl _⟩
        · simp only
          split <;> exact ⟨rfl, rfl, Int.le_refl _⟩
      · split
        · unfold reportP
          split
          · exact ⟨rfl, rfl, Int.le_refl _⟩
          · simp only
            split <;> exact ⟨rfl, rfl, Int.le_refl _⟩
        · unfold cancelP
          split
          · exact ⟨rfl, rfl, Int.le_refl _⟩
          · simp only
            split <;> exact ⟨rfl, rfl, Int.le_refl _⟩
theorem inv_apply {q : Qp} (h : Inv q) {c : Cq} (hc : CqOk c) : Inv (applyP q c).1 := by
  unfold applyP
  split
  · split
    · exact h
    · exact inv_expire h (by omega) hc.time.2
  · split
    · exact h.withSes (ses_open h.sesOk hc.ses)
    · split
      · exact h
      · split
        · exact h
        · split
          · exact h
          · have hd := inv_done h c
            exact hd.withSes (ses_keep h.sesOk hc.seq)
end Go.Proofs.YtkoikmdmejhhhaaGreat
namespace Go.Proofs.YtkoikmdmejhhhaaGreat
def NoLease (gs : List Gq) : Prop := ∀ g ∈ gs, ∀ x ∈ g.st, x.s ≠ 2
def nf (x : Pst) : Bool := !finB x.s
def countG : List Gq → Nat
  | [] => 0
  | g :: r => g.st.countP nf + countG r
theorem first_none {f : Gq → Option Nat} : ∀ {gs : List Gq} {i : Nat}, firstG f gs i = none → ∀ g ∈ gs, f g = none
  | [], _, _, g, hg => by cases hg
  | a :: gs, i, h, g, hg => by
    unfold firstG at h
    cases ha : f a with
    | some k => rw [ha] at h; cases h
    | none =>
      rw [ha] at h
      rcases List.mem_cons.1 hg with rfl | hg
      · exact ha
      · exact first_none h g hg
theorem idle_over {q : Qp} (h : Inv q) (hn : NoLease q.gs) (hr : readyAt q = none) : ∀ g ∈ q.gs, overB g.st = true := by
  intro g hg
  obtain ⟨_, _, hq, hl, hs, ho⟩ := h.gsIn g hg
  have hnx : nextIx g.st = none := first_none hr g hg
  have no1 : ∀ x ∈ g.st, x.s ≠ 1 := by
    intro x hx e
    unfold nextIx at hnx
    rw [List.findIdx?_eq_none_iff] at hnx
    have := hnx x hx
    rw [e] at this
    simp at this
  have hw := (settle_iff hq hl).1 hs
  have key : ∀ p, p < g.ps.length → ∀ x, g.st[p]? = some x → finB x.s = true := by
    intro p hp
    refine by_order hq (Q := fun p => ∀ x, g.st[p]? = some x → finB x.s = true) (fun p hp ih x hx => ?_) p hp
    have hxm := List.mem_of_getElem? hx
    have hxo := (ho x hxm).1
    by_cases h0 : x.s = 0
    · exfalso
      have hz := hw p x hx h0
      have hfin : ∀ s ∈ needSt g.ps g.st p, finB s = true := by
        intro s hs
        unfold needSt at hs
        obtain ⟨n, hn', rfl⟩ := List.mem_map.1 hs
        have := needsAt_lt hn'
        exact ih n hn' _ (getS_at (by rw [hl]; exact this))
      by_cases hlo : ∃ s ∈ needSt g.ps g.st p, lostS s = true
      · obtain ⟨s, hs, hs2⟩ := hlo
        rw [outc_lost hs hs2] at hz
        exact absurd hz (by decide)
      · have hno : ∀ s ∈ needSt g.ps g.st p, lostS s = false := fun s hs => by
          cases hq2 : lostS s with
          | false => rfl
          | true => exact absurd ⟨s, hs, hq2⟩ hlo
        rw [outc_else hno, if_pos] at hz
        · exact absurd hz (by decide)
        · rw [List.all_eq_true]
          intro s hs
          have h1 := hfin s hs
          have h2 := hno s hs
          unfold finB at h1
          unfold lostS at h2
          simp only [Bool.and_eq_true, Bool.and_eq_false_iff, decide_eq_true_eq, decide_eq_false_iff_not] at h1 h2
          rw [beq_iff_eq]
          omega
    · have h1 := no1 x hxm
      have h2 := hn g hg x hxm
      unfold finB
      simp only [Bool.and_eq_true, decide_eq_true_eq]
      omega
  unfold overB
  rw [List.all_eq_true]
  intro x hx
  obtain ⟨i, hi⟩ := List.getElem?_of_mem hx
  exact key i (by rw [← hl]; exact (List.getElem?_eq_some_iff.1 hi).1) x hi
theorem count_to : ∀ {l m : List Pst}, l.length = m.length → (∀ (i : Nat) (x y : Pst), l[i]? = some x → m[i]? = some y → nf y = true → nf x = true) → m.countP nf ≤ l.countP nf
  | [], [], _, _ => Nat.le_refl _
  | [], _ :: _, h, _ => by cases h
  | _ :: _, [], h, _ => by cases h
  | x :: l, y :: m, h, hh => by
    have ih := count_to (l := l) (m := m) (by simpa using h) (fun i a b ha hb => hh (i + 1) a b (by simpa using ha) (by simpa using hb))
    have h0 := hh 0 x y rfl rfl
    rw [List.countP_cons, List.countP_cons]
    cases hy : nf y with
    | false => simp; omega
    | true => rw [h0 hy]; simp; exact ih
theorem count_set_less {l : List Pst} {n : Nat} {x y : Pst} (h : l[n]? = some x) (hx : nf x = true) (hy : nf y = false) : (l.set n y).countP nf + 1 = l.countP nf := by
  induction l generalizing n with
  | nil => simp at h
  | cons a l ih =>
    cases n with
    | zero =>
      have e : a = x := by simpa using h
      subst e
      simp [hx, hy]
    | succ n =>
      have := ih (n := n) (by simpa using h)
      rw [List.set_cons_succ, List.countP_cons, List.countP_cons]
      omega
theorem countG_modify : ∀ {gs : List Gq} {i : Nat} {g : Gq} (l : List Pst), gs[i]? = some g → countG (gs.modify i (fun g => { g with st := l })) + g.st.countP nf = countG gs + l.countP nf
  | [], i, g, l, h => by simp at h
  | a :: gs, 0, g, l, h => by
    have e : a = g := by simpa using h
    subst e
    simp only [List.modify_zero_cons, countG]
    omega
  | a :: gs, i + 1, g, l, h => by
    have ih := countG_modify l (gs := gs) (i := i) (g := g) (by simpa using h)
    simp only [List.modify_succ_cons, countG]
    omega
theorem work_round {q : Qp} (h : Inv q) (hn : NoLease q.gs) (hnt : q.nt < top) (hnow : q.now ≤ late) {p : Nat × Nat} (hr : readyAt q = some p) (c : Cq) (hc : c.tok = q.nt) (hg : c.good = true) :
    (claimP q).2.code = 0 ∧ (claimP q).2.tok = q.nt ∧ (reportP (claimP q).1 c).2.code = 0 ∧ NoLease (reportP (claimP q).1 c).1.gs ∧ countG (reportP (claimP q).1 c).1.gs + 1 ≤ countG q.gs ∧ (reportP (claimP q).1 c).1.now = q.now ∧ (reportP (claimP q).1 c).1.nt = q.nt + 1 ∧ (reportP (claimP q).1 c).1.gs.length = q.gs.length := by
  obtain ⟨i, n⟩ := p
  obtain ⟨g, x, hgi, hx, hs⟩ := ready_some hr
  have hgr : granted q.nt q.now = (q.nt + 1, ⟨2, q.nt, q.now + 8⟩, 0) := by unfold granted; rw [if_neg (by omega)]
  have hnt1 := h.nt
  have e1 : claimP q = ({ withG q i (g.st.set n ⟨2, q.nt, q.now + 8⟩) with nt := q.nt + 1 }, ⟨0, g.id, q.nt, q.now + 8, g.name n, g.cmd n⟩) := by
    unfold claimP
    rw [hr]
    simp only
    rw [getD_some hgi, hgr, if_neg (show ¬ (0 : Int) ≠ 0 by decide)]
  rw [e1]
  refine ⟨rfl, rfl, ?_⟩
  simp only
  generalize hq1 : ({ withG q i (g.st.set n ⟨2, q.nt, q.now + 8⟩) with nt := q.nt + 1 } : Qp) = q1
  have g1 : q1.gs = (withG q i (g.st.set n ⟨2, q.nt, q.now + 8⟩)).gs := by rw [← hq1]
  have n1 : q1.now = q.now := by rw [← hq1]; rfl
  have t1 : q1.nt = q.nt + 1 := by rw [← hq1]
  have hil := (List.getElem?_eq_some_iff.1 hgi).1
  have hnl := (List.getElem?_eq_some_iff.1 hx).1
  have at1 : q1.gs[i]? = some { g with st := g.st.set n ⟨2, q.nt, q.now + 8⟩ } := by
    rw [g1, withG_at, if_pos rfl, hgi]
    rfl
  have hheld : holdsB ⟨2, q.nt, q.now + 8⟩ q.nt q.now = true := by
    unfold holdsB
    simp only [beq_self_eq_true, bne_iff_ne, ne_eq, Bool.and_eq_true, decide_eq_true_eq, true_and]
    omega
  have hsome : ∃ j m, heldAt q1 c.tok = some (j, m) := by
    cases hh : heldAt q1 c.tok with
    | some p => exact ⟨p.1, p.2, rfl⟩
    | none =>
      exfalso
      have hm := first_none hh _ (List.mem_of_getElem? at1)
      unfold heldIn at hm
      rw [List.findIdx?_eq_none_iff] at hm
      have := hm ⟨2, q.nt, q.now + 8⟩ (List.mem_of_getElem? (List.getElem?_set_self hnl))
      rw [hc, n1, hheld] at this
      cases this
  obtain ⟨j, m, hjm⟩ := hsome
  obtain ⟨g', x', hg', hx', hh'⟩ := held_some hjm
  obtain ⟨hs', _, _, _⟩ := held_is hh'
  have hw := hg'
  rw [g1, withG_at] at hw
  obtain ⟨rfl, rfl, rfl⟩ : i = j ∧ n = m ∧ g' = { g with st := g.st.set n ⟨2, q.nt, q.now + 8⟩ } := by
    by_cases e : i = j
    · subst e
      rw [at1] at hg'
      injection hg' with hg'
      subst hg'
      refine ⟨rfl, ?_, rfl⟩
      rcases set_at _ _ _ _ _ hx' with ⟨e, _, _⟩ | ⟨_, hb⟩
      · exact e.symm
      · exact absurd hs' (hn g (List.mem_of_getElem? hgi) x' (List.mem_of_getElem? hb))
    · rw [if_neg e] at hw
      exact absurd hs' (hn g' (List.mem_of_getElem? hw) x' (List.mem_of_getElem? hx'))
  obtain ⟨_, _, a3, a4, _, a6⟩ := h.gsIn g (List.mem_of_getElem? hgi)
  have hset : (g.st.set n ⟨2, q.nt, q.now + 8⟩).set n ⟨3, 0, 0⟩ = g.st.set n ⟨3, 0, 0⟩ := by rw [List.set_set]
  have e2 : (reportP q1 c).1.gs = (withG q1 i (grSettle g.ps (g.st.set n ⟨3, 0, 0⟩))).gs ∧ (reportP q1 c).1.now = q1.now ∧ (reportP q1 c).1.nt = q1.nt ∧ (reportP q1 c).2.code = 0 := by
    unfold reportP
    rw [hjm]
    simp only
    rw [getD_some at1, if_pos hg, if_pos hg]
    dsimp only
    rw [hset]
    refine ⟨?_, ?_, ?_, ?_⟩ <;> first | rfl | trivial
  obtain ⟨e3, e4, e5, e6⟩ := e2
  have hlen : (g.st.set n ⟨3, 0, 0⟩).length = g.ps.length := by simpa using a4
  have hlen2 : (grSettle g.ps (g.st.set n ⟨3, 0, 0⟩)).length = g.ps.length := by rw [grSettle_length (by rw [order_len a3, hlen]), hlen]
  refine ⟨e6, ?_, ?_, by rw [e4, n1], by rw [e5, t1], ?_⟩
  · rw [e3]
    intro b hb y hy
    obtain ⟨k, hk⟩ := List.getElem?_of_mem hb
    rw [withG_at] at hk
    split at hk
    · rename_i e
      subst e
      rw [at1] at hk
      simp at hk
      subst hk
      obtain ⟨z, hz⟩ := List.getElem?_of_mem hy
      rcases settle_from a3 hlen hz with hz | ⟨hs3, _⟩
      · rcases set_at _ _ _ _ _ hz with ⟨_, rfl, _⟩ | ⟨_, hb2⟩
        · show (3 : Int) ≠ 2; decide
        · exact hn g (List.mem_of_getElem? hgi) y (List.mem_of_getElem? hb2)
      · omega
    · rename_i e
      rw [g1, withG_at, if_neg e] at hk
      exact hn b (List.mem_of_getElem? hk) y hy
  · have c1 := countG_modify (grSettle g.ps (g.st.set n ⟨3, 0, 0⟩)) at1
    have c2 := countG_modify (g.st.set n ⟨2, q.nt, q.now + 8⟩) hgi
    have c3 : (grSettle g.ps (g.st.set n ⟨3, 0, 0⟩)).countP nf ≤ (g.st.set n ⟨3, 0, 0⟩).countP nf := by
      refine count_to (by rw [hlen2, hlen]) (fun k a b ha hb hf => ?_)
      rcases settle_from a3 hlen hb with hb2 | ⟨_, _, _, x0, hx0, hx00⟩
      · rw [ha] at hb2
        injection hb2 with hb2
        subst hb2
        exact hf
      · rw [ha] at hx0
        injection hx0 with hx0
        subst hx0
        unfold nf
        rw [hx00]
        rfl
    have c4 := count_set_less (y := ⟨3, 0, 0⟩) hx (by unfold nf; rw [hs]; rfl) (by unfold nf; rfl)
    have f1 : (withG q1 i (grSettle g.ps (g.st.set n ⟨3, 0, 0⟩))).gs = q1.gs.modify i (fun g' => { g' with st := grSettle g.ps (g.st.set n ⟨3, 0, 0⟩) }) := rfl
    have f2 : q1.gs = q.gs.modify i (fun g' => { g' with st := g.st.set n ⟨2, q.nt, q.now + 8⟩ }) := g1
    rw [e3, f1]
    rw [← f2] at c2
    simp only at c1 c2
    omega
  · rw [e3]
    show (q1.gs.modify i _).length = _
    rw [List.length_modify, g1]
    show (q.gs.modify i _).length = _
    rw [List.length_modify]
theorem countG_few : ∀ {gs : List Gq}, (∀ g ∈ gs, grCheck g.ps = 0 ∧ g.st.length = g.ps.length) → countG gs ≤ gs.length * 32
  | [], _ => Nat.le_refl _
  | g :: gs, h => by
    have ih := countG_few (gs := gs) (fun a ha => h a (List.mem_cons_of_mem _ ha))
    obtain ⟨hq, hl⟩ := h g (List.mem_cons_self ..)
    have h32 : g.ps.length ≤ 32 := by
      unfold grCheck at hq
      split at hq
      · exact absurd hq (by decide)
      · rename_i hf
        have hf2 : grFits g.ps = true := by simpa using hf
        unfold grFits at hf2
        simp only [Bool.and_eq_true, decide_eq_true_eq] at hf2
        exact hf2.1
    have : g.st.countP nf ≤ g.st.length := List.countP_le_length
    unfold countG
    rw [List.length_cons, Nat.succ_mul]
    omega
theorem count_none : ∀ {gs : List Gq}, countG gs = 0 → ∀ g ∈ gs, overB g.st = true
  | [], _, g, hg => by cases hg
  | a :: gs, h, g, hg => by
    unfold countG at h
    rcases List.mem_cons.1 hg with rfl | hg
    · have h0 : g.st.countP nf = 0 := by omega
      rw [List.countP_eq_zero] at h0
      unfold overB
      rw [List.all_eq_true]
      intro x hx
      have := h0 x hx
      unfold nf at this
      simpa using this
    · exact count_none (by omega) g hg
end Go.Proofs.YtkoikmdmejhhhaaGreat
