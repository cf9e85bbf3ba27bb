/-
  Texts of the queue, merged: only what QueueTime wants.
-/
import Derived.Test.YtkoikmdmejhhhaaBt23
namespace Go.Proofs.Ytkoikmdmejhhhaa
structure CqOk (c : Cq) : Prop where
  ses : 0 ≤ c.ses ∧ c.ses ≤ top
  seq : 0 ≤ c.seq ∧ c.seq ≤ top
  time : 0 ≤ c.time ∧ c.time ≤ top
theorem ins_up (r : Ro) : ∀ (l : List Ro), l.Pairwise (fun a b => a.id < b.id) → (∀ g ∈ l, g.id ≠ r.id) → (insR r l).Pairwise (fun a b => a.id < b.id)
  | [], _, _ => by unfold insR; simp
  | g :: l, h, hne => by
    rw [List.pairwise_cons] at h
    unfold insR
    split
    · rename_i hlt
      rw [List.pairwise_cons, List.pairwise_cons]
      refine ⟨fun x hx => ?_, h⟩
      rcases List.mem_cons.1 hx with rfl | hx
      · exact hlt
      · have := h.1 x hx; omega
    · rename_i hlt
      rw [List.pairwise_cons]
      refine ⟨fun x hx => ?_, ins_up r l h.2 (fun x hx => hne x (List.mem_cons_of_mem _ hx))⟩
      rcases List.mem_cons.1 ((ins_perm r l).mem_iff.1 hx) with rfl | hx
      · have := hne g (List.mem_cons_self ..); omega
      · exact h.1 x hx
def SesOk (l : List Ro) : Prop := l.Pairwise (fun a b => a.id < b.id) ∧ (∀ r ∈ l, (0 < r.id ∧ r.id ≤ top) ∧ (0 ≤ r.seq ∧ r.seq ≤ top) ∧ (r.seq = 0 → r.ans = .zero)) ∧ l.length ≤ 16
theorem no_find {l : List Ro} {x : Int} (h : findR l x = none) : ∀ g ∈ l, g.id ≠ x := by
  intro g hg e
  unfold findR at h
  rw [List.find?_eq_none] at h
  exact h g hg (by simpa using e)
theorem ses_open {l : List Ro} (h : SesOk l) {x : Int} (hx : 0 ≤ x ∧ x ≤ top) : SesOk (openL l x) := by
  refine ⟨?_, ?_, open_few h.2.2⟩
  · unfold openL
    split
    · exact h.1
    · split
      · exact h.1
      · split
        · exact h.1
        · rename_i h1 h2 h3
          refine ins_up _ _ h.1 (no_find ?_)
          cases hq : findR l x with
          | none => rfl
          | some r => rw [hq] at h2; exact absurd rfl h2
  · intro r hr
    unfold openL at hr
    split at hr
    · exact h.2.1 r hr
    · rename_i h0
      split at hr
      · exact h.2.1 r hr
      · split at hr
        · exact h.2.1 r hr
        · rcases List.mem_cons.1 ((ins_perm _ l).mem_iff.1 hr) with rfl | hr
          · exact ⟨⟨by show 0 < x; omega, hx.2⟩, ⟨Int.le_refl _, show (0 : Int) ≤ top by unfold top; decide⟩, fun _ => rfl⟩
          · exact h.2.1 r hr
theorem ses_keep {l : List Ro} (h : SesOk l) {x s : Int} {a : An} (hs : 0 ≤ s ∧ s ≤ top) : SesOk (keepL l x s a) := by
  refine ⟨?_, ?_, keep_few h.2.2⟩
  · unfold keepL
    split
    · unfold putR
      refine ins_up _ _ (h.1.sublist List.filter_sublist) (fun g hg => ?_)
      unfold delR at hg
      simpa using (List.mem_filter.1 hg).2
    · exact h.1
  · intro r hr
    unfold keepL at hr
    split at hr
    · rename_i hk
      obtain ⟨r0, h0, _, hs0⟩ := keep_ok hk
      obtain ⟨hm, hid⟩ := findR_mem h0
      have hb := h.2.1 r0 hm
      unfold putR at hr
      rcases List.mem_cons.1 ((ins_perm _ _).mem_iff.1 hr) with rfl | hr
      · exact ⟨by rw [← hid]; exact hb.1, hs, fun e => absurd e hs0⟩
      · unfold delR at hr
        exact h.2.1 r (List.mem_filter.1 hr).1
    · exact h.2.1 r hr
theorem Inv.sesOk {q : Qp} (h : Inv q) : SesOk q.ses := ⟨h.sesUp, h.sesIn, h.sesFew⟩
theorem Inv.withSes {q : Qp} (h : Inv q) {l : List Ro} (hl : SesOk l) : Inv { q with ses := l } := ⟨h.now0, h.ng, h.nt, hl.1, hl.2.1, hl.2.2, h.gsFew, h.gsUp, h.gsIn, h.toks, h.bltFew, h.bltNo⟩
theorem inv_done {q : Qp} (h : Inv q) (c : Cq) : Inv (doneP q c).1 := by
  unfold doneP
  split
  · exact inv_submit h c
  · split
    · exact inv_claim h
    · split
      · exact inv_renew h c
      · split
        · exact inv_report h c
        · exact inv_cancel h c
theorem done_same (q : Qp) (c : Cq) : (doneP q c).1.now = q.now ∧ (doneP q c).1.ses = q.ses ∧ q.nt ≤ (doneP q c).1.nt := by
  unfold doneP
  split
  · unfold submitP
    split
    · exact ⟨rfl, rfl, Int.le_refl _⟩
    · split <;> exact ⟨rfl, rfl, Int.le_refl _⟩
  · split
    · unfold claimP
      split
      · exact ⟨rfl, rfl, Int.le_refl _⟩
      · simp only
        split
        · exact ⟨rfl, rfl, Int.le_refl _⟩
        · refine ⟨rfl, rfl, ?_⟩
          show q.nt ≤ (granted q.nt q.now).1
          unfold granted
          split
          · exact Int.le_refl _
          · exact Int.le_of_lt (Int.lt_succ _)
    · split
      · unfold renewP
        split
        · exact ⟨rfl, rfl, Int.le_refl _⟩
        · simp only
          split <;> exact ⟨rfl, rfl, Int.le_refl _⟩
      · split
        · unfold reportP
          split
          · exact ⟨rfl, rfl, Int.le_refl _⟩
          · simp only
            split <;> exact ⟨rfl, rfl, Int.le_refl _⟩
        · unfold cancelP
          split
          · exact ⟨rfl, rfl, Int.le_refl _⟩
          · simp only
            split <;> exact ⟨rfl, rfl, Int.le_refl _⟩
theorem inv_apply {q : Qp} (h : Inv q) {c : Cq} (hc : CqOk c) : Inv (applyP q c).1 := by
  unfold applyP
  split
  · split
    · exact h
    · exact inv_expire h (by omega) hc.time.2
  · split
    · exact h.withSes (ses_open h.sesOk hc.ses)
    · split
      · exact h
      · split
        · exact h
        · split
          · exact h
          · have hd := inv_done h c
            exact hd.withSes (ses_keep h.sesOk hc.seq)
theorem apply_now (q : Qp) (c : Cq) : (applyP q c).1.now = if c.kind = 7 then max q.now c.time else q.now := by
  unfold applyP
  split
  · split
    · show q.now = _
      omega
    · show c.time = _
      omega
  · split
    · rfl
    · split
      · rfl
      · split
        · rfl
        · split
          · rfl
          · exact (done_same q c).1
end Go.Proofs.Ytkoikmdmejhhhaa
namespace Go.Proofs.Ytkoikmdmejhhhaa
def NoLease (gs : List Gq) : Prop := ∀ g ∈ gs, ∀ x ∈ g.st, x.s ≠ 2
def nf (x : Pst) : Bool := !finB x.s
end Go.Proofs.Ytkoikmdmejhhhaa
namespace Go.Proofs.Ytkoikmdmejhhhaa
def Behind (q : Qp) (S s : Int) : Prop := ∃ r, findR q.ses S = some r ∧ r.seq < s
theorem Behind.more {q : Qp} {S s s' : Int} (h : Behind q S s) (hs : s ≤ s') : Behind q S s' := by
  obtain ⟨r, hr, hl⟩ := h
  exact ⟨r, hr, by omega⟩
end Go.Proofs.Ytkoikmdmejhhhaa
namespace Go.Proofs.Ytkoikmdmejhhhaa
structure Bld (ps : List Pt) (F : Nat → Prop) (l : List Pst) : Prop where
  len : l.length = ps.length
  rng : ∀ x ∈ l, x.s = 0 ∨ x.s = 1 ∨ x.s = 3 ∨ x.s = 4 ∨ x.s = 5
  had : ∀ (i : Nat) (x : Pst), l[i]? = some x → x.s = 1 ∨ x.s = 3 ∨ x.s = 4 → ∀ k ∈ needsAt ps (i : Int), (l.getD k .zero).s = 3
  lost : ∀ (i : Nat) (x : Pst), l[i]? = some x → x.s = 5 → ∃ k ∈ needsAt ps (i : Int), lostS (l.getD k .zero).s = true
  fail : ∀ (i : Nat) (x : Pst), l[i]? = some x → (x.s = 4 ↔ F i)
end Go.Proofs.Ytkoikmdmejhhhaa
namespace Go.Proofs.Ytkoikmdmejhhhaa
structure Blt (q : Qp) (i0 : Nat) (id : Int) (ps : List Pt) (k : Nat) : Prop where
  inv : Inv q
  at_ : ∃ g, q.gs[i0]? = some g ∧ g.id = id ∧ g.ps = ps ∧ Bld ps (fun _ => False) g.st ∧ (∀ (i : Nat) (x : Pst), g.st[i]? = some x → x.s = 3 → (grKeys ps).getD i 0 ∈ q.built) ∧ g.st.countP nf ≤ k
  others : ∀ (j : Nat) (b : Gq), j ≠ i0 → q.gs[j]? = some b → overB b.st = true
  few : q.built.length + k ≤ 256
  now : q.now ≤ late
  nt : q.nt + k < top
theorem over_not {l : List Pst} (h : overB l = true) {x : Pst} (hx : x ∈ l) : x.s ≠ 0 ∧ x.s ≠ 1 ∧ x.s ≠ 2 := by
  unfold overB at h
  rw [List.all_eq_true] at h
  have := h x hx
  unfold finB at this
  simp only [Bool.and_eq_true, decide_eq_true_eq] at this
  omega
theorem Blt.free {q : Qp} {i0 : Nat} {id : Int} {ps : List Pt} {k : Nat} (h : Blt q i0 id ps k) : NoLease q.gs := by
  intro b hb x hx
  obtain ⟨j, hj⟩ := List.getElem?_of_mem hb
  by_cases e : j = i0
  · subst e
    obtain ⟨g, hg, _, _, hB, _⟩ := h.at_
    rw [hj] at hg
    injection hg with hg
    subst hg
    have := hB.rng x hx
    omega
  · exact (over_not (h.others j b e hj) hx).2.2
theorem Blt.more {q q' : Qp} {i0 : Nat} {id : Int} {ps : List Pt} {k : Nat} (h : Blt q i0 id ps k) (hi : Inv q') (e1 : q'.gs = q.gs) (e2 : q'.built = q.built) (e3 : q'.now = q.now) (e4 : q'.nt = q.nt) : Blt q' i0 id ps k :=
  ⟨hi, by rw [e1, e2]; exact h.at_, by rw [e1]; exact h.others, by rw [e2]; exact h.few, by rw [e3]; exact h.now, by rw [e4]; exact h.nt⟩
end Go.Proofs.Ytkoikmdmejhhhaa
namespace Go.Proofs.Ytkoikmdmejhhhaa
def nameP (ps : List Pt) (n : Nat) : ByteArray := ((ps[n]?).map Pt.name).getD ⟨#[]⟩
structure Dbl (q : Qp) (i0 : Nat) (id : Int) (ps : List Pt) (fs : List ByteArray) (k : Nat) : Prop where
  inv : Inv q
  at_ : ∃ g, q.gs[i0]? = some g ∧ g.id = id ∧ g.ps = ps ∧ Bld ps (fun i => nameP ps i ∈ fs) g.st ∧ g.st.countP nf ≤ k
  others : ∀ (j : Nat) (b : Gq), j ≠ i0 → q.gs[j]? = some b → overB b.st = true
  now : q.now ≤ late
  nt : q.nt + k < top
theorem Dbl.free {q : Qp} {i0 : Nat} {id : Int} {ps : List Pt} {fs : List ByteArray} {k : Nat} (h : Dbl q i0 id ps fs k) : NoLease q.gs := by
  intro b hb x hx
  obtain ⟨j, hj⟩ := List.getElem?_of_mem hb
  by_cases e : j = i0
  · subst e
    obtain ⟨g, hg, _, _, hB, _⟩ := h.at_
    rw [hj] at hg
    injection hg with hg
    subst hg
    have := hB.rng x hx
    omega
  · exact (over_not (h.others j b e hj) hx).2.2
theorem Dbl.more {q q' : Qp} {i0 : Nat} {id : Int} {ps : List Pt} {fs : List ByteArray} {k : Nat} (h : Dbl q i0 id ps fs k) (hi : Inv q') (e1 : q'.gs = q.gs) (e3 : q'.now = q.now) (e4 : q'.nt = q.nt) : Dbl q' i0 id ps fs k :=
  ⟨hi, by rw [e1]; exact h.at_, by rw [e1]; exact h.others, by rw [e3]; exact h.now, by rw [e4]; exact h.nt⟩
end Go.Proofs.Ytkoikmdmejhhhaa
