import Derived.Test.YtffoeodjbbkdjaaGreatBs15
import Derived.Test.YtffoeodjbbkdjaaGreatBs18
import Derived.Test.YtffoeodjbbkdjaaGreatBs21
namespace Go.Proofs.YtffoeodjbbkdjaaGreat
structure CqOk (c : Cq) : Prop where
 ses : 0 ≤ c.ses ∧ c.ses ≤ top
 seq : 0 ≤ c.seq ∧ c.seq ≤ top
 time : 0 ≤ c.time ∧ c.time ≤ top
theorem ins_up (r : Ro) : ∀ (l : List Ro), l.Pairwise (fun a b => a.id < b.id) → (∀ g ∈ l, g.id ≠ r.id) → (insR r l).Pairwise (fun a b => a.id < b.id)
 | [], _, _ => by unfold insR; simp
 | g :: l, h, hne => by
  rw [List.pairwise_cons] at h
  unfold insR
  split
  ·
   rename_i hlt
   rw [List.pairwise_cons, List.pairwise_cons]
   refine ⟨fun x hx => ?_, h⟩
   rcases List.mem_cons.1 hx with rfl | hx
   ·
    exact hlt
   ·
    have := h.1 x hx; omega
  ·
   rename_i hlt
   rw [List.pairwise_cons]
   refine ⟨fun x hx => ?_, ins_up r l h.2 (fun x hx => hne x (List.mem_cons_of_mem _ hx))⟩
   rcases List.mem_cons.1 ((ins_perm r l).mem_iff.1 hx) with rfl | hx
   ·
    have := hne g (List.mem_cons_self ..); omega
   ·
    exact h.1 x hx
def SesOk (l : List Ro) : Prop := l.Pairwise (fun a b => a.id < b.id) ∧ (∀ r ∈ l, (0 < r.id ∧ r.id ≤ top) ∧ (0 ≤ r.seq ∧ r.seq ≤ top) ∧ (r.seq = 0 → r.ans = .zero)) ∧ l.length ≤ 16
theorem no_find {l : List Ro} {x : Int} (h : findR l x = none) : ∀ g ∈ l, g.id ≠ x := by
 intro g hg e
 unfold findR at h
 rw [List.find?_eq_none] at h
 exact h g hg (by simpa using e)
theorem ses_open {l : List Ro} (h : SesOk l) {x : Int} (hx : 0 ≤ x ∧ x ≤ top) : SesOk (openL l x) := by
 refine ⟨?_, ?_, open_few h.2.2⟩
 ·
  unfold openL
  split
  ·
   exact h.1
  ·
   split
   ·
    exact h.1
   ·
    split
    ·
     exact h.1
    ·
     rename_i h1 h2 h3
     refine ins_up _ _ h.1 (no_find ?_)
     cases hq : findR l x with
     | none => rfl
     | some r => rw [hq] at h2; exact absurd rfl h2
 ·
  intro r hr
  unfold openL at hr
  split at hr
  ·
   exact h.2.1 r hr
  ·
   rename_i h0
   split at hr
   ·
    exact h.2.1 r hr
   ·
    split at hr
    ·
     exact h.2.1 r hr
    ·
     rcases List.mem_cons.1 ((ins_perm _ l).mem_iff.1 hr) with rfl | hr
     ·
      exact ⟨⟨by show 0 < x; omega, hx.2⟩, ⟨Int.le_refl _, show (0 : Int) ≤ top by unfold top; decide⟩, fun _ => rfl⟩
     ·
      exact h.2.1 r hr
theorem ses_keep {l : List Ro} (h : SesOk l) {x s : Int} {a : An} (hs : 0 ≤ s ∧ s ≤ top) : SesOk (keepL l x s a) := by
 refine ⟨?_, ?_, keep_few h.2.2⟩
 ·
  unfold keepL
  split
  ·
   unfold putR
   refine ins_up _ _ (h.1.sublist List.filter_sublist) (fun g hg => ?_)
   unfold delR at hg
   simpa using (List.mem_filter.1 hg).2
  ·
   exact h.1
 ·
  intro r hr
  unfold keepL at hr
  split at hr
  ·
   rename_i hk
   obtain ⟨r0, h0, _, hs0⟩ := keep_ok hk
   obtain ⟨hm, hid⟩ := findR_mem h0
   have hb := h.2.1 r0 hm
   unfold putR at hr
   rcases List.mem_cons.1 ((ins_perm _ _).mem_iff.1 hr) with rfl | hr
   ·
    exact ⟨by rw [← hid]; exact hb.1, hs, fun e => absurd e hs0⟩
   ·
    unfold delR at hr
    exact h.2.1 r (List.mem_filter.1 hr).1
  ·
   exact h.2.1 r hr
theorem Inv.sesOk {q : Qp} (h : Inv q) : SesOk q.ses := ⟨h.sesUp, h.sesIn, h.sesFew⟩
theorem Inv.withSes {q : Qp} (h : Inv q) {l : List Ro} (hl : SesOk l) : Inv { q with ses := l } := ⟨h.now0, h.ng, h.nt, hl.1, hl.2.1, hl.2.2, h.gsFew, h.gsUp, h.gsIn, h.toks, h.bltFew, h.bltNo⟩
theorem inv_done {q : Qp} (h : Inv q) (c : Cq) : Inv (doneP q c).1 := by
 unfold doneP
 split
 ·
  exact inv_submit h c
 ·
  split
  ·
   exact inv_claim h
  ·
   split
   ·
    exact inv_renew h c
   ·
    split
    ·
     exact inv_report h c
    ·
     exact inv_cancel h c
theorem done_same (q : Qp) (c : Cq) : (doneP q c).1.now = q.now ∧ (doneP q c).1.ses = q.ses ∧ q.nt ≤ (doneP q c).1.nt := by
 unfold doneP
 split
 ·
  unfold submitP
  split
  ·
   exact ⟨rfl, rfl, Int.le_refl _⟩
  ·
   split <;> exact ⟨rfl, rfl, Int.le_refl _⟩
 ·
  split
  ·
   unfold claimP
   split
   ·
    exact ⟨rfl, rfl, Int.le_refl _⟩
   ·
    simp only
    split
    ·
     exact ⟨rfl, rfl, Int.le_refl _⟩
    ·
     refine ⟨rfl, rfl, ?_⟩
     show q.nt ≤ (granted q.nt q.now).1
     unfold granted
     split
     ·
      exact Int.le_refl _
     ·
      exact Int.le_of_lt (Int.lt_succ _)
  ·
   split
   ·
    unfold renewP
    split
    ·
     exact ⟨rfl, rfl, Int.le_refl _⟩
    ·
     simp only
     split <;> exact ⟨rfl, rfl, Int.le_refl _⟩
   ·
    split
    ·
     unfold reportP
     split
     ·
      exact ⟨rfl, rfl, Int.le_refl _⟩
     ·
      simp only
      split <;> exact ⟨rfl, rfl, Int.le_refl _⟩
    ·
     unfold cancelP
     split
     ·
      exact ⟨rfl, rfl, Int.le_refl _⟩
     ·
      simp only
      split <;> exact ⟨rfl, rfl, Int.le_refl _⟩
theorem inv_apply {q : Qp} (h : Inv q) {c : Cq} (hc : CqOk c) : Inv (applyP q c).1 := by
 unfold applyP
 split
 ·
  split
  ·
   exact h
  ·
   exact inv_expire h (by omega) hc.time.2
 ·
  split
  ·
   exact h.withSes (ses_open h.sesOk hc.ses)
  ·
   split
   ·
    exact h
   ·
    split
    ·
     exact h
    ·
     split
     ·
      exact h
     ·
      have hd := inv_done h c
      exact hd.withSes (ses_keep h.sesOk hc.seq)
end Go.Proofs.YtffoeodjbbkdjaaGreat
namespace Go.Proofs.YtffoeodjbbkdjaaGreat
def NoLease (gs : List Gq) : Prop := ∀ g ∈ gs, ∀ x ∈ g.st, x.s ≠ 2
def nf (x : Pst) : Bool := !finB x.s
end Go.Proofs.YtffoeodjbbkdjaaGreat
namespace Go.Proofs.YtffoeodjbbkdjaaGreat
def Behind (q : Qp) (S s : Int) : Prop := ∃ r, findR q.ses S = some r ∧ r.seq < s
theorem Behind.more {q : Qp} {S s s' : Int} (h : Behind q S s) (hs : s ≤ s') : Behind q S s' := by
 obtain ⟨r, hr, hl⟩ := h
 exact ⟨r, hr, by omega⟩
end Go.Proofs.YtffoeodjbbkdjaaGreat
namespace Go.Proofs.YtffoeodjbbkdjaaGreat
structure Bld (ps : List Pt) (F : Nat → Prop) (l : List Pst) : Prop where
 len : l.length = ps.length
 rng : ∀ x ∈ l, x.s = 0 ∨ x.s = 1 ∨ x.s = 3 ∨ x.s = 4 ∨ x.s = 5
 had : ∀ (i : Nat) (x : Pst), l[i]? = some x → x.s = 1 ∨ x.s = 3 ∨ x.s = 4 → ∀ k ∈ needsAt ps (i : Int), (l.getD k .zero).s = 3
 lost : ∀ (i : Nat) (x : Pst), l[i]? = some x → x.s = 5 → ∃ k ∈ needsAt ps (i : Int), lostS (l.getD k .zero).s = true
 fail : ∀ (i : Nat) (x : Pst), l[i]? = some x → (x.s = 4 ↔ F i)
end Go.Proofs.YtffoeodjbbkdjaaGreat
namespace Go.Proofs.YtffoeodjbbkdjaaGreat
structure Blt (q : Qp) (i0 : Nat) (id : Int) (ps : List Pt) (k : Nat) : Prop where
 inv : Inv q
 at_ : ∃ g, q.gs[i0]? = some g ∧ g.id = id ∧ g.ps = ps ∧ Bld ps (fun _ => False) g.st ∧ (∀ (i : Nat) (x : Pst), g.st[i]? = some x → x.s = 3 → (grKeys ps).getD i 0 ∈ q.built) ∧ g.st.countP nf ≤ k
 others : ∀ (j : Nat) (b : Gq), j ≠ i0 → q.gs[j]? = some b → overB b.st = true
 few : q.built.length + k ≤ 256
 now : q.now ≤ late
 nt : q.nt + k < top
theorem over_not {l : List Pst} (h : overB l = true) {x : Pst} (hx : x ∈ l) : x.s ≠ 0 ∧ x.s ≠ 1 ∧ x.s ≠ 2 := by
 unfold overB at h
 rw [List.all_eq_true] at h
 have := h x hx
 unfold finB at this
 simp only [Bool.and_eq_true, decide_eq_true_eq] at this
 omega
theorem Blt.free {q : Qp} {i0 : Nat} {id : Int} {ps : List Pt} {k : Nat} (h : Blt q i0 id ps k) : NoLease q.gs := by
 intro b hb x hx
 obtain ⟨j, hj⟩ := List.getElem?_of_mem hb
 by_cases e : j = i0
 ·
  subst e
  obtain ⟨g, hg, _, _, hB, _⟩ := h.at_
  rw [hj] at hg
  injection hg with hg
  subst hg
  have := hB.rng x hx
  omega
 ·
  exact (over_not (h.others j b e hj) hx).2.2
theorem Blt.more {q q' : Qp} {i0 : Nat} {id : Int} {ps : List Pt} {k : Nat} (h : Blt q i0 id ps k) (hi : Inv q') (e1 : q'.gs = q.gs) (e2 : q'.built = q.built) (e3 : q'.now = q.now) (e4 : q'.nt = q.nt) : Blt q' i0 id ps k :=
 ⟨hi, by rw [e1, e2]; exact h.at_, by rw [e1]; exact h.others, by rw [e2]; exact h.few, by rw [e3]; exact h.now, by rw [e4]; exact h.nt⟩
end Go.Proofs.YtffoeodjbbkdjaaGreat
namespace Go.Proofs.YtffoeodjbbkdjaaGreat
open Go.Shelf Go.RowKit Go.Maps
structure Elems (t e : TypeId) (z : Value) (k B : Nat) : Prop where
 und : Tryz.prog.underlying t = some (.slice e)
 elem : Tryz.prog.elem t = e
 info : (Tryz.prog.info? e).map (fun i => (i.zero, i.size, i.bytes)) = some (some z, k, B)
 size : ∀ w : World, (sizeOf e).run Tryz.prog w = .ok k w
 zero : z.cells.size = k
section
variable {α : Type} {ec : α → List Value} {t e : TypeId} {z : Value} {k B : Nat}
theorem Elems.head (h : Elems t e z k B) (w : World) (A : Option Addr) (len c n : Nat) (hn : n ≤ c) : (Instr.sliceAt t (.slice A len c) none (some (.int .i64 (n : Int))) none).run Tryz.prog w = .ok (sliced A 0 n c k) w := by
 have hel : Tryz.prog.underlying t = some (.slice (Tryz.prog.elem t)) := by rw [h.elem]; exact h.und
 rw [run_sliceAt_slice w t _ _ _ _ hel, run_slice_h w t _ _ _ hel .i64 (n : Int) (by omega) (by omega), h.elem, h.size]
 rfl
theorem Elems.tail (h : Elems t e z k B) (w : World) (A : Option Addr) (len c n : Nat) (hn : n ≤ len) : (Instr.sliceAt t (.slice A len c) (some (.int .i64 (n : Int))) none none).run Tryz.prog w = .ok (sliced A n len c k) w := by
 have hel : Tryz.prog.underlying t = some (.slice (Tryz.prog.elem t)) := by rw [h.elem]; exact h.und
 rw [run_sliceAt_slice w t _ _ _ _ hel, run_slice_l w t _ _ _ hel .i64 (n : Int) (by omega) (by omega), h.elem, h.size]
 rfl
theorem Many.headK (hk : ∀ x, (ec x).length = k) {w : World} {D : Nat → Prop} {A : Option Addr} {c n : Nat} {l : List α} (h : Many ec k w D (.slice A l.length c) l) (hn : n ≤ l.length) : Many ec k w D (sliced A 0 n c k) (l.take n) := by
 obtain ⟨A', c', hv, h1, h2, h3, h4, h5⟩ := h
 obtain ⟨rfl, rfl⟩ : A = A' ∧ c = c' := by simpa using hv
 have htl : (l.take n).length = n := by rw [List.length_take]; omega
 have hA : sliced A 0 n c k = .slice A n c := by
  unfold sliced
  cases A with
  | none => simp
  | some ad =>
   split
   ·
    simp
   ·
    simp [Addr.add]
 refine ⟨A, c, by rw [hA, htl], by omega, h2, h3, fm_length ec k hk _, fun h0 => ?_⟩
 obtain ⟨ad, e, hsp, hlt, hD, hc⟩ := h5 (by omega)
 refine ⟨ad, e, hsp, hlt, hD, fun j x hj => hc j x ?_⟩
 have hjl := (List.getElem?_eq_some_iff.1 hj).1
 rw [← List.take_append_drop n l, List.flatMap_append, List.getElem?_append_left hjl]
 exact hj
theorem Many.tailK (hk : ∀ x, (ec x).length = k) {w : World} {D : Nat → Prop} {A : Option Addr} {c n : Nat} {l : List α} (h : Many ec k w D (.slice A l.length c) l) (hn : n ≤ l.length) : Many ec k w D (sliced A n l.length c k) (l.drop n) := by
 obtain ⟨A', c', hv, h1, h2, h3, h4, h5⟩ := h
 obtain ⟨rfl, rfl⟩ : A = A' ∧ c = c' := by simpa using hv
 have hdl : (l.drop n).length = l.length - n := List.length_drop
 unfold sliced
 refine ⟨_, c - n, by rw [hdl], by omega, by omega, fun e => ?_, fm_length ec k hk _, fun h0 => ?_⟩
 ·
  split at e
  ·
   omega
  ·
   cases A with
   | none => have := h3 rfl; omega
   | some ad => cases e
 ·
  obtain ⟨ad, e, hsp, hlt, hD, hc⟩ := h5 (by omega)
  subst e
  have hne : ¬ c = n := by omega
  rw [if_neg hne]
  refine ⟨ad.add (n * k), rfl, ?_, ?_, ?_, fun j x hj => ?_⟩
  ·
   rw [add_at ad hsp]
  ·
   rw [add_at ad hsp]; exact hlt
  ·
   rw [add_at ad hsp]; exact hD
  ·
   have hjl := (List.getElem?_eq_some_iff.1 hj).1
   rw [add_at ad hsp]
   show w.cell? ⟨ad.block, ad.off + n * k + j, none⟩ = _
   rw [Nat.add_assoc]
   refine hc (n * k + j) x ?_
   have htl : ((l.take n).flatMap ec).length = n * k := by rw [fm_length ec k hk, List.length_take, Nat.min_eq_left hn]
   conv => lhs; rw [← List.take_append_drop n l, List.flatMap_append]
   rw [List.getElem?_append_right (by rw [htl]; omega), htl]
   rw [show n * k + j - n * k = j from by omega]
   exact hj
set_option maxRecDepth 100000 in
theorem Elems.append (E : Elems t e z k B) (hk : ∀ x, (ec x).length = k) (hone : ∀ x, ∀ u ∈ ec x, u.oneCell' = true) (hk0 : 0 < k) (w : World) (base : Nat) (ty : TypeId) (v s : Value) (l m : List α) (D : Nat → Prop) (hown : w.ownsRow base e k v l.length (l.flatMap ec)) (hs : Many ec k w D s m) (h63 : l.length + m.length ≤ maxLen) (hb : (l.length + m.length) * B ≤ 140737488355328) (hbase : base ≤ w.heap.size) :
  ∃ v' w', (Builtin.append_ #[t, t] ty #[v, s]).run Tryz.prog w = .ok v' w' ∧ w'.ownsRow base e k v' (l ++ m).length ((l ++ m).flatMap ec) ∧ w.grownBy w' v.ownBlock ∧ (v'.ownBlock = v.ownBlock ∨ v'.ownBlock = some w.heap.size) := by
 obtain ⟨i1, hi1, hz1, hs1, hb1⟩ := info_parts E.info
 obtain ⟨A, c, rfl, hlc, _, hn, hlen, hc⟩ := hs
 have hfl : (l ++ m).flatMap ec = l.flatMap ec ++ m.flatMap ec := List.flatMap_append
 cases A with
 | none =>
  have h0 : m = [] := List.eq_nil_of_length_eq_zero (by have := hn rfl; omega)
  subst h0
  refine ⟨v, w, ?_, by simpa using hown, World.grownBy.refl w _, .inl rfl⟩
  rcases hown.2 with ⟨rfl, _⟩ | ⟨g, cap, cur, rfl, _, _, hnc, _⟩
  ·
   simp [Builtin.append_, run_underlying E.und, sizeOf, typeInfo, hi1, Builtin.lenOf, Builtin.firstCells]
  ·
   simp [Builtin.append_, run_underlying E.und, sizeOf, typeInfo, hi1, Builtin.lenOf, Builtin.firstCells, hnc, storeCells]
 | some ad =>
  obtain ⟨v', w', hr, ho, hg, _, hat⟩ := run_append_own_at (P := Tryz.prog) w base t ty e i1 z k B E.und hi1 hz1 hs1 hb1 E.zero hk0 v l.length (l.flatMap ec) hown ad m.length c (m.flatMap ec) (fm_length ec k hk m)
   (fun j u hu => by
    have hj := (List.getElem?_eq_some_iff.1 hu).1
    rw [fm_length ec k hk] at hj
    obtain ⟨ad', e, hsp, _, _, hcell⟩ := hc (Nat.pos_of_ne_zero (fun e => by rw [e, Nat.zero_mul] at hj; omega))
    injection e with e
    subst e
    rw [add_at ad hsp]
    exact hcell j u hu)
   (fun u hu => by obtain ⟨r, _, hr⟩ := List.mem_flatMap.1 hu; exact hone r u hr) h63 hb hbase
  exact ⟨v', w', hr, by rw [List.length_append, hfl]; exact ho, hg, hat⟩
set_option maxRecDepth 100000 in
theorem wpList_append_many (E : Elems t e z k B) (hk : ∀ x, (ec x).length = k) (hone : ∀ x, ∀ u ∈ ec x, u.oneCell' = true) (hk0 : 0 < k) (w : World) {ops : Array Oper} {rest : List Oper} {o : Oper} {a : Act} {Q : Exit → Act → World → Prop} (hgd : o.guard = none) (s x : Operand)
  (ho : o.op = .call { callee := .builtin .append, args := #[s, x], argTypes := #[t, t] }) (base : Nat)
  (v u : Value) (l m : List α) (D : Nat → Prop) (hv : a.eval s = v) (hu : a.eval x = u) (hown : w.ownsRow base e k v l.length (l.flatMap ec)) (hs : Many ec k w D u m) (h63 : l.length + m.length ≤ maxLen) (hl : (l.length + m.length) * B ≤ 140737488355328) (hbase : base ≤ w.heap.size)
  (h : ∀ v' w', w'.ownsRow base e k v' (l ++ m).length ((l ++ m).flatMap ec) → w.grownBy w' v.ownBlock → (v'.ownBlock = v.ownBlock ∨ v'.ownBlock = some w.heap.size) → wpList Tryz.prog ops Q rest (a.put o.dst v') w') : wpList Tryz.prog ops Q (o :: rest) a w := by
 refine wpList_plain hgd fun K hK => ?_
 obtain ⟨v', w', hr, h3, h4, h5⟩ := E.append hk hone hk0 w base o.type v u l m D hown hs h63 hl hbase
 unfold Oper.wp execOp
 simp only [ho, resolve, invoke, builtin, Sem.run_bind, Sem.run_pure, Result.andThen_ok, List.map_toArray, List.map_cons, List.map_nil, hv, hu, hr]
 exact hK _ _ (h v' w' h3 h4 h5)
theorem Many.one (hk : ∀ x, (ec x).length = k) (w : World) (x : α) (e : TypeId) : Many ec k (w.alloc (.cells (ec x).toArray e)) (fun i => w.heap.size ≤ i) (.slice (some ⟨w.heap.size, 0, none⟩) 1 1) [x] := by
 refine ⟨_, 1, rfl, Nat.le_refl _, by decide, fun e => (by cases e), by simp [hk], fun _ => ⟨_, rfl, rfl, by simp, Nat.le_refl _, fun j u hj => ?_⟩⟩
 rw [List.flatMap_cons, List.flatMap_nil, List.append_nil] at hj
 obtain ⟨hjl, hje⟩ := List.getElem?_eq_some_iff.1 hj
 rw [World.cell?_alloc_new]
 simp [hjl, hje]
end
end Go.Proofs.YtffoeodjbbkdjaaGreat
namespace Go.Proofs.YtffoeodjbbkdjaaGreat
open Go.RowKit
section
variable {α : Type} {ec : α → List Value} {k : Nat}
def mt (ec : α → List Value) (l : List α) (tl : List Value) : Array Value := (l.flatMap ec ++ tl).toArray
theorem fm_set (hk : ∀ x, (ec x).length = k) : ∀ {l : List α} {i j : Nat} {x x' : α} {u : Value}, l[i]? = some x → j < k → ec x' = (ec x).set j u → (l.flatMap ec).set (i * k + j) u = (l.set i x').flatMap ec
 | [], i, j, x, x', u, h, _, _ => by simp at h
 | a :: l, 0, j, x, x', u, h, hj, he => by
  simp at h
  subst h
  rw [List.flatMap_cons, List.set_cons_zero, List.flatMap_cons, he, Nat.zero_mul, Nat.zero_add, List.set_append_left _ _ (by rw [hk]; exact hj)]
 | a :: l, i + 1, j, x, x', u, h, hj, he => by
  have ih := fm_set hk (l := l) (i := i) (by simpa using h) hj he
  have hs : (i + 1) * k + j = k + (i * k + j) := by rw [Nat.succ_mul]; omega
  rw [List.flatMap_cons, List.set_cons_succ, List.flatMap_cons, ← ih, hs, List.set_append_right _ _ (by rw [hk]; omega), hk, Nat.add_sub_cancel_left]
theorem mt_set (hk : ∀ x, (ec x).length = k) {l : List α} {tl : List Value} {i j : Nat} {x x' : α} {u : Value} (hx : l[i]? = some x) (hj : j < k) (he : ec x' = (ec x).set j u) : (mt ec l tl).setIfInBounds (i * k + j) u = mt ec (l.set i x') tl := by
 have hil := (List.getElem?_eq_some_iff.1 hx).1
 have hlt : i * k + j < (l.flatMap ec).length := by
  rw [fm_length ec k hk]
  have : (i + 1) * k ≤ l.length * k := Nat.mul_le_mul_right _ hil
  rw [Nat.succ_mul] at this
  omega
 unfold mt
 rw [List.setIfInBounds_toArray, List.set_append_left _ _ hlt, fm_set hk hx hj he]
theorem mt_put (hk : ∀ x, (ec x).length = k) {w : World} {g : Nat} {e : TypeId} {l : List α} {tl : List Value} (h : Box w g e (mt ec l tl)) {i j : Nat} {x x' : α} {u : Value} (hx : l[i]? = some x) (hj : j < k) (he : ec x' = (ec x).set j u) : Box (w.setCell ⟨g, i * k + j, none⟩ u) g e (mt ec (l.set i x') tl) := by
 rw [← mt_set hk hx hj he]
 exact h.put _ _
theorem mt_cell (hk : ∀ x, (ec x).length = k) {w : World} {g : Nat} {e : TypeId} {l : List α} {tl : List Value} (h : Box w g e (mt ec l tl)) {i j : Nat} {x : α} (hx : l[i]? = some x) (hj : j < k) : w.cell? ⟨g, i * k + j, none⟩ = (ec x)[j]? := by
 have hil := (List.getElem?_eq_some_iff.1 hx).1
 have hlt : i * k + j < (l.flatMap ec).length := by
  rw [fm_length ec k hk]
  have : (i + 1) * k ≤ l.length * k := Nat.mul_le_mul_right _ hil
  rw [Nat.succ_mul] at this
  omega
 rw [h.cell, ← fm_at ec k hk hx j hj]
 unfold mt
 rw [List.getElem?_toArray, List.getElem?_append_left hlt]
theorem mt_many (hk : ∀ x, (ec x).length = k) {w : World} {D : Nat → Prop} {g : Nat} {e : TypeId} {l : List α} {tl : List Value} {cap : Nat} (h : Box w g e (mt ec l tl)) (hc : l.length ≤ cap) (hm : cap ≤ maxLen) (hD : D g) : Many ec k w D (.slice (some ⟨g, 0, none⟩) l.length cap) l := by
 refine ⟨_, cap, rfl, hc, hm, fun e => (by cases e), fm_length ec k hk l, fun _ => ⟨_, rfl, rfl, h.lt, hD, fun j x hj => ?_⟩⟩
 have hjl := (List.getElem?_eq_some_iff.1 hj).1
 show w.cell? ⟨g, 0 + j, none⟩ = _
 rw [Nat.zero_add, h.cell]
 unfold mt
 rw [List.getElem?_toArray, List.getElem?_append_left hjl]
 exact hj
theorem own_mt {w : World} {base : Nat} {e : TypeId} {v : Value} {l : List α} (h : w.ownsRow base e k v l.length (l.flatMap ec)) (h0 : l ≠ []) : ∃ (g cap : Nat) (tl : List Value), v = .slice (some ⟨g, 0, none⟩) l.length cap ∧ base ≤ g ∧ Box w g e (mt ec l tl) ∧ l.length ≤ cap ∧ cap ≤ maxLen := by
 obtain ⟨hl, h⟩ := h
 rcases h with ⟨_, hz⟩ | ⟨g, cap, cur, rfl, hb, hg, hle, hmx, _, htk⟩
 ·
  exact absurd (List.eq_nil_of_length_eq_zero hz) h0
 ·
  refine ⟨g, cap, cur.toList.drop (l.length * k), rfl, hb, ?_, hle, hmx⟩
  have e : mt ec l (cur.toList.drop (l.length * k)) = cur := by
   unfold mt
   rw [← htk, List.take_append_drop]
  rw [e]
  exact hg
theorem empty_own (w : World) (e : TypeId) : (w.alloc (.cells #[] e)).ownsRow w.heap.size e k (.slice (some ⟨w.heap.size, 0, none⟩) 0 0) ([] : List α).length (([] : List α).flatMap ec) :=
 ⟨by simp, .inr ⟨_, 0, #[], rfl, Nat.le_refl _, Box.new w _ _, Nat.le_refl _, Nat.zero_le _, by simp, by simp⟩⟩
theorem empty_grown {w w' : World} {e : TypeId} (hg : (w.alloc (.cells #[] e)).grownBy w' (Value.slice (some ⟨w.heap.size, 0, none⟩) 0 0).ownBlock) : Keep noneOf w w' :=
 ((Keep.refl noneOf w).alloc (.cells #[] e)).trans (Keep.of_grown hg) (fun i hi e => by
  have e2 : i = w.heap.size := (by simpa [Value.ownBlock] using e)
  omega)
theorem Keep.own_mt {w w' w'' : World} {g : Nat} (h : Keep noneOf w w') (hk : Keep (fun i => i = g) w' w'') (hg : w.heap.size ≤ g) : Keep noneOf w w'' := h.trans hk (fun i hi e => by subst e; omega)
end
end Go.Proofs.YtffoeodjbbkdjaaGreat
namespace Go.Proofs.YtffoeodjbbkdjaaGreat
open Go.RowKit
structure Gm where
 id : Int
 gv : Value
 sv : Value
 ts : List Tg
 st : List Pst
def Gm.cells (g : Gm) : List Value := [.int .u64 g.id, g.gv, g.sv]
def Gm.plain (g : Gm) : Gq := ⟨g.id, g.ts.map Tg.plain, g.st⟩
def Gm.lies (w : World) (D : Nat → Prop) (g : Gm) : Prop := Tgs w D g.gv g.ts ∧ Sts w D g.sv g.st
def Gms (w : World) (D : Nat → Prop) (v : Value) (l : List Gm) : Prop := Many Gm.cells 3 w D v l ∧ ∀ g ∈ l, g.lies w D
theorem Tgs.monoQ {w : World} {D D' : Nat → Prop} {v : Value} {ts : List Tg} (h : Tgs w D v ts) (hD : ∀ i, i < w.heap.size → D i → D' i) : Tgs w D' v ts :=
 ⟨h.1.mono hD, fun t ht => by
  obtain ⟨h1, h2, h3⟩ := h.2 t ht
  exact ⟨h1, h2, h3.1.mono hD, h3.2⟩⟩
theorem Gm.lies.keep {w w' : World} {S D : Nat → Prop} {g : Gm} (h : g.lies w D) (k : Keep S w w') (hs : ∀ i, i < w.heap.size → D i → ¬ S i) : g.lies w' D := ⟨Tgs.keep h.1 k hs, Sts.keep h.2 k hs⟩
theorem Gm.lies.mono {w : World} {D D' : Nat → Prop} {g : Gm} (h : g.lies w D) (hD : ∀ i, i < w.heap.size → D i → D' i) : g.lies w D' := ⟨Tgs.monoQ h.1 hD, Sts.mono h.2 hD⟩
theorem Gms.keep {w w' : World} {S D : Nat → Prop} {v : Value} {l : List Gm} (h : Gms w D v l) (k : Keep S w w') (hs : ∀ i, i < w.heap.size → D i → ¬ S i) : Gms w' D v l := ⟨h.1.keep k hs, fun g hg => Gm.lies.keep (h.2 g hg) k hs⟩
theorem Gms.mono {w : World} {D D' : Nat → Prop} {v : Value} {l : List Gm} (h : Gms w D v l) (hD : ∀ i, i < w.heap.size → D i → D' i) : Gms w D' v l := ⟨h.1.mono hD, fun g hg => Gm.lies.mono (h.2 g hg) hD⟩
theorem Gms.nil (w : World) (D : Nat → Prop) : Gms w D (.slice none 0 0) [] := ⟨Many.nil _ _ w D, fun g hg => (by cases hg)⟩
structure Im where
 now : Int
 ng : Int
 nt : Int
 sv : Value
 gv : Value
 bv : Value
 ses : List Ro
 gs : List Gm
 built : List Nat
def Im.agg (q : Im) : Value := .agg #[.int .u64 q.now, .int .u64 q.ng, .int .u64 q.nt, q.sv, q.gv, q.bv]
def Im.plain (q : Im) : Qp := ⟨q.now, q.ng, q.nt, q.ses, q.gs.map Gm.plain, q.built⟩
structure Im.lies (w : World) (D : Nat → Prop) (q : Im) : Prop where
 ses : Many Ro.cells 8 w D q.sv q.ses
 gs : Gms w D q.gv q.gs
 built : Kys w D q.bv q.built
theorem Im.lies.keep {w w' : World} {S D : Nat → Prop} {q : Im} (h : q.lies w D) (k : Keep S w w') (hs : ∀ i, i < w.heap.size → D i → ¬ S i) : q.lies w' D := ⟨h.ses.keep k hs, h.gs.keep k hs, h.built.1.keep k hs, h.built.2⟩
theorem Im.lies.mono {w : World} {D D' : Nat → Prop} {q : Im} (h : q.lies w D) (hD : ∀ i, i < w.heap.size → D i → D' i) : q.lies w D' := ⟨h.ses.mono hD, h.gs.mono hD, h.built.1.mono hD, h.built.2⟩
theorem gm_at {l : List Gm} {i : Nat} {g : Gm} (h : l[i]? = some g) : (l.map Gm.plain)[i]? = some g.plain := by rw [List.getElem?_map, h]; rfl
theorem gm_of {l : List Gm} {i : Nat} {g : Gq} (h : (l.map Gm.plain)[i]? = some g) : ∃ m, l[i]? = some m ∧ m.plain = g := by
 rw [List.getElem?_map] at h
 cases hl : l[i]? with
 | none => rw [hl] at h; cases h
 | some m => rw [hl] at h; exact ⟨m, rfl, by simpa using h⟩
theorem gm_set {l : List Gm} {i : Nat} {g : Gm} (h : l[i]? = some g) (sv : Value) (st : List Pst) : (l.set i { g with sv := sv, st := st }).map Gm.plain = (l.map Gm.plain).modify i (fun a => { a with st := st }) := by
 refine List.ext_getElem? fun j => ?_
 rw [List.getElem?_map, List.getElem?_modify, List.getElem?_map]
 by_cases e : i = j
 ·
  subst e
  rw [List.getElem?_set_self (List.getElem?_eq_some_iff.1 h).1, h]
  simp [Gm.plain]
 ·
  rw [List.getElem?_set_ne e]
  cases l[j]? with
  | none => rfl
  | some a => simp [e]
theorem gms_set {w : World} {D : Nat → Prop} {v : Value} {l : List Gm} {i : Nat} {g : Gm} (h : ∀ g ∈ l, g.lies w D) (hg : l[i]? = some g) {sv : Value} {st : List Pst} (hs : Sts w D sv st) (hm : Many Gm.cells 3 w D v (l.set i { g with sv := sv, st := st })) : Gms w D v (l.set i { g with sv := sv, st := st }) :=
 ⟨hm, fun a ha => by
  rcases List.mem_or_eq_of_mem_set ha with ha | rfl
  ·
   exact h a ha
  ·
   exact ⟨(h g (List.mem_of_getElem? hg)).1, hs⟩⟩
end Go.Proofs.YtffoeodjbbkdjaaGreat
namespace Go.Proofs.YtffoeodjbbkdjaaGreat
def nameP (ps : List Pt) (n : Nat) : ByteArray := ((ps[n]?).map Pt.name).getD ⟨#[]⟩
structure Dbl (q : Qp) (i0 : Nat) (id : Int) (ps : List Pt) (fs : List ByteArray) (k : Nat) : Prop where
 inv : Inv q
 at_ : ∃ g, q.gs[i0]? = some g ∧ g.id = id ∧ g.ps = ps ∧ Bld ps (fun i => nameP ps i ∈ fs) g.st ∧ g.st.countP nf ≤ k
 others : ∀ (j : Nat) (b : Gq), j ≠ i0 → q.gs[j]? = some b → overB b.st = true
 now : q.now ≤ late
 nt : q.nt + k < top
theorem Dbl.free {q : Qp} {i0 : Nat} {id : Int} {ps : List Pt} {fs : List ByteArray} {k : Nat} (h : Dbl q i0 id ps fs k) : NoLease q.gs := by
 intro b hb x hx
 obtain ⟨j, hj⟩ := List.getElem?_of_mem hb
 by_cases e : j = i0
 ·
  subst e
  obtain ⟨g, hg, _, _, hB, _⟩ := h.at_
  rw [hj] at hg
  injection hg with hg
  subst hg
  have := hB.rng x hx
  omega
 ·
  exact (over_not (h.others j b e hj) hx).2.2
theorem Dbl.more {q q' : Qp} {i0 : Nat} {id : Int} {ps : List Pt} {fs : List ByteArray} {k : Nat} (h : Dbl q i0 id ps fs k) (hi : Inv q') (e1 : q'.gs = q.gs) (e3 : q'.now = q.now) (e4 : q'.nt = q.nt) : Dbl q' i0 id ps fs k :=
 ⟨hi, by rw [e1]; exact h.at_, by rw [e1]; exact h.others, by rw [e3]; exact h.now, by rw [e4]; exact h.nt⟩
end Go.Proofs.YtffoeodjbbkdjaaGreat
