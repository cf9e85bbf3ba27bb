import Derived.Maps.AppendAt
import Derived.Test.YtkoikmdmejhhhaaGreatBs16
import Derived.Test.YtkoikmdmejhhhaaGreatBs25
import Derived.Test.YtkoikmdmejhhhaaGreatBs26
namespace Go.Proofs.YtkoikmdmejhhhaaGreat
open Go.Shelf Go.RowKit Go.Maps
theorem ro_cells (b o k : Nat) (w : World) (r : Ro) (h : ∀ j, j < 8 → w.cell? ⟨b, o + (k * 8 + j), none⟩ = (Ro.cells r)[j]?) :
    w.cell? ⟨b, o + k * 8, none⟩ = some (.int .u64 r.id) ∧ w.cell? ⟨b, o + k * 8 + 1, none⟩ = some (.int .u64 r.seq) ∧ w.cell? ⟨b, o + k * 8 + 2, none⟩ = some (.int .i64 r.ans.code) ∧ w.cell? ⟨b, o + k * 8 + 3, none⟩ = some (.int .u64 r.ans.id) ∧ w.cell? ⟨b, o + k * 8 + 4, none⟩ = some (.int .u64 r.ans.tok) ∧ w.cell? ⟨b, o + k * 8 + 5, none⟩ = some (.int .u64 r.ans.unt) ∧ w.cell? ⟨b, o + k * 8 + 6, none⟩ = some (.string r.ans.tgt) ∧ w.cell? ⟨b, o + k * 8 + 7, none⟩ = some (.string r.ans.cmd) :=
  ⟨h 0 (by decide), h 1 (by decide), h 2 (by decide), h 3 (by decide), h 4 (by decide), h 5 (by decide), h 6 (by decide), h 7 (by decide)⟩
end Go.Proofs.YtkoikmdmejhhhaaGreat
namespace Go.Proofs.YtkoikmdmejhhhaaGreat
open Go.Shelf Go.RowKit Go.Maps
section
variable {P : Program}
end
theorem Many.head {w : World} {D : Nat → Prop} {A : Option Addr} {c n : Nat} {l : List Ro} (h : Many Ro.cells 8 w D (.slice A l.length c) l) (hn : n ≤ l.length) : Many Ro.cells 8 w D (sliced A 0 n c 8) (l.take n) := by
  obtain ⟨A', c', hv, h1, h2, h3, h4, h5⟩ := h
  obtain ⟨rfl, rfl⟩ : A = A' ∧ c = c' := by simpa using hv
  have htl : (l.take n).length = n := by rw [List.length_take]; omega
  have hA : sliced A 0 n c 8 = .slice A n c := by
    unfold sliced
    cases A with
    | none => simp
    | some ad =>
      split
      · simp
      · simp [Addr.add]
  refine ⟨A, c, by rw [hA, htl], by omega, h2, h3, fm_length Ro.cells 8 (fun _ => rfl) _, fun h0 => ?_⟩
  obtain ⟨ad, e, hsp, hlt, hD, hc⟩ := h5 (by omega)
  refine ⟨ad, e, hsp, hlt, hD, fun j x hj => hc j x ?_⟩
  have hjl := (List.getElem?_eq_some_iff.1 hj).1
  rw [← List.take_append_drop n l, List.flatMap_append, List.getElem?_append_left hjl]
  exact hj
end Go.Proofs.YtkoikmdmejhhhaaGreat
namespace Go.Proofs.YtkoikmdmejhhhaaGreat
open Go.Shelf Go.RowKit Go.Maps
structure Elems (t e : TypeId) (z : Value) (k B : Nat) : Prop where
  und : Tryz.prog.underlying t = some (.slice e)
  elem : Tryz.prog.elem t = e
  info : (Tryz.prog.info? e).map (fun i => (i.zero, i.size, i.bytes)) = some (some z, k, B)
  size : ∀ w : World, (sizeOf e).run Tryz.prog w = .ok k w
  zero : z.cells.size = k
section
variable {α : Type} {ec : α → List Value} {t e : TypeId} {z : Value} {k B : Nat}
theorem Elems.head (h : Elems t e z k B) (w : World) (A : Option Addr) (len c n : Nat) (hn : n ≤ c) : (Instr.sliceAt t (.slice A len c) none (some (.int .i64 (n : Int))) none).run Tryz.prog w = .ok (sliced A 0 n c k) w := by
  have hel : Tryz.prog.underlying t = some (.slice (Tryz.prog.elem t)) := by rw [h.elem]; exact h.und
  rw [run_sliceAt_slice w t _ _ _ _ hel, run_slice_h w t _ _ _ hel .i64 (n : Int) (by omega) (by omega), h.elem, h.size]
  rfl
set_option maxRecDepth 100000 in
theorem Elems.append (E : Elems t e z k B) (hk : ∀ x, (ec x).length = k) (hone : ∀ x, ∀ u ∈ ec x, u.oneCell' = true) (hk0 : 0 < k) (w : World) (base : Nat) (ty : TypeId) (v s : Value) (l m : List α) (D : Nat → Prop) (hown : w.ownsRow base e k v l.length (l.flatMap ec)) (hs : Many ec k w D s m) (h63 : l.length + m.length ≤ maxLen) (hb : (l.length + m.length) * B ≤ 140737488355328) (hbase : base ≤ w.heap.size) :
    ∃ v' w', (Builtin.append_ #[t, t] ty #[v, s]).run Tryz.prog w = .ok v' w' ∧ w'.ownsRow base e k v' (l ++ m).length ((l ++ m).flatMap ec) ∧ w.grownBy w' v.ownBlock ∧ (v'.ownBlock = v.ownBlock ∨ v'.ownBlock = some w.heap.size) := by
  obtain ⟨i1, hi1, hz1, hs1, hb1⟩ := info_parts E.info
  obtain ⟨A, c, rfl, hlc, _, hn, hlen, hc⟩ := hs
  have hfl : (l ++ m).flatMap ec = l.flatMap ec ++ m.flatMap ec := List.flatMap_append
  cases A with
  | none =>
    have h0 : m = [] := List.eq_nil_of_length_eq_zero (by have := hn rfl; omega)
    subst h0
    refine ⟨v, w, ?_, by simpa using hown, World.grownBy.refl w _, .inl rfl⟩
    rcases hown.2 with ⟨rfl, _⟩ | ⟨g, cap, cur, rfl, _, _, hnc, _⟩
    · simp [Builtin.append_, run_underlying E.und, sizeOf, typeInfo, hi1, Builtin.lenOf, Builtin.firstCells]
    · simp [Builtin.append_, run_underlying E.und, sizeOf, typeInfo, hi1, Builtin.lenOf, Builtin.firstCells, hnc, storeCells]
  | some ad =>
    obtain ⟨v', w', hr, ho, hg, _, hat⟩ := run_append_own_at (P := Tryz.prog) w base t ty e i1 z k B E.und hi1 hz1 hs1 hb1 E.zero hk0 v l.length (l.flatMap ec) hown ad m.length c (m.flatMap ec) (fm_length ec k hk m)
      (fun j u hu => by
        have hj := (List.getElem?_eq_some_iff.1 hu).1
        rw [fm_length ec k hk] at hj
        obtain ⟨ad', e, hsp, _, _, hcell⟩ := hc (Nat.pos_of_ne_zero (fun e => by rw [e, Nat.zero_mul] at hj; omega))
        injection e with e
        subst e
        rw [add_at ad hsp]
        exact hcell j u hu)
      (fun u hu => by obtain ⟨r, _, hr⟩ := List.mem_flatMap.1 hu; exact hone r u hr) h63 hb hbase
    exact ⟨v', w', hr, by rw [List.length_append, hfl]; exact ho, hg, hat⟩
set_option maxRecDepth 100000 in
theorem wpList_append_many (E : Elems t e z k B) (hk : ∀ x, (ec x).length = k) (hone : ∀ x, ∀ u ∈ ec x, u.oneCell' = true) (hk0 : 0 < k) (w : World) {ops : Array Oper} {rest : List Oper} {o : Oper} {a : Act} {Q : Exit → Act → World → Prop} (hgd : o.guard = none) (s x : Operand)
    (ho : o.op = .call { callee := .builtin .append, args := #[s, x], argTypes := #[t, t] }) (base : Nat)
    (v u : Value) (l m : List α) (D : Nat → Prop) (hv : a.eval s = v) (hu : a.eval x = u) (hown : w.ownsRow base e k v l.length (l.flatMap ec)) (hs : Many ec k w D u m) (h63 : l.length + m.length ≤ maxLen) (hl : (l.length + m.length) * B ≤ 140737488355328) (hbase : base ≤ w.heap.size)
    (h : ∀ v' w', w'.ownsRow base e k v' (l ++ m).length ((l ++ m).flatMap ec) → w.grownBy w' v.ownBlock → (v'.ownBlock = v.ownBlock ∨ v'.ownBlock = some w.heap.size) → wpList Tryz.prog ops Q rest (a.put o.dst v') w') : wpList Tryz.prog ops Q (o :: rest) a w := by
  refine wpList_plain hgd fun K hK => ?_
  obtain ⟨v', w', hr, h3, h4, h5⟩ := E.append hk hone hk0 w base o.type v u l m D hown hs h63 hl hbase
  unfold Oper.wp execOp
  simp only [ho, resolve, invoke, builtin, Sem.run_bind, Sem.run_pure, Result.andThen_ok, List.map_toArray, List.map_cons, List.map_nil, hv, hu, hr]
  exact hK _ _ (h v' w' h3 h4 h5)
theorem Many.one (hk : ∀ x, (ec x).length = k) (w : World) (x : α) (e : TypeId) : Many ec k (w.alloc (.cells (ec x).toArray e)) (fun i => w.heap.size ≤ i) (.slice (some ⟨w.heap.size, 0, none⟩) 1 1) [x] := by
  refine ⟨_, 1, rfl, Nat.le_refl _, by decide, fun e => (by cases e), by simp [hk], fun _ => ⟨_, rfl, rfl, by simp, Nat.le_refl _, fun j u hj => ?_⟩⟩
  rw [List.flatMap_cons, List.flatMap_nil, List.append_nil] at hj
  obtain ⟨hjl, hje⟩ := List.getElem?_eq_some_iff.1 hj
  rw [World.cell?_alloc_new]
  simp [hjl, hje]
end
end Go.Proofs.YtkoikmdmejhhhaaGreat
namespace Go.Proofs.YtkoikmdmejhhhaaGreat
open Go.RowKit
section
variable {α : Type} {ec : α → List Value} {k : Nat}
def mt (ec : α → List Value) (l : List α) (tl : List Value) : Array Value := (l.flatMap ec ++ tl).toArray
theorem fm_set (hk : ∀ x, (ec x).length = k) : ∀ {l : List α} {i j : Nat} {x x' : α} {u : Value}, l[i]? = some x → j < k → ec x' = (ec x).set j u → (l.flatMap ec).set (i * k + j) u = (l.set i x').flatMap ec
  | [], i, j, x, x', u, h, _, _ => by simp at h
  | a :: l, 0, j, x, x', u, h, hj, he => by
    simp at h
    subst h
    rw [List.flatMap_cons, List.set_cons_zero, List.flatMap_cons, he, Nat.zero_mul, Nat.zero_add, List.set_append_left _ _ (by rw [hk]; exact hj)]
  | a :: l, i + 1, j, x, x', u, h, hj, he => by
    have ih := fm_set hk (l := l) (i := i) (by simpa using h) hj he
    have hs : (i + 1) * k + j = k + (i * k + j) := by rw [Nat.succ_mul]; omega
    rw [List.flatMap_cons, List.set_cons_succ, List.flatMap_cons, ← ih, hs, List.set_append_right _ _ (by rw [hk]; omega), hk, Nat.add_sub_cancel_left]
theorem own_mt {w : World} {base : Nat} {e : TypeId} {v : Value} {l : List α} (h : w.ownsRow base e k v l.length (l.flatMap ec)) (h0 : l ≠ []) : ∃ (g cap : Nat) (tl : List Value), v = .slice (some ⟨g, 0, none⟩) l.length cap ∧ base ≤ g ∧ Box w g e (mt ec l tl) ∧ l.length ≤ cap ∧ cap ≤ maxLen := by
  obtain ⟨hl, h⟩ := h
  rcases h with ⟨_, hz⟩ | ⟨g, cap, cur, rfl, hb, hg, hle, hmx, _, htk⟩
  · exact absurd (List.eq_nil_of_length_eq_zero hz) h0
  · refine ⟨g, cap, cur.toList.drop (l.length * k), rfl, hb, ?_, hle, hmx⟩
    have e : mt ec l (cur.toList.drop (l.length * k)) = cur := by
      unfold mt
      rw [← htk, List.take_append_drop]
    rw [e]
    exact hg
theorem empty_own (w : World) (e : TypeId) : (w.alloc (.cells #[] e)).ownsRow w.heap.size e k (.slice (some ⟨w.heap.size, 0, none⟩) 0 0) ([] : List α).length (([] : List α).flatMap ec) :=
  ⟨by simp, .inr ⟨_, 0, #[], rfl, Nat.le_refl _, Box.new w _ _, Nat.le_refl _, Nat.zero_le _, by simp, by simp⟩⟩
theorem empty_grown {w w' : World} {e : TypeId} (hg : (w.alloc (.cells #[] e)).grownBy w' (Value.slice (some ⟨w.heap.size, 0, none⟩) 0 0).ownBlock) : Keep noneOf w w' :=
  ((Keep.refl noneOf w).alloc (.cells #[] e)).trans (Keep.of_grown hg) (fun i hi e => by
    have e2 : i = w.heap.size := (by simpa [Value.ownBlock] using e)
    omega)
theorem Keep.own_mt {w w' w'' : World} {g : Nat} (h : Keep noneOf w w') (hk : Keep (fun i => i = g) w' w'') (hg : w.heap.size ≤ g) : Keep noneOf w w'' := h.trans hk (fun i hi e => by subst e; omega)
end
end Go.Proofs.YtkoikmdmejhhhaaGreat
namespace Go.Proofs.YtkoikmdmejhhhaaGreat
open Go.RowKit
structure Gm where
  id : Int
  gv : Value
  sv : Value
  ts : List Tg
  st : List Pst
def Gm.cells (g : Gm) : List Value := [.int .u64 g.id, g.gv, g.sv]
def Gm.plain (g : Gm) : Gq := ⟨g.id, g.ts.map Tg.plain, g.st⟩
def Gm.lies (w : World) (D : Nat → Prop) (g : Gm) : Prop := Tgs w D g.gv g.ts ∧ Sts w D g.sv g.st
def Gms (w : World) (D : Nat → Prop) (v : Value) (l : List Gm) : Prop := Many Gm.cells 3 w D v l ∧ ∀ g ∈ l, g.lies w D
theorem Tgs.monoQ {w : World} {D D' : Nat → Prop} {v : Value} {ts : List Tg} (h : Tgs w D v ts) (hD : ∀ i, i < w.heap.size → D i → D' i) : Tgs w D' v ts :=
  ⟨h.1.mono hD, fun t ht => by
    obtain ⟨h1, h2, h3⟩ := h.2 t ht
    exact ⟨h1, h2, h3.1.mono hD, h3.2⟩⟩
theorem Gm.lies.keep {w w' : World} {S D : Nat → Prop} {g : Gm} (h : g.lies w D) (k : Keep S w w') (hs : ∀ i, i < w.heap.size → D i → ¬ S i) : g.lies w' D := ⟨Tgs.keep h.1 k hs, Sts.keep h.2 k hs⟩
theorem Gm.lies.mono {w : World} {D D' : Nat → Prop} {g : Gm} (h : g.lies w D) (hD : ∀ i, i < w.heap.size → D i → D' i) : g.lies w D' := ⟨Tgs.monoQ h.1 hD, Sts.mono h.2 hD⟩
theorem Gms.keep {w w' : World} {S D : Nat → Prop} {v : Value} {l : List Gm} (h : Gms w D v l) (k : Keep S w w') (hs : ∀ i, i < w.heap.size → D i → ¬ S i) : Gms w' D v l := ⟨h.1.keep k hs, fun g hg => Gm.lies.keep (h.2 g hg) k hs⟩
theorem Gms.mono {w : World} {D D' : Nat → Prop} {v : Value} {l : List Gm} (h : Gms w D v l) (hD : ∀ i, i < w.heap.size → D i → D' i) : Gms w D' v l := ⟨h.1.mono hD, fun g hg => Gm.lies.mono (h.2 g hg) hD⟩
theorem Gms.nil (w : World) (D : Nat → Prop) : Gms w D (.slice none 0 0) [] := ⟨Many.nil _ _ w D, fun g hg => (by cases hg)⟩
structure Im where
  now : Int
  ng : Int
  nt : Int
  sv : Value
  gv : Value
  bv : Value
  ses : List Ro
  gs : List Gm
  built : List Nat
def Im.agg (q : Im) : Value := .agg #[.int .u64 q.now, .int .u64 q.ng, .int .u64 q.nt, q.sv, q.gv, q.bv]
def Im.plain (q : Im) : Qp := ⟨q.now, q.ng, q.nt, q.ses, q.gs.map Gm.plain, q.built⟩
structure Im.lies (w : World) (D : Nat → Prop) (q : Im) : Prop where
  ses : Many Ro.cells 8 w D q.sv q.ses
  gs : Gms w D q.gv q.gs
  built : Kys w D q.bv q.built
theorem Im.lies.keep {w w' : World} {S D : Nat → Prop} {q : Im} (h : q.lies w D) (k : Keep S w w') (hs : ∀ i, i < w.heap.size → D i → ¬ S i) : q.lies w' D := ⟨h.ses.keep k hs, h.gs.keep k hs, h.built.1.keep k hs, h.built.2⟩
theorem Im.lies.mono {w : World} {D D' : Nat → Prop} {q : Im} (h : q.lies w D) (hD : ∀ i, i < w.heap.size → D i → D' i) : q.lies w D' := ⟨h.ses.mono hD, h.gs.mono hD, h.built.1.mono hD, h.built.2⟩
theorem gm_at {l : List Gm} {i : Nat} {g : Gm} (h : l[i]? = some g) : (l.map Gm.plain)[i]? = some g.plain := by rw [List.getElem?_map, h]; rfl
theorem gm_of {l : List Gm} {i : Nat} {g : Gq} (h : (l.map Gm.plain)[i]? = some g) : ∃ m, l[i]? = some m ∧ m.plain = g := by
  rw [List.getElem?_map] at h
  cases hl : l[i]? with
  | none => rw [hl] at h; cases h
  | some m => rw [hl] at h; exact ⟨m, rfl, by simpa using h⟩
theorem gm_set {l : List Gm} {i : Nat} {g : Gm} (h : l[i]? = some g) (sv : Value) (st : List Pst) : (l.set i { g with sv := sv, st := st }).map Gm.plain = (l.map Gm.plain).modify i (fun a => { a with st := st }) := by
  refine List.ext_getElem? fun j => ?_
  rw [List.getElem?_map, List.getElem?_modify, List.getElem?_map]
  by_cases e : i = j
  · subst e
    rw [List.getElem?_set_self (List.getElem?_eq_some_iff.1 h).1, h]
    simp [Gm.plain]
  · rw [List.getElem?_set_ne e]
    cases l[j]? with
    | none => rfl
    | some a => simp [e]
end Go.Proofs.YtkoikmdmejhhhaaGreat
namespace Go.Proofs.YtkoikmdmejhhhaaGreat
open Go.RowKit
theorem mapk_at {α : Type} {f : α → α} {l : List α} {k : Nat} {a : α} (h : l[k]? = some a) : ((l.take k).map f ++ l.drop k)[k]? = some a := by
  have hk := (List.getElem?_eq_some_iff.1 h).1
  have e : ((l.take k).map f).length = k := by rw [List.length_map, List.length_take]; omega
  rw [List.getElem?_append_right (by omega), e, Nat.sub_self, List.getElem?_drop, Nat.add_zero]
  exact h
theorem mapk_step {α : Type} {f : α → α} {l : List α} {k : Nat} {a : α} (h : l[k]? = some a) : ((l.take k).map f ++ l.drop k).modify k f = (l.take (k + 1)).map f ++ l.drop (k + 1) := by
  have hk := (List.getElem?_eq_some_iff.1 h).1
  have hd : l.drop k = a :: l.drop (k + 1) := by
    rw [List.drop_eq_getElem_cons hk]
    congr 1
    rw [List.getElem?_eq_getElem hk] at h
    injection h
  have ht : l.take (k + 1) = l.take k ++ [a] := by
    rw [List.take_succ_eq_append_getElem hk]
    congr 2
    rw [List.getElem?_eq_getElem hk] at h
    injection h
  have e : ((l.take k).map f).length = k := by rw [List.length_map, List.length_take]; omega
  refine List.ext_getElem? fun j => ?_
  rw [List.getElem?_modify, ht, hd, List.map_append, List.append_assoc]
  rcases Nat.lt_trichotomy j k with hj | hj | hj
  · rw [List.getElem?_append_left (by omega), List.getElem?_append_left (by omega)]
    cases ((l.take k).map f)[j]? with
    | none => rfl
    | some b => simp [show ¬ k = j from by omega]
  · subst hj
    rw [List.getElem?_append_right (by omega), List.getElem?_append_right (by omega), e, Nat.sub_self]
    simp
  · rw [List.getElem?_append_right (by omega), List.getElem?_append_right (by omega), e]
    obtain ⟨m, hm⟩ : ∃ m, j - k = m + 1 := ⟨j - k - 1, by omega⟩
    rw [hm, List.map_cons, List.map_nil, List.singleton_append, List.getElem?_cons_succ, List.getElem?_cons_succ]
    cases (l.drop (k + 1))[m]? with
    | none => rfl
    | some b => simp [show ¬ k = j from by omega]
theorem firstG_some {f : Gq → Option Nat} : ∀ {gs : List Gq} {i j k : Nat} {g : Gq}, gs[j]? = some g → f g = some k → (∀ (m : Nat) (b : Gq), m < j → gs[m]? = some b → f b = none) → firstG f gs i = some (i + j, k)
  | [], i, j, k, g, hg, _, _ => by simp at hg
  | a :: gs, i, 0, k, g, hg, hf, _ => by
    have e : a = g := by simpa using hg
    subst e
    unfold firstG
    rw [hf]
    rfl
  | a :: gs, i, j + 1, k, g, hg, hf, hno => by
    have h0 := hno 0 a (by omega) rfl
    unfold firstG
    rw [h0]
    have := firstG_some (gs := gs) (i := i + 1) (j := j) (by simpa using hg) hf (fun m b hm hb => hno (m + 1) b (by omega) (by simpa using hb))
    rw [show i + (j + 1) = i + 1 + j from by omega]
    exact this
theorem firstG_none {f : Gq → Option Nat} : ∀ {gs : List Gq} {i : Nat}, (∀ (m : Nat) (b : Gq), gs[m]? = some b → f b = none) → firstG f gs i = none
  | [], _, _ => rfl
  | a :: gs, i, h => by
    unfold firstG
    rw [h 0 a rfl]
    exact firstG_none (fun m b hb => h (m + 1) b (by simpa using hb))
end Go.Proofs.YtkoikmdmejhhhaaGreat
namespace Go.Proofs.YtkoikmdmejhhhaaGreat
def viewP (q : Qp) (id : Int) : Int × Int × List Pst := match findG q id with
  | none => (121, q.now, [])
  | some i => (0, q.now, (q.gs.getD i noG).st)
end Go.Proofs.YtkoikmdmejhhhaaGreat
