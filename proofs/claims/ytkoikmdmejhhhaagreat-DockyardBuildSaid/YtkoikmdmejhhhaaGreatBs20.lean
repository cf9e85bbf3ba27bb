import Derived.Test.YtkoikmdmejhhhaaGreatRows
import Derived.ChangeOld
import Derived.Deep.Slices
import Derived.OpenShut
import Derived.ProofKit
import Derived.SizedLaws
import Derived.Test.YtkoikmdmejhhhaaGreatBs01
import Derived.Test.YtkoikmdmejhhhaaGreatBs16
import Derived.Test.YtkoikmdmejhhhaaGreatBs19
namespace Go.Proofs.YtkoikmdmejhhhaaGreat
open Go.RowKit Go.ChangeShapes Go.WideShapes Go.Deep
section
variable {α : Type} (enc : α → List Value) (k : Nat)
theorem fm_length (hk : ∀ x, (enc x).length = k) (l : List α) : (l.flatMap enc).length = l.length * k := by
  induction l with
  | nil => simp
  | cons a l ih => rw [List.flatMap_cons, List.length_append, ih, hk, List.length_cons, Nat.succ_mul, Nat.add_comm]
theorem fm_at (hk : ∀ x, (enc x).length = k) {l : List α} {i : Nat} {x : α} (h : l[i]? = some x) (j : Nat) (hj : j < k) : (l.flatMap enc)[i * k + j]? = (enc x)[j]? := by
  induction l generalizing i with
  | nil => simp at h
  | cons a l ih =>
    cases i with
    | zero =>
      simp at h
      subst h
      rw [List.flatMap_cons, List.getElem?_append_left (by rw [hk]; omega)]
      simp
    | succ i =>
      simp at h
      rw [List.flatMap_cons, List.getElem?_append_right (by rw [hk, Nat.succ_mul]; omega), ← ih h]
      congr 1
      rw [hk, Nat.succ_mul]
      omega
end
def Many {α : Type} (enc : α → List Value) (k : Nat) (w : World) (D : Nat → Prop) (v : Value) (l : List α) : Prop := Row w D v l.length k (l.flatMap enc)
theorem Many.keep {α : Type} {enc : α → List Value} {k : Nat} {w w' : World} {S D : Nat → Prop} {v : Value} {l : List α} (h : Many enc k w D v l) (kk : Keep S w w') (hs : ∀ i, i < w.heap.size → D i → ¬ S i) : Many enc k w' D v l := Row.keep h kk hs
theorem Many.mono {α : Type} {enc : α → List Value} {k : Nat} {w : World} {D D' : Nat → Prop} {v : Value} {l : List α} (h : Many enc k w D v l) (hD : ∀ i, i < w.heap.size → D i → D' i) : Many enc k w D' v l := Row.mono h hD
theorem Many.nil {α : Type} (enc : α → List Value) (k : Nat) (w : World) (D : Nat → Prop) : Many enc k w D (.slice none 0 0) [] := ⟨none, 0, rfl, Nat.le_refl _, Nat.zero_le _, fun _ => rfl, by simp, fun h => absurd h (by simp)⟩
theorem Many.shape {α : Type} {enc : α → List Value} {k : Nat} {w : World} {D : Nat → Prop} {v : Value} {l : List α} (h : Many enc k w D v l) : ∃ A c, v = .slice A l.length c := by
  obtain ⟨A, c, hv, _⟩ := h
  exact ⟨A, c, hv⟩
theorem Many.few {α : Type} {enc : α → List Value} {k : Nat} {w : World} {D : Nat → Prop} {v : Value} {l : List α} (h : Many enc k w D v l) : l.length ≤ maxLen := by
  obtain ⟨A, c, hv, h1, h2, _⟩ := h
  exact Nat.le_trans h1 h2
theorem Many.cell {α : Type} {enc : α → List Value} {k : Nat} {w : World} {D : Nat → Prop} {A : Option Addr} {c : Nat} {l : List α} (h : Many enc k w D (.slice A l.length c) l) (hk : ∀ x, (enc x).length = k) {i : Nat} {x : α} (hx : l[i]? = some x) :
    ∃ b o, A = some ⟨b, o, none⟩ ∧ b < w.heap.size ∧ D b ∧ ∀ j, j < k → w.cell? ⟨b, o + (i * k + j), none⟩ = (enc x)[j]? := by
  obtain ⟨A', c', hv', _, _, _, hlen, hrow⟩ := h
  obtain ⟨rfl, rfl⟩ : A = A' ∧ c = c' := by simpa using hv'
  have hlt := (List.getElem?_eq_some_iff.1 hx).1
  obtain ⟨ad, rfl, hsp, hblk, hD, hcell⟩ := hrow (by omega)
  obtain ⟨b, o, sp⟩ := ad
  simp only at hsp hblk hD hcell
  subst hsp
  refine ⟨b, o, rfl, hblk, hD, fun j hj => ?_⟩
  have hj' := hj
  rw [← hk x] at hj'
  have e := fm_at enc k hk hx j hj
  rw [List.getElem?_eq_getElem hj'] at e ⊢
  exact hcell _ _ e
def An.cells (a : An) : List Value := [.int .i64 a.code, .int .u64 a.id, .int .u64 a.tok, .int .u64 a.unt, .string a.tgt, .string a.cmd]
def Ro.cells (r : Ro) : List Value := [.int .u64 r.id, .int .u64 r.seq, .int .i64 r.ans.code, .int .u64 r.ans.id, .int .u64 r.ans.tok, .int .u64 r.ans.unt, .string r.ans.tgt, .string r.ans.cmd]
theorem u64_in {n : Int} (h : (Lit.int .u64 n).wf = true) : 0 ≤ n ∧ n ≤ top := by
  simpa [Lit.wf, IntKind.min, IntKind.max, IntKind.signed, IntKind.bits, top] using h
section
variable {H : Type} {enc : TypeId × Value → H} {w : World}
end
end Go.Proofs.YtkoikmdmejhhhaaGreat
namespace Go.Proofs.YtkoikmdmejhhhaaGreat
open Go.RowKit
theorem Keep.newer {m : Nat} {w w' w'' : World} (h : Keep noneOf w w') (k : Keep (fun i => i = m) w' w'') (hm : w.heap.size ≤ m) : Keep noneOf w w'' := h.trans k (fun i hi e => by subst e; omega)
theorem open_few {l : List Ro} {x : Int} (h : l.length ≤ 16) : (openL l x).length ≤ 16 := by
  unfold openL
  split
  · exact h
  · split
    · exact h
    · split
      · exact h
      · rw [ins_length]; omega
theorem look_found {l : List Ro} {x s : Int} (h : lookE l x s = 0) : ∃ r, findR l x = some r := by
  unfold lookE at h
  cases hq : findR l x with
  | none => rw [hq] at h; simp at h
  | some r => exact ⟨r, rfl⟩
theorem keep_ok {l : List Ro} {x s : Int} (h : keepE l x s = 0) : ∃ r, findR l x = some r ∧ r.seq < s ∧ s ≠ 0 := by
  unfold keepE at h
  by_cases h1 : lookE l x s = 0
  · rw [if_neg (fun e => e h1)] at h
    obtain ⟨r, hr⟩ := look_found h1
    obtain ⟨_, e2, e3⟩ := look_at (s := s) hr
    refine ⟨r, hr, ?_⟩
    rw [h1] at e3
    by_cases hs : s < r.seq ∨ s = 0
    · rw [if_pos hs] at e3
      cases e3
    · by_cases he : s = r.seq ∧ s ≠ 0
      · rw [e2, decide_eq_true he] at h
        cases h
      · omega
  · rw [if_pos h1] at h
    exact absurd h h1
theorem keep_few {l : List Ro} {x s : Int} {a : An} (h : l.length ≤ 16) : (keepL l x s a).length ≤ 16 := by
  unfold keepL
  split
  · rename_i h0
    obtain ⟨r, hr, _⟩ := keep_ok h0
    have := put_few (s := s) (a := a) hr
    omega
  · exact h
theorem find_ins (r : Ro) : ∀ (l : List Ro), (∀ g ∈ l, g.id ≠ r.id) → findR (insR r l) r.id = some r
  | [], _ => by unfold insR findR; simp
  | g :: l, h => by
    unfold insR
    split
    · unfold findR; simp
    · unfold findR
      rw [List.find?_cons_of_neg (by simpa using h g (List.mem_cons_self ..))]
      exact find_ins r l (fun x hx => h x (List.mem_cons_of_mem _ hx))
theorem find_put (l : List Ro) (r : Ro) : findR (putR l r) r.id = some r := by
  unfold putR
  refine find_ins r _ (fun g hg => ?_)
  unfold delR at hg
  simpa using (List.mem_filter.1 hg).2
end Go.Proofs.YtkoikmdmejhhhaaGreat
namespace Go.Proofs.YtkoikmdmejhhhaaGreat
structure Gq where
  id : Int
  ps : List Pt
  st : List Pst
structure Qp where
  now : Int
  ng : Int
  nt : Int
  ses : List Ro
  gs : List Gq
  built : List Nat
structure Cq where
  kind : Int
  ses : Int
  seq : Int
  ps : List Pt
  id : Int
  tok : Int
  good : Bool
  time : Int
def An.err (e : Int) : An := ⟨e, 0, 0, 0, ⟨#[]⟩, ⟨#[]⟩⟩
def Qp.new : Qp := ⟨0, 1, 1, [], [], []⟩
def withG (q : Qp) (i : Nat) (l : List Pst) : Qp := { q with gs := q.gs.modify i (fun g => { g with st := l }) }
def firstG (f : Gq → Option Nat) : List Gq → Nat → Option (Nat × Nat)
  | [], _ => none
  | g :: r, i => match f g with
    | some k => some (i, k)
    | none => firstG f r (i + 1)
def heldIn (tok now : Int) (g : Gq) : Option Nat := g.st.findIdx? (fun x => holdsB x tok now)
def heldAt (q : Qp) (tok : Int) : Option (Nat × Nat) := firstG (heldIn tok q.now) q.gs 0
def readyAt (q : Qp) : Option (Nat × Nat) := firstG (fun g => nextIx g.st) q.gs 0
def findG (q : Qp) (id : Int) : Option Nat := q.gs.findIdx? (fun g => decide (g.id = id))
def Gq.name (g : Gq) (n : Nat) : ByteArray := ((g.ps[n]?).map Pt.name).getD ⟨#[]⟩
def Gq.cmd (g : Gq) (n : Nat) : ByteArray := ((g.ps[n]?).map Pt.cmd).getD ⟨#[]⟩
def noG : Gq := ⟨0, [], []⟩
noncomputable def submitP (q : Qp) (c : Cq) : Qp × An :=
  if grCheck c.ps ≠ 0 then (q, .err (grCheck c.ps))
  else if 16 ≤ q.gs.length ∨ q.ng = top then (q, .err 120)
  else ({ q with gs := q.gs ++ [⟨q.ng, c.ps, grStart c.ps (grFresh c.ps (fun k => q.built.contains k))⟩], ng := q.ng + 1 }, ⟨0, q.ng, 0, 0, ⟨#[]⟩, ⟨#[]⟩⟩)
def claimP (q : Qp) : Qp × An := match readyAt q with
  | none => (q, .err 122)
  | some (i, n) =>
    let g := q.gs.getD i noG
    let r := granted q.nt q.now
    if r.2.2 ≠ 0 then (q, .err r.2.2)
    else ({ withG q i (g.st.set n r.2.1) with nt := r.1 }, ⟨0, g.id, r.2.1.t, r.2.1.u, g.name n, g.cmd n⟩)
def renewP (q : Qp) (c : Cq) : Qp × An := match heldAt q c.tok with
  | none => (q, .err 100)
  | some (i, n) =>
    let g := q.gs.getD i noG
    let r := renewed (g.st.getD n .zero) c.tok q.now
    if r.2 ≠ 0 then (q, .err r.2)
    else (withG q i (g.st.set n r.1), ⟨0, g.id, r.1.t, r.1.u, g.name n, ⟨#[]⟩⟩)
def builtP (b : List Nat) (k : Nat) : List Nat := if b.contains k = true then b else (b ++ [k]).drop ((b ++ [k]).length - 256)
noncomputable def reportP (q : Qp) (c : Cq) : Qp × An := match heldAt q c.tok with
  | none => (q, .err 100)
  | some (i, n) =>
    let g := q.gs.getD i noG
    let q' := withG q i (grSettle g.ps (g.st.set n ⟨if c.good = true then 3 else 4, 0, 0⟩))
    (if c.good = true then { q' with built := builtP q.built ((grKeys g.ps).getD n 0) } else q', ⟨0, g.id, 0, 0, g.name n, ⟨#[]⟩⟩)
def cancelP (q : Qp) (c : Cq) : Qp × An := match findG q c.id with
  | none => (q, .err 121)
  | some i =>
    let g := q.gs.getD i noG
    (if overB g.st = true then { q with gs := q.gs.eraseIdx i } else withG q i (repl 6 (fun x => !finB x.s) g.st), ⟨0, c.id, 0, 0, ⟨#[]⟩, ⟨#[]⟩⟩)
noncomputable def doneP (q : Qp) (c : Cq) : Qp × An :=
  if c.kind = 2 then submitP q c else if c.kind = 3 then claimP q else if c.kind = 4 then renewP q c else if c.kind = 5 then reportP q c else cancelP q c
noncomputable def applyP (q : Qp) (c : Cq) : Qp × An :=
  if c.kind = 7 then (if c.time ≤ q.now then (q, .zero) else ({ q with now := c.time, gs := q.gs.map (fun g => { g with st := repl 1 (pastB c.time) g.st }) }, .zero))
  else if c.kind = 1 then ({ q with ses := openL q.ses c.ses }, .err (openE q.ses c.ses))
  else if c.kind < 2 ∨ 6 < c.kind then (q, .err 1)
  else if lookE q.ses c.ses c.seq ≠ 0 then (q, .err (lookE q.ses c.ses c.seq))
  else if lookB q.ses c.ses c.seq = true then (q, lookA q.ses c.ses c.seq)
  else ({ (doneP q c).1 with ses := keepL q.ses c.ses c.seq (doneP q c).2 }, (doneP q c).2)
noncomputable def ranP (q : Qp) (l : List Cq) : Qp := l.foldl (fun q c => (applyP q c).1) q
def toksOf (l : List Pst) : List Int := (l.filter (fun x => x.s == 2)).map Pst.t
def StOk (nt now : Int) (x : Pst) : Prop := (0 ≤ x.s ∧ x.s ≤ 6) ∧ (x.s ≠ 2 → x.t = 0 ∧ x.u = 0) ∧ (x.s = 2 → 0 < x.t ∧ x.t < nt ∧ now < x.u ∧ x.u ≤ top)
def GqOk (ng nt now : Int) (g : Gq) : Prop := 0 < g.id ∧ g.id < ng ∧ grCheck g.ps = 0 ∧ g.st.length = g.ps.length ∧ grSettle g.ps g.st = g.st ∧ ∀ x ∈ g.st, StOk nt now x
def toksG (gs : List Gq) : List Int := gs.flatMap (fun g => toksOf g.st)
structure Inv (q : Qp) : Prop where
  now0 : 0 ≤ q.now ∧ q.now ≤ top
  ng : 1 ≤ q.ng ∧ q.ng ≤ top
  nt : 1 ≤ q.nt ∧ q.nt ≤ top
  sesUp : q.ses.Pairwise (fun a b => a.id < b.id)
  sesIn : ∀ r ∈ q.ses, (0 < r.id ∧ r.id ≤ top) ∧ (0 ≤ r.seq ∧ r.seq ≤ top) ∧ (r.seq = 0 → r.ans = .zero)
  sesFew : q.ses.length ≤ 16
  gsFew : q.gs.length ≤ 16
  gsUp : q.gs.Pairwise (fun a b => a.id < b.id)
  gsIn : ∀ g ∈ q.gs, GqOk q.ng q.nt q.now g
  toks : (toksG q.gs).Nodup
  bltFew : q.built.length ≤ 256
  bltNo : q.built.Nodup
theorem inv_new : Inv Qp.new := ⟨by unfold top Qp.new; decide, by unfold top Qp.new; decide, by unfold top Qp.new; decide, .nil, fun r hr => (by cases hr), by decide, by decide, .nil, fun g hg => (by cases hg), List.nodup_nil, by decide, List.nodup_nil⟩
end Go.Proofs.YtkoikmdmejhhhaaGreat
