/-
  Texts of the queue, merged: only what QueueTime wants.
-/
import Derived.Test.YtkoikmdmejhhhaaRows
import Derived.Test.YtkoikmdmejhhhaaSsL
import Derived.ChangeOld
import Derived.Deep.Slices
import Derived.OpenShut
import Derived.ProofKit
import Derived.SizedLaws
import Derived.Test.YtkoikmdmejhhhaaBt01
import Derived.Test.YtkoikmdmejhhhaaBt17
import Derived.Test.YtkoikmdmejhhhaaBt20
namespace Go.Proofs.Ytkoikmdmejhhhaa
open Go.RowKit Go.ChangeShapes Go.WideShapes Go.Deep
section
variable {α : Type} (enc : α → List Value) (k : Nat)
theorem fm_length (hk : ∀ x, (enc x).length = k) (l : List α) : (l.flatMap enc).length = l.length * k := by
  induction l with
  | nil => simp
  | cons a l ih => rw [List.flatMap_cons, List.length_append, ih, hk, List.length_cons, Nat.succ_mul, Nat.add_comm]
theorem fm_at (hk : ∀ x, (enc x).length = k) {l : List α} {i : Nat} {x : α} (h : l[i]? = some x) (j : Nat) (hj : j < k) : (l.flatMap enc)[i * k + j]? = (enc x)[j]? := by
  induction l generalizing i with
  | nil => simp at h
  | cons a l ih =>
    cases i with
    | zero =>
      simp at h
      subst h
      rw [List.flatMap_cons, List.getElem?_append_left (by rw [hk]; omega)]
      simp
    | succ i =>
      simp at h
      rw [List.flatMap_cons, List.getElem?_append_right (by rw [hk, Nat.succ_mul]; omega), ← ih h]
      congr 1
      rw [hk, Nat.succ_mul]
      omega
end
def Many {α : Type} (enc : α → List Value) (k : Nat) (w : World) (D : Nat → Prop) (v : Value) (l : List α) : Prop := Row w D v l.length k (l.flatMap enc)
theorem Many.keep {α : Type} {enc : α → List Value} {k : Nat} {w w' : World} {S D : Nat → Prop} {v : Value} {l : List α} (h : Many enc k w D v l) (kk : Keep S w w') (hs : ∀ i, i < w.heap.size → D i → ¬ S i) : Many enc k w' D v l := Row.keep h kk hs
theorem Many.mono {α : Type} {enc : α → List Value} {k : Nat} {w : World} {D D' : Nat → Prop} {v : Value} {l : List α} (h : Many enc k w D v l) (hD : ∀ i, i < w.heap.size → D i → D' i) : Many enc k w D' v l := Row.mono h hD
theorem Many.nil {α : Type} (enc : α → List Value) (k : Nat) (w : World) (D : Nat → Prop) : Many enc k w D (.slice none 0 0) [] := ⟨none, 0, rfl, Nat.le_refl _, Nat.zero_le _, fun _ => rfl, by simp, fun h => absurd h (by simp)⟩
theorem Many.shape {α : Type} {enc : α → List Value} {k : Nat} {w : World} {D : Nat → Prop} {v : Value} {l : List α} (h : Many enc k w D v l) : ∃ A c, v = .slice A l.length c := by
  obtain ⟨A, c, hv, _⟩ := h
  exact ⟨A, c, hv⟩
theorem Many.few {α : Type} {enc : α → List Value} {k : Nat} {w : World} {D : Nat → Prop} {v : Value} {l : List α} (h : Many enc k w D v l) : l.length ≤ maxLen := by
  obtain ⟨A, c, hv, h1, h2, _⟩ := h
  exact Nat.le_trans h1 h2
theorem Many.cell {α : Type} {enc : α → List Value} {k : Nat} {w : World} {D : Nat → Prop} {A : Option Addr} {c : Nat} {l : List α} (h : Many enc k w D (.slice A l.length c) l) (hk : ∀ x, (enc x).length = k) {i : Nat} {x : α} (hx : l[i]? = some x) :
    ∃ b o, A = some ⟨b, o, none⟩ ∧ b < w.heap.size ∧ D b ∧ ∀ j, j < k → w.cell? ⟨b, o + (i * k + j), none⟩ = (enc x)[j]? := by
  obtain ⟨A', c', hv', _, _, _, hlen, hrow⟩ := h
  obtain ⟨rfl, rfl⟩ : A = A' ∧ c = c' := by simpa using hv'
  have hlt := (List.getElem?_eq_some_iff.1 hx).1
  obtain ⟨ad, rfl, hsp, hblk, hD, hcell⟩ := hrow (by omega)
  obtain ⟨b, o, sp⟩ := ad
  simp only at hsp hblk hD hcell
  subst hsp
  refine ⟨b, o, rfl, hblk, hD, fun j hj => ?_⟩
  have hj' := hj
  rw [← hk x] at hj'
  have e := fm_at enc k hk hx j hj
  rw [List.getElem?_eq_getElem hj'] at e ⊢
  exact hcell _ _ e
def An.cells (a : An) : List Value := [.int .i64 a.code, .int .u64 a.id, .int .u64 a.tok, .int .u64 a.unt, .string a.tgt, .string a.cmd]
def Ro.cells (r : Ro) : List Value := [.int .u64 r.id, .int .u64 r.seq, .int .i64 r.ans.code, .int .u64 r.ans.id, .int .u64 r.ans.tok, .int .u64 r.ans.unt, .string r.ans.tgt, .string r.ans.cmd]
theorem u64_in {n : Int} (h : (Lit.int .u64 n).wf = true) : 0 ≤ n ∧ n ≤ top := by
  simpa [Lit.wf, IntKind.min, IntKind.max, IntKind.signed, IntKind.bits, top] using h
section
variable {H : Type} {enc : TypeId × Value → H} {w : World}
end
end Go.Proofs.Ytkoikmdmejhhhaa
namespace Go.Proofs.Ytkoikmdmejhhhaa
open Go.RowKit
theorem Keep.newer {m : Nat} {w w' w'' : World} (h : Keep noneOf w w') (k : Keep (fun i => i = m) w' w'') (hm : w.heap.size ≤ m) : Keep noneOf w w'' := h.trans k (fun i hi e => by subst e; omega)
theorem open_few {l : List Ro} {x : Int} (h : l.length ≤ 16) : (openL l x).length ≤ 16 := by
  unfold openL
  split
  · exact h
  · split
    · exact h
    · split
      · exact h
      · rw [ins_length]; omega
theorem look_found {l : List Ro} {x s : Int} (h : lookE l x s = 0) : ∃ r, findR l x = some r := by
  unfold lookE at h
  cases hq : findR l x with
  | none => rw [hq] at h; simp at h
  | some r => exact ⟨r, rfl⟩
theorem keep_ok {l : List Ro} {x s : Int} (h : keepE l x s = 0) : ∃ r, findR l x = some r ∧ r.seq < s ∧ s ≠ 0 := by
  unfold keepE at h
  by_cases h1 : lookE l x s = 0
  · rw [if_neg (fun e => e h1)] at h
    obtain ⟨r, hr⟩ := look_found h1
    obtain ⟨_, e2, e3⟩ := look_at (s := s) hr
    refine ⟨r, hr, ?_⟩
    rw [h1] at e3
    by_cases hs : s < r.seq ∨ s = 0
    · rw [if_pos hs] at e3
      cases e3
    · by_cases he : s = r.seq ∧ s ≠ 0
      · rw [e2, decide_eq_true he] at h
        cases h
      · omega
  · rw [if_pos h1] at h
    exact absurd h h1
theorem keep_few {l : List Ro} {x s : Int} {a : An} (h : l.length ≤ 16) : (keepL l x s a).length ≤ 16 := by
  unfold keepL
  split
  · rename_i h0
    obtain ⟨r, hr, _⟩ := keep_ok h0
    have := put_few (s := s) (a := a) hr
    omega
  · exact h
end Go.Proofs.Ytkoikmdmejhhhaa
namespace Go.Proofs.Ytkoikmdmejhhhaa
structure Gq where
  id : Int
  ps : List Pt
  st : List Pst
structure Qp where
  now : Int
  ng : Int
  nt : Int
  ses : List Ro
  gs : List Gq
  built : List Nat
structure Cq where
  kind : Int
  ses : Int
  seq : Int
  ps : List Pt
  id : Int
  tok : Int
  good : Bool
  time : Int
def An.err (e : Int) : An := ⟨e, 0, 0, 0, ⟨#[]⟩, ⟨#[]⟩⟩
def Qp.new : Qp := ⟨0, 1, 1, [], [], []⟩
def withG (q : Qp) (i : Nat) (l : List Pst) : Qp := { q with gs := q.gs.modify i (fun g => { g with st := l }) }
def firstG (f : Gq → Option Nat) : List Gq → Nat → Option (Nat × Nat)
  | [], _ => none
  | g :: r, i => match f g with
    | some k => some (i, k)
    | none => firstG f r (i + 1)
def heldIn (tok now : Int) (g : Gq) : Option Nat := g.st.findIdx? (fun x => holdsB x tok now)
def heldAt (q : Qp) (tok : Int) : Option (Nat × Nat) := firstG (heldIn tok q.now) q.gs 0
def readyAt (q : Qp) : Option (Nat × Nat) := firstG (fun g => nextIx g.st) q.gs 0
def findG (q : Qp) (id : Int) : Option Nat := q.gs.findIdx? (fun g => decide (g.id = id))
def Gq.name (g : Gq) (n : Nat) : ByteArray := ((g.ps[n]?).map Pt.name).getD ⟨#[]⟩
def Gq.cmd (g : Gq) (n : Nat) : ByteArray := ((g.ps[n]?).map Pt.cmd).getD ⟨#[]⟩
def noG : Gq := ⟨0, [], []⟩
noncomputable def submitP (q : Qp) (c : Cq) : Qp × An :=
  if grCheck c.ps ≠ 0 then (q, .err (grCheck c.ps))
  else if 16 ≤ q.gs.length ∨ q.ng = top then (q, .err 120)
  else ({ q with gs := q.gs ++ [⟨q.ng, c.ps, grStart c.ps (grFresh c.ps (fun k => q.built.contains k))⟩], ng := q.ng + 1 }, ⟨0, q.ng, 0, 0, ⟨#[]⟩, ⟨#[]⟩⟩)
def claimP (q : Qp) : Qp × An := match readyAt q with
  | none => (q, .err 122)
  | some (i, n) =>
    let g := q.gs.getD i noG
    let r := granted q.nt q.now
    if r.2.2 ≠ 0 then (q, .err r.2.2)
    else ({ withG q i (g.st.set n r.2.1) with nt := r.1 }, ⟨0, g.id, r.2.1.t, r.2.1.u, g.name n, g.cmd n⟩)
def renewP (q : Qp) (c : Cq) : Qp × An := match heldAt q c.tok with
  | none => (q, .err 100)
  | some (i, n) =>
    let g := q.gs.getD i noG
    let r := renewed (g.st.getD n .zero) c.tok q.now
    if r.2 ≠ 0 then (q, .err r.2)
    else (withG q i (g.st.set n r.1), ⟨0, g.id, r.1.t, r.1.u, g.name n, ⟨#[]⟩⟩)
def builtP (b : List Nat) (k : Nat) : List Nat := if b.contains k = true then b else (b ++ [k]).drop ((b ++ [k]).length - 256)
noncomputable def reportP (q : Qp) (c : Cq) : Qp × An := match heldAt q c.tok with
  | none => (q, .err 100)
  | some (i, n) =>
    let g := q.gs.getD i noG
    let q' := withG q i (grSettle g.ps (g.st.set n ⟨if c.good = true then 3 else 4, 0, 0⟩))
    (if c.good = true then { q' with built := builtP q.built ((grKeys g.ps).getD n 0) } else q', ⟨0, g.id, 0, 0, g.name n, ⟨#[]⟩⟩)
def cancelP (q : Qp) (c : Cq) : Qp × An := match findG q c.id with
  | none => (q, .err 121)
  | some i =>
    let g := q.gs.getD i noG
    (if overB g.st = true then { q with gs := q.gs.eraseIdx i } else withG q i (repl 6 (fun x => !finB x.s) g.st), ⟨0, c.id, 0, 0, ⟨#[]⟩, ⟨#[]⟩⟩)
noncomputable def doneP (q : Qp) (c : Cq) : Qp × An :=
  if c.kind = 2 then submitP q c else if c.kind = 3 then claimP q else if c.kind = 4 then renewP q c else if c.kind = 5 then reportP q c else cancelP q c
noncomputable def applyP (q : Qp) (c : Cq) : Qp × An :=
  if c.kind = 7 then (if c.time ≤ q.now then (q, .zero) else ({ q with now := c.time, gs := q.gs.map (fun g => { g with st := repl 1 (pastB c.time) g.st }) }, .zero))
  else if c.kind = 1 then ({ q with ses := openL q.ses c.ses }, .err (openE q.ses c.ses))
  else if c.kind < 2 ∨ 6 < c.kind then (q, .err 1)
  else if lookE q.ses c.ses c.seq ≠ 0 then (q, .err (lookE q.ses c.ses c.seq))
  else if lookB q.ses c.ses c.seq = true then (q, lookA q.ses c.ses c.seq)
  else ({ (doneP q c).1 with ses := keepL q.ses c.ses c.seq (doneP q c).2 }, (doneP q c).2)
def toksOf (l : List Pst) : List Int := (l.filter (fun x => x.s == 2)).map Pst.t
def StOk (nt now : Int) (x : Pst) : Prop := (0 ≤ x.s ∧ x.s ≤ 6) ∧ (x.s ≠ 2 → x.t = 0 ∧ x.u = 0) ∧ (x.s = 2 → 0 < x.t ∧ x.t < nt ∧ now < x.u ∧ x.u ≤ top)
def GqOk (ng nt now : Int) (g : Gq) : Prop := 0 < g.id ∧ g.id < ng ∧ grCheck g.ps = 0 ∧ g.st.length = g.ps.length ∧ grSettle g.ps g.st = g.st ∧ ∀ x ∈ g.st, StOk nt now x
def toksG (gs : List Gq) : List Int := gs.flatMap (fun g => toksOf g.st)
structure Inv (q : Qp) : Prop where
  now0 : 0 ≤ q.now ∧ q.now ≤ top
  ng : 1 ≤ q.ng ∧ q.ng ≤ top
  nt : 1 ≤ q.nt ∧ q.nt ≤ top
  sesUp : q.ses.Pairwise (fun a b => a.id < b.id)
  sesIn : ∀ r ∈ q.ses, (0 < r.id ∧ r.id ≤ top) ∧ (0 ≤ r.seq ∧ r.seq ≤ top) ∧ (r.seq = 0 → r.ans = .zero)
  sesFew : q.ses.length ≤ 16
  gsFew : q.gs.length ≤ 16
  gsUp : q.gs.Pairwise (fun a b => a.id < b.id)
  gsIn : ∀ g ∈ q.gs, GqOk q.ng q.nt q.now g
  toks : (toksG q.gs).Nodup
  bltFew : q.built.length ≤ 256
  bltNo : q.built.Nodup
theorem inv_new : Inv Qp.new := ⟨by unfold top Qp.new; decide, by unfold top Qp.new; decide, by unfold top Qp.new; decide, .nil, fun r hr => (by cases hr), by decide, by decide, .nil, fun g hg => (by cases hg), List.nodup_nil, by decide, List.nodup_nil⟩
end Go.Proofs.Ytkoikmdmejhhhaa
namespace Go.Proofs.Ytkoikmdmejhhhaa
open Go.Shelf Go.RowKit Go.Lib Go.Sort
set_option maxRecDepth 100000 in
theorem nan_any (w : World) (a : Int) : Calls Try.prog 56 #[.int .u64 a] w fun e w' => e = .returned (.bool false) ∧ w' = w := by
  have g : (a != a) = false := by rw [bne_self_eq_false]
  go_enter Try.func56, Try.ntmps56
  go_wp2
  go_ret
  exact ⟨rfl, rfl⟩
set_option maxRecDepth 100000 in
theorem compare_any (w : World) (a b : Int) : Calls Try.prog 33 #[.int .u64 a, .int .u64 b] w fun e w' => e = .returned (.int .i64 (Lib.compareInt a b)) ∧ w' = w := by
  unfold Lib.compareInt
  by_cases h1 : a < b
  · rw [if_pos h1]
    go_enter Try.func33, Try.ntmps33
    go_wp2_with (go_at_call 56; refine (nan_any _ _).mono ?_; rintro e w' ⟨rfl, rfl⟩)
    go_ret
    exact ⟨rfl, rfl⟩
  · rw [if_neg h1]
    by_cases h2 : b < a
    · rw [if_pos h2]
      go_enter Try.func33, Try.ntmps33
      go_wp2_with (go_at_call 56; refine (nan_any _ _).mono ?_; rintro e w' ⟨rfl, rfl⟩)
      go_ret
      exact ⟨rfl, rfl⟩
    · rw [if_neg h2]
      go_enter Try.func33, Try.ntmps33
      go_wp2_with (go_at_call 56; refine (nan_any _ _).mono ?_; rintro e w' ⟨rfl, rfl⟩)
      go_ret
      exact ⟨rfl, rfl⟩
set_option maxRecDepth 100000 in
theorem closure_any (x y : Ro) (W : World) : Calls Try.prog 32 #[.agg x.cells.toArray, .agg y.cells.toArray] W fun e w' => e = .returned (.int .i64 (Lib.compareInt x.id y.id)) ∧ ∃ q os', w' = grow (W.drewN q) os' := by
  have hcon := fun W' => compare_any W' x.id y.id
  generalize Lib.compareInt x.id y.id = r at hcon ⊢
  unfold Ro.cells
  go_enter Try.func32, Try.ntmps32
  go_wp2_with (go_at_call 33; refine (hcon _).mono ?_; rintro e w' ⟨rfl, rfl⟩)
  go_ret
  exact ⟨rfl, 0, _, by rw [alloc_eq_grow, alloc_eq_grow, grow_grow]; rfl⟩
instance : Inhabited Ro := ⟨⟨0, 0, .zero⟩⟩
theorem cmpLays (blk off size : Nat) (w : World) : CmpLays Try.prog 32 #[] Ro.cells 8 (fun x y : Ro => Lib.compareInt x.id y.id) blk off size w :=
  fun _ _ _ _ x y => closure_any x y _
theorem lt_ids (x y : Ro) : ltOf (fun x y : Ro => Lib.compareInt x.id y.id) x y = decide (x.id < y.id) := by
  unfold ltOf Lib.compareInt
  by_cases h1 : x.id < y.id
  · simp [h1]
  · by_cases h2 : y.id < x.id <;> simp [h1, h2]
theorem swo_ids : SWO (ltOf fun x y : Ro => Lib.compareInt x.id y.id) where
  irrefl x := by rw [lt_ids]; simp
  trans x y z h1 h2 := by rw [lt_ids] at *; simp at *; omega
  ntrans x y z h1 h2 := by rw [lt_ids] at *; simp at *; omega
theorem perm_rising : ∀ {a b : List Ro}, a.Perm b → a.Pairwise (fun x y => x.id ≤ y.id) → b.Pairwise (fun x y => x.id < y.id) → a = b
  | [], b, h, _, _ => (List.nil_perm.1 h).symm
  | x :: a, [], h, _, _ => absurd h.length_eq (by simp)
  | x :: a, y :: b, h, ha, hb => by
    rw [List.pairwise_cons] at ha hb
    have hx : x ∈ y :: b := h.mem_iff.1 (List.mem_cons_self ..)
    have hy : y ∈ x :: a := h.mem_iff.2 (List.mem_cons_self ..)
    have e : x = y := by
      rcases List.mem_cons.1 hx with e | hx
      · exact e
      · rcases List.mem_cons.1 hy with e | hy
        · exact e.symm
        · have h1 := hb.1 x hx
          have h2 := ha.1 y hy
          omega
    subst e
    rw [perm_rising ((List.perm_cons x).1 h) ha.2 hb.2]
theorem agg_row (w : World) : (isAgg 87).run Try.prog w = .ok true w := by kernel_rfl
theorem size_row (w : World) : (Go.sizeOf 87).run Try.prog w = .ok 8 w := by kernel_rfl
theorem cells_one (x : Ro) : ∀ v ∈ x.cells, v.oneCell' = true := by
  intro v hv
  simp [Ro.cells] at hv
  rcases hv with rfl | rfl | rfl | rfl | rfl | rfl | rfl | rfl <;> rfl
theorem keep_sorted (w : World) (blk off n : Nat) (d' : Array Ro) (os : Array Obj) : Keep (fun i => i = blk) w (sortWorldK Ro.cells 8 w blk off n d' os) := by
  refine ⟨rfl, rfl, rfl, ?_, fun i hi hne => ?_⟩
  · unfold sortWorldK
    rw [size_grow, size_putRowK]
    exact Nat.le_add_right _ _
  · unfold sortWorldK
    rw [heap_grow_old _ _ (by rw [size_putRowK]; exact hi)]
    unfold putRowK putRow mapBlock
    simp only [Sort.ahead]
    rw [Array.getElem?_modify, if_neg (fun e => hne e.symm)]
set_option maxRecDepth 100000 in
set_option maxHeartbeats 1000000 in
theorem sort_any (w : World) (base g cap : Nat) (l L : List Ro) (h : w.ownsRow base 87 8 (.slice (some ⟨g, 0, none⟩) l.length cap) l.length (l.flatMap Ro.cells)) (hp : l.Perm L) (hL : L.Pairwise (fun x y => x.id < y.id)) (hf : l.length ≤ 16) :
    Calls Try.prog 31 #[.slice (some ⟨g, 0, none⟩) l.length cap, .func (.func 32) #[] #[]] w fun e w' =>
      e = .returned (.tuple #[]) ∧ Many Ro.cells 8 w' (fun i => i = g) (.slice (some ⟨g, 0, none⟩) l.length cap) L ∧ Keep (fun i => i = g) w w' := by
  have eg : ∀ args w, (callFunc 32 args).run Try.prog w = .ok (.enter 32 args) w := enters_of Try.func32 (by kernel_rfl) rfl
  obtain ⟨hxl, hown⟩ := h
  rcases hown with ⟨e, _⟩ | ⟨g', cap', cur, e, hbase, hg, hnc, hcm, hsz, htk⟩
  · cases e
  · obtain ⟨rfl, rfl⟩ : g = g' ∧ cap = cap' := by
      injection e with e1 e2 e3
      injection e1 with e1
      injection e1 with e1
      exact ⟨e1, e3⟩
    have hblk : g < w.heap.size := (Array.getElem?_eq_some_iff.1 hg).1
    have hds : l.toArray.size = l.length := by simp
    have hH : HoldsK Ro.cells 8 w g 0 l.toArray := by
      intro j hj
      rw [size_flatK, hds] at hj
      rw [get_flatK _ _ _ _ (by rw [hds]; exact hj)]
      have hk : j / 8 < l.length := by omega
      have ha := fm_at Ro.cells 8 (fun _ => rfl) (List.getElem?_eq_getElem hk) (j % 8) (Nat.mod_lt _ (by decide))
      rw [show j / 8 * 8 + j % 8 = j from by omega, ← htk, List.getElem?_take_of_lt (by omega), Array.getElem?_toList] at ha
      refine ⟨?_, (show Box w g 87 cur from hg).free _⟩
      rw [cell_of_row w g (0 + j) cur _ _ hg, Nat.zero_add, ha]
      have e1 : l.toArray[j / 8]! = l[j / 8] := by simp [hk]
      rw [e1]
      have hlt : j % 8 < (Ro.cells l[j / 8]).length := Nat.mod_lt _ (by decide)
      rw [List.getElem?_eq_getElem hlt, getElem!_pos (Ro.cells l[j / 8]) (j % 8) hlt]
      rfl
    have hcon := AnyQ.slices_SortFunc Try.sortRows 8 agg_row size_row Ro.cells (fun _ => rfl) cells_one (fun x y => Lib.compareInt x.id y.id) swo_ids 32 #[] g 0 cap l.toArray w eg (cmpLays g 0 l.toArray.size w) hH hblk (by rw [hds]; omega)
    rw [hds] at hcon
    refine Calls.mono hcon ?_
    rintro e w' ⟨rfl, d', n, os, hperm, hsorted, rfl⟩
    have hd' : d'.size = l.length := by rw [hperm.1, hds]
    have hH' : HoldsK Ro.cells 8 (sortWorldK Ro.cells 8 w g 0 n d' os) g 0 d' := SWK.holds ⟨n, os, rfl⟩ hblk hH hperm.1
    have hpl : d'.toList.Perm l := by
      have h3 := hperm.2.2
      have x1 : (d'.extract 0 l.length).toList = d'.toList := by rw [← hd']; simp
      have x2 : (l.toArray.extract 0 l.length).toList = l := by simp
      rw [x1, x2] at h3
      exact h3
    have hle : d'.toList.Pairwise (fun x y => x.id ≤ y.id) := by
      rw [List.pairwise_iff_getElem]
      intro i j hi hj hij
      simp only [Array.length_toList] at hi hj
      have := hsorted i j (Nat.zero_le _) hij (by omega)
      rw [lt_ids, getElem!_pos d' i (by omega), getElem!_pos d' j (by omega)] at this
      simp only [decide_eq_false_iff_not] at this
      simp only [Array.getElem_toList]
      omega
    have hdL : d'.toList = L := perm_rising (hpl.trans hp) hle hL
    have hlL : L.length = l.length := by rw [← hdL, Array.length_toList, hd']
    refine ⟨rfl, ⟨some ⟨g, 0, none⟩, cap, by rw [hlL], by omega, hcm, fun e => (by cases e), fm_length Ro.cells 8 (fun _ => rfl) L, fun h0 => ⟨⟨g, 0, none⟩, rfl, rfl, ?_, rfl, fun j x hj => ?_⟩⟩, keep_sorted ..⟩
    · exact Nat.lt_of_lt_of_le hblk (keep_sorted w g 0 n d' os).size
    · have hjl := (List.getElem?_eq_some_iff.1 hj).1
      rw [fm_length Ro.cells 8 (fun _ => rfl)] at hjl
      have hk : j / 8 < d'.size := by omega
      have hc := (HoldsK.cell hH' hk (Nat.mod_lt j (by decide : 0 < 8))).1
      have hLk : L[j / 8]? = some d'[j / 8] := by rw [← hdL, Array.getElem?_toList, Array.getElem?_eq_getElem hk]
      have ha := fm_at Ro.cells 8 (fun _ => rfl) hLk (j % 8) (Nat.mod_lt _ (by decide))
      rw [show j / 8 * 8 + j % 8 = j from by omega, hj] at ha
      rw [show 0 + j / 8 * 8 + j % 8 = 0 + j from by omega] at hc
      rw [hc, getElem!_pos d' _ hk, ha]
      have hlt : j % 8 < (Ro.cells d'[j / 8]).length := Nat.mod_lt _ (by decide)
      rw [List.getElem?_eq_getElem hlt, getElem!_pos (Ro.cells d'[j / 8]) (j % 8) hlt]
end Go.Proofs.Ytkoikmdmejhhhaa
