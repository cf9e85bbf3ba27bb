/-
  Numbers, calls and rows of sessions that came in, opened.
-/
import Derived.Test.YtimnehgonlohcaaSsKeep
import Derived.Test.YtimnehgonlohcaaOpn
namespace Go.Proofs.Ytimnehgonlohcaa
open Go.RowKit Go.ChangeShapes Go.WideShapes Go.Deep

section
variable {α : Type} (enc : α → List Value) (k : Nat)
theorem fm_length (hk : ∀ x, (enc x).length = k) (l : List α) : (l.flatMap enc).length = l.length * k := by
  induction l with
  | nil => simp
  | cons a l ih => rw [List.flatMap_cons, List.length_append, ih, hk, List.length_cons, Nat.succ_mul, Nat.add_comm]
theorem fm_at (hk : ∀ x, (enc x).length = k) {l : List α} {i : Nat} {x : α} (h : l[i]? = some x) (j : Nat) (hj : j < k) : (l.flatMap enc)[i * k + j]? = (enc x)[j]? := by
  induction l generalizing i with
  | nil => simp at h
  | cons a l ih =>
    cases i with
    | zero =>
      simp at h
      subst h
      rw [List.flatMap_cons, List.getElem?_append_left (by rw [hk]; omega)]
      simp
    | succ i =>
      simp at h
      rw [List.flatMap_cons, List.getElem?_append_right (by rw [hk, Nat.succ_mul]; omega), ← ih h]
      congr 1
      rw [hk, Nat.succ_mul]
      omega
end
/-- A slice of what takes k cells each. -/
def Many {α : Type} (enc : α → List Value) (k : Nat) (w : World) (D : Nat → Prop) (v : Value) (l : List α) : Prop := Row w D v l.length k (l.flatMap enc)
theorem Many.keep {α : Type} {enc : α → List Value} {k : Nat} {w w' : World} {S D : Nat → Prop} {v : Value} {l : List α} (h : Many enc k w D v l) (kk : Keep S w w') (hs : ∀ i, i < w.heap.size → D i → ¬ S i) : Many enc k w' D v l := Row.keep h kk hs
theorem Many.mono {α : Type} {enc : α → List Value} {k : Nat} {w : World} {D D' : Nat → Prop} {v : Value} {l : List α} (h : Many enc k w D v l) (hD : ∀ i, i < w.heap.size → D i → D' i) : Many enc k w D' v l := Row.mono h hD
theorem Many.nil {α : Type} (enc : α → List Value) (k : Nat) (w : World) (D : Nat → Prop) : Many enc k w D (.slice none 0 0) [] := ⟨none, 0, rfl, Nat.le_refl _, Nat.zero_le _, fun _ => rfl, by simp, fun h => absurd h (by simp)⟩
theorem Many.shape {α : Type} {enc : α → List Value} {k : Nat} {w : World} {D : Nat → Prop} {v : Value} {l : List α} (h : Many enc k w D v l) : ∃ A c, v = .slice A l.length c := by
  obtain ⟨A, c, hv, _⟩ := h
  exact ⟨A, c, hv⟩
theorem Many.few {α : Type} {enc : α → List Value} {k : Nat} {w : World} {D : Nat → Prop} {v : Value} {l : List α} (h : Many enc k w D v l) : l.length ≤ maxLen := by
  obtain ⟨A, c, hv, h1, h2, _⟩ := h
  exact Nat.le_trans h1 h2
theorem Many.cell {α : Type} {enc : α → List Value} {k : Nat} {w : World} {D : Nat → Prop} {A : Option Addr} {c : Nat} {l : List α} (h : Many enc k w D (.slice A l.length c) l) (hk : ∀ x, (enc x).length = k) {i : Nat} {x : α} (hx : l[i]? = some x) :
    ∃ b o, A = some ⟨b, o, none⟩ ∧ b < w.heap.size ∧ D b ∧ ∀ j, j < k → w.cell? ⟨b, o + (i * k + j), none⟩ = (enc x)[j]? := by
  obtain ⟨A', c', hv', _, _, _, hlen, hrow⟩ := h
  obtain ⟨rfl, rfl⟩ : A = A' ∧ c = c' := by simpa using hv'
  have hlt := (List.getElem?_eq_some_iff.1 hx).1
  obtain ⟨ad, rfl, hsp, hblk, hD, hcell⟩ := hrow (by omega)
  obtain ⟨b, o, sp⟩ := ad
  simp only at hsp hblk hD hcell
  subst hsp
  refine ⟨b, o, rfl, hblk, hD, fun j hj => ?_⟩
  have hj' := hj
  rw [← hk x] at hj'
  have e := fm_at enc k hk hx j hj
  rw [List.getElem?_eq_getElem hj'] at e ⊢
  exact hcell _ _ e

/-- Numbers. -/
def numC (n : Int) : List Value := [.int .u64 n]
def Nums (w : World) (D : Nat → Prop) (v : Value) (ns : List Int) : Prop := Many numC 1 w D v ns ∧ ∀ n ∈ ns, 0 ≤ n ∧ n ≤ top
/-- A call. -/
structure Cl where
  kind : Int
  id : Int
  seq : Int
  ans : An
def An.cells (a : An) : List Value := [.int .i64 a.code, .int .u64 a.id, .int .u64 a.tok, .int .u64 a.unt, .string a.tgt, .string a.cmd]
def Cl.cells (c : Cl) : List Value := [.int .i64 c.kind, .int .u64 c.id, .int .u64 c.seq, .int .i64 c.ans.code, .int .u64 c.ans.id, .int .u64 c.ans.tok, .int .u64 c.ans.unt, .string c.ans.tgt, .string c.ans.cmd]
def Ro.cells (r : Ro) : List Value := [.int .u64 r.id, .int .u64 r.seq, .int .i64 r.ans.code, .int .u64 r.ans.id, .int .u64 r.ans.tok, .int .u64 r.ans.unt, .string r.ans.tgt, .string r.ans.cmd]
def Cls (w : World) (D : Nat → Prop) (v : Value) (cs : List Cl) : Prop := Many Cl.cells 9 w D v cs ∧ ∀ c ∈ cs, (0 ≤ c.id ∧ c.id ≤ top) ∧ 0 ≤ c.seq ∧ c.seq ≤ top
def Ros (w : World) (D : Nat → Prop) (v : Value) (l : List Ro) : Prop := Many Ro.cells 8 w D v l ∧ ∀ r ∈ l, (0 ≤ r.id ∧ r.id ≤ top) ∧ 0 ≤ r.seq ∧ r.seq ≤ top

theorem u64_in {n : Int} (h : (Lit.int .u64 n).wf = true) : 0 ≤ n ∧ n ≤ top := by
  simpa [Lit.wf, IntKind.min, IntKind.max, IntKind.signed, IntKind.bits, top] using h

section
variable {H : Type} {enc : TypeId × Value → H} {w : World}
/-- A slice of whatever is opened one by one. -/
theorem open_many {α : Type} (ec : α → List Value) (k : Nat) (hk : ∀ x, (ec x).length = k) (hk0 : 0 < k) (P : α → Prop) {t e : TypeId} (ht : Try.prog.underlying t = some (.slice e)) (hce : Try.prog.cellsOf e = k) {base : Nat} {held : Bool} {fuel : Nat} {v : Value} {x : DataW H × List MemPlace}
    (h : DataW.trod enc Try.prog w base (fun _ => true) held fuel t [v] = some x) (hw : Light t x.1)
    (hone : ∀ (cs : List Value) (n : Nat) (y : DataW H × List MemPlace), cs.length = k → DataW.trod enc Try.prog w base (fun _ => true) held n e cs = some y → ∃ a, cs = ec a ∧ P a) :
    ∃ l, Many ec k w (fun _ => True) v l ∧ ∀ a ∈ l, P a := by
  rcases open_elems ht h hw with rfl | ⟨a, len, cap, rfl, hl, hm, hby, hi⟩
  · exact ⟨[], Many.nil ec k w _, fun s hs => by cases hs⟩
  · have key : ∀ i, i < len → ∃ y : α, (∀ j, j < k → w.cell? ((a.add (i * k)).add j) = (ec y)[j]?) ∧ P y := by
      intro i hil
      obtain ⟨cs, n, y, hlen, hat, htr, _⟩ := hi i hil
      rw [hce] at hlen hat
      obtain ⟨z, rfl, hz⟩ := hone cs n y hlen htr
      exact ⟨z, fun j hj => hat j (by rw [hk]; exact hj), hz⟩
    obtain ⟨l, hbl, hb⟩ := list_of len (fun i (y : α) => (∀ j, j < k → w.cell? ((a.add (i * k)).add j) = (ec y)[j]?) ∧ P y) key
    refine ⟨l, ⟨some a, cap, by rw [hbl], by omega, hm, fun e => (by cases e), fm_length ec k hk l, fun h0 => ?_⟩, fun s hs => ?_⟩
    · have h00 := (hb 0 l[0] (List.getElem?_eq_getElem h0)).1 0 hk0
      have hz : (a.add (0 * k)).add 0 = a := by rw [Nat.zero_mul]; rfl
      rw [hz, List.getElem?_eq_getElem (by rw [hk]; exact hk0)] at h00
      have hsp := spot_of_cell h00
      refine ⟨a, rfl, hsp, block_of_cell h00, trivial, fun j y hj => ?_⟩
      have hjl := (List.getElem?_eq_some_iff.1 hj).1
      rw [fm_length ec k hk] at hjl
      have hdiv : j / k < l.length := (Nat.div_lt_iff_lt_mul hk0).2 hjl
      have hkk := List.getElem?_eq_getElem hdiv
      have e1 := (hb (j / k) _ hkk).1 (j % k) (Nat.mod_lt _ hk0)
      have e2 := fm_at ec k hk hkk (j % k) (Nat.mod_lt _ hk0)
      have hjk : j / k * k + j % k = j := Nat.div_add_mod' j k
      rw [add_add_at a _ _ hsp, hjk] at e1
      rw [hjk] at e2
      rw [e1, ← e2, hj]
    · obtain ⟨j, hj⟩ := List.getElem?_of_mem hs
      exact (hb j s hj).2
set_option maxRecDepth 100000 in
/-- An answer's cells, opened. -/
theorem open_an {base : Nat} {held : Bool} {n : Nat} {c0 c1 c2 c3 c4 c5 : Value} {y : DataW H × List MemPlace} (h : DataW.trod enc Try.prog w base (fun _ => true) held n 32 [c0, c1, c2, c3, c4, c5] = some y) :
    ∃ a : An, c0 = .int .i64 a.code ∧ c1 = .int .u64 a.id ∧ c2 = .int .u64 a.tok ∧ c3 = .int .u64 a.unt ∧ c4 = .string a.tgt ∧ c5 = .string a.cmd := by
  have o1 : Try.prog.cellsOf 30 = 1 := by kernel_rfl
  have o2 : Try.prog.cellsOf 29 = 1 := by kernel_rfl
  have o3 : Try.prog.cellsOf 9 = 1 := by kernel_rfl
  obtain ⟨xs, m, _, hy, _, hxl, hf⟩ := DataW.trod_struct Try.underlying32 h
  have g0 := hf 0 _ rfl
  have g1 := hf 1 _ rfl
  have g2 := hf 2 _ rfl
  have g3 := hf 3 _ rfl
  have g4 := hf 4 _ rfl
  have g5 := hf 5 _ rfl
  match xs, hxl with
  | [x0, x1, x2, x3, x4, x5], _ =>
    simp [o1, o2, o3] at g0 g1 g2 g3 g4 g5
    obtain ⟨s0, e0, _, _⟩ := DataW.trod_int Try.underlying30 g0
    obtain ⟨s1, e1, _, _⟩ := DataW.trod_int Try.underlying29 g1
    obtain ⟨s2, e2, _, _⟩ := DataW.trod_int Try.underlying29 g2
    obtain ⟨s3, e3, _, _⟩ := DataW.trod_int Try.underlying29 g3
    obtain ⟨s4, e4, _, _⟩ := DataW.trod_string Try.underlying9 g4
    obtain ⟨s5, e5, _, _⟩ := DataW.trod_string Try.underlying9 g5
    simp at e0 e1 e2 e3 e4 e5
    exact ⟨⟨s0, s1, s2, s3, s4, s5⟩, e0, e1, e2, e3, e4, e5⟩
set_option maxRecDepth 100000 in
theorem open_cl {base : Nat} {held : Bool} {n : Nat} {cs : List Value} {y : DataW H × List MemPlace} (hl : cs.length = 9) (h : DataW.trod enc Try.prog w base (fun _ => true) held n 34 cs = some y) :
    ∃ a : Cl, cs = a.cells ∧ (0 ≤ a.id ∧ a.id ≤ top) ∧ 0 ≤ a.seq ∧ a.seq ≤ top := by
  have o1 : Try.prog.cellsOf 3 = 1 := by kernel_rfl
  have o2 : Try.prog.cellsOf 29 = 1 := by kernel_rfl
  have o3 : Try.prog.cellsOf 32 = 6 := by kernel_rfl
  obtain ⟨xs, m, _, hy, _, hxl, hf⟩ := DataW.trod_struct Try.underlying34 h
  match cs, hl with
  | [c0, c1, c2, c3, c4, c5, c6, c7, c8], _ =>
    have g0 := hf 0 _ rfl
    have g1 := hf 1 _ rfl
    have g2 := hf 2 _ rfl
    have g3 := hf 3 _ rfl
    match xs, hxl with
    | [x0, x1, x2, x3], _ =>
      simp [o1, o2, o3] at g0 g1 g2 g3
      obtain ⟨s0, e0, _, _⟩ := DataW.trod_int Try.underlying3 g0
      obtain ⟨s1, e1, _, w1⟩ := DataW.trod_int Try.underlying29 g1
      obtain ⟨s2, e2, _, w2⟩ := DataW.trod_int Try.underlying29 g2
      obtain ⟨a, f0, f1, f2, f3, f4, f5⟩ := open_an g3
      simp at e0 e1 e2
      subst e0 e1 e2 f0 f1 f2 f3 f4 f5
      exact ⟨⟨s0, s1, s2, a⟩, rfl, u64_in w1, u64_in w2⟩
set_option maxRecDepth 100000 in
theorem open_ro {base : Nat} {held : Bool} {n : Nat} {cs : List Value} {y : DataW H × List MemPlace} (hl : cs.length = 8) (h : DataW.trod enc Try.prog w base (fun _ => true) held n 58 cs = some y) :
    ∃ a : Ro, cs = a.cells ∧ (0 ≤ a.id ∧ a.id ≤ top) ∧ 0 ≤ a.seq ∧ a.seq ≤ top := by
  have o2 : Try.prog.cellsOf 29 = 1 := by kernel_rfl
  have o3 : Try.prog.cellsOf 32 = 6 := by kernel_rfl
  obtain ⟨xs, m, _, hy, _, hxl, hf⟩ := DataW.trod_struct Try.underlying58 h
  match cs, hl with
  | [c0, c1, c2, c3, c4, c5, c6, c7], _ =>
    have g0 := hf 0 _ rfl
    have g1 := hf 1 _ rfl
    have g2 := hf 2 _ rfl
    match xs, hxl with
    | [x0, x1, x2], _ =>
      simp [o2, o3] at g0 g1 g2
      obtain ⟨s0, e0, _, w0⟩ := DataW.trod_int Try.underlying29 g0
      obtain ⟨s1, e1, _, w1⟩ := DataW.trod_int Try.underlying29 g1
      obtain ⟨a, f0, f1, f2, f3, f4, f5⟩ := open_an g2
      simp at e0 e1
      subst e0 e1 f0 f1 f2 f3 f4 f5
      exact ⟨⟨s0, s1, a⟩, rfl, u64_in w0, u64_in w1⟩
theorem open_nu {base : Nat} {held : Bool} {n : Nat} {cs : List Value} {y : DataW H × List MemPlace} (_ : cs.length = 1) (h : DataW.trod enc Try.prog w base (fun _ => true) held n 29 cs = some y) :
    ∃ a : Int, cs = numC a ∧ 0 ≤ a ∧ a ≤ top := by
  obtain ⟨s0, e0, _, w0⟩ := DataW.trod_int Try.underlying29 h
  exact ⟨s0, e0, u64_in w0⟩
theorem open_arg_nums {base : Nat} {v : Value} {d : DataW H} {p : List MemPlace} (hv : Value.okWide Try.prog w .any base 48 v) (h : DataW.Trod enc Try.prog w 0 (fun _ => true) true 48 v d p) (hw : Light 48 d) :
    ∃ (A : Option Addr) (c : Nat) (ks : List Int), v = .slice A ks.length c ∧ Nums w (fun _ => True) (.slice A ks.length c) ks := by
  obtain ⟨a, len, cap, rfl⟩ := okWide_slice Try.underlying48 hv
  obtain ⟨fuel, hf⟩ := h
  obtain ⟨ks, hks, hp⟩ := open_many numC 1 (fun _ => rfl) (by decide) _ Try.underlying48 (by kernel_rfl) hf hw (fun cs n y hl ht => open_nu hl ht)
  obtain ⟨A, c, hvv⟩ := hks.shape
  rw [hvv] at hks
  exact ⟨A, c, ks, hvv, hks, hp⟩
theorem open_arg_cls {base : Nat} {v : Value} {d : DataW H} {p : List MemPlace} (hv : Value.okWide Try.prog w .any base 22 v) (h : DataW.Trod enc Try.prog w 0 (fun _ => true) true 22 v d p) (hw : Light 22 d) :
    ∃ (A : Option Addr) (c : Nat) (ks : List Cl), v = .slice A ks.length c ∧ Cls w (fun _ => True) (.slice A ks.length c) ks := by
  obtain ⟨a, len, cap, rfl⟩ := okWide_slice Try.underlying22 hv
  obtain ⟨fuel, hf⟩ := h
  obtain ⟨ks, hks, hp⟩ := open_many Cl.cells 9 (fun _ => rfl) (by decide) _ Try.underlying22 (by kernel_rfl) hf hw (fun cs n y hl ht => open_cl hl ht)
  obtain ⟨A, c, hvv⟩ := hks.shape
  rw [hvv] at hks
  exact ⟨A, c, ks, hvv, hks, hp⟩
theorem open_arg_ros {base : Nat} {v : Value} {d : DataW H} {p : List MemPlace} (hv : Value.okWide Try.prog w .any base 25 v) (h : DataW.Trod enc Try.prog w 0 (fun _ => true) true 25 v d p) (hw : Light 25 d) :
    ∃ (A : Option Addr) (c : Nat) (ks : List Ro), v = .slice A ks.length c ∧ Ros w (fun _ => True) (.slice A ks.length c) ks := by
  obtain ⟨a, len, cap, rfl⟩ := okWide_slice Try.underlying25 hv
  obtain ⟨fuel, hf⟩ := h
  obtain ⟨ks, hks, hp⟩ := open_many Ro.cells 8 (fun _ => rfl) (by decide) _ Try.underlying25 (by kernel_rfl) hf hw (fun cs n y hl ht => open_ro hl ht)
  obtain ⟨A, c, hvv⟩ := hks.shape
  rw [hvv] at hks
  exact ⟨A, c, ks, hvv, hks, hp⟩
end
end Go.Proofs.Ytimnehgonlohcaa
