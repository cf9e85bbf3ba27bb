/-
  Numbers and a state that came in, opened.
-/
import Derived.Test.YtcanmgoelbgdfaaLsCalls
import Derived.Test.YtcanmgoelbgdfaaOpn
namespace Go.Proofs.Ytcanmgoelbgdfaa
open Go.RowKit Go.ChangeShapes Go.WideShapes Go.Deep

/-- A slice of numbers. -/
def Nums (w : World) (D : Nat → Prop) (v : Value) (ns : List Int) : Prop := Row w D v ns.length 1 (ns.map (fun n => Value.int .u64 n)) ∧ ∀ n ∈ ns, 0 ≤ n ∧ n ≤ top
theorem Nums.keep {w w' : World} {S D : Nat → Prop} {v : Value} {ns : List Int} (h : Nums w D v ns) (k : Keep S w w') (hs : ∀ i, i < w.heap.size → D i → ¬ S i) : Nums w' D v ns := ⟨Row.keep h.1 k hs, h.2⟩
theorem Nums.shape {w : World} {D : Nat → Prop} {v : Value} {ns : List Int} (h : Nums w D v ns) : ∃ A c, v = .slice A ns.length c := by
  obtain ⟨⟨A, c, hv, _⟩, _⟩ := h
  exact ⟨A, c, hv⟩
theorem Nums.few {w : World} {D : Nat → Prop} {A : Option Addr} {c : Nat} {ns : List Int} (h : Nums w D (.slice A ns.length c) ns) : ns.length ≤ maxLen := by
  obtain ⟨⟨A', c', hv', h1, h2, _⟩, _⟩ := h
  exact Nat.le_trans h1 h2
theorem Nums.cell {w : World} {D : Nat → Prop} {A : Option Addr} {c : Nat} {ns : List Int} (h : Nums w D (.slice A ns.length c) ns) {k : Nat} {n : Int} (hk : ns[k]? = some n) :
    ∃ b o, A = some ⟨b, o, none⟩ ∧ b < w.heap.size ∧ D b ∧ w.cell? ⟨b, o + k, none⟩ = some (.int .u64 n) := by
  obtain ⟨⟨A', c', hv', _, _, _, _, hrow⟩, _⟩ := h
  obtain ⟨rfl, rfl⟩ : A = A' ∧ c = c' := by simpa using hv'
  have hlt := (List.getElem?_eq_some_iff.1 hk).1
  obtain ⟨ad, rfl, hsp, hblk, hD, hcell⟩ := hrow (by omega)
  obtain ⟨b, o, sp⟩ := ad
  simp only at hsp hblk hD hcell
  subst hsp
  exact ⟨b, o, rfl, hblk, hD, hcell k _ (by rw [List.getElem?_map, hk]; rfl)⟩

theorem u64_in {n : Int} (h : (Lit.int .u64 n).wf = true) : 0 ≤ n ∧ n ≤ top := by
  simpa [Lit.wf, IntKind.min, IntKind.max, IntKind.signed, IntKind.bits, top] using h

section
variable {H : Type} {enc : TypeId × Value → H} {w : World}
theorem open_nums {base : Nat} {held : Bool} {fuel : Nat} {v : Value} {x : DataW H × List MemPlace} (h : DataW.trod enc Try.prog w base (fun _ => true) held fuel 39 [v] = some x) (hw : Light 39 x.1) : ∃ ks, Nums w (fun _ => True) v ks := by
  rcases open_elems Try.underlying39 h hw with rfl | ⟨a, len, cap, rfl, hl, hm, hby, hi⟩
  · exact ⟨[], ⟨⟨none, 0, rfl, Nat.le_refl _, Nat.zero_le _, fun _ => rfl, rfl, fun h => absurd h (by simp)⟩, fun s hs => by cases hs⟩⟩
  · have hc1 : Try.prog.cellsOf 22 = 1 := by kernel_rfl
    have key : ∀ i, i < len → ∃ k : Int, w.cell? (a.add i) = some (.int .u64 k) ∧ 0 ≤ k ∧ k ≤ top := by
      intro i hil
      obtain ⟨cs, n, y, hlen, hat, htr, _⟩ := hi i hil
      obtain ⟨m, rfl, _, hwf⟩ := DataW.trod_int Try.underlying22 htr
      have := hat 0 (by simp)
      rw [hc1, Nat.mul_one] at this
      exact ⟨m, this, u64_in hwf⟩
    obtain ⟨ks, hbl, hb⟩ := list_of len (fun i (k : Int) => w.cell? (a.add i) = some (.int .u64 k) ∧ 0 ≤ k ∧ k ≤ top) key
    refine ⟨ks, ⟨⟨some a, cap, by rw [hbl], by omega, hm, fun e => (by cases e), by simp, fun h0 => ?_⟩, fun s hs => ?_⟩⟩
    · have h00 := (hb 0 ks[0] (List.getElem?_eq_getElem h0)).1
      have hz : a.add 0 = a := rfl
      rw [hz] at h00
      have hsp := spot_of_cell h00
      refine ⟨a, rfl, hsp, block_of_cell h00, trivial, fun j x hj => ?_⟩
      rw [List.getElem?_map] at hj
      cases hsj : ks[j]? with
      | none => rw [hsj] at hj; cases hj
      | some s =>
        rw [hsj] at hj
        have := (hb j s hsj).1
        rw [add_at a hsp] at this
        rw [this]
        simpa using hj
    · obtain ⟨j, hj⟩ := List.getElem?_of_mem hs
      exact (hb j s hj).2
theorem open_arg_nums {base : Nat} {v : Value} {d : DataW H} {p : List MemPlace} (hv : Value.okWide Try.prog w .any base 39 v) (h : DataW.Trod enc Try.prog w 0 (fun _ => true) true 39 v d p) (hw : Light 39 d) :
    ∃ (A : Option Addr) (c : Nat) (ks : List Int), v = .slice A ks.length c ∧ Nums w (fun _ => True) (.slice A ks.length c) ks := by
  obtain ⟨a, len, cap, rfl⟩ := okWide_slice Try.underlying39 hv
  obtain ⟨fuel, hf⟩ := h
  obtain ⟨ks, hks⟩ := open_nums hf hw
  obtain ⟨A, c, hvv⟩ := hks.shape
  rw [hvv] at hks
  exact ⟨A, c, ks, hvv, hks⟩
/-- A state that came in. -/
theorem open_arg_state {base : Nat} {v : Value} {d : DataW H} {p : List MemPlace} (hv : Value.okWide Try.prog w .any base 27 v) (h : DataW.Trod enc Try.prog w 0 (fun _ => true) true 27 v d p) :
    ∃ x : Pst, v = x.agg := by
  obtain ⟨cs, rfl, hsz⟩ := okWide_struct Try.underlying27 hv
  have hC : Try.prog.cellsOf 27 = 3 := by kernel_rfl
  have o1 : Try.prog.cellsOf 3 = 1 := by kernel_rfl
  have o2 : Try.prog.cellsOf 22 = 1 := by kernel_rfl
  obtain ⟨l⟩ := cs
  obtain ⟨fuel, hf⟩ := h
  obtain ⟨xs, n, _, hy, _, hxl, hg⟩ := DataW.trod_struct Try.underlying27 hf
  match l, hsz.trans hC with
  | [c0, c1, c2], _ =>
    have g0 := hg 0 _ rfl
    have g1 := hg 1 _ rfl
    have g2 := hg 2 _ rfl
    match xs, hxl with
    | [x0, x1, x2], _ =>
      simp [o1, o2, Value.cells] at g0 g1 g2
      obtain ⟨s0, e0, _, _⟩ := DataW.trod_int Try.underlying3 g0
      obtain ⟨s1, e1, _, _⟩ := DataW.trod_int Try.underlying22 g1
      obtain ⟨s2, e2, _, _⟩ := DataW.trod_int Try.underlying22 g2
      simp at e0 e1 e2
      subst e0 e1 e2
      exact ⟨⟨s0, s1, s2⟩, rfl⟩
end
end Go.Proofs.Ytcanmgoelbgdfaa
