/-
  States and bools that came in, opened.
-/
import Derived.Test.YtjfneckflddeeaaRyCopied
namespace Go.Proofs.Ytjfneckflddeeaa
open Go.RowKit Go.ChangeShapes Go.WideShapes Go.Deep

section
variable {H : Type} {enc : TypeId × Value → H} {w : World}

theorem open_bools {base : Nat} {held : Bool} {fuel : Nat} {v : Value} {x : DataW H × List MemPlace} (h : DataW.trod enc Try.prog w base (fun _ => true) held fuel 26 [v] = some x) (hw : Light 26 x.1) : ∃ bs, Bls w (fun _ => True) v bs := by
  rcases open_elems Try.underlying26 h hw with rfl | ⟨a, len, cap, rfl, hl, hm, _, hi⟩
  · exact ⟨[], Bls.nil _ _⟩
  · have hc1 : Try.prog.cellsOf 4 = 1 := by kernel_rfl
    have key : ∀ i, i < len → ∃ b : Bool, w.cell? (a.add i) = some (.bool b) := by
      intro i hil
      obtain ⟨cs, n, y, hlen, hat, htr, _⟩ := hi i hil
      obtain ⟨b, rfl, _⟩ := DataW.trod_bool Try.underlying4 htr
      have := hat 0 (by simp)
      rw [hc1, Nat.mul_one] at this
      exact ⟨b, this⟩
    obtain ⟨bs, hbl, hb⟩ := list_of len (fun i b => w.cell? (a.add i) = some (.bool b)) key
    refine ⟨bs, ⟨some a, cap, by rw [hbl], by omega, hm, fun e => (by cases e), by simp, fun h0 => ?_⟩⟩
    have h00 := hb 0 bs[0] (List.getElem?_eq_getElem h0)
    have hz : a.add 0 = a := rfl
    rw [hz] at h00
    have hsp := spot_of_cell h00
    refine ⟨a, rfl, hsp, block_of_cell h00, trivial, fun j x hj => ?_⟩
    rw [List.getElem?_map] at hj
    cases hsj : bs[j]? with
    | none => rw [hsj] at hj; cases hj
    | some s =>
      rw [hsj] at hj
      have := hb j s hsj
      rw [add_at a hsp] at this
      rw [this]
      simpa using hj

set_option maxRecDepth 100000 in
theorem open_sts {base : Nat} {held : Bool} {fuel : Nat} {v : Value} {x : DataW H × List MemPlace} (h : DataW.trod enc Try.prog w base (fun _ => true) held fuel 25 [v] = some x) (hw : Light 25 x.1) : ∃ l, Sts w (fun _ => True) v l ∧ l.length * 24 ≤ reachBytes := by
  rcases open_elems Try.underlying25 h hw with rfl | ⟨a, len, cap, rfl, hl, hm, hby, hi⟩
  · exact ⟨[], Sts.nil _ _, by simp⟩
  · have hc3 : Try.prog.cellsOf 32 = 3 := by kernel_rfl
    have o1 : Try.prog.cellsOf 3 = 1 := by kernel_rfl
    have o2 : Try.prog.cellsOf 30 = 1 := by kernel_rfl
    have key : ∀ i, i < len → ∃ t : Pst, (∀ j, j < 3 → w.cell? ((a.add (i * 3)).add j) = t.cells[j]?) := by
      intro i hil
      obtain ⟨cs, n, y, hlen, hat, htr, hlight⟩ := hi i hil
      rw [hc3] at hlen hat
      obtain ⟨xs, m, _, hy, _, hxl, hf⟩ := DataW.trod_struct Try.underlying32 htr
      match cs, hlen with
      | [c0, c1, c2], _ =>
        have g0 := hf 0 _ rfl
        have g1 := hf 1 _ rfl
        have g2 := hf 2 _ rfl
        match xs, hxl with
        | [x0, x1, x2], _ =>
          simp [o1, o2] at g0 g1 g2
          obtain ⟨s0, e0, _, _⟩ := DataW.trod_int Try.underlying3 g0
          obtain ⟨s1, e1, _, _⟩ := DataW.trod_int Try.underlying30 g1
          obtain ⟨s2, e2, _, _⟩ := DataW.trod_int Try.underlying30 g2
          simp at e0 e1 e2
          subst e0 e1 e2
          exact ⟨⟨s0, s1, s2⟩, fun j hj => hat j (by simpa using hj)⟩
    obtain ⟨ts, hbl, hb⟩ := list_of len (fun i (t : Pst) => (∀ j, j < 3 → w.cell? ((a.add (i * 3)).add j) = t.cells[j]?)) key
    have hB : Try.prog.bytesOf 32 = 24 := by kernel_rfl
    refine ⟨ts, ⟨some a, cap, by rw [hbl], by omega, hm, fun e => (by cases e), ?_, fun h0 => ?_⟩, by rw [hbl, ← hB]; exact hby⟩
    · rw [scells_length]
    · have h00 := hb 0 ts[0] (List.getElem?_eq_getElem h0) 0 (by decide)
      have hz : (a.add (0 * 3)).add 0 = a := rfl
      rw [hz] at h00
      have h01 : w.cell? a = some (.int .i64 ts[0].s) := h00
      have hsp := spot_of_cell h01
      refine ⟨a, rfl, hsp, block_of_cell h01, trivial, fun j x hj => ?_⟩
      have hjl := (List.getElem?_eq_some_iff.1 hj).1
      rw [scells_length] at hjl
      have hdiv : j / 3 < ts.length := by omega
      have hk := List.getElem?_eq_getElem hdiv
      have e1 := hb (j / 3) _ hk (j % 3) (Nat.mod_lt _ (by decide))
      rw [add_add_at a _ _ hsp, show j / 3 * 3 + j % 3 = j from by omega] at e1
      have e2 := scells_at hk (j % 3) (Nat.mod_lt _ (by decide))
      rw [show j / 3 * 3 + j % 3 = j from by omega] at e2
      rw [e1, ← e2, hj]

/-- A slice of states that came in. -/
theorem open_arg_sts {base : Nat} {v : Value} {d : DataW H} {p : List MemPlace} (hv : Value.okWide Try.prog w .any base 25 v) (h : DataW.Trod enc Try.prog w 0 (fun _ => true) true 25 v d p) (hw : Light 25 d) :
    ∃ (A : Option Addr) (c : Nat) (l : List Pst), v = .slice A l.length c ∧ Sts w (fun _ => True) (.slice A l.length c) l ∧ l.length * 24 ≤ reachBytes := by
  obtain ⟨a, len, cap, rfl⟩ := okWide_slice Try.underlying25 hv
  obtain ⟨fuel, hf⟩ := h
  obtain ⟨ks, hks, hl⟩ := open_sts hf hw
  obtain ⟨A, c, hvv⟩ := hks.shape
  rw [hvv] at hks
  exact ⟨A, c, ks, hvv, hks, hl⟩
/-- A slice of bools that came in. -/
theorem open_arg_bools {base : Nat} {v : Value} {d : DataW H} {p : List MemPlace} (hv : Value.okWide Try.prog w .any base 26 v) (h : DataW.Trod enc Try.prog w 0 (fun _ => true) true 26 v d p) (hw : Light 26 d) :
    ∃ (A : Option Addr) (c : Nat) (l : List Bool), v = .slice A l.length c ∧ Bls w (fun _ => True) (.slice A l.length c) l := by
  obtain ⟨a, len, cap, rfl⟩ := okWide_slice Try.underlying26 hv
  obtain ⟨fuel, hf⟩ := h
  obtain ⟨ks, hks⟩ := open_bools hf hw
  obtain ⟨A, c, hvv, _⟩ := id hks
  rw [hvv] at hks
  exact ⟨A, c, ks, hvv, hks⟩
end
end Go.Proofs.Ytjfneckflddeeaa
