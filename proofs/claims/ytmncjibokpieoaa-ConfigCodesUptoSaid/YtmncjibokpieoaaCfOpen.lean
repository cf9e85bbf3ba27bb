/-
  Configurations, changes and numbers that came in, opened.
-/
import Derived.Test.YtmncjibokpieoaaCfM
namespace Go.Proofs.Ytmncjibokpieoaa
open Go.RowKit Go.ChangeShapes Go.WideShapes Go.Deep

section
variable {H : Type} {enc : TypeId × Value → H} {w : World}
theorem reach_is : reachBytes = 140737488351232 := rfl
theorem open_zs {base : Nat} {held : Bool} {fuel : Nat} {v : Value} {x : DataW H × List MemPlace} (h : DataW.trod enc Try.prog w base (fun _ => true) held fuel 22 [v] = some x) (hw : Light 22 x.1) : ∃ zs, Zs w (fun _ => True) v zs ∧ zs.length ≤ 17592186043904 := by
  rcases open_elems Try.underlying22 h hw with rfl | ⟨a, len, cap, rfl, hl, hm, hby, hi⟩
  · exact ⟨[], Zs.nil _ _, by simp⟩
  · have hc1 : Try.prog.cellsOf 3 = 1 := by kernel_rfl
    have hb8 : Try.prog.bytesOf 3 = 8 := by kernel_rfl
    rw [hb8, reach_is] at hby
    have key : ∀ i, i < len → ∃ k : Int, w.cell? (a.add i) = some (.int .i64 k) := by
      intro i hil
      obtain ⟨cs, n, y, hlen, hat, htr, _⟩ := hi i hil
      obtain ⟨m, rfl, _, _⟩ := DataW.trod_int Try.underlying3 htr
      have := hat 0 (by simp)
      rw [hc1, Nat.mul_one] at this
      exact ⟨m, this⟩
    obtain ⟨ks, hbl, hb⟩ := list_of len (fun i (k : Int) => w.cell? (a.add i) = some (.int .i64 k)) key
    refine ⟨ks, ⟨some a, cap, by rw [hbl], by omega, hm, fun e => (by cases e), by simp, fun h0 => ?_⟩, by omega⟩
    have h00 := hb 0 ks[0] (List.getElem?_eq_getElem h0)
    have hz : a.add 0 = a := rfl
    rw [hz] at h00
    have hsp := spot_of_cell h00
    refine ⟨a, rfl, hsp, block_of_cell h00, trivial, fun j x hj => ?_⟩
    rw [List.getElem?_map] at hj
    cases hsj : ks[j]? with
    | none => rw [hsj] at hj; cases hj
    | some s =>
      rw [hsj] at hj
      have := hb j s hsj
      rw [add_at a hsp] at this
      rw [this]
      simpa [zv] using hj
set_option maxRecDepth 100000 in
theorem open_arg_zs {base : Nat} {v : Value} {d : DataW H} {p : List MemPlace} (hv : Value.okWide Try.prog w .any base 22 v) (h : DataW.Trod enc Try.prog w 0 (fun _ => true) true 22 v d p) (hw : Light 22 d) :
    ∃ zs, Zs w (fun _ => True) v zs ∧ zs.length ≤ 17592186043904 := by
  obtain ⟨a, len, cap, rfl⟩ := okWide_slice Try.underlying22 hv
  obtain ⟨fuel, hf⟩ := h
  exact open_zs hf hw
set_option maxRecDepth 100000 in
theorem open_arg_cfg {base : Nat} {v : Value} {d : DataW H} {p : List MemPlace} (hv : Value.okWide Try.prog w .any base 24 v) (h : DataW.Trod enc Try.prog w 0 (fun _ => true) true 24 v d p) (hw : Light 24 d) :
    ∃ c : Cf, CfAt w (fun _ => True) v c ∧ c.v.length ≤ 17592186043904 ∧ c.l.length ≤ 17592186043904 := by
  obtain ⟨cs, rfl, hsz⟩ := okWide_struct Try.underlying24 hv
  have hC : Try.prog.cellsOf 24 = 2 := by kernel_rfl
  have o1 : Try.prog.cellsOf 22 = 1 := by kernel_rfl
  obtain ⟨l⟩ := cs
  obtain ⟨fuel, hf⟩ := h
  obtain ⟨xs, n, _, hy, _, hxl, hg⟩ := DataW.trod_struct Try.underlying24 hf
  match l, hsz.trans hC with
  | [c0, c1], _ =>
    have g0 := hg 0 _ rfl
    have g1 := hg 1 _ rfl
    match xs, hxl with
    | [x0, x1], _ =>
      simp [o1, Value.cells] at g0 g1
      have hd : d = .agg [x0.1, x1.1] := by simpa using congrArg Prod.fst hy
      have hl0 : Light 22 x0.1 := fun k hk => hw k (by
        rw [hd]
        simp only [DataW.weights, Try.underlying24]
        exact DataW.weights_mem_each (j := 0) (t := 22) (d := x0.1) rfl rfl k hk)
      have hl1 : Light 22 x1.1 := fun k hk => hw k (by
        rw [hd]
        simp only [DataW.weights, Try.underlying24]
        exact DataW.weights_mem_each (j := 1) (t := 22) (d := x1.1) rfl rfl k hk)
      obtain ⟨z0, h0, b0⟩ := open_zs g0 hl0
      obtain ⟨z1, h1, b1⟩ := open_zs g1 hl1
      exact ⟨⟨z0, z1⟩, ⟨c0, c1, rfl, h0, h1⟩, b0, b1⟩
set_option maxRecDepth 100000 in
theorem open_arg_change {base : Nat} {v : Value} {d : DataW H} {p : List MemPlace} (hv : Value.okWide Try.prog w .any base 33 v) (h : DataW.Trod enc Try.prog w 0 (fun _ => true) true 33 v d p) :
    ∃ kind node : Int, v = .agg #[.int .i64 kind, .int .i64 node] := by
  obtain ⟨cs, rfl, hsz⟩ := okWide_struct Try.underlying33 hv
  have hC : Try.prog.cellsOf 33 = 2 := by kernel_rfl
  have o1 : Try.prog.cellsOf 3 = 1 := by kernel_rfl
  obtain ⟨l⟩ := cs
  obtain ⟨fuel, hf⟩ := h
  obtain ⟨xs, n, _, hy, _, hxl, hg⟩ := DataW.trod_struct Try.underlying33 hf
  match l, hsz.trans hC with
  | [c0, c1], _ =>
    have g0 := hg 0 _ rfl
    have g1 := hg 1 _ rfl
    match xs, hxl with
    | [x0, x1], _ =>
      simp [o1, Value.cells] at g0 g1
      obtain ⟨s0, e0, _, _⟩ := DataW.trod_int Try.underlying3 g0
      obtain ⟨s1, e1, _, _⟩ := DataW.trod_int Try.underlying3 g1
      simp at e0 e1
      subst e0 e1
      exact ⟨s0, s1, rfl⟩
set_option maxRecDepth 100000 in
theorem open_arg_pair {base : Nat} {v : Value} {d : DataW H} {p : List MemPlace} (hv : Value.okWide Try.prog w .any base 38 v) (h : DataW.Trod enc Try.prog w 0 (fun _ => true) true 38 v d p) (hw : Light 38 d) :
    ∃ (a b : Value) (l0 l1 : List Int), v = .agg #[a, b] ∧ Zs w (fun _ => True) a l0 ∧ Zs w (fun _ => True) b l1 ∧ l0.length ≤ 17592186043904 ∧ l1.length ≤ 17592186043904 := by
  have hC : Try.prog.cellsOf 38 = 2 := by kernel_rfl
  have o1 : Try.prog.cellsOf 22 = 1 := by kernel_rfl
  obtain ⟨cs, rfl, hsz⟩ : ∃ cs, v = .agg cs ∧ cs.size = Try.prog.cellsOf 38 := by
    simp only [Value.okWide, Try.underlying38] at hv
    obtain ⟨cs, h1, h2, _⟩ := hv
    exact ⟨cs, h1, h2⟩
  obtain ⟨l⟩ := cs
  obtain ⟨fuel, hf⟩ := h
  obtain ⟨xs, n, _, hy, _, hxl, hg⟩ := DataW.trod_array Try.underlying38 hf
  match l, hsz.trans hC with
  | [c0, c1], _ =>
    have g0 := hg 0 (by decide)
    have g1 := hg 1 (by decide)
    match xs, hxl with
    | [x0, x1], _ =>
      simp [o1, Value.cells] at g0 g1
      have hd : d = .agg [x0.1, x1.1] := by simpa using congrArg Prod.fst hy
      have hl0 : Light 22 x0.1 := fun k hk => hw k (by
        rw [hd]
        simp only [DataW.weights, Try.underlying38]
        exact weightsAll_mem (d := x0.1) (by simp) k hk)
      have hl1 : Light 22 x1.1 := fun k hk => hw k (by
        rw [hd]
        simp only [DataW.weights, Try.underlying38]
        exact weightsAll_mem (d := x1.1) (by simp) k hk)
      obtain ⟨z0, h0, b0⟩ := open_zs g0 hl0
      obtain ⟨z1, h1, b1⟩ := open_zs g1 hl1
      exact ⟨c0, c1, z0, z1, rfl, h0, h1, b0, b1⟩
end
end Go.Proofs.Ytmncjibokpieoaa
