/-
  What comes in, opened: entries, and arrays of two.
-/
import Derived.Test.YtngbminjbgomgaaOpen
namespace Go.Proofs.Ytngbminjbgomgaa
open Go.RowKit Go.ChangeShapes Go.WideShapes Go.Deep

section
variable {H : Type} {enc : TypeId × Value → H} {w : World} {base : Nat} {held : Bool}

set_option maxRecDepth 100000 in
/-- A command, by its cells. -/
theorem open_cmd_at {fuel : Nat} {l : List Value} {x : DataW H × List MemPlace} (hl : l.length = 8) (hf : DataW.trod enc Try.prog w base (fun _ => true) held fuel 38 l = some x) :
    ∃ c : Cmd, l = c.cells.toList ∧ c.lies w (fun _ => True) := by
  have o1 : Try.prog.cellsOf 3 = 1 := by kernel_rfl
  have o2 : Try.prog.cellsOf 22 = 1 := by kernel_rfl
  have o3 : Try.prog.cellsOf 36 = 1 := by kernel_rfl
  have o4 : Try.prog.cellsOf 4 = 1 := by kernel_rfl
  have o5 : Try.prog.cellsOf 34 = 1 := by kernel_rfl
  obtain ⟨xs, n, _, _, _, hxl, hg⟩ := DataW.trod_struct Try.underlying38 hf
  match l, hl with
  | [c0, c1, c2, c3, c4, c5, c6, c7], _ =>
    have g0 := hg 0 _ rfl
    have g1 := hg 1 _ rfl
    have g2 := hg 2 _ rfl
    have g3 := hg 3 _ rfl
    have g4 := hg 4 _ rfl
    have g5 := hg 5 _ rfl
    have g6 := hg 6 _ rfl
    have g7 := hg 7 _ rfl
    match xs, hxl with
    | [x0, x1, x2, x3, x4, x5, x6, x7], _ =>
      simp [o1, o2, o3, o4] at g0 g1 g2 g3 g4 g5 g6 g7
      obtain ⟨m0, e0, _, _⟩ := DataW.trod_int Try.underlying3 g0
      obtain ⟨m1, e1, _, w1⟩ := DataW.trod_int Try.underlying22 g1
      obtain ⟨m2, e2, _, w2⟩ := DataW.trod_int Try.underlying22 g2
      obtain ⟨m4, e4, _, w4⟩ := DataW.trod_int Try.underlying22 g4
      obtain ⟨m5, e5, _, w5⟩ := DataW.trod_int Try.underlying22 g5
      obtain ⟨b6, e6, _⟩ := DataW.trod_bool Try.underlying4 g6
      obtain ⟨m7, e7, _, w7⟩ := DataW.trod_int Try.underlying22 g7
      obtain ⟨ys, n', _, _, _, hyl, hh⟩ := DataW.trod_struct Try.underlying36 g3
      have h0 := hh 0 _ rfl
      match ys, hyl with
      | [y0], _ =>
        simp [o5] at h0
        obtain ⟨ts, hts⟩ := open_tgs h0
        simp at e0 e1 e2 e4 e5 e6 e7
        subst e0 e1 e2 e4 e5 e6 e7
        obtain ⟨k1, rfl, z1⟩ := u64_of w1
        obtain ⟨k2, rfl, z2⟩ := u64_of w2
        obtain ⟨k4, rfl, z4⟩ := u64_of w4
        obtain ⟨k5, rfl, z5⟩ := u64_of w5
        obtain ⟨k7, rfl, z7⟩ := u64_of w7
        exact ⟨⟨m0, k1, k2, c3, ts, k4, k5, b6, k7⟩, rfl, z1, z2, z4, z5, z7, hts⟩

set_option maxRecDepth 100000 in
/-- An entry, by its cells. -/
theorem open_ent_at {fuel : Nat} {l : List Value} {x : DataW H × List MemPlace} (hl : l.length = 4) (hf : DataW.trod enc Try.prog w base (fun _ => true) held fuel 25 l = some x) :
    ∃ (i t : Nat) (k : Int) (u : Value) (cs : List UInt8), l = [.int .u64 (i : Int), .int .u64 (t : Int), .int .i64 k, u] ∧ (i : Int) < 18446744073709551616 ∧ (t : Int) < 18446744073709551616 ∧ Bytes w (fun _ => True) u cs := by
  have o1 : Try.prog.cellsOf 3 = 1 := by kernel_rfl
  have o2 : Try.prog.cellsOf 22 = 1 := by kernel_rfl
  have o3 : Try.prog.cellsOf 23 = 1 := by kernel_rfl
  obtain ⟨xs, n, _, _, _, hxl, hg⟩ := DataW.trod_struct Try.underlying25 hf
  match l, hl with
  | [c0, c1, c2, c3], _ =>
    have g0 := hg 0 _ rfl
    have g1 := hg 1 _ rfl
    have g2 := hg 2 _ rfl
    have g3 := hg 3 _ rfl
    match xs, hxl with
    | [x0, x1, x2, x3], _ =>
      simp [o1, o2, o3] at g0 g1 g2 g3
      obtain ⟨m0, e0, _, w0⟩ := DataW.trod_int Try.underlying22 g0
      obtain ⟨m1, e1, _, w1⟩ := DataW.trod_int Try.underlying22 g1
      obtain ⟨m2, e2, _, _⟩ := DataW.trod_int Try.underlying3 g2
      obtain ⟨cs, hcs⟩ := open_bytes g3
      simp at e0 e1 e2
      subst e0 e1 e2
      obtain ⟨k0, rfl, z0⟩ := u64_of w0
      obtain ⟨k1, rfl, z1⟩ := u64_of w1
      exact ⟨k0, k1, m2, c3, cs, rfl, z0, z1, hcs⟩

set_option maxRecDepth 100000 in
/-- An entry that came in. -/
theorem open_ent {v : Value} {d : DataW H} {p : List MemPlace} (hv : Value.okWide Try.prog w .any base 25 v) (h : DataW.Trod enc Try.prog w 0 (fun _ => true) true 25 v d p) :
    ∃ (i t : Nat) (k : Int) (u : Value) (cs : List UInt8), v = .agg #[.int .u64 (i : Int), .int .u64 (t : Int), .int .i64 k, u] ∧ (i : Int) < 18446744073709551616 ∧ (t : Int) < 18446744073709551616 ∧ Bytes w (fun _ => True) u cs := by
  obtain ⟨cs, rfl, hsz⟩ := okWide_struct Try.underlying25 hv
  have hC : Try.prog.cellsOf 25 = 4 := by kernel_rfl
  obtain ⟨fuel, hf⟩ := h
  obtain ⟨i, t, k, u, bs, e, h1, h2, h3⟩ := open_ent_at (l := cs.toList) (by simpa using hsz.trans hC) hf
  refine ⟨i, t, k, u, bs, ?_, h1, h2, h3⟩
  rw [← Array.toArray_toList (xs := cs), e]

theorem okWide_array {P : Program} {n : Nat} {e t : TypeId} {v : Value} {r : Reach} (ht : P.underlying t = some (.array n e)) (h : Value.okWide P w r base t v) : ∃ cs, v = .agg cs ∧ cs.size = P.cellsOf t := by
  simp only [Value.okWide, ht] at h
  obtain ⟨cs, h1, h2, _⟩ := h
  exact ⟨cs, h1, h2⟩
end
end Go.Proofs.Ytngbminjbgomgaa
