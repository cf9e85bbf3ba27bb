import Derived.Test.YtdikmmdkpfmocaaBs16
namespace Go.Proofs.Ytdikmmdkpfmocaa
open Go.RowKit Go.ChangeShapes Go.WideShapes Go.Deep
theorem reach_is : reachBytes = 140737488351232 := rfl
set_option maxRecDepth 100000 in
theorem open_bytes {H : Type} {enc : TypeId × Value → H} {w : World} {base : Nat} {held : Bool} {fuel : Nat} {v : Value} {x : DataW H × List MemPlace} (h : DataW.trod enc Try.prog w base (fun _ => true) held fuel 27 [v] = some x) (hw : Light 27 x.1) : ∃ bs, Bytes w (fun _ => True) v bs ∧ bs.length ≤ lim := by
  rcases open_elems Try.underlying27 h hw with rfl | ⟨a, len, cap, rfl, hl, hm, hby, hi⟩
  · exact ⟨[], Bytes.nil _ _, by simp⟩
  · have hc1 : Try.prog.cellsOf 5 = 1 := by kernel_rfl
    have hb1 : Try.prog.bytesOf 5 = 1 := by kernel_rfl
    rw [hb1, reach_is] at hby
    have key : ∀ i, i < len → ∃ b : UInt8, w.cell? (a.add i) = some (bv b) := by
      intro i hil
      obtain ⟨cs, n, y, hlen, hat, htr, _⟩ := hi i hil
      obtain ⟨k, rfl, _, hwf⟩ := DataW.trod_int Try.underlying5 htr
      have := hat 0 (by simp)
      rw [hc1, Nat.mul_one] at this
      have hz : (a.add i).add 0 = a.add i := rfl
      rw [hz] at this
      have hk : 0 ≤ k ∧ k ≤ 255 := by simpa [Lit.wf, IntKind.min, IntKind.max, IntKind.signed, IntKind.bits] using hwf
      refine ⟨UInt8.ofNat k.toNat, ?_⟩
      rw [this]
      unfold bv
      have e : (UInt8.ofNat k.toNat).toNat = k.toNat := by rw [UInt8.toNat_ofNat']; omega
      rw [e, Int.toNat_of_nonneg hk.1]
      rfl
    obtain ⟨bs, hbl, hb⟩ := list_of len (fun i b => w.cell? (a.add i) = some (bv b)) key
    refine ⟨bs, ⟨some a, cap, by rw [hbl], by omega, hm, fun e => (by cases e), fun h0 => ?_⟩, by rw [lim_is]; omega⟩
    have h00 := hb 0 bs[0] (List.getElem?_eq_getElem h0)
    have hz : a.add 0 = a := rfl
    rw [hz] at h00
    have hsp := spot_of_cell h00
    exact ⟨a, rfl, hsp, block_of_cell h00, trivial, fun j b hj => by have := hb j b hj; rwa [add_at a hsp] at this⟩
set_option maxRecDepth 100000 in
theorem open_arg_bytes {H : Type} {enc : TypeId × Value → H} {w : World} {base : Nat} {v : Value} {d : DataW H} {p : List MemPlace} (hv : Value.okWide Try.prog w .any base 27 v) (h : DataW.Trod enc Try.prog w 0 (fun _ => true) true 27 v d p) (hw : Light 27 d) :
    ∃ bs, Bytes w (fun _ => True) v bs ∧ bs.length ≤ lim := by
  obtain ⟨a, len, cap, rfl⟩ := okWide_slice Try.underlying27 hv
  obtain ⟨fuel, hf⟩ := h
  exact open_bytes hf hw
section
variable {H : Type} {enc : TypeId × Value → H} {w : World}
theorem open_zs {base : Nat} {held : Bool} {fuel : Nat} {v : Value} {x : DataW H × List MemPlace} (h : DataW.trod enc Try.prog w base (fun _ => true) held fuel 24 [v] = some x) (hw : Light 24 x.1) : ∃ zs, Zs w (fun _ => True) v zs ∧ zs.length ≤ 17592186043904 := by
  rcases open_elems Try.underlying24 h hw with rfl | ⟨a, len, cap, rfl, hl, hm, hby, hi⟩
  · exact ⟨[], Zs.nil _ _, by simp⟩
  · have hc1 : Try.prog.cellsOf 3 = 1 := by kernel_rfl
    have hb8 : Try.prog.bytesOf 3 = 8 := by kernel_rfl
    rw [hb8, reach_is] at hby
    have key : ∀ i, i < len → ∃ k : Int, w.cell? (a.add i) = some (.int .i64 k) := by
      intro i hil
      obtain ⟨cs, n, y, hlen, hat, htr, _⟩ := hi i hil
      obtain ⟨m, rfl, _, _⟩ := DataW.trod_int Try.underlying3 htr
      have := hat 0 (by simp)
      rw [hc1, Nat.mul_one] at this
      exact ⟨m, this⟩
    obtain ⟨ks, hbl, hb⟩ := list_of len (fun i (k : Int) => w.cell? (a.add i) = some (.int .i64 k)) key
    refine ⟨ks, ⟨some a, cap, by rw [hbl], by omega, hm, fun e => (by cases e), by simp, fun h0 => ?_⟩, by omega⟩
    have h00 := hb 0 ks[0] (List.getElem?_eq_getElem h0)
    have hz : a.add 0 = a := rfl
    rw [hz] at h00
    have hsp := spot_of_cell h00
    refine ⟨a, rfl, hsp, block_of_cell h00, trivial, fun j x hj => ?_⟩
    rw [List.getElem?_map] at hj
    cases hsj : ks[j]? with
    | none => rw [hsj] at hj; cases hj
    | some s =>
      rw [hsj] at hj
      have := hb j s hsj
      rw [add_at a hsp] at this
      rw [this]
      simpa [zv] using hj
theorem u64_of {n : Int} (h : (Lit.int .u64 n).wf = true) : ∃ k : Nat, n = (k : Int) ∧ (k : Int) < 18446744073709551616 := by
  have hk : 0 ≤ n ∧ n ≤ 18446744073709551615 := by simpa [Lit.wf, IntKind.min, IntKind.max, IntKind.signed, IntKind.bits] using h
  exact ⟨n.toNat, by omega, by omega⟩
set_option maxRecDepth 100000 in
theorem open_en {base : Nat} {held : Bool} {n : Nat} {cs : List Value} {y : DataW H × List MemPlace} (hl : cs.length = 4) (h : DataW.trod enc Try.prog w base (fun _ => true) held n 81 cs = some y) (hw : Light 81 y.1) :
    ∃ x : En, cs = x.cells ∧ x.lies w (fun _ => True) := by
  have o1 : Try.prog.cellsOf 3 = 1 := by kernel_rfl
  have o2 : Try.prog.cellsOf 22 = 1 := by kernel_rfl
  have o3 : Try.prog.cellsOf 27 = 1 := by kernel_rfl
  obtain ⟨xs, m, _, hy, _, hxl, hg⟩ := DataW.trod_struct Try.underlying81 h
  match cs, hl with
  | [c0, c1, c2, c3], _ =>
    have g0 := hg 0 _ rfl
    have g1 := hg 1 _ rfl
    have g2 := hg 2 _ rfl
    have g3 := hg 3 _ rfl
    match xs, hxl with
    | [x0, x1, x2, x3], _ =>
      simp [o1, o2, o3] at g0 g1 g2 g3
      obtain ⟨m0, e0, _, w0⟩ := DataW.trod_int Try.underlying22 g0
      obtain ⟨m1, e1, _, w1⟩ := DataW.trod_int Try.underlying22 g1
      obtain ⟨m2, e2, _, _⟩ := DataW.trod_int Try.underlying3 g2
      have hl3 : Light 27 x3.1 := fun k hk => hw k (by
        rw [hy]
        simp only [DataW.weights, Try.underlying81]
        exact DataW.weights_mem_each (j := 3) (t := 27) (d := x3.1) rfl rfl k hk)
      obtain ⟨bs, hbs, _⟩ := open_bytes g3 hl3
      simp at e0 e1 e2
      subst e0 e1 e2
      obtain ⟨k0, rfl, z0⟩ := u64_of w0
      obtain ⟨k1, rfl, z1⟩ := u64_of w1
      exact ⟨⟨k0, k1, m2, c3, bs⟩, rfl, z0, z1, hbs⟩
set_option maxRecDepth 100000 in
theorem open_cf {base : Nat} {held : Bool} {n : Nat} {a b : Value} {y : DataW H × List MemPlace} (h : DataW.trod enc Try.prog w base (fun _ => true) held n 26 [a, b] = some y) (hw : Light 26 y.1) :
    ∃ c : Cf, Zs w (fun _ => True) a c.v ∧ Zs w (fun _ => True) b c.l := by
  have o1 : Try.prog.cellsOf 24 = 1 := by kernel_rfl
  obtain ⟨xs, m, _, hy, _, hxl, hg⟩ := DataW.trod_struct Try.underlying26 h
  have g0 := hg 0 _ rfl
  have g1 := hg 1 _ rfl
  match xs, hxl with
  | [x0, x1], _ =>
    simp [o1] at g0 g1
    have hl0 : Light 24 x0.1 := fun k hk => hw k (by
      rw [hy]
      simp only [DataW.weights, Try.underlying26]
      exact DataW.weights_mem_each (j := 0) (t := 24) (d := x0.1) rfl rfl k hk)
    have hl1 : Light 24 x1.1 := fun k hk => hw k (by
      rw [hy]
      simp only [DataW.weights, Try.underlying26]
      exact DataW.weights_mem_each (j := 1) (t := 24) (d := x1.1) rfl rfl k hk)
    obtain ⟨z0, h0, _⟩ := open_zs g0 hl0
    obtain ⟨z1, h1, _⟩ := open_zs g1 hl1
    exact ⟨⟨z0, z1⟩, h0, h1⟩
set_option maxRecDepth 100000 in
set_option maxHeartbeats 2000000 in
theorem open_arg_msg {base : Nat} {v : Value} {d : DataW H} {p : List MemPlace} (hv : Value.okWide Try.prog w .any base 29 v) (h : DataW.Trod enc Try.prog w 0 (fun _ => true) true 29 v d p) (hw : Light 29 d) :
    ∃ m : Mg, v = .agg m.cells ∧ m.lies w (fun _ => True) := by
  obtain ⟨cs, rfl, hsz⟩ := okWide_struct Try.underlying29 hv
  have hC : Try.prog.cellsOf 29 = 15 := by kernel_rfl
  have o1 : Try.prog.cellsOf 3 = 1 := by kernel_rfl
  have o2 : Try.prog.cellsOf 22 = 1 := by kernel_rfl
  have o3 : Try.prog.cellsOf 4 = 1 := by kernel_rfl
  have o4 : Try.prog.cellsOf 23 = 1 := by kernel_rfl
  have o5 : Try.prog.cellsOf 26 = 2 := by kernel_rfl
  have o6 : Try.prog.cellsOf 27 = 1 := by kernel_rfl
  obtain ⟨l⟩ := cs
  obtain ⟨fuel, hf⟩ := h
  obtain ⟨xs, n, _, hy, _, hxl, hg⟩ := DataW.trod_struct Try.underlying29 hf
  have hd : d = .agg (xs.map Prod.fst) := by simpa using congrArg Prod.fst hy
  match l, hsz.trans hC with
  | [c0, c1, c2, c3, c4, c5, c6, c7, c8, c9, c10, c11, c12, c13, c14], _ =>
    have g0 := hg 0 _ rfl
    have g1 := hg 1 _ rfl
    have g2 := hg 2 _ rfl
    have g3 := hg 3 _ rfl
    have g4 := hg 4 _ rfl
    have g5 := hg 5 _ rfl
    have g6 := hg 6 _ rfl
    have g7 := hg 7 _ rfl
    have g8 := hg 8 _ rfl
    have g9 := hg 9 _ rfl
    have g10 := hg 10 _ rfl
    have g11 := hg 11 _ rfl
    have g12 := hg 12 _ rfl
    have g13 := hg 13 _ rfl
    match xs, hxl with
    | [x0, x1, x2, x3, x4, x5, x6, x7, x8, x9, x10, x11, x12, x13], _ =>
      simp [o1, o2, o3, o4, o5, o6, Value.cells] at g0 g1 g2 g3 g4 g5 g6 g7 g8 g9 g10 g11 g12 g13
      obtain ⟨m0, e0, _, _⟩ := DataW.trod_int Try.underlying3 g0
      obtain ⟨m1, e1, _, _⟩ := DataW.trod_int Try.underlying3 g1
      obtain ⟨m2, e2, _, _⟩ := DataW.trod_int Try.underlying3 g2
      obtain ⟨m3, e3, _, w3⟩ := DataW.trod_int Try.underlying22 g3
      obtain ⟨m4, e4, _, w4⟩ := DataW.trod_int Try.underlying22 g4
      obtain ⟨m5, e5, _, w5⟩ := DataW.trod_int Try.underlying22 g5
      obtain ⟨m6, e6, _, w6⟩ := DataW.trod_int Try.underlying22 g6
      obtain ⟨m7, e7, _, w7⟩ := DataW.trod_int Try.underlying22 g7
      obtain ⟨m11, e11, _, w11⟩ := DataW.trod_int Try.underlying22 g11
      obtain ⟨m12, e12, _, w12⟩ := DataW.trod_int Try.underlying22 g12
      obtain ⟨m8, e8, _⟩ := DataW.trod_bool Try.underlying4 g8
      have hl9 : Light 23 x9.1 := fun k hk => hw k (by
        rw [hd]
        simp only [DataW.weights, Try.underlying29]
        exact DataW.weights_mem_each (j := 9) (t := 23) (d := x9.1) rfl rfl k hk)
      have hl10 : Light 26 x10.1 := fun k hk => hw k (by
        rw [hd]
        simp only [DataW.weights, Try.underlying29]
        exact DataW.weights_mem_each (j := 10) (t := 26) (d := x10.1) rfl rfl k hk)
      have hl13 : Light 27 x13.1 := fun k hk => hw k (by
        rw [hd]
        simp only [DataW.weights, Try.underlying29]
        exact DataW.weights_mem_each (j := 13) (t := 27) (d := x13.1) rfl rfl k hk)
      obtain ⟨es, hes, hel, _⟩ := open_manyL En.cells 4 (fun _ => rfl) (by decide) (fun x => x.lies w (fun _ => True)) Try.underlying23 (by kernel_rfl) g9 hl9 (fun cs n y hl ht hli => open_en hl ht hli)
      obtain ⟨c, hcv, hcl⟩ := open_cf g10 hl10
      obtain ⟨bs, hbs, _⟩ := open_bytes g13 hl13
      simp at e0 e1 e2 e3 e4 e5 e6 e7 e8 e11 e12
      subst e0 e1 e2 e3 e4 e5 e6 e7 e8 e11 e12
      obtain ⟨k3, rfl, z3⟩ := u64_of w3
      obtain ⟨k4, rfl, z4⟩ := u64_of w4
      obtain ⟨k5, rfl, z5⟩ := u64_of w5
      obtain ⟨k6, rfl, z6⟩ := u64_of w6
      obtain ⟨k7, rfl, z7⟩ := u64_of w7
      obtain ⟨k11, rfl, z11⟩ := u64_of w11
      obtain ⟨k12, rfl, z12⟩ := u64_of w12
      exact ⟨⟨m0, m1, m2, k3, k4, k5, k6, k7, m8, c9, es, c10, c11, c, k11, k12, c14, bs⟩, rfl, ⟨z3, z4, z5, z6, z7, z11, z12, ⟨hes, hel⟩, hcv, hcl, hbs⟩⟩
end
end Go.Proofs.Ytdikmmdkpfmocaa
