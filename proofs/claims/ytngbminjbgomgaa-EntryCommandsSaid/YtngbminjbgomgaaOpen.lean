/-
  What comes in, opened: bytes, strings, targets, entries, commands.
-/
import Derived.Test.YtngbminjbgomgaaCmd
import Derived.ProofKit
import Derived.OpenShut
import Derived.ChangeOld
import Derived.Deep.Slices
namespace Go.Proofs.Ytngbminjbgomgaa
open Go.RowKit Go.ChangeShapes Go.WideShapes Go.Deep

section
variable {H : Type} {enc : TypeId × Value → H} {w : World} {base : Nat} {held : Bool}

theorem add_at (a : Addr) (h : a.spot = none) (j : Nat) : a.add j = ⟨a.block, a.off + j, none⟩ := by
  obtain ⟨b, o, sp⟩ := a
  simp only at h
  subst h
  unfold Addr.add
  split
  · rename_i h0; subst h0; rfl
  · rfl
theorem spot_of_cell {a : Addr} {v : Value} (h : w.cell? a = some v) : a.spot = none := by
  unfold World.cell? at h
  split at h
  · split at h
    · cases h
    · rename_i hs
      cases hsp : a.spot with
      | none => rfl
      | some _ => rw [hsp] at hs; simp at hs
  · cases h
theorem block_of_cell {a : Addr} {v : Value} (h : w.cell? a = some v) : a.block < w.heap.size := World.block_lt_of_cell? w a h

/-- A list that is known at each of its places. -/
theorem list_of {α : Type} (n : Nat) (R : Nat → α → Prop) (h : ∀ i, i < n → ∃ x, R i x) : ∃ l : List α, l.length = n ∧ ∀ i x, l[i]? = some x → R i x := by
  induction n with
  | zero => exact ⟨[], rfl, fun i x hx => by simp at hx⟩
  | succ n ih =>
    obtain ⟨l, hl, hr⟩ := ih (fun i hi => h i (by omega))
    obtain ⟨y, hy⟩ := h n (by omega)
    refine ⟨l ++ [y], by simp [hl], fun i x hx => ?_⟩
    rcases Nat.lt_or_ge i n with hi | hi
    · rw [List.getElem?_append_left (by omega)] at hx
      exact hr i x hx
    · rw [List.getElem?_append_right (by omega), hl] at hx
      have hi' : i = n := by
        have := (List.getElem?_eq_some_iff.1 hx).1
        simp at this
        omega
      subst hi'
      simp at hx
      subst hx
      exact hy

/-- A slice, its elements told one by one. -/
theorem open_elems {t e : TypeId} {fuel : Nat} {v : Value} {x : DataW H × List MemPlace} (ht : Try.prog.underlying t = some (.slice e)) (h : DataW.trod enc Try.prog w base (fun _ => true) held fuel t [v] = some x) :
    v = .slice none 0 0 ∨ ∃ (a : Addr) (len cap : Nat), v = .slice (some a) len cap ∧ len ≤ cap ∧ cap ≤ maxLen ∧
      ∀ i, i < len → ∃ (cs : List Value) (n : Nat) (y : DataW H × List MemPlace), cs.length = Try.prog.cellsOf e ∧ (∀ j, j < cs.length → w.cell? ((a.add (i * Try.prog.cellsOf e)).add j) = cs[j]?) ∧ DataW.trod enc Try.prog w base (fun _ => true) held n e cs = some y := by
  rcases open_slice ht h with ⟨hcs, _⟩ | ⟨a, len, cap, m, n, D, Pl, hcs, _, hl, hm, hmm, _, hi⟩
  · left
    simpa using hcs
  · right
    refine ⟨a, len, cap, by simpa using hcs, hl, hm, fun i hil => ?_⟩
    obtain ⟨cs', hc, htr⟩ := hi i (by rw [hmm]; simp; omega)
    obtain ⟨_, hlen, hat⟩ := World.cells?_some hc
    exact ⟨cs', n, _, hlen, fun j hj => hat j (by omega), htr⟩

theorem add_add_at (a : Addr) (i j : Nat) (h : a.spot = none) : (a.add i).add j = ⟨a.block, a.off + (i + j), none⟩ := by
  rw [add_at a h i, add_at _ rfl j]
  simp [Nat.add_assoc]

theorem open_bytes {fuel : Nat} {v : Value} {x : DataW H × List MemPlace} (h : DataW.trod enc Try.prog w base (fun _ => true) held fuel 23 [v] = some x) : ∃ bs, Bytes w (fun _ => True) v bs := by
  rcases open_elems Try.underlying23 h with rfl | ⟨a, len, cap, rfl, hl, hm, hi⟩
  · exact ⟨[], Bytes.nil _ _⟩
  · have hc1 : Try.prog.cellsOf 5 = 1 := by kernel_rfl
    have key : ∀ i, i < len → ∃ b : UInt8, w.cell? (a.add i) = some (bv b) := by
      intro i hil
      obtain ⟨cs, n, y, hlen, hat, htr⟩ := hi i hil
      obtain ⟨k, rfl, _, hwf⟩ := DataW.trod_int Try.underlying5 htr
      have := hat 0 (by simp)
      rw [hc1, Nat.mul_one] at this
      have hz : (a.add i).add 0 = a.add i := rfl
      rw [hz] at this
      have hk : 0 ≤ k ∧ k ≤ 255 := by simpa [Lit.wf, IntKind.min, IntKind.max, IntKind.signed, IntKind.bits] using hwf
      refine ⟨UInt8.ofNat k.toNat, ?_⟩
      rw [this]
      unfold bv
      have e : (UInt8.ofNat k.toNat).toNat = k.toNat := by rw [UInt8.toNat_ofNat']; omega
      rw [e, Int.toNat_of_nonneg hk.1]
      rfl
    obtain ⟨bs, hbl, hb⟩ := list_of len (fun i b => w.cell? (a.add i) = some (bv b)) key
    refine ⟨bs, some a, cap, by rw [hbl], by omega, hm, fun e => (by cases e), fun h0 => ?_⟩
    have h00 := hb 0 bs[0] (List.getElem?_eq_getElem h0)
    have hz : a.add 0 = a := rfl
    rw [hz] at h00
    have hsp := spot_of_cell h00
    exact ⟨a, rfl, hsp, block_of_cell h00, trivial, fun j b hj => by have := hb j b hj; rwa [add_at a hsp] at this⟩

theorem open_strs' {fuel : Nat} {v : Value} {x : DataW H × List MemPlace} (h : DataW.trod enc Try.prog w base (fun _ => true) held fuel 100 [v] = some x) : ∃ ss, Strs w (fun _ => True) v ss := by
  rcases open_elems Try.underlying100 h with rfl | ⟨a, len, cap, rfl, hl, hm, hi⟩
  · exact ⟨[], ⟨none, 0, rfl, Nat.le_refl _, Nat.zero_le _, fun _ => rfl, rfl, fun h => absurd h (by simp)⟩, fun s hs => by cases hs⟩
  · have hc1 : Try.prog.cellsOf 9 = 1 := by kernel_rfl
    have key : ∀ i, i < len → ∃ s : ByteArray, w.cell? (a.add i) = some (.string s) ∧ s.size ≤ maxLen := by
      intro i hil
      obtain ⟨cs, n, y, hlen, hat, htr⟩ := hi i hil
      obtain ⟨s, rfl, _, hsz⟩ := DataW.trod_string Try.underlying9 htr
      have := hat 0 (by simp)
      rw [hc1, Nat.mul_one] at this
      exact ⟨s, this, hsz⟩
    obtain ⟨ss, hbl, hb⟩ := list_of len (fun i s => w.cell? (a.add i) = some (.string s) ∧ s.size ≤ maxLen) key
    refine ⟨ss, ⟨some a, cap, by rw [hbl], by omega, hm, fun e => (by cases e), by simp, fun h0 => ?_⟩, fun s hs => ?_⟩
    · have h00 := (hb 0 ss[0] (List.getElem?_eq_getElem h0)).1
      have hz : a.add 0 = a := rfl
      rw [hz] at h00
      have hsp := spot_of_cell h00
      refine ⟨a, rfl, hsp, block_of_cell h00, trivial, fun j x hj => ?_⟩
      rw [List.getElem?_map] at hj
      cases hsj : ss[j]? with
      | none => rw [hsj] at hj; cases hj
      | some s =>
        rw [hsj] at hj
        have := (hb j s hsj).1
        rw [add_at a hsp] at this
        rw [this]
        simpa using hj
    · obtain ⟨j, hj⟩ := List.getElem?_of_mem hs
      exact (hb j s hj).2

theorem cells_length (ts : List Tg) : (ts.flatMap Tg.cells).length = ts.length * 3 := by
  induction ts with
  | nil => rfl
  | cons a l ih => rw [List.flatMap_cons, List.length_append, ih, List.length_cons]; simp [Tg.cells]; omega

set_option maxRecDepth 100000 in
theorem open_tgs {fuel : Nat} {v : Value} {x : DataW H × List MemPlace} (h : DataW.trod enc Try.prog w base (fun _ => true) held fuel 34 [v] = some x) : ∃ ts, Tgs w (fun _ => True) v ts := by
  rcases open_elems Try.underlying34 h with rfl | ⟨a, len, cap, rfl, hl, hm, hi⟩
  · exact ⟨[], ⟨none, 0, rfl, Nat.le_refl _, Nat.zero_le _, fun _ => rfl, rfl, fun h => absurd h (by simp)⟩, fun s hs => by cases hs⟩
  · have hc3 : Try.prog.cellsOf 102 = 3 := by kernel_rfl
    have o1 : Try.prog.cellsOf 9 = 1 := by kernel_rfl
    have o2 : Try.prog.cellsOf 100 = 1 := by kernel_rfl
    have key : ∀ i, i < len → ∃ t : Tg, (∀ j, j < 3 → w.cell? ((a.add (i * 3)).add j) = t.cells[j]?) ∧ t.lies w (fun _ => True) := by
      intro i hil
      obtain ⟨cs, n, y, hlen, hat, htr⟩ := hi i hil
      rw [hc3] at hlen hat
      obtain ⟨xs, m, _, _, _, hxl, hf⟩ := DataW.trod_struct Try.underlying102 htr
      match cs, hlen with
      | [c0, c1, c2], _ =>
        have g0 := hf 0 _ rfl
        have g1 := hf 1 _ rfl
        have g2 := hf 2 _ rfl
        match xs, hxl with
        | [x0, x1, x2], _ =>
          simp [o1, o2] at g0 g1 g2
          obtain ⟨s0, e0, _, z0⟩ := DataW.trod_string Try.underlying9 g0
          obtain ⟨s1, e1, _, z1⟩ := DataW.trod_string Try.underlying9 g1
          obtain ⟨ss, hss⟩ := open_strs' g2
          simp at e0 e1
          subst e0 e1
          exact ⟨⟨s0, s1, c2, ss⟩, fun j hj => hat j (by simpa using hj), z0, z1, hss⟩
    obtain ⟨ts, hbl, hb⟩ := list_of len (fun i (t : Tg) => (∀ j, j < 3 → w.cell? ((a.add (i * 3)).add j) = t.cells[j]?) ∧ t.lies w (fun _ => True)) key
    refine ⟨ts, ⟨some a, cap, by rw [hbl], by omega, hm, fun e => (by cases e), ?_, fun h0 => ?_⟩, fun t ht => ?_⟩
    · rw [cells_length]
    · have h00 := (hb 0 ts[0] (List.getElem?_eq_getElem h0)).1 0 (by decide)
      have hz : (a.add (0 * 3)).add 0 = a := rfl
      rw [hz] at h00
      have h01 : w.cell? a = some (.string ts[0].name) := h00
      have hsp := spot_of_cell h01
      refine ⟨a, rfl, hsp, block_of_cell h01, trivial, fun j x hj => ?_⟩
      have hjl := (List.getElem?_eq_some_iff.1 hj).1
      have hjl' : j < 3 * ts.length := by
        rw [cells_length] at hjl
        omega
      have hdiv : j / 3 < ts.length := by omega
      have hk := List.getElem?_eq_getElem hdiv
      have e1 := (hb (j / 3) _ hk).1 (j % 3) (Nat.mod_lt _ (by decide))
      rw [add_add_at a _ _ hsp, show j / 3 * 3 + j % 3 = j from by omega] at e1
      have e2 := cells_at hk (j % 3) (Nat.mod_lt _ (by decide))
      rw [show 3 * (j / 3) + j % 3 = j from by omega] at e2
      rw [e1, ← e2, hj]
    · obtain ⟨j, hj⟩ := List.getElem?_of_mem ht
      exact (hb j t hj).2

theorem u64_of {n : Int} (h : (Lit.int .u64 n).wf = true) : ∃ k : Nat, n = (k : Int) ∧ (k : Int) < 18446744073709551616 := by
  have hk : 0 ≤ n ∧ n ≤ 18446744073709551615 := by simpa [Lit.wf, IntKind.min, IntKind.max, IntKind.signed, IntKind.bits] using h
  exact ⟨n.toNat, by omega, by omega⟩

set_option maxRecDepth 100000 in
/-- A command that came in. -/
theorem open_cmd {v : Value} {d : DataW H} {p : List MemPlace} (hv : Value.okWide Try.prog w .any base 38 v) (h : DataW.Trod enc Try.prog w 0 (fun _ => true) true 38 v d p) :
    ∃ c : Cmd, v = .agg c.cells ∧ c.lies w (fun _ => True) := by
  obtain ⟨cs, rfl, hsz⟩ := okWide_struct Try.underlying38 hv
  have hC : Try.prog.cellsOf 38 = 8 := by kernel_rfl
  have o1 : Try.prog.cellsOf 3 = 1 := by kernel_rfl
  have o2 : Try.prog.cellsOf 22 = 1 := by kernel_rfl
  have o3 : Try.prog.cellsOf 36 = 1 := by kernel_rfl
  have o4 : Try.prog.cellsOf 4 = 1 := by kernel_rfl
  have o5 : Try.prog.cellsOf 34 = 1 := by kernel_rfl
  obtain ⟨l⟩ := cs
  obtain ⟨fuel, hf⟩ := h
  obtain ⟨xs, n, _, _, _, hxl, hg⟩ := DataW.trod_struct Try.underlying38 hf
  match l, hsz.trans hC with
  | [c0, c1, c2, c3, c4, c5, c6, c7], _ =>
    have g0 := hg 0 _ rfl
    have g1 := hg 1 _ rfl
    have g2 := hg 2 _ rfl
    have g3 := hg 3 _ rfl
    have g4 := hg 4 _ rfl
    have g5 := hg 5 _ rfl
    have g6 := hg 6 _ rfl
    have g7 := hg 7 _ rfl
    match xs, hxl with
    | [x0, x1, x2, x3, x4, x5, x6, x7], _ =>
      simp [o1, o2, o3, o4, Value.cells] at g0 g1 g2 g3 g4 g5 g6 g7
      obtain ⟨m0, e0, _, _⟩ := DataW.trod_int Try.underlying3 g0
      obtain ⟨m1, e1, _, w1⟩ := DataW.trod_int Try.underlying22 g1
      obtain ⟨m2, e2, _, w2⟩ := DataW.trod_int Try.underlying22 g2
      obtain ⟨m4, e4, _, w4⟩ := DataW.trod_int Try.underlying22 g4
      obtain ⟨m5, e5, _, w5⟩ := DataW.trod_int Try.underlying22 g5
      obtain ⟨b6, e6, _⟩ := DataW.trod_bool Try.underlying4 g6
      obtain ⟨m7, e7, _, w7⟩ := DataW.trod_int Try.underlying22 g7
      obtain ⟨ys, n', _, _, _, hyl, hh⟩ := DataW.trod_struct Try.underlying36 g3
      have h0 := hh 0 _ rfl
      match ys, hyl with
      | [y0], _ =>
        simp [o5] at h0
        obtain ⟨ts, hts⟩ := open_tgs h0
        simp at e0 e1 e2 e4 e5 e6 e7
        subst e0 e1 e2 e4 e5 e6 e7
        obtain ⟨k1, rfl, z1⟩ := u64_of w1
        obtain ⟨k2, rfl, z2⟩ := u64_of w2
        obtain ⟨k4, rfl, z4⟩ := u64_of w4
        obtain ⟨k5, rfl, z5⟩ := u64_of w5
        obtain ⟨k7, rfl, z7⟩ := u64_of w7
        exact ⟨⟨m0, k1, k2, c3, ts, k4, k5, b6, k7⟩, rfl, z1, z2, z4, z5, z7, hts⟩
end
end Go.Proofs.Ytngbminjbgomgaa
