import Derived.ChangeOld
import Derived.Deep.Slices
import Derived.OpenShut
import Derived.ProofKit
import Derived.SizedLaws
import Derived.Test.YtkoikmdmejhhhaaGreatBs01
namespace Go.Proofs.YtkoikmdmejhhhaaGreat
open Go.RowKit Go.ChangeShapes Go.WideShapes Go.Deep
section
variable {H : Type} {enc : TypeId × Value → H} {w : World} {base : Nat} {held : Bool}
theorem add_at (a : Addr) (h : a.spot = none) (j : Nat) : a.add j = ⟨a.block, a.off + j, none⟩ := by
  obtain ⟨b, o, sp⟩ := a
  simp only at h
  subst h
  unfold Addr.add
  split
  · rename_i h0; subst h0; rfl
  · rfl
theorem spot_of_cell {a : Addr} {v : Value} (h : w.cell? a = some v) : a.spot = none := by
  unfold World.cell? at h
  split at h
  · split at h
    · cases h
    · rename_i hs
      cases hsp : a.spot with
      | none => rfl
      | some _ => rw [hsp] at hs; simp at hs
  · cases h
theorem block_of_cell {a : Addr} {v : Value} (h : w.cell? a = some v) : a.block < w.heap.size := World.block_lt_of_cell? w a h
theorem list_of {α : Type} (n : Nat) (R : Nat → α → Prop) (h : ∀ i, i < n → ∃ x, R i x) : ∃ l : List α, l.length = n ∧ ∀ i x, l[i]? = some x → R i x := by
  induction n with
  | zero => exact ⟨[], rfl, fun i x hx => by simp at hx⟩
  | succ n ih =>
    obtain ⟨l, hl, hr⟩ := ih (fun i hi => h i (by omega))
    obtain ⟨y, hy⟩ := h n (by omega)
    refine ⟨l ++ [y], by simp [hl], fun i x hx => ?_⟩
    rcases Nat.lt_or_ge i n with hi | hi
    · rw [List.getElem?_append_left (by omega)] at hx
      exact hr i x hx
    · rw [List.getElem?_append_right (by omega), hl] at hx
      have hi' : i = n := by
        have := (List.getElem?_eq_some_iff.1 hx).1
        simp at this
        omega
      subst hi'
      simp at hx
      subst hx
      exact hy
def Light (t : TypeId) (d : DataW H) : Prop := ∀ n ∈ d.weights Tryz.prog t, n ≤ reachBytes
theorem weightsAll_mem {P : Program} {e : TypeId} : ∀ {ds : List (DataW H)} {d : DataW H}, d ∈ ds → ∀ n ∈ d.weights P e, n ∈ DataW.weightsAll P e ds
  | d0 :: ds, d, hd, n, hn => by
    simp only [DataW.weightsAll, List.mem_append]
    rcases List.mem_cons.1 hd with rfl | hd
    · exact .inl hn
    · exact .inr (weightsAll_mem hd n hn)
theorem open_elems {t e : TypeId} {fuel : Nat} {v : Value} {x : DataW H × List MemPlace} (ht : Tryz.prog.underlying t = some (.slice e)) (h : DataW.trod enc Tryz.prog w base (fun _ => true) held fuel t [v] = some x) (hw : Light t x.1) :
    v = .slice none 0 0 ∨ ∃ (a : Addr) (len cap : Nat), v = .slice (some a) len cap ∧ len ≤ cap ∧ cap ≤ maxLen ∧ len * Tryz.prog.bytesOf e ≤ reachBytes ∧
      ∀ i, i < len → ∃ (cs : List Value) (n : Nat) (y : DataW H × List MemPlace), cs.length = Tryz.prog.cellsOf e ∧ (∀ j, j < cs.length → w.cell? ((a.add (i * Tryz.prog.cellsOf e)).add j) = cs[j]?) ∧ DataW.trod enc Tryz.prog w base (fun _ => true) held n e cs = some y ∧ Light e y.1 := by
  rcases open_slice ht h with ⟨hcs, _⟩ | ⟨a, len, cap, m, n, D, Pl, hcs, _, hl, hm, hmm, hx, hi⟩
  · left
    simpa using hcs
  · right
    subst hx
    refine ⟨a, len, cap, by simpa using hcs, hl, hm, ?_, fun i hil => ?_⟩
    · have := hw ((((List.range len).map D).length + ((List.range (m - len)).map fun j => D (len + j)).length) * Tryz.prog.bytesOf e) (by simp [DataW.weights, ht])
      simp only [List.length_map, List.length_range] at this
      exact Nat.le_trans (Nat.mul_le_mul_right _ (Nat.le_add_right _ _)) this
    · obtain ⟨cs', hc, htr⟩ := hi i (by rw [hmm]; simp; omega)
      obtain ⟨_, hlen, hat⟩ := World.cells?_some hc
      refine ⟨cs', n, _, hlen, fun j hj => hat j (by omega), htr, fun k hk => hw k ?_⟩
      have hmem := weightsAll_mem (List.mem_map.2 ⟨i, List.mem_range.2 hil, rfl⟩ : D i ∈ (List.range len).map D) k hk
      simp only [DataW.weights, ht, List.mem_cons, List.mem_append]
      exact .inr (.inl hmem)
theorem add_add_at (a : Addr) (i j : Nat) (h : a.spot = none) : (a.add i).add j = ⟨a.block, a.off + (i + j), none⟩ := by
  rw [add_at a h i, add_at _ rfl j]
  simp [Nat.add_assoc]
theorem open_strs' {fuel : Nat} {v : Value} {x : DataW H × List MemPlace} (h : DataW.trod enc Tryz.prog w base (fun _ => true) held fuel 66 [v] = some x) (hw : Light 66 x.1) : ∃ ss, Strs w (fun _ => True) v ss ∧ ss.length * 16 ≤ reachBytes := by
  rcases open_elems Tryz.underlying66 h hw with rfl | ⟨a, len, cap, rfl, hl, hm, hby, hi⟩
  · exact ⟨[], ⟨⟨none, 0, rfl, Nat.le_refl _, Nat.zero_le _, fun _ => rfl, rfl, fun h => absurd h (by simp)⟩, fun s hs => by cases hs⟩, by simp⟩
  · have hc1 : Tryz.prog.cellsOf 9 = 1 := by kernel_rfl
    have key : ∀ i, i < len → ∃ s : ByteArray, w.cell? (a.add i) = some (.string s) ∧ s.size ≤ maxLen := by
      intro i hil
      obtain ⟨cs, n, y, hlen, hat, htr, _⟩ := hi i hil
      obtain ⟨s, rfl, _, hsz⟩ := DataW.trod_string Tryz.underlying9 htr
      have := hat 0 (by simp)
      rw [hc1, Nat.mul_one] at this
      exact ⟨s, this, hsz⟩
    obtain ⟨ss, hbl, hb⟩ := list_of len (fun i s => w.cell? (a.add i) = some (.string s) ∧ s.size ≤ maxLen) key
    have hB : Tryz.prog.bytesOf 9 = 16 := by kernel_rfl
    refine ⟨ss, ⟨⟨some a, cap, by rw [hbl], by omega, hm, fun e => (by cases e), by simp, fun h0 => ?_⟩, fun s hs => ?_⟩, by rw [hbl, ← hB]; exact hby⟩
    · have h00 := (hb 0 ss[0] (List.getElem?_eq_getElem h0)).1
      have hz : a.add 0 = a := rfl
      rw [hz] at h00
      have hsp := spot_of_cell h00
      refine ⟨a, rfl, hsp, block_of_cell h00, trivial, fun j x hj => ?_⟩
      rw [List.getElem?_map] at hj
      cases hsj : ss[j]? with
      | none => rw [hsj] at hj; cases hj
      | some s =>
        rw [hsj] at hj
        have := (hb j s hsj).1
        rw [add_at a hsp] at this
        rw [this]
        simpa using hj
    · obtain ⟨j, hj⟩ := List.getElem?_of_mem hs
      exact (hb j s hj).2
set_option maxRecDepth 100000 in
theorem open_tgs {fuel : Nat} {v : Value} {x : DataW H × List MemPlace} (h : DataW.trod enc Tryz.prog w base (fun _ => true) held fuel 33 [v] = some x) (hw : Light 33 x.1) : ∃ ts, Tgs w (fun _ => True) v ts ∧ ts.length * 56 ≤ reachBytes ∧ ∀ t ∈ ts, t.needs.length * 16 ≤ reachBytes := by
  rcases open_elems Tryz.underlying33 h hw with rfl | ⟨a, len, cap, rfl, hl, hm, hby, hi⟩
  · exact ⟨[], ⟨⟨none, 0, rfl, Nat.le_refl _, Nat.zero_le _, fun _ => rfl, rfl, fun h => absurd h (by simp)⟩, fun s hs => by cases hs⟩, by simp, fun t ht => by cases ht⟩
  · have hc3 : Tryz.prog.cellsOf 68 = 3 := by kernel_rfl
    have o1 : Tryz.prog.cellsOf 9 = 1 := by kernel_rfl
    have o2 : Tryz.prog.cellsOf 66 = 1 := by kernel_rfl
    have key : ∀ i, i < len → ∃ t : Tg, (∀ j, j < 3 → w.cell? ((a.add (i * 3)).add j) = t.cells[j]?) ∧ t.lies w (fun _ => True) ∧ t.needs.length * 16 ≤ reachBytes := by
      intro i hil
      obtain ⟨cs, n, y, hlen, hat, htr, hlight⟩ := hi i hil
      rw [hc3] at hlen hat
      obtain ⟨xs, m, _, hy, _, hxl, hf⟩ := DataW.trod_struct Tryz.underlying68 htr
      match cs, hlen with
      | [c0, c1, c2], _ =>
        have g0 := hf 0 _ rfl
        have g1 := hf 1 _ rfl
        have g2 := hf 2 _ rfl
        match xs, hxl with
        | [x0, x1, x2], _ =>
          simp [o1, o2] at g0 g1 g2
          obtain ⟨s0, e0, _, z0⟩ := DataW.trod_string Tryz.underlying9 g0
          obtain ⟨s1, e1, _, z1⟩ := DataW.trod_string Tryz.underlying9 g1
          have hl2 : Light 66 x2.1 := fun k hk => hlight k (by
            rw [hy]
            simp only [DataW.weights, Tryz.underlying68]
            exact DataW.weights_mem_each (j := 2) (t := 66) (d := x2.1) rfl rfl k hk)
          obtain ⟨ss, hss, hsl⟩ := open_strs' g2 hl2
          simp at e0 e1
          subst e0 e1
          exact ⟨⟨s0, s1, c2, ss⟩, fun j hj => hat j (by simpa using hj), ⟨z0, z1, hss⟩, hsl⟩
    obtain ⟨ts, hbl, hb⟩ := list_of len (fun i (t : Tg) => (∀ j, j < 3 → w.cell? ((a.add (i * 3)).add j) = t.cells[j]?) ∧ t.lies w (fun _ => True) ∧ t.needs.length * 16 ≤ reachBytes) key
    have hB : Tryz.prog.bytesOf 68 = 56 := by kernel_rfl
    refine ⟨ts, ⟨⟨some a, cap, by rw [hbl], by omega, hm, fun e => (by cases e), ?_, fun h0 => ?_⟩, fun t ht => ?_⟩, by rw [hbl, ← hB]; exact hby, fun t ht => ?_⟩
    · rw [cells_length]
    · have h00 := (hb 0 ts[0] (List.getElem?_eq_getElem h0)).1 0 (by decide)
      have hz : (a.add (0 * 3)).add 0 = a := rfl
      rw [hz] at h00
      have h01 : w.cell? a = some (.string ts[0].name) := h00
      have hsp := spot_of_cell h01
      refine ⟨a, rfl, hsp, block_of_cell h01, trivial, fun j x hj => ?_⟩
      have hjl := (List.getElem?_eq_some_iff.1 hj).1
      have hjl' : j < 3 * ts.length := by
        rw [cells_length] at hjl
        omega
      have hdiv : j / 3 < ts.length := by omega
      have hk := List.getElem?_eq_getElem hdiv
      have e1 := (hb (j / 3) _ hk).1 (j % 3) (Nat.mod_lt _ (by decide))
      rw [add_add_at a _ _ hsp, show j / 3 * 3 + j % 3 = j from by omega] at e1
      have e2 := cells_at hk (j % 3) (Nat.mod_lt _ (by decide))
      rw [show 3 * (j / 3) + j % 3 = j from by omega] at e2
      rw [e1, ← e2, hj]
    · obtain ⟨j, hj⟩ := List.getElem?_of_mem ht
      exact (hb j t hj).2.1
    · obtain ⟨j, hj⟩ := List.getElem?_of_mem ht
      exact (hb j t hj).2.2
theorem light_arg {ts : List TypeId} {ds : List (DataW H)} (h : (DataW.weightsEach Tryz.prog ts ds).all (· ≤ reachBytes) = true) {j : Nat} {t : TypeId} {d : DataW H} (ht : ts[j]? = some t) (hd : ds[j]? = some d) : Light t d := fun n hn => by
  have := List.all_eq_true.1 h n (DataW.weights_mem_each ht hd n hn)
  simpa using this
end
theorem own : ownKnob Tryz.prog.godebug = none := by kernel_rfl
theorem laidOut : laidOutB Tryz.prog = true := by kernel_rfl
end Go.Proofs.YtkoikmdmejhhhaaGreat
