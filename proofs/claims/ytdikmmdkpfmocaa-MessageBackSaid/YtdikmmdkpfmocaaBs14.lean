import Derived.Test.YtdikmmdkpfmocaaBs05
namespace Go.Proofs.Ytdikmmdkpfmocaa
open Go.RowKit Go.ChangeShapes Go.WideShapes Go.Deep
section
variable {α : Type} (enc : α → List Value) (k : Nat)
theorem fm_length (hk : ∀ x, (enc x).length = k) (l : List α) : (l.flatMap enc).length = l.length * k := by
  induction l with
  | nil => simp
  | cons a l ih => rw [List.flatMap_cons, List.length_append, ih, hk, List.length_cons, Nat.succ_mul, Nat.add_comm]
theorem fm_at (hk : ∀ x, (enc x).length = k) {l : List α} {i : Nat} {x : α} (h : l[i]? = some x) (j : Nat) (hj : j < k) : (l.flatMap enc)[i * k + j]? = (enc x)[j]? := by
  induction l generalizing i with
  | nil => simp at h
  | cons a l ih =>
    cases i with
    | zero =>
      simp at h
      subst h
      rw [List.flatMap_cons, List.getElem?_append_left (by rw [hk]; omega)]
      simp
    | succ i =>
      simp at h
      rw [List.flatMap_cons, List.getElem?_append_right (by rw [hk, Nat.succ_mul]; omega), ← ih h]
      congr 1
      rw [hk, Nat.succ_mul]
      omega
end
def Many {α : Type} (enc : α → List Value) (k : Nat) (w : World) (D : Nat → Prop) (v : Value) (l : List α) : Prop := Row w D v l.length k (l.flatMap enc)
theorem Many.keep {α : Type} {enc : α → List Value} {k : Nat} {w w' : World} {S D : Nat → Prop} {v : Value} {l : List α} (h : Many enc k w D v l) (kk : Keep S w w') (hs : ∀ i, i < w.heap.size → D i → ¬ S i) : Many enc k w' D v l := Row.keep h kk hs
theorem Many.mono {α : Type} {enc : α → List Value} {k : Nat} {w : World} {D D' : Nat → Prop} {v : Value} {l : List α} (h : Many enc k w D v l) (hD : ∀ i, i < w.heap.size → D i → D' i) : Many enc k w D' v l := Row.mono h hD
theorem Many.nil {α : Type} (enc : α → List Value) (k : Nat) (w : World) (D : Nat → Prop) : Many enc k w D (.slice none 0 0) [] := ⟨none, 0, rfl, Nat.le_refl _, Nat.zero_le _, fun _ => rfl, by simp, fun h => absurd h (by simp)⟩
theorem Many.shape {α : Type} {enc : α → List Value} {k : Nat} {w : World} {D : Nat → Prop} {v : Value} {l : List α} (h : Many enc k w D v l) : ∃ A c, v = .slice A l.length c := by
  obtain ⟨A, c, hv, _⟩ := h
  exact ⟨A, c, hv⟩
theorem Many.few {α : Type} {enc : α → List Value} {k : Nat} {w : World} {D : Nat → Prop} {v : Value} {l : List α} (h : Many enc k w D v l) : l.length ≤ maxLen := by
  obtain ⟨A, c, hv, h1, h2, _⟩ := h
  exact Nat.le_trans h1 h2
theorem Many.cell {α : Type} {enc : α → List Value} {k : Nat} {w : World} {D : Nat → Prop} {A : Option Addr} {c : Nat} {l : List α} (h : Many enc k w D (.slice A l.length c) l) (hk : ∀ x, (enc x).length = k) {i : Nat} {x : α} (hx : l[i]? = some x) :
    ∃ b o, A = some ⟨b, o, none⟩ ∧ b < w.heap.size ∧ D b ∧ ∀ j, j < k → w.cell? ⟨b, o + (i * k + j), none⟩ = (enc x)[j]? := by
  obtain ⟨A', c', hv', _, _, _, hlen, hrow⟩ := h
  obtain ⟨rfl, rfl⟩ : A = A' ∧ c = c' := by simpa using hv'
  have hlt := (List.getElem?_eq_some_iff.1 hx).1
  obtain ⟨ad, rfl, hsp, hblk, hD, hcell⟩ := hrow (by omega)
  obtain ⟨b, o, sp⟩ := ad
  simp only at hsp hblk hD hcell
  subst hsp
  refine ⟨b, o, rfl, hblk, hD, fun j hj => ?_⟩
  have hj' := hj
  rw [← hk x] at hj'
  have e := fm_at enc k hk hx j hj
  rw [List.getElem?_eq_getElem hj'] at e ⊢
  exact hcell _ _ e
section
variable {H : Type} {enc : TypeId × Value → H} {w : World}
set_option maxRecDepth 100000 in
theorem open_manyL {α : Type} (ec : α → List Value) (k : Nat) (hk : ∀ x, (ec x).length = k) (hk0 : 0 < k) (P : α → Prop) {t e : TypeId} (ht : Try.prog.underlying t = some (.slice e)) (hce : Try.prog.cellsOf e = k) {base : Nat} {held : Bool} {fuel : Nat} {v : Value} {x : DataW H × List MemPlace}
    (h : DataW.trod enc Try.prog w base (fun _ => true) held fuel t [v] = some x) (hw : Light t x.1)
    (hone : ∀ (cs : List Value) (n : Nat) (y : DataW H × List MemPlace), cs.length = k → DataW.trod enc Try.prog w base (fun _ => true) held n e cs = some y → Light e y.1 → ∃ a, cs = ec a ∧ P a) :
    ∃ l, Many ec k w (fun _ => True) v l ∧ (∀ a ∈ l, P a) ∧ l.length * Try.prog.bytesOf e ≤ reachBytes := by
  rcases open_elems ht h hw with rfl | ⟨a, len, cap, rfl, hl, hm, hby, hi⟩
  · exact ⟨[], Many.nil ec k w _, fun s hs => (by cases hs), by simp⟩
  · have key : ∀ i, i < len → ∃ y : α, (∀ j, j < k → w.cell? ((a.add (i * k)).add j) = (ec y)[j]?) ∧ P y := by
      intro i hil
      obtain ⟨cs, n, y, hlen, hat, htr, hli⟩ := hi i hil
      rw [hce] at hlen hat
      obtain ⟨z, rfl, hz⟩ := hone cs n y hlen htr hli
      exact ⟨z, fun j hj => hat j (by rw [hk]; exact hj), hz⟩
    obtain ⟨l, hbl, hb⟩ := list_of len (fun i (y : α) => (∀ j, j < k → w.cell? ((a.add (i * k)).add j) = (ec y)[j]?) ∧ P y) key
    refine ⟨l, ⟨some a, cap, by rw [hbl], by omega, hm, fun e => (by cases e), fm_length ec k hk l, fun h0 => ?_⟩, fun s hs => ?_, by rw [hbl]; exact hby⟩
    · have h00 := (hb 0 l[0] (List.getElem?_eq_getElem h0)).1 0 hk0
      have hz : (a.add (0 * k)).add 0 = a := by rw [Nat.zero_mul]; rfl
      rw [hz, List.getElem?_eq_getElem (by rw [hk]; exact hk0)] at h00
      have hsp := spot_of_cell h00
      refine ⟨a, rfl, hsp, block_of_cell h00, trivial, fun j y hj => ?_⟩
      have hjl := (List.getElem?_eq_some_iff.1 hj).1
      rw [fm_length ec k hk] at hjl
      have hdiv : j / k < l.length := (Nat.div_lt_iff_lt_mul hk0).2 hjl
      have hkk := List.getElem?_eq_getElem hdiv
      have e1 := (hb (j / k) _ hkk).1 (j % k) (Nat.mod_lt _ hk0)
      have e2 := fm_at ec k hk hkk (j % k) (Nat.mod_lt _ hk0)
      have hjk : j / k * k + j % k = j := Nat.div_add_mod' j k
      rw [add_add_at a _ _ hsp, hjk] at e1
      rw [hjk] at e2
      rw [e1, ← e2, hj]
    · obtain ⟨j, hj⟩ := List.getElem?_of_mem hs
      exact (hb j s hj).2
end
end Go.Proofs.Ytdikmmdkpfmocaa
