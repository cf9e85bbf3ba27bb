import Derived.Test.YtdikmmdkpfmocaaRows
import Derived.ChangeOld
import Derived.Deep.Slices
import Derived.OpenShut
import Derived.ProofKit
import Derived.SizedLaws
import Derived.Test.YtdikmmdkpfmocaaBs01
namespace Go.Proofs.Ytdikmmdkpfmocaa
open Go.RowKit Go.ChangeShapes Go.WideShapes Go.Deep
def Row (w : World) (D : Nat → Prop) (v : Value) (n size : Nat) (xs : List Value) : Prop :=
  ∃ (A : Option Addr) (c : Nat), v = .slice A n c ∧ n ≤ c ∧ c ≤ maxLen ∧ (A = none → c = 0) ∧ xs.length = n * size ∧
    (0 < n → ∃ ad : Addr, A = some ad ∧ ad.spot = none ∧ ad.block < w.heap.size ∧ D ad.block ∧ ∀ j x, xs[j]? = some x → w.cell? ⟨ad.block, ad.off + j, none⟩ = some x)
theorem Row.keep {w w' : World} {S D : Nat → Prop} {v : Value} {n size : Nat} {xs : List Value} (h : Row w D v n size xs) (k : Keep S w w') (hs : ∀ i, i < w.heap.size → D i → ¬ S i) : Row w' D v n size xs := by
  obtain ⟨A, c, hv, hl, hm, hn, hx, hc⟩ := h
  refine ⟨A, c, hv, hl, hm, hn, hx, fun h0 => ?_⟩
  obtain ⟨ad, hA, hsp, hlt, hD, hcell⟩ := hc h0
  exact ⟨ad, hA, hsp, Nat.lt_of_lt_of_le hlt k.size, hD, fun j b hb => (k.cell (p := ⟨ad.block, ad.off + j, none⟩) hlt (hs _ hlt hD)).trans (hcell j b hb)⟩
theorem Row.mono {w : World} {D D' : Nat → Prop} {v : Value} {n size : Nat} {xs : List Value} (h : Row w D v n size xs) (hD : ∀ i, i < w.heap.size → D i → D' i) : Row w D' v n size xs := by
  obtain ⟨A, c, hv, hl, hm, hn, hx, hc⟩ := h
  refine ⟨A, c, hv, hl, hm, hn, hx, fun h0 => ?_⟩
  obtain ⟨ad, hA, hsp, hlt, hd, hcell⟩ := hc h0
  exact ⟨ad, hA, hsp, hlt, hD _ hlt hd, hcell⟩
section
variable {H : Type} {enc : TypeId × Value → H} {w : World} {base : Nat} {held : Bool}
theorem add_at (a : Addr) (h : a.spot = none) (j : Nat) : a.add j = ⟨a.block, a.off + j, none⟩ := by
  obtain ⟨b, o, sp⟩ := a
  simp only at h
  subst h
  unfold Addr.add
  split
  · rename_i h0; subst h0; rfl
  · rfl
theorem spot_of_cell {a : Addr} {v : Value} (h : w.cell? a = some v) : a.spot = none := by
  unfold World.cell? at h
  split at h
  · split at h
    · cases h
    · rename_i hs
      cases hsp : a.spot with
      | none => rfl
      | some _ => rw [hsp] at hs; simp at hs
  · cases h
theorem block_of_cell {a : Addr} {v : Value} (h : w.cell? a = some v) : a.block < w.heap.size := World.block_lt_of_cell? w a h
theorem list_of {α : Type} (n : Nat) (R : Nat → α → Prop) (h : ∀ i, i < n → ∃ x, R i x) : ∃ l : List α, l.length = n ∧ ∀ i x, l[i]? = some x → R i x := by
  induction n with
  | zero => exact ⟨[], rfl, fun i x hx => by simp at hx⟩
  | succ n ih =>
    obtain ⟨l, hl, hr⟩ := ih (fun i hi => h i (by omega))
    obtain ⟨y, hy⟩ := h n (by omega)
    refine ⟨l ++ [y], by simp [hl], fun i x hx => ?_⟩
    rcases Nat.lt_or_ge i n with hi | hi
    · rw [List.getElem?_append_left (by omega)] at hx
      exact hr i x hx
    · rw [List.getElem?_append_right (by omega), hl] at hx
      have hi' : i = n := by
        have := (List.getElem?_eq_some_iff.1 hx).1
        simp at this
        omega
      subst hi'
      simp at hx
      subst hx
      exact hy
def Light (t : TypeId) (d : DataW H) : Prop := ∀ n ∈ d.weights Try.prog t, n ≤ reachBytes
theorem weightsAll_mem {P : Program} {e : TypeId} : ∀ {ds : List (DataW H)} {d : DataW H}, d ∈ ds → ∀ n ∈ d.weights P e, n ∈ DataW.weightsAll P e ds
  | d0 :: ds, d, hd, n, hn => by
    simp only [DataW.weightsAll, List.mem_append]
    rcases List.mem_cons.1 hd with rfl | hd
    · exact .inl hn
    · exact .inr (weightsAll_mem hd n hn)
theorem open_elems {t e : TypeId} {fuel : Nat} {v : Value} {x : DataW H × List MemPlace} (ht : Try.prog.underlying t = some (.slice e)) (h : DataW.trod enc Try.prog w base (fun _ => true) held fuel t [v] = some x) (hw : Light t x.1) :
    v = .slice none 0 0 ∨ ∃ (a : Addr) (len cap : Nat), v = .slice (some a) len cap ∧ len ≤ cap ∧ cap ≤ maxLen ∧ len * Try.prog.bytesOf e ≤ reachBytes ∧
      ∀ i, i < len → ∃ (cs : List Value) (n : Nat) (y : DataW H × List MemPlace), cs.length = Try.prog.cellsOf e ∧ (∀ j, j < cs.length → w.cell? ((a.add (i * Try.prog.cellsOf e)).add j) = cs[j]?) ∧ DataW.trod enc Try.prog w base (fun _ => true) held n e cs = some y ∧ Light e y.1 := by
  rcases open_slice ht h with ⟨hcs, _⟩ | ⟨a, len, cap, m, n, D, Pl, hcs, _, hl, hm, hmm, hx, hi⟩
  · left
    simpa using hcs
  · right
    subst hx
    refine ⟨a, len, cap, by simpa using hcs, hl, hm, ?_, fun i hil => ?_⟩
    · have := hw ((((List.range len).map D).length + ((List.range (m - len)).map fun j => D (len + j)).length) * Try.prog.bytesOf e) (by simp [DataW.weights, ht])
      simp only [List.length_map, List.length_range] at this
      exact Nat.le_trans (Nat.mul_le_mul_right _ (Nat.le_add_right _ _)) this
    · obtain ⟨cs', hc, htr⟩ := hi i (by rw [hmm]; simp; omega)
      obtain ⟨_, hlen, hat⟩ := World.cells?_some hc
      refine ⟨cs', n, _, hlen, fun j hj => hat j (by omega), htr, fun k hk => hw k ?_⟩
      have hmem := weightsAll_mem (List.mem_map.2 ⟨i, List.mem_range.2 hil, rfl⟩ : D i ∈ (List.range len).map D) k hk
      simp only [DataW.weights, ht, List.mem_cons, List.mem_append]
      exact .inr (.inl hmem)
theorem add_add_at (a : Addr) (i j : Nat) (h : a.spot = none) : (a.add i).add j = ⟨a.block, a.off + (i + j), none⟩ := by
  rw [add_at a h i, add_at _ rfl j]
  simp [Nat.add_assoc]
theorem light_arg {ts : List TypeId} {ds : List (DataW H)} (h : (DataW.weightsEach Try.prog ts ds).all (· ≤ reachBytes) = true) {j : Nat} {t : TypeId} {d : DataW H} (ht : ts[j]? = some t) (hd : ds[j]? = some d) : Light t d := fun n hn => by
  have := List.all_eq_true.1 h n (DataW.weights_mem_each ht hd n hn)
  simpa using this
end
theorem own : ownKnob Try.prog.godebug = none := by kernel_rfl
theorem laidOut : laidOutB Try.prog = true := by kernel_rfl
end Go.Proofs.Ytdikmmdkpfmocaa
