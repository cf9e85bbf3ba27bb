/-
  For the laws of layer 9: single cells of what is told.
-/
import Derived.Test.YtjfneckflddeeaaRyAlive
import Derived.Test.YtjfneckflddeeaaRyOpen
namespace Go.Proofs.Ytjfneckflddeeaa
open Go.RowKit

theorem Sts.cell {w : World} {D : Nat → Prop} {A : Option Addr} {c : Nat} {l : List Pst} (h : Sts w D (.slice A l.length c) l) {k : Nat} {x : Pst} (hk : l[k]? = some x) :
    ∃ b o, A = some ⟨b, o, none⟩ ∧ b < w.heap.size ∧ D b ∧ w.cell? ⟨b, o + k * 3, none⟩ = some (.int .i64 x.s) ∧ w.cell? ⟨b, o + k * 3 + 1, none⟩ = some (.int .u64 x.t) ∧ w.cell? ⟨b, o + k * 3 + 2, none⟩ = some (.int .u64 x.u) := by
  obtain ⟨A', c', hv', _, _, _, _, hrow⟩ := h
  obtain ⟨rfl, rfl⟩ : A = A' ∧ c = c' := by simpa using hv'
  have hlt := (List.getElem?_eq_some_iff.1 hk).1
  obtain ⟨ad, rfl, hsp, hblk, hD, hcell⟩ := hrow (by omega)
  obtain ⟨b, o, sp⟩ := ad
  simp only at hsp hblk hD hcell
  subst hsp
  obtain ⟨c0, c1, c2⟩ := sts_at (S := noneOf) (Keep.refl noneOf w) hblk id hcell hk
  exact ⟨b, o, rfl, hblk, hD, c0, c1, c2⟩
theorem Ints.cell {w : World} {D : Nat → Prop} {A : Option Addr} {c : Nat} {ns : List Nat} (h : Ints w D (.slice A ns.length c) ns) {k n : Nat} (hk : ns[k]? = some n) :
    ∃ b o, A = some ⟨b, o, none⟩ ∧ b < w.heap.size ∧ D b ∧ w.cell? ⟨b, o + k, none⟩ = some (.int .i64 (n : Int)) := by
  obtain ⟨A', c', hv', _, _, _, _, hrow⟩ := h
  obtain ⟨rfl, rfl⟩ : A = A' ∧ c = c' := by simpa using hv'
  have hlt := (List.getElem?_eq_some_iff.1 hk).1
  obtain ⟨ad, rfl, hsp, hblk, hD, hcell⟩ := hrow (by omega)
  obtain ⟨b, o, sp⟩ := ad
  simp only at hsp hblk hD hcell
  subst hsp
  exact ⟨b, o, rfl, hblk, hD, hcell k _ (by rw [List.getElem?_map, hk]; rfl)⟩
theorem Sts.of_own {w : World} {base : Nat} {e : TypeId} {v : Value} {l : List Pst} (h : w.ownsRow base e 3 v l.length (l.flatMap Pst.cells)) : Sts w (fun k => base ≤ k) v l := Row.of_own h
theorem Sts.lim {w : World} {D : Nat → Prop} {A : Option Addr} {n c : Nat} {l : List Pst} (h : Sts w D (.slice A n c) l) : n = l.length ∧ n ≤ c ∧ c ≤ maxLen := by
  obtain ⟨A', c', hv', h1, h2, _⟩ := h
  obtain ⟨rfl, rfl, rfl⟩ : A = A' ∧ n = l.length ∧ c = c' := by simpa using hv'
  exact ⟨rfl, h1, h2⟩
end Go.Proofs.Ytjfneckflddeeaa
