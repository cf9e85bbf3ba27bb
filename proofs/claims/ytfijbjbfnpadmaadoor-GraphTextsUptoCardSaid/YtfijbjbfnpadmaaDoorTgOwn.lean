/-
  Targets that a call makes itself: rows of one's own (cut out of GrTurned's text, which holds them too: import not both).
-/
import Derived.Test.YtfijbjbfnpadmaaDoorTg
import Derived.Laws.OwnMore
namespace Go.Proofs.YtfijbjbfnpadmaaDoor
open Go.RowKit

theorem strinfo : (Tryd.prog.info? 9).map (fun i => (i.zero, i.size, i.bytes)) = some (some (.string ⟨#[]⟩), 1, 16) := by kernel_rfl
theorem tginfo : (Tryd.prog.info? 40).map (fun i => (i.zero, i.size, i.bytes)) = some (some (.agg #[.string ⟨#[]⟩, .string ⟨#[]⟩, .slice none 0 0]), 3, 56) := by kernel_rfl

/-- A target whose needs lie in a row of their own. -/
def heldT (base : Nat) (w : World) (t : Tg) : Prop := t.name.size ≤ maxLen ∧ t.cmd.size ≤ maxLen ∧ w.ownsRow base 9 1 t.nv t.needs.length (t.needs.map Value.string) ∧ ∀ s ∈ t.needs, s.size ≤ maxLen
theorem heldT.keep {base : Nat} {w w' : World} {t : Tg} {S : Nat → Prop} (h : heldT base w t) (k : Keep S w w') (hS : ∀ i, i < w.heap.size → S i → ∃ cs fz, w.heap[i]? = some (.cells cs 40 fz) ∨ w.heap[i]? = some (.cells cs 24 fz)) : heldT base w' t := by
  refine ⟨h.1, h.2.1, own_keep h.2.2.1 k (fun j hj hs => ?_), h.2.2.2⟩
  rcases h.2.2.1.2 with ⟨hv, _⟩ | ⟨g, cap, cur, hv, _, hg, _⟩
  · rw [hv] at hj
    cases hj
  · rw [hv] at hj
    have : g = j := by simpa [Value.ownBlock] using hj
    subst this
    obtain ⟨cs, fz, h1 | h1⟩ := hS g (Array.getElem?_eq_some_iff.1 hg).1 hs
    all_goals
      rw [hg] at h1
      injection h1 with h1
      injection h1 with _ h2
      exact absurd h2 (by decide)
theorem Tgs.of_held {w : World} {base : Nat} {v : Value} {ts : List Tg} (h : w.ownsRow base 40 3 v ts.length (ts.flatMap Tg.cells)) (hl : ∀ t ∈ ts, heldT base w t) : Tgs w (fun k => base ≤ k) v ts :=
  ⟨Row.of_own h, fun t ht => ⟨(hl t ht).1, (hl t ht).2.1, Row.of_own (hl t ht).2.2.1, (hl t ht).2.2.2⟩⟩

theorem cell_three_new (w : World) (x y z : Value) (t : TypeId) : ∀ j u, [x, y, z][j]? = some u → (w.alloc (.cells #[x, y, z] t)).cell? ((⟨w.heap.size, 0, none⟩ : Addr).add j) = some u := by
  intro j u hu
  have hb := Box.new w t #[x, y, z]
  rw [Addr.add]
  split
  · rename_i h0
    subst h0
    rw [hb.cell]
    simpa using hu
  · show (w.alloc (.cells #[x, y, z] t)).cell? ⟨w.heap.size, 0 + j, none⟩ = some u
    rw [Nat.zero_add, hb.cell]
    simpa using hu

theorem own_row {w : World} {base : Nat} {e : TypeId} {size : Nat} {v : Value} {n : Nat} {xs : List Value} (h : w.ownsRow base e size v n xs) {k : Nat} (hk : some k = v.ownBlock) : base ≤ k ∧ ∃ cs fz, w.heap[k]? = some (.cells cs e fz) := by
  rcases h.2 with ⟨rfl, _⟩ | ⟨g, cap, cur, rfl, hb, hg, _⟩
  · cases hk
  · have : k = g := by simpa [Value.ownBlock] using hk
    subst this
    exact ⟨hb, _, _, hg⟩

theorem own_base {w : World} {base base' : Nat} {e : TypeId} {size : Nat} {v : Value} {n : Nat} {xs : List Value} (h : w.ownsRow base e size v n xs) (hb : base' ≤ base) : w.ownsRow base' e size v n xs := by
  refine ⟨h.1, ?_⟩
  rcases h.2 with h0 | ⟨g, cap, cur, hv, hg, rest⟩
  · exact .inl h0
  · exact .inr ⟨g, cap, cur, hv, Nat.le_trans hb hg, rest⟩
theorem drop_rev {α : Type} {l : List α} {m : Nat} {x : α} (h : l[m]? = some x) : (l.drop m).reverse = (l.drop (m + 1)).reverse ++ [x] := by
  obtain ⟨hm, rfl⟩ := List.getElem?_eq_some_iff.1 h
  rw [List.drop_eq_getElem_cons hm, List.reverse_cons]

end Go.Proofs.YtfijbjbfnpadmaaDoor
