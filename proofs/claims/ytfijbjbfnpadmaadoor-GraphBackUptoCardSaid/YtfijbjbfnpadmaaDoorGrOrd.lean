/-
  Orders, plainly: each place once, behind all that it needs.
-/
import Derived.Test.YtfijbjbfnpadmaaDoorGrPlain
namespace Go.Proofs.YtfijbjbfnpadmaaDoor

/-- A list of places each of which stands behind what it needs, once. -/
def Ordered (nd : List (List Nat)) (l : List Nat) : Prop := ∀ (i p : Nat), l[i]? = some p → p < nd.length ∧ p ∉ l.take i ∧ ∀ n ∈ nd.getD p [], n ∈ l.take i

theorem Ordered.nil (nd : List (List Nat)) : Ordered nd [] := fun i p h => by simp at h
theorem Ordered.more {nd : List (List Nat)} {l : List Nat} {q : Nat} (h : Ordered nd l) (hq : nextOf nd l = some q) : Ordered nd (l ++ [q]) := by
  intro i p hp
  rcases Nat.lt_or_ge i l.length with hi | hi
  · rw [List.getElem?_append_left hi] at hp
    rw [List.take_append_of_le_length (by omega)]
    exact h i p hp
  · rw [List.getElem?_append_right hi] at hp
    have hi0 : i - l.length = 0 := by
      have := (List.getElem?_eq_some_iff.1 hp).1
      simp at this
      omega
    rw [hi0] at hp
    have hpq : q = p := by simpa using hp
    subst hpq
    have hil : i = l.length := by omega
    subst hil
    rw [List.take_left']
    · refine ⟨nextOf_lt hq, nextOf_new hq, fun n hn => ?_⟩
      have hok := nextOf_ok hq
      unfold okAt at hok
      rw [Bool.and_eq_true, List.all_eq_true] at hok
      have := hok.2 n hn
      rwa [List.contains_iff_mem] at this
    · rfl
theorem Ordered.steps {nd : List (List Nat)} (k : Nat) {l : List Nat} (h : Ordered nd l) : Ordered nd (stepsOf nd k l) := by
  induction k generalizing l with
  | zero => exact h
  | succ k ih =>
    simp only [stepsOf]
    cases hq : nextOf nd l with
    | none => exact h
    | some q => exact ih (h.more hq)
theorem Ordered.places (ps : List Pt) : Ordered (ps.map (needsOf ps)) (placesOf ps) := Ordered.steps _ (Ordered.nil _)
theorem Ordered.nodup {nd : List (List Nat)} {l : List Nat} (h : Ordered nd l) : l.Nodup := by
  rw [List.nodup_iff_pairwise_ne, List.pairwise_iff_getElem]
  intro i j hi hj hij e
  have := (h j l[j] (List.getElem?_eq_getElem hj)).2.1
  exact this (e ▸ List.mem_of_getElem? (i := i) (by rw [List.getElem?_take, if_pos hij]; exact List.getElem?_eq_getElem hi))
theorem Ordered.lt {nd : List (List Nat)} {l : List Nat} (h : Ordered nd l) : ∀ x ∈ l, x < nd.length := fun x hx => by
  obtain ⟨i, hi⟩ := List.getElem?_of_mem hx
  exact (h i x hi).1
theorem places_le (ps : List Pt) : (placesOf ps).length ≤ ps.length := by
  have h := Ordered.places ps
  have := nodup_le h.nodup h.lt
  simpa using this
theorem places_at {ps : List Pt} {i p : Nat} (h : (placesOf ps)[i]? = some p) : p < ps.length ∧ p ∉ (placesOf ps).take i ∧ ∀ n ∈ needsAt ps (p : Int), n ∈ (placesOf ps).take i := by
  obtain ⟨h1, h2, h3⟩ := Ordered.places ps i p h
  rw [List.length_map] at h1
  refine ⟨h1, h2, fun n hn => h3 n ?_⟩
  unfold needsAt at hn
  rw [if_pos (by omega), Int.toNat_natCast, List.getElem?_eq_getElem h1] at hn
  rw [List.getD_eq_getElem?_getD, List.getElem?_map, List.getElem?_eq_getElem h1]
  exact hn
end Go.Proofs.YtfijbjbfnpadmaaDoor
