/-
  Along an order, plainly: what is reckoned of each place from what it needs.
-/
import Derived.Test.YtjfneckflddeeaaGrMath
namespace Go.Proofs.Ytjfneckflddeeaa

/-- Place after place of an order, each by what is known so far. -/
def runOf {α : Type} (f : List α → Nat → α) (l : List α) (order : List Nat) : List α := order.foldl (fun l p => l.set p (f l p)) l
theorem runOf_nil {α : Type} (f : List α → Nat → α) (l : List α) : runOf f l [] = l := rfl
theorem runOf_more {α : Type} (f : List α → Nat → α) (l : List α) (order : List Nat) (k p : Nat) (h : order[k]? = some p) : runOf f l (order.take (k + 1)) = (runOf f l (order.take k)).set p (f (runOf f l (order.take k)) p) := by
  unfold runOf
  rw [List.take_add_one, h, List.foldl_append]
  rfl
theorem runOf_snoc {α : Type} (f : List α → Nat → α) (l : List α) (order : List Nat) (p : Nat) : runOf f l (order ++ [p]) = (runOf f l order).set p (f (runOf f l order) p) := by
  unfold runOf
  rw [List.foldl_append]
  rfl
theorem runOf_length {α : Type} (f : List α → Nat → α) (l : List α) (order : List Nat) : (runOf f l order).length = l.length := by
  unfold runOf
  induction order generalizing l with
  | nil => rfl
  | cons p os ih => rw [List.foldl_cons, ih, List.length_set]
theorem runOf_all {α : Type} {Q : α → Prop} (f : List α → Nat → α) (l : List α) (order : List Nat) (hf : ∀ l p, Q (f l p)) (hl : ∀ x ∈ l, Q x) : ∀ x ∈ runOf f l order, Q x := by
  unfold runOf
  induction order generalizing l with
  | nil => exact hl
  | cons p os ih =>
    rw [List.foldl_cons]
    refine ih _ (fun x hx => ?_)
    rcases List.mem_or_eq_of_mem_set hx with h | h
    · exact hl x h
    · rw [h]
      exact hf _ _

/-- f looks only at what a place needs. -/
def Looks {α : Type} (nd : List (List Nat)) (f : List α → Nat → α) : Prop := ∀ (l m : List α) (p : Nat), (∀ n ∈ nd.getD p [], l[n]? = m[n]?) → f l p = f m p

/-- Each place of an order is as f has it of the whole. -/
theorem runOf_sol {α : Type} {nd : List (List Nat)} {f : List α → Nat → α} (hf : Looks nd f) {order : List Nat} (ho : Ordered nd order) (l : List α) (hl : l.length = nd.length) (k : Nat) :
    ∀ p ∈ order.take k, (runOf f l (order.take k))[p]? = some (f (runOf f l (order.take k)) p) := by
  induction k with
  | zero => intro p hp; simp at hp
  | succ k ih =>
    intro p hp
    cases hk : order[k]? with
    | none =>
      have e : order.take (k + 1) = order.take k := by rw [List.take_add_one, hk]; simp
      rw [e] at hp ⊢
      exact ih p hp
    | some q =>
      obtain ⟨hq1, hq2, hq3⟩ := ho k q hk
      rw [runOf_more f l order k q hk]
      have hlen : q < (runOf f l (order.take k)).length := by rw [runOf_length, hl]; exact hq1
      have hsame : ∀ r, r ∈ order.take k ∨ r = q → f ((runOf f l (order.take k)).set q (f (runOf f l (order.take k)) q)) r = f (runOf f l (order.take k)) r := by
        intro r hr
        refine hf _ _ _ (fun n hn => ?_)
        have hne : n ∈ order.take k := by
          rcases hr with hr | rfl
          · obtain ⟨i, hi⟩ := List.getElem?_of_mem hr
            rw [List.getElem?_take] at hi
            split at hi
            · rename_i hik
              have h3 := (ho i r hi).2.2 n hn
              exact List.take_subset_take_left order (Nat.le_of_lt hik) h3
            · cases hi
          · exact hq3 n hn
        rw [List.getElem?_set_ne]
        rintro rfl
        exact hq2 hne
      rw [List.take_add_one, hk] at hp
      rcases List.mem_append.1 hp with hp | hp
      · rw [hsame p (.inl hp), List.getElem?_set_ne, ih p hp]
        rintro rfl
        exact hq2 hp
      · have hpq : p = q := by simpa using hp
        subst hpq
        rw [hsame p (.inr rfl), List.getElem?_set_self hlen]

/-- Who is so at each place of an order is the same. -/
theorem sol_same {α : Type} {nd : List (List Nat)} {f : List α → Nat → α} (hf : Looks nd f) {order : List Nat} (ho : Ordered nd order) (l m : List α) (k : Nat)
    (hl : ∀ p ∈ order.take k, l[p]? = some (f l p)) (hm : ∀ p ∈ order.take k, m[p]? = some (f m p)) : ∀ p ∈ order.take k, l[p]? = m[p]? := by
  induction k with
  | zero => intro p hp; simp at hp
  | succ k ih =>
    intro p hp
    have hsub : ∀ r, r ∈ order.take k → r ∈ order.take (k + 1) := fun r hr => List.take_subset_take_left order (Nat.le_succ k) hr
    have hi := ih (fun r hr => hl r (hsub r hr)) (fun r hr => hm r (hsub r hr))
    rw [hl p hp, hm p hp]
    congr 1
    obtain ⟨i, hik⟩ := List.getElem?_of_mem hp
    rw [List.getElem?_take] at hik
    split at hik
    · rename_i hlt
      refine hf _ _ _ (fun n hn => hi n ?_)
      exact List.take_subset_take_left order (by omega) ((ho i p hik).2.2 n hn)
    · cases hik

/-- So many places, each once, are all. -/
theorem order_covers {order : List Nat} {n : Nat} (hd : order.Nodup) (hl : ∀ x ∈ order, x < n) (hn : order.length = n) : ∀ p, p < n → p ∈ order := by
  intro p hp
  refine Classical.byContradiction fun h => ?_
  have h1 : (p :: order).Nodup := List.nodup_cons.2 ⟨h, hd⟩
  have h2 := nodup_le (n := n) h1 (fun x hx => by
    rcases List.mem_cons.1 hx with rfl | hx
    · exact hp
    · exact hl x hx)
  rw [List.length_cons] at h2
  omega

theorem order_len {ps : List Pt} (h : grCheck ps = 0) : (grOrder ps).length = ps.length := by
  unfold grOrder
  rw [if_pos h]
  have h1 := (check_fits h).2.2.2
  have h2 := places_le ps
  omega
theorem order_none {ps : List Pt} (h : grCheck ps ≠ 0) : grOrder ps = [] := by
  unfold grOrder
  rw [if_neg h]
theorem order_is {ps : List Pt} (h : grCheck ps = 0) : grOrder ps = placesOf ps := by
  unfold grOrder
  rw [if_pos h]
theorem order_some {ps : List Pt} {i p : Nat} (h : (grOrder ps)[i]? = some p) : grCheck ps = 0 ∧ p < ps.length := by
  by_cases hq : grCheck ps = 0
  · rw [order_is hq] at h
    exact ⟨hq, (places_at h).1⟩
  · rw [order_none hq] at h
    simp at h
theorem order_32 (ps : List Pt) : (grOrder ps).length ≤ 32 := by
  by_cases hq : grCheck ps = 0
  · rw [order_len hq]
    have := (check_fits hq).1
    unfold grFits at this
    rw [Bool.and_eq_true, decide_eq_true_eq] at this
    exact this.1
  · rw [order_none hq]
    exact Nat.zero_le _
theorem needsAt_nd {ps : List Pt} {p : Nat} : (ps.map (needsOf ps)).getD p [] = needsAt ps (p : Int) := by
  unfold needsAt
  rw [if_pos (by omega), Int.toNat_natCast, List.getD_eq_getElem?_getD, List.getElem?_map]
theorem needsAt_lt {ps : List Pt} {p : Int} {n : Nat} (h : n ∈ needsAt ps p) : n < ps.length := by
  unfold needsAt at h
  split at h
  · cases hp : ps[p.toNat]? with
    | none => rw [hp] at h; simp at h
    | some q =>
      rw [hp] at h
      exact needsOf_lt h
  · simp at h
theorem needsAt_16 {ps : List Pt} {p : Nat} (h : grCheck ps = 0) : (needsAt ps (p : Int)).length ≤ 16 := by
  unfold needsAt
  rw [if_pos (by omega), Int.toNat_natCast]
  cases hp : ps[p]? with
  | none => simp
  | some q =>
    have h1 := (check_fits h).1
    unfold grFits at h1
    rw [Bool.and_eq_true, List.all_eq_true] at h1
    have h2 := h1.2 q (List.mem_of_getElem? hp)
    unfold ptFits at h2
    simp only [Bool.and_eq_true, decide_eq_true_eq] at h2
    exact Nat.le_trans (needsOf_le ps q) h2.2
theorem cmd_256 {ps : List Pt} {p : Nat} {q : Pt} (h : grCheck ps = 0) (hp : ps[p]? = some q) : q.cmd.size ≤ 256 := by
  have h1 := (check_fits h).1
  unfold grFits at h1
  rw [Bool.and_eq_true, List.all_eq_true] at h1
  have h2 := h1.2 q (List.mem_of_getElem? hp)
  unfold ptFits at h2
  simp only [Bool.and_eq_true, decide_eq_true_eq] at h2
  exact h2.1.2
/-- Along the order: what holds of a place if it holds of all that it needs holds of all places. -/
theorem by_order {ps : List Pt} (h : grCheck ps = 0) {Q : Nat → Prop} (hQ : ∀ p, p < ps.length → (∀ n ∈ needsAt ps (p : Int), Q n) → Q p) (p : Nat) (hp : p < ps.length) : Q p := by
  have ho := Ordered.places ps
  have hp' := order_covers ho.nodup (by simpa using ho.lt) (by rw [← order_is h, order_len h]) p hp
  have key : ∀ k, ∀ q ∈ (placesOf ps).take k, Q q := by
    intro k
    induction k with
    | zero => intro q hq; simp at hq
    | succ k ih =>
      intro q hq
      obtain ⟨i, hi⟩ := List.getElem?_of_mem hq
      rw [List.getElem?_take] at hi
      split at hi
      · rename_i hik
        have := ho i q hi
        refine hQ q (by simpa using this.1) (fun n hn => ih n ?_)
        rw [← needsAt_nd] at hn
        exact List.take_subset_take_left _ (by omega) (this.2.2 n hn)
      · cases hi
  exact key (placesOf ps).length p (by rw [List.take_length]; exact hp')
end Go.Proofs.Ytjfneckflddeeaa
