/-
  Texts of the queue, merged: only what QueueTime wants.
-/
import Derived.Test.YtkoikmdmejhhhaaBt02
import Derived.Test.YtkoikmdmejhhhaaBt07
namespace Go.Proofs.Ytkoikmdmejhhhaa
def Ordered (nd : List (List Nat)) (l : List Nat) : Prop := ∀ (i p : Nat), l[i]? = some p → p < nd.length ∧ p ∉ l.take i ∧ ∀ n ∈ nd.getD p [], n ∈ l.take i
theorem Ordered.nil (nd : List (List Nat)) : Ordered nd [] := fun i p h => by simp at h
theorem Ordered.more {nd : List (List Nat)} {l : List Nat} {q : Nat} (h : Ordered nd l) (hq : nextOf nd l = some q) : Ordered nd (l ++ [q]) := by
  intro i p hp
  rcases Nat.lt_or_ge i l.length with hi | hi
  · rw [List.getElem?_append_left hi] at hp
    rw [List.take_append_of_le_length (by omega)]
    exact h i p hp
  · rw [List.getElem?_append_right hi] at hp
    have hi0 : i - l.length = 0 := by
      have := (List.getElem?_eq_some_iff.1 hp).1
      simp at this
      omega
    rw [hi0] at hp
    have hpq : q = p := by simpa using hp
    subst hpq
    have hil : i = l.length := by omega
    subst hil
    rw [List.take_left']
    · refine ⟨nextOf_lt hq, nextOf_new hq, fun n hn => ?_⟩
      have hok := nextOf_ok hq
      unfold okAt at hok
      rw [Bool.and_eq_true, List.all_eq_true] at hok
      have := hok.2 n hn
      rwa [List.contains_iff_mem] at this
    · rfl
theorem Ordered.steps {nd : List (List Nat)} (k : Nat) {l : List Nat} (h : Ordered nd l) : Ordered nd (stepsOf nd k l) := by
  induction k generalizing l with
  | zero => exact h
  | succ k ih =>
    simp only [stepsOf]
    cases hq : nextOf nd l with
    | none => exact h
    | some q => exact ih (h.more hq)
theorem Ordered.places (ps : List Pt) : Ordered (ps.map (needsOf ps)) (placesOf ps) := Ordered.steps _ (Ordered.nil _)
theorem Ordered.nodup {nd : List (List Nat)} {l : List Nat} (h : Ordered nd l) : l.Nodup := by
  rw [List.nodup_iff_pairwise_ne, List.pairwise_iff_getElem]
  intro i j hi hj hij e
  have := (h j l[j] (List.getElem?_eq_getElem hj)).2.1
  exact this (e ▸ List.mem_of_getElem? (i := i) (by rw [List.getElem?_take, if_pos hij]; exact List.getElem?_eq_getElem hi))
theorem Ordered.lt {nd : List (List Nat)} {l : List Nat} (h : Ordered nd l) : ∀ x ∈ l, x < nd.length := fun x hx => by
  obtain ⟨i, hi⟩ := List.getElem?_of_mem hx
  exact (h i x hi).1
theorem places_le (ps : List Pt) : (placesOf ps).length ≤ ps.length := by
  have h := Ordered.places ps
  have := nodup_le h.nodup h.lt
  simpa using this
theorem places_at {ps : List Pt} {i p : Nat} (h : (placesOf ps)[i]? = some p) : p < ps.length ∧ p ∉ (placesOf ps).take i ∧ ∀ n ∈ needsAt ps (p : Int), n ∈ (placesOf ps).take i := by
  obtain ⟨h1, h2, h3⟩ := Ordered.places ps i p h
  rw [List.length_map] at h1
  refine ⟨h1, h2, fun n hn => h3 n ?_⟩
  unfold needsAt at hn
  rw [if_pos (by omega), Int.toNat_natCast, List.getElem?_eq_getElem h1] at hn
  rw [List.getD_eq_getElem?_getD, List.getElem?_map, List.getElem?_eq_getElem h1]
  exact hn
end Go.Proofs.Ytkoikmdmejhhhaa
namespace Go.Proofs.Ytkoikmdmejhhhaa
def namesOk (ps : List Pt) : Prop := ∀ (k : Nat) (p : Pt), ps[k]? = some p → findIx ps p.name = some k
theorem namesOk_iff (ps : List Pt) : namesOk ps ↔ (ps.map Pt.name).Nodup := by
  constructor
  · intro h
    rw [List.nodup_iff_pairwise_ne, List.pairwise_iff_getElem]
    intro i j hi hj hij e
    simp only [List.length_map] at hi hj
    rw [List.getElem_map, List.getElem_map] at e
    have h1 := h i _ (List.getElem?_eq_getElem hi)
    have h2 := h j _ (List.getElem?_eq_getElem hj)
    rw [e, h2] at h1
    injection h1 with h1
    omega
  · intro h k p hk
    refine findIx_some hk rfl (fun j q hj hq e => ?_)
    rw [List.nodup_iff_pairwise_ne, List.pairwise_iff_getElem] at h
    obtain ⟨hk1, hk2⟩ := List.getElem?_eq_some_iff.1 hk
    obtain ⟨hj1, hj2⟩ := List.getElem?_eq_some_iff.1 hq
    have := h j k (by simpa using hj1) (by simpa using hk1) hj
    rw [List.getElem_map, List.getElem_map, hk2, hj2] at this
    exact this e
def needsOk (ps : List Pt) : Prop := ∀ p ∈ ps, ∀ m ∈ p.needs, ∃ q ∈ ps, q.name = m
theorem findIx_mem {ps : List Pt} {q : Pt} (h : q ∈ ps) : ∃ k, findIx ps q.name = some k := by
  obtain ⟨k, hk⟩ := List.getElem?_of_mem h
  exact findIx_there hk
theorem grClosed_iff (ps : List Pt) : grClosed ps = true ↔ needsOk ps := by
  unfold grClosed
  rw [List.all_eq_true]
  constructor
  · intro h p hp m hm
    have h1 := of_decide_eq_true (h p hp)
    unfold needsOf at h1
    have h2 := List.filterMap_length_eq_length.1 h1 m hm
    obtain ⟨k, hk⟩ := Option.isSome_iff_exists.1 h2
    obtain ⟨q, hq, rfl⟩ := findIx_name hk
    exact ⟨q, List.mem_of_getElem? hq, rfl⟩
  · intro h p hp
    refine decide_eq_true ?_
    unfold needsOf
    refine List.filterMap_length_eq_length.2 (fun m hm => ?_)
    obtain ⟨q, hq, rfl⟩ := h p hp m hm
    obtain ⟨k, hk⟩ := findIx_mem hq
    rw [hk]
    rfl
def alone (p : Pt) : Prop := isNameB p.name = true ∧ isCmdB p.cmd = true ∧ p.needs.Nodup
theorem grFormed_iff (ps : List Pt) : grFormed ps = true ↔ ps ≠ [] ∧ namesOk ps ∧ ∀ p ∈ ps, alone p := by
  unfold grFormed
  rw [Bool.and_eq_true, decide_eq_true_eq, List.all_eq_true]
  constructor
  · rintro ⟨h0, h⟩
    have key : ∀ (k : Nat) (p : Pt), ps[k]? = some p → findIx ps p.name = some k ∧ alone p := fun k p hk => by
      have h1 := h k (by simpa using (List.getElem?_eq_some_iff.1 hk).1)
      rw [hk] at h1
      have h2 : ptFormed ps k p = true := h1
      unfold ptFormed at h2
      rw [Bool.and_eq_true, Bool.and_eq_true, Bool.and_eq_true, decide_eq_true_eq, decide_eq_true_eq] at h2
      exact ⟨h2.1.1.1, h2.1.1.2, h2.1.2, h2.2⟩
    refine ⟨h0, fun k p hk => (key k p hk).1, fun p hp => ?_⟩
    obtain ⟨k, hk⟩ := List.getElem?_of_mem hp
    exact (key k p hk).2
  · rintro ⟨h0, h1, h2⟩
    refine ⟨h0, fun k hk => ?_⟩
    have hk' : k < ps.length := by simpa using hk
    rw [List.getElem?_eq_getElem hk']
    show ptFormed ps k ps[k] = true
    obtain ⟨a1, a2, a3⟩ := h2 ps[k] (List.getElem_mem hk')
    unfold ptFormed
    rw [h1 k _ (List.getElem?_eq_getElem hk'), a1, a2]
    simpa using a3
structure Alike (ps qs : List Pt) : Prop where
  len : qs.length = ps.length
  there : ∀ p ∈ ps, ∃ q ∈ qs, q.name = p.name ∧ q.cmd = p.cmd ∧ q.needs.length = p.needs.length ∧ (q.needs.Nodup ↔ p.needs.Nodup) ∧ ∀ m, m ∈ q.needs ↔ m ∈ p.needs
  back : ∀ q ∈ qs, ∃ p ∈ ps, q.name = p.name ∧ q.cmd = p.cmd ∧ q.needs.length = p.needs.length ∧ (q.needs.Nodup ↔ p.needs.Nodup) ∧ ∀ m, m ∈ q.needs ↔ m ∈ p.needs
  names : (qs.map Pt.name).Nodup ↔ (ps.map Pt.name).Nodup
theorem Alike.swap {ps qs : List Pt} (h : Alike ps qs) : Alike qs ps :=
  ⟨h.len.symm, fun q hq => by obtain ⟨p, hp, a, b, c, d, e⟩ := h.back q hq; exact ⟨p, hp, a.symm, b.symm, c.symm, d.symm, fun m => (e m).symm⟩,
    fun p hp => by obtain ⟨q, hq, a, b, c, d, e⟩ := h.there p hp; exact ⟨q, hq, a.symm, b.symm, c.symm, d.symm, fun m => (e m).symm⟩, h.names.symm⟩
theorem Alike.fits {ps qs : List Pt} (h : Alike ps qs) (hf : grFits ps = true) : grFits qs = true := by
  unfold grFits at hf ⊢
  rw [Bool.and_eq_true, List.all_eq_true, decide_eq_true_eq] at hf ⊢
  refine ⟨by rw [h.len]; exact hf.1, fun q hq => ?_⟩
  obtain ⟨p, hp, a, b, c, _⟩ := h.back q hq
  have := hf.2 p hp
  unfold ptFits at this ⊢
  rw [a, b, c]
  exact this
theorem Alike.formed {ps qs : List Pt} (h : Alike ps qs) (hf : grFormed ps = true) : grFormed qs = true := by
  rw [grFormed_iff] at hf ⊢
  obtain ⟨h0, h1, h2⟩ := hf
  refine ⟨fun e => h0 (List.eq_nil_of_length_eq_zero (by rw [← h.len, e]; rfl)), (namesOk_iff qs).2 (h.names.2 ((namesOk_iff ps).1 h1)), fun q hq => ?_⟩
  obtain ⟨p, hp, a, b, _, d, _⟩ := h.back q hq
  obtain ⟨x, y, z⟩ := h2 p hp
  exact ⟨by rw [a]; exact x, by rw [b]; exact y, d.2 z⟩
theorem Alike.closed {ps qs : List Pt} (h : Alike ps qs) (hf : grClosed ps = true) : grClosed qs = true := by
  rw [grClosed_iff] at hf ⊢
  intro q hq m hm
  obtain ⟨p, hp, _, _, _, _, e⟩ := h.back q hq
  obtain ⟨p', hp', rfl⟩ := hf p hp m ((e m).1 hm)
  obtain ⟨q', hq', a, _⟩ := h.there p' hp'
  exact ⟨q', hq', a⟩
end Go.Proofs.Ytkoikmdmejhhhaa
namespace Go.Proofs.Ytkoikmdmejhhhaa
def runOf {α : Type} (f : List α → Nat → α) (l : List α) (order : List Nat) : List α := order.foldl (fun l p => l.set p (f l p)) l
theorem runOf_more {α : Type} (f : List α → Nat → α) (l : List α) (order : List Nat) (k p : Nat) (h : order[k]? = some p) : runOf f l (order.take (k + 1)) = (runOf f l (order.take k)).set p (f (runOf f l (order.take k)) p) := by
  unfold runOf
  rw [List.take_add_one, h, List.foldl_append]
  rfl
theorem runOf_length {α : Type} (f : List α → Nat → α) (l : List α) (order : List Nat) : (runOf f l order).length = l.length := by
  unfold runOf
  induction order generalizing l with
  | nil => rfl
  | cons p os ih => rw [List.foldl_cons, ih, List.length_set]
theorem runOf_all {α : Type} {Q : α → Prop} (f : List α → Nat → α) (l : List α) (order : List Nat) (hf : ∀ l p, Q (f l p)) (hl : ∀ x ∈ l, Q x) : ∀ x ∈ runOf f l order, Q x := by
  unfold runOf
  induction order generalizing l with
  | nil => exact hl
  | cons p os ih =>
    rw [List.foldl_cons]
    refine ih _ (fun x hx => ?_)
    rcases List.mem_or_eq_of_mem_set hx with h | h
    · exact hl x h
    · rw [h]
      exact hf _ _
def Looks {α : Type} (nd : List (List Nat)) (f : List α → Nat → α) : Prop := ∀ (l m : List α) (p : Nat), (∀ n ∈ nd.getD p [], l[n]? = m[n]?) → f l p = f m p
theorem runOf_sol {α : Type} {nd : List (List Nat)} {f : List α → Nat → α} (hf : Looks nd f) {order : List Nat} (ho : Ordered nd order) (l : List α) (hl : l.length = nd.length) (k : Nat) :
    ∀ p ∈ order.take k, (runOf f l (order.take k))[p]? = some (f (runOf f l (order.take k)) p) := by
  induction k with
  | zero => intro p hp; simp at hp
  | succ k ih =>
    intro p hp
    cases hk : order[k]? with
    | none =>
      have e : order.take (k + 1) = order.take k := by rw [List.take_add_one, hk]; simp
      rw [e] at hp ⊢
      exact ih p hp
    | some q =>
      obtain ⟨hq1, hq2, hq3⟩ := ho k q hk
      rw [runOf_more f l order k q hk]
      have hlen : q < (runOf f l (order.take k)).length := by rw [runOf_length, hl]; exact hq1
      have hsame : ∀ r, r ∈ order.take k ∨ r = q → f ((runOf f l (order.take k)).set q (f (runOf f l (order.take k)) q)) r = f (runOf f l (order.take k)) r := by
        intro r hr
        refine hf _ _ _ (fun n hn => ?_)
        have hne : n ∈ order.take k := by
          rcases hr with hr | rfl
          · obtain ⟨i, hi⟩ := List.getElem?_of_mem hr
            rw [List.getElem?_take] at hi
            split at hi
            · rename_i hik
              have h3 := (ho i r hi).2.2 n hn
              exact List.take_subset_take_left order (Nat.le_of_lt hik) h3
            · cases hi
          · exact hq3 n hn
        rw [List.getElem?_set_ne]
        rintro rfl
        exact hq2 hne
      rw [List.take_add_one, hk] at hp
      rcases List.mem_append.1 hp with hp | hp
      · rw [hsame p (.inl hp), List.getElem?_set_ne, ih p hp]
        rintro rfl
        exact hq2 hp
      · have hpq : p = q := by simpa using hp
        subst hpq
        rw [hsame p (.inr rfl), List.getElem?_set_self hlen]
theorem sol_same {α : Type} {nd : List (List Nat)} {f : List α → Nat → α} (hf : Looks nd f) {order : List Nat} (ho : Ordered nd order) (l m : List α) (k : Nat)
    (hl : ∀ p ∈ order.take k, l[p]? = some (f l p)) (hm : ∀ p ∈ order.take k, m[p]? = some (f m p)) : ∀ p ∈ order.take k, l[p]? = m[p]? := by
  induction k with
  | zero => intro p hp; simp at hp
  | succ k ih =>
    intro p hp
    have hsub : ∀ r, r ∈ order.take k → r ∈ order.take (k + 1) := fun r hr => List.take_subset_take_left order (Nat.le_succ k) hr
    have hi := ih (fun r hr => hl r (hsub r hr)) (fun r hr => hm r (hsub r hr))
    rw [hl p hp, hm p hp]
    congr 1
    obtain ⟨i, hik⟩ := List.getElem?_of_mem hp
    rw [List.getElem?_take] at hik
    split at hik
    · rename_i hlt
      refine hf _ _ _ (fun n hn => hi n ?_)
      exact List.take_subset_take_left order (by omega) ((ho i p hik).2.2 n hn)
    · cases hik
theorem order_covers {order : List Nat} {n : Nat} (hd : order.Nodup) (hl : ∀ x ∈ order, x < n) (hn : order.length = n) : ∀ p, p < n → p ∈ order := by
  intro p hp
  refine Classical.byContradiction fun h => ?_
  have h1 : (p :: order).Nodup := List.nodup_cons.2 ⟨h, hd⟩
  have h2 := nodup_le (n := n) h1 (fun x hx => by
    rcases List.mem_cons.1 hx with rfl | hx
    · exact hp
    · exact hl x hx)
  rw [List.length_cons] at h2
  omega
theorem order_len {ps : List Pt} (h : grCheck ps = 0) : (grOrder ps).length = ps.length := by
  unfold grOrder
  rw [if_pos h]
  have h1 := (check_fits h).2.2.2
  have h2 := places_le ps
  omega
theorem order_none {ps : List Pt} (h : grCheck ps ≠ 0) : grOrder ps = [] := by
  unfold grOrder
  rw [if_neg h]
theorem order_is {ps : List Pt} (h : grCheck ps = 0) : grOrder ps = placesOf ps := by
  unfold grOrder
  rw [if_pos h]
theorem order_some {ps : List Pt} {i p : Nat} (h : (grOrder ps)[i]? = some p) : grCheck ps = 0 ∧ p < ps.length := by
  by_cases hq : grCheck ps = 0
  · rw [order_is hq] at h
    exact ⟨hq, (places_at h).1⟩
  · rw [order_none hq] at h
    simp at h
theorem order_32 (ps : List Pt) : (grOrder ps).length ≤ 32 := by
  by_cases hq : grCheck ps = 0
  · rw [order_len hq]
    have := (check_fits hq).1
    unfold grFits at this
    rw [Bool.and_eq_true, decide_eq_true_eq] at this
    exact this.1
  · rw [order_none hq]
    exact Nat.zero_le _
theorem needsAt_nd {ps : List Pt} {p : Nat} : (ps.map (needsOf ps)).getD p [] = needsAt ps (p : Int) := by
  unfold needsAt
  rw [if_pos (by omega), Int.toNat_natCast, List.getD_eq_getElem?_getD, List.getElem?_map]
theorem needsAt_lt {ps : List Pt} {p : Int} {n : Nat} (h : n ∈ needsAt ps p) : n < ps.length := by
  unfold needsAt at h
  split at h
  · cases hp : ps[p.toNat]? with
    | none => rw [hp] at h; simp at h
    | some q =>
      rw [hp] at h
      exact needsOf_lt h
  · simp at h
theorem needsAt_16 {ps : List Pt} {p : Nat} (h : grCheck ps = 0) : (needsAt ps (p : Int)).length ≤ 16 := by
  unfold needsAt
  rw [if_pos (by omega), Int.toNat_natCast]
  cases hp : ps[p]? with
  | none => simp
  | some q =>
    have h1 := (check_fits h).1
    unfold grFits at h1
    rw [Bool.and_eq_true, List.all_eq_true] at h1
    have h2 := h1.2 q (List.mem_of_getElem? hp)
    unfold ptFits at h2
    simp only [Bool.and_eq_true, decide_eq_true_eq] at h2
    exact Nat.le_trans (needsOf_le ps q) h2.2
theorem cmd_256 {ps : List Pt} {p : Nat} {q : Pt} (h : grCheck ps = 0) (hp : ps[p]? = some q) : q.cmd.size ≤ 256 := by
  have h1 := (check_fits h).1
  unfold grFits at h1
  rw [Bool.and_eq_true, List.all_eq_true] at h1
  have h2 := h1.2 q (List.mem_of_getElem? hp)
  unfold ptFits at h2
  simp only [Bool.and_eq_true, decide_eq_true_eq] at h2
  exact h2.1.2
end Go.Proofs.Ytkoikmdmejhhhaa
