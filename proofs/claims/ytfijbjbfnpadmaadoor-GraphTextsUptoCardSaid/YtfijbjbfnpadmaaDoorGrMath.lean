/-
  Which graphs may be, said by names: it does not hang on the order of targets or needs; and of what is left out.
-/
import Derived.Test.YtfijbjbfnpadmaaDoorGrOrd
import Derived.Test.YtfijbjbfnpadmaaDoorGrCheck
namespace Go.Proofs.YtfijbjbfnpadmaaDoor

/-- A list without repetition whose members are all in another one is not longer. -/
theorem nodup_sub {α : Type} [DecidableEq α] {l m : List α} (hd : l.Nodup) (hs : ∀ x ∈ l, x ∈ m) : l.length ≤ m.length := by
  induction l generalizing m with
  | nil => simp
  | cons a l ih =>
    rw [List.nodup_cons] at hd
    have ha := hs a (by simp)
    have h := ih (m := m.erase a) hd.2 (fun x hx => by
      have hne : x ≠ a := fun e => hd.1 (e ▸ hx)
      exact (List.mem_erase_of_ne hne).2 (hs x (by simp [hx])))
    rw [List.length_erase_of_mem ha] at h
    have := List.length_pos_of_mem ha
    simp
    omega

/-- Each target is found at its own place. -/
def namesOk (ps : List Pt) : Prop := ∀ (k : Nat) (p : Pt), ps[k]? = some p → findIx ps p.name = some k
theorem namesOk_iff (ps : List Pt) : namesOk ps ↔ (ps.map Pt.name).Nodup := by
  constructor
  · intro h
    rw [List.nodup_iff_pairwise_ne, List.pairwise_iff_getElem]
    intro i j hi hj hij e
    simp only [List.length_map] at hi hj
    rw [List.getElem_map, List.getElem_map] at e
    have h1 := h i _ (List.getElem?_eq_getElem hi)
    have h2 := h j _ (List.getElem?_eq_getElem hj)
    rw [e, h2] at h1
    injection h1 with h1
    omega
  · intro h k p hk
    refine findIx_some hk rfl (fun j q hj hq e => ?_)
    rw [List.nodup_iff_pairwise_ne, List.pairwise_iff_getElem] at h
    obtain ⟨hk1, hk2⟩ := List.getElem?_eq_some_iff.1 hk
    obtain ⟨hj1, hj2⟩ := List.getElem?_eq_some_iff.1 hq
    have := h j k (by simpa using hj1) (by simpa using hk1) hj
    rw [List.getElem_map, List.getElem_map, hk2, hj2] at this
    exact this e
theorem namesOk_same {ps : List Pt} (h : namesOk ps) {p q : Pt} (hp : p ∈ ps) (hq : q ∈ ps) (e : p.name = q.name) : p = q := by
  obtain ⟨i, hi⟩ := List.getElem?_of_mem hp
  obtain ⟨j, hj⟩ := List.getElem?_of_mem hq
  have h1 := h i p hi
  rw [e, h j q hj] at h1
  injection h1 with h1
  subst h1
  rw [hi] at hj
  injection hj

/-- All needs are names. -/
def needsOk (ps : List Pt) : Prop := ∀ p ∈ ps, ∀ m ∈ p.needs, ∃ q ∈ ps, q.name = m
theorem findIx_mem {ps : List Pt} {q : Pt} (h : q ∈ ps) : ∃ k, findIx ps q.name = some k := by
  obtain ⟨k, hk⟩ := List.getElem?_of_mem h
  exact findIx_there hk
theorem grClosed_iff (ps : List Pt) : grClosed ps = true ↔ needsOk ps := by
  unfold grClosed
  rw [List.all_eq_true]
  constructor
  · intro h p hp m hm
    have h1 := of_decide_eq_true (h p hp)
    unfold needsOf at h1
    have h2 := List.filterMap_length_eq_length.1 h1 m hm
    obtain ⟨k, hk⟩ := Option.isSome_iff_exists.1 h2
    obtain ⟨q, hq, rfl⟩ := findIx_name hk
    exact ⟨q, List.mem_of_getElem? hq, rfl⟩
  · intro h p hp
    refine decide_eq_true ?_
    unfold needsOf
    refine List.filterMap_length_eq_length.2 (fun m hm => ?_)
    obtain ⟨q, hq, rfl⟩ := h p hp m hm
    obtain ⟨k, hk⟩ := findIx_mem hq
    rw [hk]
    rfl

/-- Each target right if it is looked at alone. -/
def alone (p : Pt) : Prop := isNameB p.name = true ∧ isCmdB p.cmd = true ∧ p.needs.Nodup
theorem grFormed_iff (ps : List Pt) : grFormed ps = true ↔ ps ≠ [] ∧ namesOk ps ∧ ∀ p ∈ ps, alone p := by
  unfold grFormed
  rw [Bool.and_eq_true, decide_eq_true_eq, List.all_eq_true]
  constructor
  · rintro ⟨h0, h⟩
    have key : ∀ (k : Nat) (p : Pt), ps[k]? = some p → findIx ps p.name = some k ∧ alone p := fun k p hk => by
      have h1 := h k (by simpa using (List.getElem?_eq_some_iff.1 hk).1)
      rw [hk] at h1
      have h2 : ptFormed ps k p = true := h1
      unfold ptFormed at h2
      rw [Bool.and_eq_true, Bool.and_eq_true, Bool.and_eq_true, decide_eq_true_eq, decide_eq_true_eq] at h2
      exact ⟨h2.1.1.1, h2.1.1.2, h2.1.2, h2.2⟩
    refine ⟨h0, fun k p hk => (key k p hk).1, fun p hp => ?_⟩
    obtain ⟨k, hk⟩ := List.getElem?_of_mem hp
    exact (key k p hk).2
  · rintro ⟨h0, h1, h2⟩
    refine ⟨h0, fun k hk => ?_⟩
    have hk' : k < ps.length := by simpa using hk
    rw [List.getElem?_eq_getElem hk']
    show ptFormed ps k ps[k] = true
    obtain ⟨a1, a2, a3⟩ := h2 ps[k] (List.getElem_mem hk')
    unfold ptFormed
    rw [h1 k _ (List.getElem?_eq_getElem hk'), a1, a2]
    simpa using a3

/-- An order, by names. -/
def NOrd (ps : List Pt) (L : List ByteArray) : Prop := L.Nodup ∧ ∀ (i : Nat) (s : ByteArray), L[i]? = some s → ∃ p ∈ ps, p.name = s ∧ ∀ m ∈ p.needs, m ∈ L.take i

theorem nord_of_full {ps : List Pt} (hn : namesOk ps) (hc : needsOk ps) (hf : (placesOf ps).length = ps.length) : ∃ L, NOrd ps L ∧ L.length = ps.length := by
  have hO := Ordered.places ps
  have hlt : ∀ x ∈ placesOf ps, x < ps.length := fun x hx => by simpa using hO.lt x hx
  refine ⟨(placesOf ps).map (fun k => ((ps[k]?).map Pt.name).getD ⟨#[]⟩), ⟨?_, fun i s hs => ?_⟩, by rw [List.length_map, hf]⟩
  · rw [List.nodup_iff_pairwise_ne, List.pairwise_map]
    refine List.Pairwise.imp_of_mem (fun {a b} ha hb hab e => ?_) (List.nodup_iff_pairwise_ne.1 hO.nodup)
    have ha' := List.getElem?_eq_getElem (hlt a ha)
    have hb' := List.getElem?_eq_getElem (hlt b hb)
    rw [ha', hb'] at e
    have e' : (ps[a]'(hlt a ha)).name = (ps[b]'(hlt b hb)).name := e
    have h1 := hn a _ ha'
    rw [e', hn b _ hb'] at h1
    injection h1 with h1
    exact hab h1.symm
  · rw [List.getElem?_map] at hs
    cases hk : (placesOf ps)[i]? with
    | none => rw [hk] at hs; cases hs
    | some k =>
      rw [hk] at hs
      have hkl := hlt k (List.mem_of_getElem? hk)
      have hkp := List.getElem?_eq_getElem hkl
      have hsn : (ps[k]'hkl).name = s := by
        simp only [Option.map_some, hkp, Option.getD_some, Option.some.injEq] at hs
        exact hs
      refine ⟨ps[k], List.getElem_mem hkl, hsn, fun m hm => ?_⟩
      obtain ⟨q, hq, rfl⟩ := hc ps[k] (List.getElem_mem hkl) m hm
      obtain ⟨j, hj⟩ := List.getElem?_of_mem hq
      have hjn := hn j q hj
      have hmem : j ∈ (placesOf ps).take i := by
        refine (hO i k hk).2.2 j ?_
        rw [List.getD_eq_getElem?_getD, List.getElem?_map, hkp]
        show j ∈ needsOf ps ps[k]
        unfold needsOf
        exact List.mem_filterMap.2 ⟨q.name, hm, hjn⟩
      rw [← List.map_take]
      refine List.mem_map.2 ⟨j, hmem, ?_⟩
      rw [hj]
      rfl

theorem steps_end {nd : List (List Nat)} (k : Nat) {l : List Nat} : nextOf nd (stepsOf nd k l) = none ∨ (stepsOf nd k l).length = l.length + k := by
  induction k generalizing l with
  | zero => exact .inr rfl
  | succ k ih =>
    simp only [stepsOf]
    cases hq : nextOf nd l with
    | none => exact .inl hq
    | some q =>
      rcases ih (l := l ++ [q]) with h | h
      · exact .inl h
      · right
        show (stepsOf nd k (l ++ [q])).length = l.length + (k + 1)
        rw [h]
        simp
        omega

theorem full_of_nord {ps : List Pt} (hn : namesOk ps) {L : List ByteArray} (hL : NOrd ps L) (hl : L.length = ps.length) : (placesOf ps).length = ps.length := by
  rcases steps_end (nd := ps.map (needsOf ps)) ps.length (l := []) with h | h
  · have key : ∀ (i : Nat) (s : ByteArray), L[i]? = some s → ∀ k, findIx ps s = some k → k ∈ placesOf ps := by
      intro i
      induction i using Nat.strongRecOn with
      | _ i ih =>
        intro s hs k hk
        obtain ⟨p, hp, rfl, hneeds⟩ := hL.2 i s hs
        by_cases hin : k ∈ placesOf ps
        · exact hin
        · obtain ⟨q, hq, hqn⟩ := findIx_name hk
          have hqp : q = p := namesOk_same hn (List.mem_of_getElem? hq) hp hqn
          subst hqp
          have hok : okAt (ps.map (needsOf ps)) (placesOf ps) k = true := by
            unfold okAt
            rw [Bool.and_eq_true, List.all_eq_true]
            refine ⟨by simpa using hin, fun n hnn => ?_⟩
            rw [List.getD_eq_getElem?_getD, List.getElem?_map, hq] at hnn
            have hnn' : n ∈ needsOf ps q := hnn
            unfold needsOf at hnn'
            obtain ⟨m, hm, hmn⟩ := List.mem_filterMap.1 hnn'
            obtain ⟨j, hj⟩ := List.getElem?_of_mem (hneeds m hm)
            rw [List.getElem?_take] at hj
            split at hj
            · rename_i hji
              have := ih j hji m hj n hmn
              simpa using this
            · cases hj
          have hkl := findIx_lt hk
          have h' : nextOf (ps.map (needsOf ps)) (placesOf ps) = none := h
          unfold nextOf at h'
          rw [List.find?_eq_none] at h'
          exact absurd hok (h' k (by simpa using hkl))
    have hsub := nodup_sub (l := L.map (fun s => (findIx ps s).getD 0)) (m := placesOf ps) (by
      rw [List.nodup_iff_pairwise_ne, List.pairwise_map]
      refine List.Pairwise.imp_of_mem (fun {a b} ha hb hab e => ?_) (List.nodup_iff_pairwise_ne.1 hL.1)
      obtain ⟨i, hi⟩ := List.getElem?_of_mem ha
      obtain ⟨j, hj⟩ := List.getElem?_of_mem hb
      obtain ⟨p, hp, rfl, _⟩ := hL.2 i a hi
      obtain ⟨q, hq, rfl, _⟩ := hL.2 j b hj
      obtain ⟨k, hk⟩ := findIx_mem hp
      obtain ⟨k', hk'⟩ := findIx_mem hq
      rw [hk, hk'] at e
      have e' : k = k' := e
      subst e'
      obtain ⟨p', hp', hpn⟩ := findIx_name hk
      obtain ⟨q', hq', hqn⟩ := findIx_name hk'
      rw [hp'] at hq'
      injection hq' with hq'
      rw [← hpn, ← hqn, hq'] at hab
      exact hab rfl) (fun x hx => by
      obtain ⟨s, hs, rfl⟩ := List.mem_map.1 hx
      obtain ⟨i, hi⟩ := List.getElem?_of_mem hs
      obtain ⟨p, hp, rfl, _⟩ := hL.2 i s hi
      obtain ⟨k, hk⟩ := findIx_mem hp
      rw [hk]
      exact key i _ hi k hk)
    rw [List.length_map, hl] at hsub
    have := places_le ps
    omega
  · have h' : (placesOf ps).length = ([] : List Nat).length + ps.length := h
    simpa using h'

/-- Which graphs may be, by what does not hang on places. -/
theorem check_iff (ps : List Pt) : grCheck ps = if grFits ps = false then 71 else if grFormed ps = false then 70 else if grClosed ps = false then 72 else if (placesOf ps).length = ps.length then 0 else 73 := by
  unfold grCheck
  have := places_le ps
  split
  · rfl
  · split
    · rfl
    · split
      · rfl
      · split
        · rw [if_neg (by omega)]
        · rw [if_pos (by omega)]

/-- Two graphs of the same targets, each with the same needs, in whatever orders. -/
structure Alike (ps qs : List Pt) : Prop where
  len : qs.length = ps.length
  there : ∀ p ∈ ps, ∃ q ∈ qs, q.name = p.name ∧ q.cmd = p.cmd ∧ q.needs.length = p.needs.length ∧ (q.needs.Nodup ↔ p.needs.Nodup) ∧ ∀ m, m ∈ q.needs ↔ m ∈ p.needs
  back : ∀ q ∈ qs, ∃ p ∈ ps, q.name = p.name ∧ q.cmd = p.cmd ∧ q.needs.length = p.needs.length ∧ (q.needs.Nodup ↔ p.needs.Nodup) ∧ ∀ m, m ∈ q.needs ↔ m ∈ p.needs
  names : (qs.map Pt.name).Nodup ↔ (ps.map Pt.name).Nodup
theorem Alike.swap {ps qs : List Pt} (h : Alike ps qs) : Alike qs ps :=
  ⟨h.len.symm, fun q hq => by obtain ⟨p, hp, a, b, c, d, e⟩ := h.back q hq; exact ⟨p, hp, a.symm, b.symm, c.symm, d.symm, fun m => (e m).symm⟩,
    fun p hp => by obtain ⟨q, hq, a, b, c, d, e⟩ := h.there p hp; exact ⟨q, hq, a.symm, b.symm, c.symm, d.symm, fun m => (e m).symm⟩, h.names.symm⟩
theorem Alike.fits {ps qs : List Pt} (h : Alike ps qs) (hf : grFits ps = true) : grFits qs = true := by
  unfold grFits at hf ⊢
  rw [Bool.and_eq_true, List.all_eq_true, decide_eq_true_eq] at hf ⊢
  refine ⟨by rw [h.len]; exact hf.1, fun q hq => ?_⟩
  obtain ⟨p, hp, a, b, c, _⟩ := h.back q hq
  have := hf.2 p hp
  unfold ptFits at this ⊢
  rw [a, b, c]
  exact this
theorem Alike.formed {ps qs : List Pt} (h : Alike ps qs) (hf : grFormed ps = true) : grFormed qs = true := by
  rw [grFormed_iff] at hf ⊢
  obtain ⟨h0, h1, h2⟩ := hf
  refine ⟨fun e => h0 (List.eq_nil_of_length_eq_zero (by rw [← h.len, e]; rfl)), (namesOk_iff qs).2 (h.names.2 ((namesOk_iff ps).1 h1)), fun q hq => ?_⟩
  obtain ⟨p, hp, a, b, _, d, _⟩ := h.back q hq
  obtain ⟨x, y, z⟩ := h2 p hp
  exact ⟨by rw [a]; exact x, by rw [b]; exact y, d.2 z⟩
theorem Alike.closed {ps qs : List Pt} (h : Alike ps qs) (hf : grClosed ps = true) : grClosed qs = true := by
  rw [grClosed_iff] at hf ⊢
  intro q hq m hm
  obtain ⟨p, hp, _, _, _, _, e⟩ := h.back q hq
  obtain ⟨p', hp', rfl⟩ := hf p hp m ((e m).1 hm)
  obtain ⟨q', hq', a, _⟩ := h.there p' hp'
  exact ⟨q', hq', a⟩
theorem Alike.full {ps qs : List Pt} (h : Alike ps qs) (hn : namesOk ps) (hc : needsOk ps) (hf : (placesOf ps).length = ps.length) : (placesOf qs).length = qs.length := by
  obtain ⟨L, hL, hl⟩ := nord_of_full hn hc hf
  refine full_of_nord ((namesOk_iff qs).2 (h.names.2 ((namesOk_iff ps).1 hn))) (L := L) ⟨hL.1, fun i s hs => ?_⟩ (by rw [hl, h.len])
  obtain ⟨p, hp, rfl, hm⟩ := hL.2 i s hs
  obtain ⟨q, hq, a, _, _, _, e⟩ := h.there p hp
  exact ⟨q, hq, a, fun m hmq => hm m ((e m).1 hmq)⟩
theorem Alike.check {ps qs : List Pt} (h : Alike ps qs) : grCheck qs = grCheck ps := by
  have b1 : grFits qs = grFits ps := Bool.eq_iff_iff.2 ⟨h.swap.fits, h.fits⟩
  have b2 : grFormed qs = grFormed ps := Bool.eq_iff_iff.2 ⟨h.swap.formed, h.formed⟩
  have b3 : grClosed qs = grClosed ps := Bool.eq_iff_iff.2 ⟨h.swap.closed, h.closed⟩
  rw [check_iff, check_iff, b1, b2, b3]
  cases h1 : grFits ps with
  | false => rfl
  | true =>
    cases h2 : grFormed ps with
    | false => rfl
    | true =>
      cases h3 : grClosed ps with
      | false => rfl
      | true =>
        have n1 := ((grFormed_iff ps).1 h2).2.1
        have n2 := ((grFormed_iff qs).1 (b2.trans h2)).2.1
        have c1 := (grClosed_iff ps).1 h3
        have c2 := (grClosed_iff qs).1 (b3.trans h3)
        have : ((placesOf qs).length = qs.length) = ((placesOf ps).length = ps.length) := propext ⟨h.swap.full n2 c2, h.full n1 c1⟩
        simp only [this]
end Go.Proofs.YtfijbjbfnpadmaaDoor
