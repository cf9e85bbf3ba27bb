/-
  One target's command becomes another one, plainly; who needs whom, over however many.
-/
import Derived.Test.YtndojciealkhmaaStPlain
namespace Go.Proofs.Ytndojciealkhmaa

/-- Does a target need another one, over so many? -/
def reachB (ps : List Pt) (o : Nat) : Nat → Nat → Bool
  | 0, i => (needsAt ps (i : Int)).any (fun n => decide (n = o))
  | d + 1, i => (needsAt ps (i : Int)).any (fun n => decide (n = o) || reachB ps o d n)

/-- One target's command, with more behind it. -/
def cmdP (more : ByteArray) (p : Pt) : Pt := ⟨p.name, p.cmd ++ more, p.needs⟩
def deepPs (ps : List Pt) (place : Nat) (more : ByteArray) : List Pt := ps.modify place (cmdP more)

theorem deep_length (ps : List Pt) (place : Nat) (more : ByteArray) : (deepPs ps place more).length = ps.length := by simp [deepPs]
theorem deep_at (ps : List Pt) (place : Nat) (more : ByteArray) (i : Nat) : (deepPs ps place more)[i]? = (ps[i]?).map (fun p => if place = i then cmdP more p else p) := by
  unfold deepPs
  rw [List.getElem?_modify]
  cases ps[i]? with
  | none => rfl
  | some p => by_cases h : place = i <;> simp [h]
theorem deep_name {ps : List Pt} {place : Nat} {more : ByteArray} {i : Nat} {q : Pt} (h : (deepPs ps place more)[i]? = some q) : ∃ p, ps[i]? = some p ∧ q.name = p.name ∧ q.needs = p.needs ∧ (place ≠ i → q.cmd = p.cmd) := by
  rw [deep_at] at h
  cases hp : ps[i]? with
  | none => rw [hp] at h; cases h
  | some p =>
    rw [hp] at h
    injection h with h
    subst h
    refine ⟨p, rfl, ?_, ?_, ?_⟩
    · simp only; split <;> rfl
    · simp only; split <;> rfl
    · intro hne; simp only; rw [if_neg hne]
theorem deep_find (ps : List Pt) (place : Nat) (more s : ByteArray) : findIx (deepPs ps place more) s = findIx ps s := by
  cases hf : findIx ps s with
  | none =>
    refine findIx_none (fun j q hq e => ?_)
    obtain ⟨p, hp, hn, _, _⟩ := deep_name hq
    unfold findIx at hf
    rw [List.findIdx?_eq_none_iff] at hf
    have := hf p (List.mem_of_getElem? hp)
    rw [hn] at e
    simp [e] at this
  | some k =>
    obtain ⟨p, hp, hn⟩ := findIx_name hf
    have hk := findIx_lt hf
    have hq : (deepPs ps place more)[k]? = some (if place = k then cmdP more p else p) := by rw [deep_at, hp]; rfl
    refine findIx_some hq (by split <;> exact hn) (fun j q hj hq e => ?_)
    obtain ⟨p', hp', hn', _, _⟩ := deep_name hq
    unfold findIx at hf
    rw [List.findIdx?_eq_some_iff_getElem] at hf
    obtain ⟨_, _, hall⟩ := hf
    have := hall j hj
    obtain ⟨hjl, hpe⟩ := List.getElem?_eq_some_iff.1 hp'
    rw [hpe] at this
    rw [hn'] at e
    simp [e] at this
theorem deep_needs (ps : List Pt) (place : Nat) (more : ByteArray) (i : Nat) : needsAt (deepPs ps place more) (i : Int) = needsAt ps (i : Int) := by
  unfold needsAt
  rw [if_pos (by omega), if_pos (by omega), Int.toNat_natCast, deep_at]
  cases ps[i]? with
  | none => rfl
  | some p =>
    simp only [Option.map_some, Option.getD_some]
    unfold needsOf
    have e : findIx (deepPs ps place more) = findIx ps := by funext s; exact deep_find ps place more s
    rw [e]
    split <;> rfl

theorem reach_no {ps : List Pt} {o d i n : Nat} (h : reachB ps o (d + 1) i = false) (hn : n ∈ needsAt ps (i : Int)) : n ≠ o ∧ reachB ps o d n = false := by
  unfold reachB at h
  rw [List.any_eq_false] at h
  have := h n hn
  simpa using this

/-- The keys of those that don't need it stay. -/
theorem deep_keys {ps : List Pt} (h : grCheck ps = 0) (place : Nat) (more : ByteArray) (hm : grCheck (deepPs ps place more) = 0) (i : Nat) (hi : i < ps.length) (hip : i ≠ place) (d : Nat) (hd : ps.length ≤ d + 1) (hr : reachB ps place d i = false) :
    (grKeys ps)[i]? = (grKeys (deepPs ps place more))[i]? := by
  have ho := Ordered.places ps
  have key : ∀ k, ∀ p ∈ (placesOf ps).take k, ∀ d, k ≤ d + 1 → p ≠ place → reachB ps place d p = false → (grKeys ps)[p]? = (grKeys (deepPs ps place more))[p]? := by
    intro k
    induction k with
    | zero => intro p hp; simp at hp
    | succ k ih =>
      intro p hp d hkd hpp hrp
      obtain ⟨j, hj⟩ := List.getElem?_of_mem hp
      rw [List.getElem?_take] at hj
      split at hj
      · rename_i hjk
        obtain ⟨hpl, _, hpn⟩ := ho j p hj
        rw [List.length_map] at hpl
        rw [grKeys_sol h p hpl, grKeys_sol hm p (by rw [deep_length]; exact hpl)]
        congr 1
        unfold keyAt
        rw [deep_needs, deep_at]
        have hpe := List.getElem?_eq_getElem hpl
        rw [hpe]
        simp only [Option.map_some, Option.getD_some]
        rw [if_neg (fun e => hpp e.symm)]
        congr 1
        refine List.map_congr_left fun n hn => ?_
        have hnk : n ∈ (placesOf ps).take k := by
          have := hpn n (by rw [needsAt_nd]; exact hn)
          exact List.take_subset_take_left _ (by omega) this
        rw [List.getD_eq_getElem?_getD, List.getD_eq_getElem?_getD]
        congr 1
        cases d with
        | zero =>
          have hk0 : k = 0 := by omega
          subst hk0
          simp at hnk
        | succ d =>
          obtain ⟨h1, h2⟩ := reach_no hrp hn
          exact ih n hnk d (by omega) h1 h2
      · cases hj
  have hp' := order_covers ho.nodup (by simpa using ho.lt) (by rw [← order_is h, order_len h]) i hi
  refine key (placesOf ps).length i (by rw [List.take_length]; exact hp') d ?_ hip hr
  have := order_len h
  rw [order_is h] at this
  omega
end Go.Proofs.Ytndojciealkhmaa
