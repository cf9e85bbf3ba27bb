/-
  Graphs, plainly: where a name stands, what a target needs, the order, which graphs may be.
-/
import Derived.Test.YtfijbjbfnpadmaaDoorTg
namespace Go.Proofs.YtfijbjbfnpadmaaDoor

/-- The place of the first target of a name. -/
def findIx (ps : List Pt) (s : ByteArray) : Option Nat := ps.findIdx? (fun p => decide (p.name = s))
/-- The places of what a target needs. -/
def needsOf (ps : List Pt) (p : Pt) : List Nat := p.needs.filterMap (findIx ps)
/-- The same by the target's place. -/
def needsAt (ps : List Pt) (i : Int) : List Nat := if 0 ≤ i then ((ps[i.toNat]?).map (needsOf ps)).getD [] else []

theorem findIx_none {ps : List Pt} {s : ByteArray} (h : ∀ (j : Nat) (p : Pt), ps[j]? = some p → p.name ≠ s) : findIx ps s = none := by
  unfold findIx
  rw [List.findIdx?_eq_none_iff]
  intro p hp
  obtain ⟨j, hj⟩ := List.getElem?_of_mem hp
  simpa using h j p hj
theorem findIx_some {ps : List Pt} {s : ByteArray} {k : Nat} {p : Pt} (hp : ps[k]? = some p) (hs : p.name = s) (h : ∀ (j : Nat) (q : Pt), j < k → ps[j]? = some q → q.name ≠ s) : findIx ps s = some k := by
  unfold findIx
  rw [List.findIdx?_eq_some_iff_getElem]
  obtain ⟨hk, hp'⟩ := List.getElem?_eq_some_iff.1 hp
  refine ⟨hk, by rw [hp']; simpa using hs, fun j hj => ?_⟩
  simpa using h j _ hj (List.getElem?_eq_getElem (by omega))
theorem findIx_lt {ps : List Pt} {s : ByteArray} {k : Nat} (h : findIx ps s = some k) : k < ps.length := by
  unfold findIx at h
  rw [List.findIdx?_eq_some_iff_getElem] at h
  exact h.1
theorem findIx_name {ps : List Pt} {s : ByteArray} {k : Nat} (h : findIx ps s = some k) : ∃ p, ps[k]? = some p ∧ p.name = s := by
  unfold findIx at h
  rw [List.findIdx?_eq_some_iff_getElem] at h
  obtain ⟨hk, hp, _⟩ := h
  exact ⟨ps[k], List.getElem?_eq_getElem hk, by simpa using hp⟩
theorem needsOf_lt {ps : List Pt} {p : Pt} {n : Nat} (h : n ∈ needsOf ps p) : n < ps.length := by
  unfold needsOf at h
  obtain ⟨s, _, hs⟩ := List.mem_filterMap.1 h
  exact findIx_lt hs
theorem needsOf_le (ps : List Pt) (p : Pt) : (needsOf ps p).length ≤ p.needs.length := List.length_filterMap_le _ _

/-- May the target at a place come next? nd: what each needs; l: what is listed. -/
def okAt (nd : List (List Nat)) (l : List Nat) (i : Nat) : Bool := !l.contains i && (nd.getD i []).all (fun n => l.contains n)
/-- Which comes next. -/
def nextOf (nd : List (List Nat)) (l : List Nat) : Option Nat := (List.range nd.length).find? (okAt nd l)
/-- So many steps from a list. -/
def stepsOf (nd : List (List Nat)) : Nat → List Nat → List Nat
  | 0, l => l
  | k + 1, l => match nextOf nd l with | none => l | some i => stepsOf nd k (l ++ [i])
/-- All places that can be ordered, in order. -/
def placesOf (ps : List Pt) : List Nat := stepsOf (ps.map (needsOf ps)) ps.length []

theorem nextOf_lt {nd : List (List Nat)} {l : List Nat} {i : Nat} (h : nextOf nd l = some i) : i < nd.length := by
  have := List.mem_of_find?_eq_some h
  simpa using this
theorem nextOf_ok {nd : List (List Nat)} {l : List Nat} {i : Nat} (h : nextOf nd l = some i) : okAt nd l i = true := List.find?_some h
theorem nextOf_new {nd : List (List Nat)} {l : List Nat} {i : Nat} (h : nextOf nd l = some i) : i ∉ l := by
  have := nextOf_ok h
  unfold okAt at this
  simp at this
  exact this.1
theorem nextOf_some {nd : List (List Nat)} {l : List Nat} {i : Nat} (hi : i < nd.length) (h : okAt nd l i = true) (hj : ∀ j, j < i → okAt nd l j = false) : nextOf nd l = some i := by
  unfold nextOf
  rw [List.find?_range_eq_some]
  exact ⟨h, by simpa using hi, fun j hj' => by simp [hj j hj']⟩
theorem nextOf_none {nd : List (List Nat)} {l : List Nat} (h : ∀ j, j < nd.length → okAt nd l j = false) : nextOf nd l = none := by
  unfold nextOf
  rw [List.find?_eq_none]
  intro x hx
  simp [h x (by simpa using hx)]

/-- Places without repetition that are all below n are at most n. -/
theorem nodup_le {l : List Nat} {n : Nat} (hd : l.Nodup) (hl : ∀ x ∈ l, x < n) : l.length ≤ n := by
  induction n generalizing l with
  | zero =>
    cases l with
    | nil => simp
    | cons a l => exact absurd (hl a (by simp)) (by omega)
  | succ n ih =>
    by_cases hn : n ∈ l
    · have h := ih (hd.erase n) (fun x hx => by
        have hx' := (hd.mem_erase_iff).1 hx
        have := hl x hx'.2
        have := hx'.1
        omega)
      rw [List.length_erase_of_mem hn] at h
      omega
    · have h := ih hd (fun x hx => by
        have := hl x hx
        have : x ≠ n := fun e => hn (e ▸ hx)
        omega)
      omega

/-- With all places listed none comes next. -/
theorem nextOf_full {nd : List (List Nat)} {l : List Nat} (hd : l.Nodup) (hl : ∀ x ∈ l, x < nd.length) (hf : nd.length ≤ l.length) : nextOf nd l = none := by
  cases h : nextOf nd l with
  | none => rfl
  | some i =>
    have h1 : (l ++ [i]).Nodup := by
      rw [List.nodup_append]
      refine ⟨hd, by simp, fun a ha b hb => ?_⟩
      simp at hb
      subst hb
      exact fun e => nextOf_new h (e ▸ ha)
    have h2 := nodup_le (n := nd.length) h1 (fun x hx => by
      rcases List.mem_append.1 hx with hx | hx
      · exact hl x hx
      · simp at hx
        subst hx
        exact nextOf_lt h)
    simp at h2
    omega
theorem nextOf_nodup {nd : List (List Nat)} {l : List Nat} {i : Nat} (hd : l.Nodup) (h : nextOf nd l = some i) : (l ++ [i]).Nodup := by
  rw [List.nodup_append]
  refine ⟨hd, by simp, fun a ha b hb => ?_⟩
  simp at hb
  subst hb
  exact fun e => nextOf_new h (e ▸ ha)

/-- Names and commands, byte by byte. -/
def nameB (b : UInt8) : Bool := decide (33 ≤ b.toNat) && decide (b.toNat ≤ 126) && decide (b.toNat ≠ 58)
def cmdB (b : UInt8) : Bool := decide (32 ≤ b.toNat) && decide (b.toNat ≤ 126)
def isNameB (s : ByteArray) : Bool := s.data.toList.all nameB && decide (s.size ≠ 0)
def isCmdB (s : ByteArray) : Bool := s.data.toList.all cmdB
/-- Within the limits. -/
def ptFits (p : Pt) : Bool := decide (p.name.size ≤ 32) && decide (p.cmd.size ≤ 256) && decide (p.needs.length ≤ 16)
def grFits (ps : List Pt) : Bool := decide (ps.length ≤ 32) && ps.all ptFits
/-- Each target right if it is looked at alone, and the first of its name. -/
def ptFormed (ps : List Pt) (i : Nat) (p : Pt) : Bool := decide (findIx ps p.name = some i) && isNameB p.name && isCmdB p.cmd && decide (p.needs.Nodup)
def grFormed (ps : List Pt) : Bool := decide (ps ≠ []) && (List.range ps.length).all (fun i => (ps[i]?).all (ptFormed ps i))
/-- All needs are targets. -/
def grClosed (ps : List Pt) : Bool := ps.all (fun p => decide ((needsOf ps p).length = p.needs.length))
/-- What Check answers. -/
def grCheck (ps : List Pt) : Int := if grFits ps = false then 71 else if grFormed ps = false then 70 else if grClosed ps = false then 72 else if (placesOf ps).length < ps.length then 73 else 0
/-- What Order answers. -/
def grOrder (ps : List Pt) : List Nat := if grCheck ps = 0 then placesOf ps else []

end Go.Proofs.YtfijbjbfnpadmaaDoor
