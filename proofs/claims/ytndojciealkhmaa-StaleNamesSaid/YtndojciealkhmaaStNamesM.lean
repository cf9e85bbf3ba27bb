/-
  Keys hang on no name and no order, plainly.
-/
import Derived.Test.YtndojciealkhmaaStPlain
namespace Go.Proofs.Ytndojciealkhmaa

/-- A target under other names: one text behind each. -/
def moreP (more : ByteArray) (p : Pt) : Pt := ⟨p.name ++ more, p.cmd, p.needs.map (· ++ more)⟩
/-- The whole graph, the other way round. -/
def movedPs (more : ByteArray) (ps : List Pt) : List Pt := ps.reverse.map (moreP more)

theorem ba_append (a b : ByteArray) : (a ++ b).data.toList = a.data.toList ++ b.data.toList := by simp
theorem ba_ext {a b : ByteArray} (h : a.data.toList = b.data.toList) : a = b := by
  obtain ⟨⟨l⟩⟩ := a
  obtain ⟨⟨m⟩⟩ := b
  have h' : l = m := h
  rw [h']
theorem ba_cancel {a b c : ByteArray} (h : a ++ c = b ++ c) : a = b := by
  have h1 : (a ++ c).data.toList = (b ++ c).data.toList := by rw [h]
  rw [ba_append, ba_append] at h1
  exact ba_ext (List.append_cancel_right h1)

theorem find_name {ps : List Pt} (h : grCheck ps = 0) {i : Nat} {p : Pt} (hp : ps[i]? = some p) : findIx ps p.name = some i := by
  have h1 := (check_fits h).2.1
  unfold grFormed at h1
  rw [Bool.and_eq_true, List.all_eq_true] at h1
  have hi := (List.getElem?_eq_some_iff.1 hp).1
  have h2 := h1.2 i (by simpa using hi)
  rw [hp] at h2
  simp only [Option.all_some] at h2
  unfold ptFormed at h2
  simp only [Bool.and_eq_true, decide_eq_true_eq] at h2
  exact h2.1.1.1
theorem moved_at (more : ByteArray) (ps : List Pt) (q : Nat) (hq : q < ps.length) : (movedPs more ps)[q]? = (ps[ps.length - 1 - q]?).map (moreP more) := by
  unfold movedPs
  rw [List.getElem?_map, List.getElem?_reverse hq]
theorem moved_length (more : ByteArray) (ps : List Pt) : (movedPs more ps).length = ps.length := by simp [movedPs]
theorem moved_find {ps : List Pt} (h : grCheck ps = 0) (more s : ByteArray) : findIx (movedPs more ps) (s ++ more) = (findIx ps s).map (fun k => ps.length - 1 - k) := by
  cases hf : findIx ps s with
  | none =>
    refine findIx_none (fun j q hj => ?_)
    have hjl : j < ps.length := by have := (List.getElem?_eq_some_iff.1 hj).1; rwa [moved_length] at this
    rw [moved_at more ps j hjl] at hj
    cases hp : ps[ps.length - 1 - j]? with
    | none => rw [hp] at hj; cases hj
    | some p =>
      rw [hp] at hj
      injection hj with hj
      subst hj
      intro e
      have e2 := ba_cancel (a := p.name) (b := s) (c := more) e
      rw [← e2, find_name h hp] at hf
      cases hf
  | some k =>
    obtain ⟨p, hp, hn⟩ := findIx_name hf
    have hk := findIx_lt hf
    have hk2 : ps.length - 1 - (ps.length - 1 - k) = k := by omega
    show findIx (movedPs more ps) (s ++ more) = some (ps.length - 1 - k)
    refine findIx_some (p := moreP more p) ?_ (by show p.name ++ more = _; rw [hn]) (fun j q hj hq => ?_)
    · rw [moved_at more ps _ (by omega), hk2, hp]
      rfl
    · have hjl : j < ps.length := by omega
      rw [moved_at more ps j hjl] at hq
      cases hp2 : ps[ps.length - 1 - j]? with
      | none => rw [hp2] at hq; cases hq
      | some p2 =>
        rw [hp2] at hq
        injection hq with hq
        subst hq
        intro e
        have e2 := ba_cancel (a := p2.name) (b := s) (c := more) e
        have := find_name h hp2
        rw [e2, hf] at this
        injection this with this
        omega
theorem moved_needs {ps : List Pt} (h : grCheck ps = 0) (more : ByteArray) (p : Pt) : needsOf (movedPs more ps) (moreP more p) = (needsOf ps p).map (fun k => ps.length - 1 - k) := by
  unfold needsOf moreP
  rw [List.filterMap_map, List.map_filterMap]
  congr 1
  funext s
  exact moved_find h more s
theorem needsAt_some {ps : List Pt} {p : Nat} {q : Pt} (h : ps[p]? = some q) : needsAt ps (p : Int) = needsOf ps q := by
  unfold needsAt
  rw [if_pos (by omega), Int.toNat_natCast, h]
  rfl

/-- The keys of the graph that is moved are those of the graph, the other way round. -/
theorem moved_keys {ps : List Pt} (h : grCheck ps = 0) (more : ByteArray) (hm : grCheck (movedPs more ps) = 0) (i : Nat) (hi : i < ps.length) : (grKeys (movedPs more ps))[ps.length - 1 - i]? = (grKeys ps)[i]? := by
  have hkl : (grKeys ps).length = ps.length := by rw [grKeys_length, order_len h]
  have key := grKeys_only hm (grKeys ps).reverse (fun q hq => by
    rw [moved_length] at hq
    rw [List.getElem?_reverse (by rw [hkl]; exact hq), hkl]
    have hq2 : ps.length - 1 - q < ps.length := by omega
    rw [grKeys_sol h _ hq2]
    congr 1
    have hp := List.getElem?_eq_getElem hq2
    have hmq := moved_at more ps q hq
    rw [hp] at hmq
    unfold keyAt
    rw [hmq, hp, needsAt_some hp, needsAt_some hmq, moved_needs h]
    simp only [Option.map_some, Option.getD_some, List.map_map]
    congr 1
    refine List.map_congr_left fun n hn => ?_
    have hnl := needsOf_lt hn
    simp only [Function.comp]
    rw [List.getD_eq_getElem?_getD, List.getD_eq_getElem?_getD, List.getElem?_reverse (by rw [hkl]; omega), hkl, show ps.length - 1 - (ps.length - 1 - n) = n from by omega]) (ps.length - 1 - i) (by rw [moved_length]; omega)
  rw [← key, List.getElem?_reverse (by rw [hkl]; omega), hkl, show ps.length - 1 - (ps.length - 1 - i) = i from by omega]
end Go.Proofs.Ytndojciealkhmaa
