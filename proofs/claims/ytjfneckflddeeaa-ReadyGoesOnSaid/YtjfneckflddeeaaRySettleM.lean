/-
  States brought up to date, plainly.
-/
import Derived.Test.YtjfneckflddeeaaRyCopied
namespace Go.Proofs.Ytjfneckflddeeaa

/-- Is a need lost? -/
def lostS (s : Int) : Bool := decide (4 ≤ s) && decide (s ≤ 6)
/-- What comes of a state that waits for needs of these states. -/
def outc (ss : List Int) : Int := if ss.any lostS = true then 5 else if ss.all (fun s => s == 3) = true then 1 else 0
theorem outc_lost {ss : List Int} {s : Int} (h : s ∈ ss) (hs : lostS s = true) : outc ss = 5 := by
  unfold outc
  rw [if_pos (List.any_eq_true.2 ⟨s, h, hs⟩)]
theorem outc_else {ss : List Int} (h : ∀ s ∈ ss, lostS s = false) : outc ss = if ss.all (fun s => s == 3) = true then 1 else 0 := by
  unfold outc
  rw [if_neg]
  intro hh
  obtain ⟨s, hs, h2⟩ := List.any_eq_true.1 hh
  rw [h s hs] at h2
  cases h2
theorem outc_range (ss : List Int) : outc ss = 5 ∨ outc ss = 1 ∨ outc ss = 0 := by
  unfold outc
  split
  · exact .inl rfl
  · split
    · exact .inr (.inl rfl)
    · exact .inr (.inr rfl)

/-- The states of what a place needs. -/
def needSt (ps : List Pt) (l : List Pst) (p : Nat) : List Int := (needsAt ps (p : Int)).map (fun n => (l.getD n Pst.zero).s)
/-- A place's new state, by what it was and by what is known of its needs. -/
def settleAt (ps : List Pt) (l0 : List Pst) (l : List Pst) (p : Nat) : Pst :=
  if (l0.getD p Pst.zero).s = 0 ∧ outc (needSt ps l p) ≠ 0 then ⟨outc (needSt ps l p), 0, 0⟩ else l0.getD p Pst.zero
/-- What Settle answers. -/
noncomputable def grSettle (ps : List Pt) (l : List Pst) : List Pst := if (grOrder ps).length = l.length then runOf (settleAt ps l) l (grOrder ps) else []
theorem settleAt_looks (ps : List Pt) (l0 : List Pst) : Looks (ps.map (needsOf ps)) (settleAt ps l0) := by
  intro l m p h
  have e : needSt ps l p = needSt ps m p := by
    unfold needSt
    refine List.map_congr_left fun n hn => ?_
    rw [List.getD_eq_getElem?_getD, List.getD_eq_getElem?_getD, h n (by rw [needsAt_nd]; exact hn)]
  unfold settleAt
  rw [e]
theorem grSettle_length {ps : List Pt} {l : List Pst} (h : (grOrder ps).length = l.length) : (grSettle ps l).length = l.length := by
  unfold grSettle
  rw [if_pos h, runOf_length]
theorem grSettle_le (ps : List Pt) (l : List Pst) : (grSettle ps l).length ≤ l.length := by
  by_cases h : (grOrder ps).length = l.length
  · exact Nat.le_of_eq (grSettle_length h)
  · unfold grSettle
    rw [if_neg h]
    exact Nat.zero_le _
/-- What is not yet visited stands as it did. -/
theorem runOf_untouched {α : Type} (f : List α → Nat → α) (l : List α) (order : List Nat) (q : Nat) (h : q ∉ order) : (runOf f l order)[q]? = l[q]? := by
  unfold runOf
  induction order generalizing l with
  | nil => rfl
  | cons p os ih =>
    rw [List.foldl_cons, ih _ (fun hq => h (List.mem_cons_of_mem _ hq)), List.getElem?_set_ne]
    rintro rfl
    exact h List.mem_cons_self
theorem order_next {ps : List Pt} {k p : Nat} (h : (grOrder ps)[k]? = some p) : p ∉ (grOrder ps).take k := by
  have hq := (order_some h).1
  rw [order_is hq] at h ⊢
  exact (Ordered.places ps k p h).2.1
/-- The states that are told: each is as settleAt has it of the whole. -/
theorem grSettle_sol {ps : List Pt} {l : List Pst} (h : grCheck ps = 0) (hl : l.length = ps.length) (p : Nat) (hp : p < ps.length) : (grSettle ps l)[p]? = some (settleAt ps l (grSettle ps l) p) := by
  have hp' := order_covers (Ordered.places ps).nodup (by simpa using (Ordered.places ps).lt) (by rw [← order_is h, order_len h]) p hp
  have := runOf_sol (settleAt_looks ps l) (Ordered.places ps) l (by rw [List.length_map, hl]) (placesOf ps).length p (by rw [List.take_length]; exact hp')
  rw [List.take_length] at this
  unfold grSettle
  rw [if_pos (by rw [order_len h, hl]), order_is h]
  exact this
/-- There is one such list alone. -/
theorem grSettle_only {ps : List Pt} {l m : List Pst} (h : grCheck ps = 0) (hl : l.length = ps.length) (hm : m.length = ps.length) (hs : ∀ p, p < ps.length → m[p]? = some (settleAt ps l m p)) : m = grSettle ps l := by
  have ho := Ordered.places ps
  have hlt : ∀ q ∈ (placesOf ps).take (placesOf ps).length, q < ps.length := fun q hq => by
    have := ho.lt q (List.mem_of_mem_take hq)
    simpa using this
  apply list_ext3
  intro p
  by_cases hp : p < ps.length
  · have hp' := order_covers ho.nodup (by simpa using ho.lt) (by rw [← order_is h, order_len h]) p hp
    exact sol_same (settleAt_looks ps l) ho m (grSettle ps l) (placesOf ps).length (fun q hq => hs q (hlt q hq)) (fun q hq => grSettle_sol h hl q (hlt q hq)) p (by rw [List.take_length]; exact hp')
  · rw [List.getElem?_eq_none (by omega), List.getElem?_eq_none (by rw [grSettle_length (by rw [order_len h, hl])]; omega)]
theorem grSettle_none {ps : List Pt} {l : List Pst} (h : grCheck ps ≠ 0) : grSettle ps l = [] := by
  unfold grSettle
  rw [order_none h]
  split
  · rename_i hl
    have : l = [] := List.eq_nil_of_length_eq_zero (by simpa using hl.symm)
    rw [this]
    rfl
  · rfl
theorem grSettle_other {ps : List Pt} {l : List Pst} (h : l.length ≠ ps.length) : grSettle ps l = [] := by
  by_cases hq : grCheck ps = 0
  · unfold grSettle
    rw [if_neg (by rw [order_len hq]; omega)]
  · exact grSettle_none hq
/-- The states that a graph has at its beginning. -/
def stBegin (n : Nat) (fs : List Bool) : List Pst := (List.range n).map (fun i => ⟨if fs.getD i false = true then 3 else 0, 0, 0⟩)
theorem stBegin_length (n : Nat) (fs : List Bool) : (stBegin n fs).length = n := by simp [stBegin]
theorem stBegin_at {n : Nat} (fs : List Bool) {i : Nat} (h : i < n) : (stBegin n fs)[i]? = some ⟨if fs.getD i false = true then 3 else 0, 0, 0⟩ := by
  unfold stBegin
  rw [List.getElem?_map, List.getElem?_range h]
  rfl
noncomputable def grStart (ps : List Pt) (fs : List Bool) : List Pst := grSettle ps (stBegin ps.length fs)
end Go.Proofs.Ytjfneckflddeeaa
