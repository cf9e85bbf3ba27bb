/-
  Package config, plainly: numbers of nodes, configurations. Slices of numbers as they lie.
-/
import Derived.Test.YtmncjibokpieoaaBas
namespace Go.Proofs.Ytmncjibokpieoaa
open Go.RowKit

/-- A number as a value. -/
def zv (z : Int) : Value := .int .i64 z
/-- A slice of numbers. -/
def Zs (w : World) (D : Nat → Prop) (v : Value) (zs : List Int) : Prop := Row w D v zs.length 1 (zs.map zv)
section
variable {w w' : World} {S D D' : Nat → Prop} {v : Value} {zs : List Int}
theorem Zs.keep (h : Zs w D v zs) (k : Keep S w w') (hs : ∀ i, i < w.heap.size → D i → ¬ S i) : Zs w' D v zs := Row.keep h k hs
theorem Zs.keepN (h : Zs w D v zs) (k : Keep noneOf w w') : Zs w' D v zs := Row.keep h k (fun _ _ _ => id)
theorem Zs.mono (h : Zs w D v zs) (hD : ∀ i, i < w.heap.size → D i → D' i) : Zs w D' v zs := Row.mono h hD
theorem Zs.nil (w : World) (D : Nat → Prop) : Zs w D (.slice none 0 0) [] := ⟨none, 0, rfl, Nat.le_refl _, Nat.zero_le _, fun _ => rfl, rfl, fun h => absurd h (by simp)⟩
theorem Zs.shape (h : Zs w D v zs) : ∃ A c, v = .slice A zs.length c ∧ zs.length ≤ c ∧ c ≤ maxLen ∧ (A = none → zs.length = 0) := by
  obtain ⟨A, c, hv, h1, h2, h3, _⟩ := h
  refine ⟨A, c, hv, h1, h2, fun hA => ?_⟩
  have := h3 hA
  omega
theorem Zs.of_own {base : Nat} {e : TypeId} (h : w.ownsRow base e 1 v zs.length (zs.map zv)) : Zs w (fun k => base ≤ k) v zs := Row.of_own h
theorem Zs.cell {A : Option Addr} {n c : Nat} (h : Zs w D (.slice A n c) zs) {k : Nat} (hk : k < zs.length) :
    ∃ b o, A = some ⟨b, o, none⟩ ∧ b < w.heap.size ∧ D b ∧ w.cell? ⟨b, o + k, none⟩ = some (.int .i64 zs[k]) := by
  obtain ⟨A', c', hv', _, _, _, _, hrow⟩ := h
  obtain ⟨rfl, _, rfl⟩ : A = A' ∧ n = zs.length ∧ c = c' := by simpa using hv'
  obtain ⟨ad, rfl, hsp, hblk, hD, hcell⟩ := hrow (by omega)
  obtain ⟨b, o, sp⟩ := ad
  simp only at hsp hblk hD hcell
  subst hsp
  exact ⟨b, o, rfl, hblk, hD, hcell k _ (by rw [List.getElem?_map, List.getElem?_eq_getElem hk]; rfl)⟩
theorem Zs.block {A : Option Addr} {n c : Nat} (h : Zs w D (.slice A n c) zs) (h0 : 0 < zs.length) :
    ∃ b o, A = some ⟨b, o, none⟩ ∧ b < w.heap.size ∧ D b ∧ ∀ k (hk : k < zs.length), w.cell? ⟨b, o + k, none⟩ = some (.int .i64 zs[k]) := by
  obtain ⟨b, o, rfl, hb, hD, _⟩ := h.cell h0
  refine ⟨b, o, rfl, hb, hD, fun k hk => ?_⟩
  obtain ⟨b', o', he, _, _, hc⟩ := h.cell hk
  injection he with he
  injection he with h1 h2
  subst h1 h2
  exact hc
end

/-- A configuration: who votes, who learns. -/
structure Cf where
  v : List Int
  l : List Int
/-- A configuration as it lies. -/
def CfAt (w : World) (D : Nat → Prop) (v : Value) (c : Cf) : Prop := ∃ a b, v = .agg #[a, b] ∧ Zs w D a c.v ∧ Zs w D b c.l
theorem CfAt.keep {w w' : World} {S D : Nat → Prop} {v : Value} {c : Cf} (h : CfAt w D v c) (k : Keep S w w') (hs : ∀ i, i < w.heap.size → D i → ¬ S i) : CfAt w' D v c := by
  obtain ⟨a, b, rfl, h1, h2⟩ := h
  exact ⟨a, b, rfl, h1.keep k hs, h2.keep k hs⟩
theorem CfAt.keepN {w w' : World} {D : Nat → Prop} {v : Value} {c : Cf} (h : CfAt w D v c) (k : Keep noneOf w w') : CfAt w' D v c := h.keep k (fun _ _ _ => id)
theorem CfAt.mono {w : World} {D D' : Nat → Prop} {v : Value} {c : Cf} (h : CfAt w D v c) (hD : ∀ i, i < w.heap.size → D i → D' i) : CfAt w D' v c := by
  obtain ⟨a, b, rfl, h1, h2⟩ := h
  exact ⟨a, b, rfl, h1.mono hD, h2.mono hD⟩
theorem CfAt.nil (w : World) (D : Nat → Prop) : CfAt w D (.agg #[.slice none 0 0, .slice none 0 0]) ⟨[], []⟩ := ⟨_, _, rfl, Zs.nil w D, Zs.nil w D⟩

/-- Do numbers rise, from above one on, below eight? -/
def ascFrom (b : Int) : List Int → Bool
  | [] => true
  | x :: r => decide (b < x) && decide (x < 8) && ascFrom x r
def ascP (l : List Int) : Bool := ascFrom (-1) l
def inP (l : List Int) (z : Int) : Bool := decide (z ∈ l)
theorem inP_true {l : List Int} {z : Int} : inP l z = true ↔ z ∈ l := decide_eq_true_iff
theorem inP_false {l : List Int} {z : Int} : inP l z = false ↔ z ∉ l := decide_eq_false_iff_not
def overP (c : Cf) : Bool := c.l.any (fun x => inP c.v x)
def chkP (c : Cf) : Int := if c.v.length = 0 then 140 else if ascP c.v = false then 140 else if ascP c.l = false then 140 else if overP c = true then 140 else 0
def hasP (c : Cf) (z : Int) : Bool := inP c.v z || inP c.l z
def manyP (c : Cf) (ns : List Int) : Nat := (c.v.filter (fun x => inP ns x)).length
def majP (c : Cf) (ns : List Int) : Bool := decide (c.v.length / 2 < manyP c ns)

theorem asc_step {b : Int} {l : List Int} {k : Nat} (hk : k < l.length) : ascFrom b (l.drop k) = (decide (b < l[k]) && decide (l[k] < 8) && ascFrom l[k] (l.drop (k + 1))) := by
  rw [List.drop_eq_getElem_cons hk]
  rfl
theorem asc_end {b : Int} {l : List Int} {k : Nat} (hk : l.length ≤ k) : ascFrom b (l.drop k) = true := by
  rw [List.drop_eq_nil_of_le hk]
  rfl
/-- What rises, as one says it. -/
theorem asc_iff (b : Int) (l : List Int) : ascFrom b l = true ↔ l.Pairwise (· < ·) ∧ ∀ x ∈ l, b < x ∧ x < 8 := by
  induction l generalizing b with
  | nil => simp [ascFrom]
  | cons y r ih =>
    unfold ascFrom
    rw [Bool.and_eq_true, Bool.and_eq_true, decide_eq_true_eq, decide_eq_true_eq, ih, List.pairwise_cons]
    constructor
    · rintro ⟨⟨h1, h2⟩, h3, h4⟩
      refine ⟨⟨fun x hx => (h4 x hx).1, h3⟩, fun x hx => ?_⟩
      rcases List.mem_cons.1 hx with rfl | hx
      · exact ⟨h1, h2⟩
      · have := h4 x hx
        exact ⟨by omega, this.2⟩
    · rintro ⟨⟨h1, h2⟩, h3⟩
      have hy := h3 y (List.mem_cons_self ..)
      exact ⟨hy, h2, fun x hx => ⟨h1 x hx, (h3 x (List.mem_cons_of_mem _ hx)).2⟩⟩
theorem ascP_iff (l : List Int) : ascP l = true ↔ l.Pairwise (· < ·) ∧ ∀ x ∈ l, 0 ≤ x ∧ x < 8 := by
  unfold ascP
  rw [asc_iff]
  refine and_congr_right (fun _ => forall_congr' fun x => forall_congr' fun _ => ?_)
  omega
/-- Two lists that rise and have the same numbers are one. -/
theorem rises_one : ∀ {a b : List Int}, a.Pairwise (· < ·) → b.Pairwise (· < ·) → (∀ x, x ∈ a ↔ x ∈ b) → a = b
  | [], [], _, _, _ => rfl
  | [], y :: b, _, _, h => absurd ((h y).2 (List.mem_cons_self ..)) (by simp)
  | x :: a, [], _, _, h => absurd ((h x).1 (List.mem_cons_self ..)) (by simp)
  | x :: a, y :: b, ha, hb, h => by
    rw [List.pairwise_cons] at ha hb
    have hxy : x = y := by
      rcases List.mem_cons.1 ((h x).1 (List.mem_cons_self ..)) with e | hx
      · exact e
      · rcases List.mem_cons.1 ((h y).2 (List.mem_cons_self ..)) with e | hy
        · exact e.symm
        · have h1 := ha.1 y hy
          have h2 := hb.1 x hx
          omega
    subst hxy
    rw [rises_one ha.2 hb.2 (fun z => ?_)]
    constructor
    · intro hz
      rcases List.mem_cons.1 ((h z).1 (List.mem_cons_of_mem _ hz)) with e | hz'
      · subst e
        have := ha.1 z hz
        omega
      · exact hz'
    · intro hz
      rcases List.mem_cons.1 ((h z).2 (List.mem_cons_of_mem _ hz)) with e | hz'
      · subst e
        have := hb.1 z hz
        omega
      · exact hz'
end Go.Proofs.Ytmncjibokpieoaa
