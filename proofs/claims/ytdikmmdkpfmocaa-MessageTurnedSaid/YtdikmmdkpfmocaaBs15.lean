import Derived.Deep.AppendLies
import Derived.Deep.RegionHeld3
import Derived.Lib.SlicesCompact
import Derived.Test.YtdikmmdkpfmocaaBs07
namespace Go.Proofs.Ytdikmmdkpfmocaa
open Go.RowKit
def zv (z : Int) : Value := .int .i64 z
def Zs (w : World) (D : Nat → Prop) (v : Value) (zs : List Int) : Prop := Row w D v zs.length 1 (zs.map zv)
section
variable {w w' : World} {S D D' : Nat → Prop} {v : Value} {zs : List Int}
theorem Zs.keep (h : Zs w D v zs) (k : Keep S w w') (hs : ∀ i, i < w.heap.size → D i → ¬ S i) : Zs w' D v zs := Row.keep h k hs
theorem Zs.keepN (h : Zs w D v zs) (k : Keep noneOf w w') : Zs w' D v zs := Row.keep h k (fun _ _ _ => id)
theorem Zs.mono (h : Zs w D v zs) (hD : ∀ i, i < w.heap.size → D i → D' i) : Zs w D' v zs := Row.mono h hD
theorem Zs.nil (w : World) (D : Nat → Prop) : Zs w D (.slice none 0 0) [] := ⟨none, 0, rfl, Nat.le_refl _, Nat.zero_le _, fun _ => rfl, rfl, fun h => absurd h (by simp)⟩
theorem Zs.shape (h : Zs w D v zs) : ∃ A c, v = .slice A zs.length c ∧ zs.length ≤ c ∧ c ≤ maxLen ∧ (A = none → zs.length = 0) := by
  obtain ⟨A, c, hv, h1, h2, h3, _⟩ := h
  refine ⟨A, c, hv, h1, h2, fun hA => ?_⟩
  have := h3 hA
  omega
theorem Zs.of_own {base : Nat} {e : TypeId} (h : w.ownsRow base e 1 v zs.length (zs.map zv)) : Zs w (fun k => base ≤ k) v zs := Row.of_own h
theorem Zs.cell {A : Option Addr} {n c : Nat} (h : Zs w D (.slice A n c) zs) {k : Nat} (hk : k < zs.length) :
    ∃ b o, A = some ⟨b, o, none⟩ ∧ b < w.heap.size ∧ D b ∧ w.cell? ⟨b, o + k, none⟩ = some (.int .i64 zs[k]) := by
  obtain ⟨A', c', hv', _, _, _, _, hrow⟩ := h
  obtain ⟨rfl, _, rfl⟩ : A = A' ∧ n = zs.length ∧ c = c' := by simpa using hv'
  obtain ⟨ad, rfl, hsp, hblk, hD, hcell⟩ := hrow (by omega)
  obtain ⟨b, o, sp⟩ := ad
  simp only at hsp hblk hD hcell
  subst hsp
  exact ⟨b, o, rfl, hblk, hD, hcell k _ (by rw [List.getElem?_map, List.getElem?_eq_getElem hk]; rfl)⟩
theorem Zs.block {A : Option Addr} {n c : Nat} (h : Zs w D (.slice A n c) zs) (h0 : 0 < zs.length) :
    ∃ b o, A = some ⟨b, o, none⟩ ∧ b < w.heap.size ∧ D b ∧ ∀ k (hk : k < zs.length), w.cell? ⟨b, o + k, none⟩ = some (.int .i64 zs[k]) := by
  obtain ⟨b, o, rfl, hb, hD, _⟩ := h.cell h0
  refine ⟨b, o, rfl, hb, hD, fun k hk => ?_⟩
  obtain ⟨b', o', he, _, _, hc⟩ := h.cell hk
  injection he with he
  injection he with h1 h2
  subst h1 h2
  exact hc
end
structure Cf where
  v : List Int
  l : List Int
def CfAt (w : World) (D : Nat → Prop) (v : Value) (c : Cf) : Prop := ∃ a b, v = .agg #[a, b] ∧ Zs w D a c.v ∧ Zs w D b c.l
theorem CfAt.keep {w w' : World} {S D : Nat → Prop} {v : Value} {c : Cf} (h : CfAt w D v c) (k : Keep S w w') (hs : ∀ i, i < w.heap.size → D i → ¬ S i) : CfAt w' D v c := by
  obtain ⟨a, b, rfl, h1, h2⟩ := h
  exact ⟨a, b, rfl, h1.keep k hs, h2.keep k hs⟩
theorem CfAt.keepN {w w' : World} {D : Nat → Prop} {v : Value} {c : Cf} (h : CfAt w D v c) (k : Keep noneOf w w') : CfAt w' D v c := h.keep k (fun _ _ _ => id)
theorem CfAt.mono {w : World} {D D' : Nat → Prop} {v : Value} {c : Cf} (h : CfAt w D v c) (hD : ∀ i, i < w.heap.size → D i → D' i) : CfAt w D' v c := by
  obtain ⟨a, b, rfl, h1, h2⟩ := h
  exact ⟨a, b, rfl, h1.mono hD, h2.mono hD⟩
theorem CfAt.nil (w : World) (D : Nat → Prop) : CfAt w D (.agg #[.slice none 0 0, .slice none 0 0]) ⟨[], []⟩ := ⟨_, _, rfl, Zs.nil w D, Zs.nil w D⟩
def ascFrom (b : Int) : List Int → Bool
  | [] => true
  | x :: r => decide (b < x) && decide (x < 8) && ascFrom x r
def ascP (l : List Int) : Bool := ascFrom (-1) l
def inP (l : List Int) (z : Int) : Bool := decide (z ∈ l)
theorem inP_true {l : List Int} {z : Int} : inP l z = true ↔ z ∈ l := decide_eq_true_iff
def overP (c : Cf) : Bool := c.l.any (fun x => inP c.v x)
def chkP (c : Cf) : Int := if c.v.length = 0 then 140 else if ascP c.v = false then 140 else if ascP c.l = false then 140 else if overP c = true then 140 else 0
theorem asc_step {b : Int} {l : List Int} {k : Nat} (hk : k < l.length) : ascFrom b (l.drop k) = (decide (b < l[k]) && decide (l[k] < 8) && ascFrom l[k] (l.drop (k + 1))) := by
  rw [List.drop_eq_getElem_cons hk]
  rfl
theorem asc_end {b : Int} {l : List Int} {k : Nat} (hk : l.length ≤ k) : ascFrom b (l.drop k) = true := by
  rw [List.drop_eq_nil_of_le hk]
  rfl
theorem asc_iff (b : Int) (l : List Int) : ascFrom b l = true ↔ l.Pairwise (· < ·) ∧ ∀ x ∈ l, b < x ∧ x < 8 := by
  induction l generalizing b with
  | nil => simp [ascFrom]
  | cons y r ih =>
    unfold ascFrom
    rw [Bool.and_eq_true, Bool.and_eq_true, decide_eq_true_eq, decide_eq_true_eq, ih, List.pairwise_cons]
    constructor
    · rintro ⟨⟨h1, h2⟩, h3, h4⟩
      refine ⟨⟨fun x hx => (h4 x hx).1, h3⟩, fun x hx => ?_⟩
      rcases List.mem_cons.1 hx with rfl | hx
      · exact ⟨h1, h2⟩
      · have := h4 x hx
        exact ⟨by omega, this.2⟩
    · rintro ⟨⟨h1, h2⟩, h3⟩
      have hy := h3 y (List.mem_cons_self ..)
      exact ⟨hy, h2, fun x hx => ⟨h1 x hx, (h3 x (List.mem_cons_of_mem _ hx)).2⟩⟩
theorem ascP_iff (l : List Int) : ascP l = true ↔ l.Pairwise (· < ·) ∧ ∀ x ∈ l, 0 ≤ x ∧ x < 8 := by
  unfold ascP
  rw [asc_iff]
  refine and_congr_right (fun _ => forall_congr' fun x => forall_congr' fun _ => ?_)
  omega
end Go.Proofs.Ytdikmmdkpfmocaa
namespace Go.Proofs.Ytdikmmdkpfmocaa
open Go.RowKit
theorem intinfo : (Try.prog.info? 3).map (fun i => (i.zero, i.size, i.bytes)) = some (some (.int .i64 0), 1, 8) := by kernel_rfl
section
variable {P : Program}
end
end Go.Proofs.Ytdikmmdkpfmocaa
namespace Go.Proofs.Ytdikmmdkpfmocaa
open Go.RowKit
theorem rise_len {a : List Int} {b : List Int} (ha : a.Pairwise (· < ·)) (h : ∀ x ∈ a, x ∈ b) : a.length ≤ b.length := by
  have hn : a.Nodup := ha.imp (fun h => by omega)
  exact hn.length_le_of_subset h
structure Valid (c : Cf) : Prop where
  some_ : c.v ≠ []
  vs : c.v.Pairwise (· < ·)
  ls : c.l.Pairwise (· < ·)
  v8 : ∀ x ∈ c.v, 0 ≤ x ∧ x < 8
  l8 : ∀ x ∈ c.l, 0 ≤ x ∧ x < 8
  apart : ∀ x ∈ c.l, x ∉ c.v
theorem chk_range (c : Cf) : chkP c = 0 ∨ chkP c = 140 := by
  unfold chkP
  repeat' split
  all_goals simp
theorem chk_iff (c : Cf) : chkP c = 0 ↔ Valid c := by
  unfold chkP
  constructor
  · intro h
    split at h
    · cases h
    · split at h
      · cases h
      · split at h
        · cases h
        · split at h
          · cases h
          · rename_i h1 h2 h3 h4
            have a := (ascP_iff _).1 (by simpa using h2)
            have b := (ascP_iff _).1 (by simpa using h3)
            refine ⟨fun e => h1 (by rw [e]; rfl), a.1, b.1, a.2, b.2, fun x hx hv => h4 ?_⟩
            unfold overP
            exact List.any_eq_true.2 ⟨x, hx, inP_true.2 hv⟩
  · intro h
    have h1 : ¬ c.v.length = 0 := fun e => h.some_ (List.eq_nil_of_length_eq_zero e)
    rw [if_neg h1, if_neg (by rw [(ascP_iff _).2 ⟨h.vs, h.v8⟩]; decide), if_neg (by rw [(ascP_iff _).2 ⟨h.ls, h.l8⟩]; decide), if_neg]
    intro e
    unfold overP at e
    obtain ⟨x, hx, hv⟩ := List.any_eq_true.1 e
    exact h.apart x hx (inP_true.1 hv)
theorem eight {l : List Int} (h : l.Pairwise (· < ·)) (h8 : ∀ x ∈ l, 0 ≤ x ∧ x < 8) : l.length ≤ 8 :=
  rise_len (b := [0, 1, 2, 3, 4, 5, 6, 7]) h (fun x hx => by have := h8 x hx; simp; omega)
end Go.Proofs.Ytdikmmdkpfmocaa
