/-
  Targets in memory, and without it.
-/
import Derived.Test.YtfijbjbfnpadmaaDoorRows
import Derived.Test.YtfijbjbfnpadmaaDoorMem
namespace Go.Proofs.YtfijbjbfnpadmaaDoor
open Go.RowKit

/-- The slice value v, of n elements of so many cells each, reads as the cells xs; where there are any, they lie in one of the blocks of D. -/
def Row (w : World) (D : Nat → Prop) (v : Value) (n size : Nat) (xs : List Value) : Prop :=
  ∃ (A : Option Addr) (c : Nat), v = .slice A n c ∧ n ≤ c ∧ c ≤ maxLen ∧ (A = none → c = 0) ∧ xs.length = n * size ∧
    (0 < n → ∃ ad : Addr, A = some ad ∧ ad.spot = none ∧ ad.block < w.heap.size ∧ D ad.block ∧ ∀ j x, xs[j]? = some x → w.cell? ⟨ad.block, ad.off + j, none⟩ = some x)
theorem Row.keep {w w' : World} {S D : Nat → Prop} {v : Value} {n size : Nat} {xs : List Value} (h : Row w D v n size xs) (k : Keep S w w') (hs : ∀ i, i < w.heap.size → D i → ¬ S i) : Row w' D v n size xs := by
  obtain ⟨A, c, hv, hl, hm, hn, hx, hc⟩ := h
  refine ⟨A, c, hv, hl, hm, hn, hx, fun h0 => ?_⟩
  obtain ⟨ad, hA, hsp, hlt, hD, hcell⟩ := hc h0
  exact ⟨ad, hA, hsp, Nat.lt_of_lt_of_le hlt k.size, hD, fun j b hb => (k.cell (p := ⟨ad.block, ad.off + j, none⟩) hlt (hs _ hlt hD)).trans (hcell j b hb)⟩
theorem Row.mono {w : World} {D D' : Nat → Prop} {v : Value} {n size : Nat} {xs : List Value} (h : Row w D v n size xs) (hD : ∀ i, i < w.heap.size → D i → D' i) : Row w D' v n size xs := by
  obtain ⟨A, c, hv, hl, hm, hn, hx, hc⟩ := h
  refine ⟨A, c, hv, hl, hm, hn, hx, fun h0 => ?_⟩
  obtain ⟨ad, hA, hsp, hlt, hd, hcell⟩ := hc h0
  exact ⟨ad, hA, hsp, hlt, hD _ hlt hd, hcell⟩

/-- A slice of strings. -/
def Strs (w : World) (D : Nat → Prop) (v : Value) (ss : List ByteArray) : Prop := Row w D v ss.length 1 (ss.map Value.string) ∧ ∀ s ∈ ss, s.size ≤ maxLen
theorem Strs.keep {w w' : World} {S D : Nat → Prop} {v : Value} {ss : List ByteArray} (h : Strs w D v ss) (k : Keep S w w') (hs : ∀ i, i < w.heap.size → D i → ¬ S i) : Strs w' D v ss := ⟨h.1.keep k hs, h.2⟩

/-- A target, with the value of the slice of its needs. -/
structure Tg where
  name : ByteArray
  cmd : ByteArray
  nv : Value
  needs : List ByteArray
def Tg.cells (t : Tg) : List Value := [.string t.name, .string t.cmd, t.nv]
/-- A target that lies in memory as it should. -/
def Tg.lies (w : World) (D : Nat → Prop) (t : Tg) : Prop := t.name.size ≤ maxLen ∧ t.cmd.size ≤ maxLen ∧ Strs w D t.nv t.needs
/-- A slice of targets. -/
def Tgs (w : World) (D : Nat → Prop) (v : Value) (ts : List Tg) : Prop := Row w D v ts.length 3 (ts.flatMap Tg.cells) ∧ ∀ t ∈ ts, t.lies w D
theorem Tgs.keep {w w' : World} {S D : Nat → Prop} {v : Value} {ts : List Tg} (h : Tgs w D v ts) (k : Keep S w w') (hs : ∀ i, i < w.heap.size → D i → ¬ S i) : Tgs w' D v ts :=
  ⟨h.1.keep k hs, fun t ht => ⟨(h.2 t ht).1, (h.2 t ht).2.1, (h.2 t ht).2.2.keep k hs⟩⟩

theorem cells_at {ts : List Tg} {k : Nat} {t : Tg} (h : ts[k]? = some t) (j : Nat) (hj : j < 3) : (ts.flatMap Tg.cells)[3 * k + j]? = t.cells[j]? := by
  induction ts generalizing k with
  | nil => simp at h
  | cons a l ih =>
    cases k with
    | zero =>
      simp at h
      subst h
      rw [List.flatMap_cons, List.getElem?_append_left (by simp [Tg.cells]; omega)]
      simp
    | succ k =>
      simp at h
      rw [List.flatMap_cons, List.getElem?_append_right (by simp [Tg.cells]; omega), ← ih h]
      congr 1
      simp [Tg.cells]
      omega

theorem cells_length (ts : List Tg) : (ts.flatMap Tg.cells).length = ts.length * 3 := by
  induction ts with
  | nil => rfl
  | cons a l ih => rw [List.flatMap_cons, List.length_append, ih, List.length_cons]; simp [Tg.cells]; omega

theorem str_beq (s t : ByteArray) : (s.toList == t.toList) = decide (s = t) := by
  rw [Bool.eq_iff_iff, beq_iff_eq, decide_eq_true_eq, ByteArray.toList_eq, ByteArray.toList_eq]
  constructor
  · intro h
    obtain ⟨⟨l⟩⟩ := s
    obtain ⟨⟨m⟩⟩ := t
    have h' : l = m := h
    rw [h']
  · rintro rfl
    rfl

theorem ret_bool {a b : Bool} (h : a = b) : Ending.returned (.bool a) = .returned (.bool b) := by rw [h]

theorem info_parts {P : Program} {t : TypeId} {x : Option Value} {s b : Nat} (h : (P.info? t).map (fun i => (i.zero, i.size, i.bytes)) = some (x, s, b)) : ∃ i, P.info? t = some i ∧ i.zero = x ∧ i.size = s ∧ i.bytes = b := by
  cases hi : P.info? t with
  | none => rw [hi] at h; cases h
  | some i =>
    rw [hi] at h
    simp at h
    exact ⟨i, rfl, h.1, h.2.1, h.2.2⟩
theorem Row.of_own {w : World} {base : Nat} {e : TypeId} {size : Nat} {v : Value} {n : Nat} {xs : List Value} (h : w.ownsRow base e size v n xs) : Row w (fun k => base ≤ k) v n size xs := by
  rcases h.2 with ⟨rfl, rfl⟩ | ⟨g, cap, cur, rfl, hb, hg, hle, hmx, hsz, htk⟩
  · exact ⟨none, 0, rfl, Nat.le_refl _, Nat.zero_le _, fun _ => rfl, h.1, fun h0 => absurd h0 (by simp)⟩
  · refine ⟨some ⟨g, 0, none⟩, cap, rfl, hle, hmx, fun e => (by cases e), h.1, fun _ => ⟨⟨g, 0, none⟩, rfl, rfl, (Array.getElem?_eq_some_iff.1 hg).1, hb, fun j b hb => ?_⟩⟩
    rw [← htk, List.getElem?_take] at hb
    split at hb
    · show w.cell? ⟨g, 0 + j, none⟩ = _
      rw [Nat.zero_add, cell_of_row w g j cur e (0, 0) hg]
      simpa using hb
    · cases hb

/-- A slice of ints, none below nought. -/
def iv (n : Nat) : Value := .int .i64 (n : Int)
def Ints (w : World) (D : Nat → Prop) (v : Value) (ns : List Nat) : Prop := Row w D v ns.length 1 (ns.map iv)
theorem Ints.keep {w w' : World} {S D : Nat → Prop} {v : Value} {ns : List Nat} (h : Ints w D v ns) (k : Keep S w w') (hs : ∀ i, i < w.heap.size → D i → ¬ S i) : Ints w' D v ns := Row.keep h k hs
theorem Ints.of_own {w : World} {base : Nat} {e : TypeId} {v : Value} {ns : List Nat} (h : w.ownsRow base e 1 v ns.length (ns.map iv)) : Ints w (fun k => base ≤ k) v ns := Row.of_own h

/-- A target without its memory. -/
structure Pt where
  name : ByteArray
  cmd : ByteArray
  needs : List ByteArray
def Tg.plain (t : Tg) : Pt := ⟨t.name, t.cmd, t.needs⟩

/-- The cells of the k-th of some targets. -/
theorem tgs_at {w w' : World} {b o : Nat} {ts : List Tg} {k : Nat} {t : Tg} (hK : Keep noneOf w w') (hblk : b < w.heap.size)
    (hcell : ∀ j x, (ts.flatMap Tg.cells)[j]? = some x → w.cell? ⟨b, o + j, none⟩ = some x) (h : ts[k]? = some t) :
    w'.cell? ⟨b, o + k * 3, none⟩ = some (.string t.name) ∧ w'.cell? ⟨b, o + k * 3 + 1, none⟩ = some (.string t.cmd) ∧ w'.cell? ⟨b, o + k * 3 + 2, none⟩ = some t.nv := by
  have hcc : ∀ j, j < 3 → ∀ x, t.cells[j]? = some x → w'.cell? ⟨b, o + (k * 3 + j), none⟩ = some x := fun j hj x hx =>
    (hK.cell (p := ⟨b, o + (k * 3 + j), none⟩) hblk id).trans (hcell _ x ((Nat.mul_comm k 3 ▸ cells_at h j hj).trans hx))
  exact ⟨hcc 0 (by decide) _ rfl, hcc 1 (by decide) _ rfl, hcc 2 (by decide) _ rfl⟩
end Go.Proofs.YtfijbjbfnpadmaaDoor
