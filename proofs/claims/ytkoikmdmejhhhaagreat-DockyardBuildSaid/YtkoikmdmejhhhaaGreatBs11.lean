import Derived.BigQuiet
import Derived.Deep.AppendLies
import Derived.Deep.QuietTactic
import Derived.Deep.RegionHeld3
import Derived.IntWalk
import Derived.Laws.CopyRow
import Derived.Laws.EntriesVeiled
import Derived.Laws.OwnMore
import Derived.Lib.AppendStr
import Derived.Test.YtkoikmdmejhhhaaGreatBs03
import Derived.Test.YtkoikmdmejhhhaaGreatBs04
import Derived.Test.YtkoikmdmejhhhaaGreatBs07
import Derived.Test.YtkoikmdmejhhhaaGreatBs08
import Derived.Test.YtkoikmdmejhhhaaGreatBs09
import Derived.Test.YtkoikmdmejhhhaaGreatBs10
namespace Go.Proofs.YtkoikmdmejhhhaaGreat
open Go.RowKit
def LeastOk (nd : List (List Nat)) (l : List Nat) (n m : Nat) (nx : Int) : Prop :=
  (nx = -1 ∧ ∀ j, m ≤ j → j < n → okAt nd l j = false) ∨ (∃ q : Nat, nx = q ∧ m ≤ q ∧ q < n ∧ okAt nd l q = true ∧ ∀ j, m ≤ j → j < q → okAt nd l j = false)
theorem LeastOk.next {nd : List (List Nat)} {l : List Nat} {nx : Int} (h : LeastOk nd l nd.length 0 nx) : (nx = -1 ∧ nextOf nd l = none) ∨ ∃ q : Nat, nx = q ∧ nextOf nd l = some q := by
  rcases h with ⟨h1, h2⟩ | ⟨q, h1, _, h3, h4, h5⟩
  · exact .inl ⟨h1, nextOf_none (fun j hj => h2 j (Nat.zero_le _) hj)⟩
  · exact .inr ⟨q, h1, nextOf_some h3 h4 (fun j hj => h5 j (Nat.zero_le _) hj)⟩
end Go.Proofs.YtkoikmdmejhhhaaGreat
namespace Go.Proofs.YtkoikmdmejhhhaaGreat
open Go.RowKit
section
variable {P : Program}
end
structure Fresh (w w' : World) (u : Value) (cs : List UInt8) : Prop where
  keep : Keep noneOf w w'
  own : w'.ownsRow 0 5 1 u cs.length (cs.map bv)
  new : ∀ k, u.ownBlock = some k → w.heap.size ≤ k
theorem Fresh.bytes {w w' : World} {u : Value} {cs : List UInt8} (h : Fresh w w' u cs) : Bytes w' (fun k => w.heap.size ≤ k) u cs :=
  (Bytes.of_own h.own).mono fun i _ hi => h.new i hi.symm
theorem Fresh.append {w w1 w2 : World} {v v' : Value} {bs cs : List UInt8} (h : Fresh w w1 v bs) (hg : w1.grownBy w2 v.ownBlock) (hat : v'.ownBlock = v.ownBlock ∨ v'.ownBlock = some w1.heap.size) (ho : w2.ownsRow 0 5 1 v' (bs ++ cs).length ((bs ++ cs).map bv)) : Fresh w w2 v' (bs ++ cs) := by
  refine ⟨h.keep.trans (Keep.of_grown hg) (fun i hi he => ?_), ho, fun k hk => ?_⟩
  · have := h.new i he.symm
    omega
  · rcases hat with e | e
    · exact h.new k (e.symm.trans hk)
    · have := h.keep.size
      rw [e] at hk
      injection hk with hk
      omega
theorem Fresh.later {w w1 w2 : World} {v : Value} {bs : List UInt8} (h : Fresh w w1 v bs) (k : Keep noneOf w1 w2) : Fresh w w2 v bs := ⟨h.keep.trans k (fun _ _ h => h), own_keep h.own k (fun _ _ => id), h.new⟩
theorem Fresh.any {w w1 : World} {v : Value} {bs : List UInt8} (h : Fresh w w1 v bs) : Bytes w1 (fun _ => True) v bs := h.bytes.mono (fun _ _ _ => trivial)
end Go.Proofs.YtkoikmdmejhhhaaGreat
namespace Go.Proofs.YtkoikmdmejhhhaaGreat
open Go.RowKit
theorem Fresh.own_at {w w1 : World} {v : Value} {bs : List UInt8} (h : Fresh w w1 v bs) : w1.ownsRow w.heap.size 5 1 v bs.length (bs.map bv) := by
  refine ⟨h.own.1, ?_⟩
  rcases h.own.2 with hn | ⟨g, cap, cur, rfl, hb, rest⟩
  · exact .inl hn
  · exact .inr ⟨g, cap, cur, rfl, h.new g rfl, rest⟩
end Go.Proofs.YtkoikmdmejhhhaaGreat
namespace Go.Proofs.YtkoikmdmejhhhaaGreat
open Go.RowKit
theorem Keep.wide {S : Nat → Prop} {w w' : World} (h : Keep noneOf w w') : Keep S w w' := h.mono (fun _ _ h => False.elim h)
theorem Keep.andNone {S : Nat → Prop} {w w' w'' : World} (h : Keep S w w') (k : Keep noneOf w' w'') : Keep S w w'' := h.trans k (fun _ _ h => False.elim h)
def Bls (w : World) (D : Nat → Prop) (v : Value) (bs : List Bool) : Prop := Row w D v bs.length 1 (bs.map Value.bool)
theorem Bls.keep {w w' : World} {S D : Nat → Prop} {v : Value} {bs : List Bool} (h : Bls w D v bs) (k : Keep S w w') (hs : ∀ i, i < w.heap.size → D i → ¬ S i) : Bls w' D v bs := Row.keep h k hs
theorem Bls.mono {w : World} {D D' : Nat → Prop} {v : Value} {bs : List Bool} (h : Bls w D v bs) (hD : ∀ i, i < w.heap.size → D i → D' i) : Bls w D' v bs := Row.mono h hD
theorem Bls.shape {w : World} {D : Nat → Prop} {v : Value} {bs : List Bool} (h : Bls w D v bs) : ∃ A c, v = .slice A bs.length c := by
  obtain ⟨A, c, hv, _⟩ := h
  exact ⟨A, c, hv⟩
def bvs (l : List Bool) : Array Value := (l.map Value.bool).toArray
theorem bvs_size (l : List Bool) : (bvs l).size = l.length := by simp [bvs]
theorem bvs_at (l : List Bool) (i : Nat) : (bvs l)[i]? = (l[i]?).map Value.bool := by simp [bvs]
theorem bvs_set (l : List Bool) (i : Nat) (b : Bool) : (bvs l).setIfInBounds i (.bool b) = bvs (l.set i b) := by
  unfold bvs
  rw [List.setIfInBounds_toArray, List.map_set]
theorem bvs_none (n : Nat) : bvs (List.replicate n false) = (List.replicate n (Value.bool false)).toArray := by
  unfold bvs
  rw [List.map_replicate]
theorem Bls.of_box {w : World} {D : Nat → Prop} {g : Nat} {e : TypeId} {l : List Bool} (h : Box w g e (bvs l)) (hm : l.length ≤ maxLen) (hD : D g) : Bls w D (.slice (some ⟨g, 0, none⟩) l.length l.length) l := by
  simpa [bvs, Bls] using Row.of_box (D := D) h (bvs_size l) hm hD
theorem getB_at {l : List Bool} {n : Nat} (h : n < l.length) : l[n]? = some (l.getD n false) := by
  rw [List.getD_eq_getElem?_getD, List.getElem?_eq_getElem h]
  rfl
def Tells (g : Nat) (lb : Array Value) (Pr : Nat → Bool) (w : World) : Prop :=
  ∀ (W : World) (x : Nat), Keep noneOf w W → (x : Int) < 18446744073709551616 → Calls Tryz.prog g (#[.int .u64 (x : Int)] ++ lb) W fun e w' => e = .returned (.bool (Pr x)) ∧ W = w'
theorem Tells.later {g : Nat} {lb : Array Value} {Pr : Nat → Bool} {w w' : World} (h : Tells g lb Pr w) (k : Keep noneOf w w') : Tells g lb Pr w' :=
  fun W x k' hx => h W x (k.trans k' (fun _ _ h => h)) hx
def CanCall (g : Nat) : Prop := ∀ (args : Array Value) (w : World), (callFunc g args).run Tryz.prog w = .ok (.enter g args) w
def ToldBools (bs : List Bool) (w : World) (e : Ending) (w' : World) : Prop := ∃ A c, e = .returned (.slice A bs.length c) ∧ Bls w' (fun k => w.heap.size ≤ k) (.slice A bs.length c) bs ∧ Keep noneOf w w'
theorem boolinfo' : (Tryz.prog.info? 4).map (fun i => (i.zero, i.size, i.bytes)) = some (some (.bool false), 1, 1) := by kernel_rfl
end Go.Proofs.YtkoikmdmejhhhaaGreat
namespace Go.Proofs.YtkoikmdmejhhhaaGreat
open Go.RowKit
theorem Bls.nil (w : World) (D : Nat → Prop) : Bls w D (.slice none 0 0) [] := ⟨none, 0, rfl, Nat.le_refl _, Nat.zero_le _, fun _ => rfl, rfl, fun h => absurd h (by simp)⟩
structure Pst where
  s : Int
  t : Int
  u : Int
def Pst.zero : Pst := ⟨0, 0, 0⟩
def Pst.cells (x : Pst) : List Value := [.int .i64 x.s, .int .u64 x.t, .int .u64 x.u]
def Pst.agg (x : Pst) : Value := .agg #[.int .i64 x.s, .int .u64 x.t, .int .u64 x.u]
def Pst.same (x y : Pst) : Bool := x.s == y.s && x.t == y.t && x.u == y.u
theorem Pst.same_iff (x y : Pst) : Pst.same x y = true ↔ x = y := by
  obtain ⟨a, b, c⟩ := x
  obtain ⟨a', b', c'⟩ := y
  simp [Pst.same, and_assoc]
def Sts (w : World) (D : Nat → Prop) (v : Value) (l : List Pst) : Prop := Row w D v l.length 3 (l.flatMap Pst.cells)
theorem Sts.keep {w w' : World} {S D : Nat → Prop} {v : Value} {l : List Pst} (h : Sts w D v l) (k : Keep S w w') (hs : ∀ i, i < w.heap.size → D i → ¬ S i) : Sts w' D v l := Row.keep h k hs
theorem Sts.mono {w : World} {D D' : Nat → Prop} {v : Value} {l : List Pst} (h : Sts w D v l) (hD : ∀ i, i < w.heap.size → D i → D' i) : Sts w D' v l := Row.mono h hD
theorem Sts.nil (w : World) (D : Nat → Prop) : Sts w D (.slice none 0 0) [] := ⟨none, 0, rfl, Nat.le_refl _, Nat.zero_le _, fun _ => rfl, rfl, fun h => absurd h (by simp)⟩
theorem Sts.shape {w : World} {D : Nat → Prop} {v : Value} {l : List Pst} (h : Sts w D v l) : ∃ A c, v = .slice A l.length c := by
  obtain ⟨A, c, hv, _⟩ := h
  exact ⟨A, c, hv⟩
theorem scells_length (l : List Pst) : (l.flatMap Pst.cells).length = l.length * 3 := by
  induction l with
  | nil => rfl
  | cons a l ih => rw [List.flatMap_cons, List.length_append, ih, List.length_cons]; simp [Pst.cells]; omega
theorem scells_at {l : List Pst} {k : Nat} {x : Pst} (h : l[k]? = some x) (j : Nat) (hj : j < 3) : (l.flatMap Pst.cells)[k * 3 + j]? = x.cells[j]? := by
  induction l generalizing k with
  | nil => simp at h
  | cons a l ih =>
    cases k with
    | zero =>
      simp at h
      subst h
      rw [List.flatMap_cons, List.getElem?_append_left (by simp [Pst.cells]; omega)]
      simp
    | succ k =>
      simp at h
      rw [List.flatMap_cons, List.getElem?_append_right (by simp [Pst.cells]; omega), ← ih h]
      congr 1
      simp [Pst.cells]
      omega
theorem scells_one (l : List Pst) : ∀ v ∈ l.flatMap Pst.cells, v.oneCell' = true := by
  intro v hv
  obtain ⟨x, _, hx⟩ := List.mem_flatMap.1 hv
  simp [Pst.cells] at hx
  rcases hx with rfl | rfl | rfl <;> rfl
theorem getS_at {l : List Pst} {n : Nat} (h : n < l.length) : l[n]? = some (l.getD n Pst.zero) := by
  rw [List.getD_eq_getElem?_getD, List.getElem?_eq_getElem h]
  rfl
theorem sts_at {w w' : World} {S : Nat → Prop} {b o : Nat} {l : List Pst} {k : Nat} {x : Pst} (hK : Keep S w w') (hblk : b < w.heap.size) (hb : ¬ S b)
    (hcell : ∀ j x, (l.flatMap Pst.cells)[j]? = some x → w.cell? ⟨b, o + j, none⟩ = some x) (h : l[k]? = some x) :
    w'.cell? ⟨b, o + k * 3, none⟩ = some (.int .i64 x.s) ∧ w'.cell? ⟨b, o + k * 3 + 1, none⟩ = some (.int .u64 x.t) ∧ w'.cell? ⟨b, o + k * 3 + 2, none⟩ = some (.int .u64 x.u) := by
  have hcc : ∀ j, j < 3 → ∀ y, x.cells[j]? = some y → w'.cell? ⟨b, o + (k * 3 + j), none⟩ = some y := fun j hj y hx =>
    (hK.cell (p := ⟨b, o + (k * 3 + j), none⟩) hblk hb).trans (hcell _ y ((scells_at h j hj).trans hx))
  exact ⟨hcc 0 (by decide) _ rfl, hcc 1 (by decide) _ rfl, hcc 2 (by decide) _ rfl⟩
def svs (l : List Pst) : Array Value := (l.flatMap Pst.cells).toArray
theorem svs_size (l : List Pst) : (svs l).size = l.length * 3 := by
  unfold svs
  rw [List.size_toArray, scells_length]
theorem svs_at {l : List Pst} {k : Nat} {x : Pst} (h : l[k]? = some x) (j : Nat) (hj : j < 3) : (svs l)[k * 3 + j]? = x.cells[j]? := by
  unfold svs
  rw [List.getElem?_toArray]
  exact scells_at h j hj
theorem list_ext3 {α : Type} {l m : List α} (h : ∀ i : Nat, l[i]? = m[i]?) : l = m := List.ext_getElem? h
theorem scells_set (l : List Pst) (p : Nat) (y : Pst) (hp : p < l.length) : (l.set p y).flatMap Pst.cells = (((l.flatMap Pst.cells).set (p * 3) (.int .i64 y.s)).set (p * 3 + 1) (.int .u64 y.t)).set (p * 3 + 2) (.int .u64 y.u) := by
  apply list_ext3
  intro i
  rw [List.getElem?_set, List.getElem?_set, List.getElem?_set]
  simp only [List.length_set, scells_length]
  by_cases hi : i < l.length * 3
  · have hlt : i / 3 < l.length := by omega
    by_cases hq : i / 3 = p
    · have hk : (l.set p y)[i / 3]? = some y := by rw [hq, List.getElem?_set_self hp]
      have := scells_at hk (i % 3) (Nat.mod_lt _ (by decide))
      rw [show i / 3 * 3 + i % 3 = i by omega] at this
      rw [this]
      have hm : i % 3 = 0 ∨ i % 3 = 1 ∨ i % 3 = 2 := by omega
      rcases hm with hm | hm | hm
      · have e : i = p * 3 := by omega
        rw [hm, if_neg (by omega), if_neg (by omega), if_pos (by omega), if_pos (by omega)]
        rfl
      · have e : i = p * 3 + 1 := by omega
        rw [hm, if_neg (by omega), if_pos (by omega), if_pos (by omega)]
        rfl
      · have e : i = p * 3 + 2 := by omega
        rw [hm, if_pos (by omega), if_pos (by omega)]
        rfl
    · have hk : (l.set p y)[i / 3]? = some l[i / 3] := by rw [List.getElem?_set_ne (by omega), List.getElem?_eq_getElem hlt]
      have h1 := scells_at hk (i % 3) (Nat.mod_lt _ (by decide))
      have h2 := scells_at (List.getElem?_eq_getElem hlt) (i % 3) (Nat.mod_lt _ (by decide))
      rw [show i / 3 * 3 + i % 3 = i by omega] at h1 h2
      rw [h1, if_neg (by omega), if_neg (by omega), if_neg (by omega), h2]
  · rw [List.getElem?_eq_none (by rw [scells_length, List.length_set]; omega), if_neg (by omega), if_neg (by omega), if_neg (by omega), List.getElem?_eq_none (by rw [scells_length]; omega)]
theorem svs_set (l : List Pst) (p : Nat) (y : Pst) (hp : p < l.length) : (((svs l).setIfInBounds (p * 3) (.int .i64 y.s)).setIfInBounds (p * 3 + 1) (.int .u64 y.t)).setIfInBounds (p * 3 + 2) (.int .u64 y.u) = svs (l.set p y) := by
  unfold svs
  rw [List.setIfInBounds_toArray, List.setIfInBounds_toArray, List.setIfInBounds_toArray, ← scells_set l p y hp]
theorem set_same {α : Type} (l : List α) (i : Nat) (x : α) (h : l[i]? = some x) : l.set i x = l := by
  apply list_ext3
  intro j
  rw [List.getElem?_set]
  by_cases hj : i = j
  · subst hj
    rw [if_pos rfl, if_pos (List.getElem?_eq_some_iff.1 h).1, h]
  · rw [if_neg hj]
theorem svs_set_s (l : List Pst) (p : Nat) (s : Int) (x : Pst) (h : l[p]? = some x) : (svs l).setIfInBounds (p * 3) (.int .i64 s) = svs (l.set p ⟨s, x.t, x.u⟩) := by
  have hp := (List.getElem?_eq_some_iff.1 h).1
  rw [← svs_set l p ⟨s, x.t, x.u⟩ hp]
  unfold svs
  rw [List.setIfInBounds_toArray, List.setIfInBounds_toArray, List.setIfInBounds_toArray]
  congr 1
  have h1 : ((l.flatMap Pst.cells).set (p * 3) (.int .i64 s))[p * 3 + 1]? = some (.int .u64 x.t) := by
    rw [List.getElem?_set_ne (by omega)]
    exact scells_at h 1 (by decide)
  have h2 : (((l.flatMap Pst.cells).set (p * 3) (.int .i64 s)))[p * 3 + 2]? = some (.int .u64 x.u) := by
    rw [List.getElem?_set_ne (by omega)]
    exact scells_at h 2 (by decide)
  show _ = (((l.flatMap Pst.cells).set (p * 3) (.int .i64 s)).set (p * 3 + 1) (.int .u64 x.t)).set (p * 3 + 2) (.int .u64 x.u)
  rw [set_same _ _ _ h1, set_same _ _ _ h2]
theorem Sts.of_box {w : World} {D : Nat → Prop} {g : Nat} {e : TypeId} {l : List Pst} {c : Nat} (h : Box w g e (svs l)) (hc : l.length ≤ c) (hm : c ≤ maxLen) (hD : D g) : Sts w D (.slice (some ⟨g, 0, none⟩) l.length c) l := by
  refine ⟨some ⟨g, 0, none⟩, c, rfl, hc, hm, fun e => (by cases e), scells_length l, fun _ => ⟨⟨g, 0, none⟩, rfl, rfl, h.lt, hD, fun j x hx => ?_⟩⟩
  show w.cell? ⟨g, 0 + j, none⟩ = some x
  rw [Nat.zero_add, h.cell]
  unfold svs
  rw [List.getElem?_toArray]
  exact hx
theorem Box.state {w : World} {g : Nat} {e : TypeId} {l : List Pst} {k : Nat} {x : Pst} (h : Box w g e (svs l)) (hk : l[k]? = some x) :
    w.cell? ⟨g, k * 3, none⟩ = some (.int .i64 x.s) ∧ w.cell? ⟨g, k * 3 + 1, none⟩ = some (.int .u64 x.t) ∧ w.cell? ⟨g, k * 3 + 2, none⟩ = some (.int .u64 x.u) := by
  refine ⟨?_, ?_, ?_⟩
  · rw [h.cell]; exact svs_at hk 0 (by decide)
  · rw [h.cell]; exact svs_at hk 1 (by decide)
  · rw [h.cell]; exact svs_at hk 2 (by decide)
theorem stinfo : (Tryz.prog.info? 64).map (fun i => (i.zero, i.size, i.bytes)) = some (some (.agg #[.int .i64 0, .int .u64 0, .int .u64 0]), 3, 24) := by kernel_rfl
def ToldSts (l : List Pst) (w : World) (e : Ending) (w' : World) : Prop :=
  ∃ v, e = .returned v ∧ Keep noneOf w w' ∧ ((v = .slice none 0 0 ∧ l = []) ∨ ∃ g, v = .slice (some ⟨g, 0, none⟩) l.length l.length ∧ w.heap.size ≤ g ∧ l.length ≤ maxLen ∧ Box w' g 64 (svs l))
theorem told_sts {l : List Pst} {w' : World} {v : Value} {B : Nat} (h : (v = .slice none 0 0 ∧ l = []) ∨ ∃ g, v = .slice (some ⟨g, 0, none⟩) l.length l.length ∧ B ≤ g ∧ l.length ≤ maxLen ∧ Box w' g 64 (svs l)) :
    Sts w' (fun k => B ≤ k) v l := by
  rcases h with ⟨rfl, rfl⟩ | ⟨g, rfl, hg, hm, hb⟩
  · exact Sts.nil _ _
  · exact Sts.of_box hb (Nat.le_refl _) hm hg
theorem svs_none (n : Nat) : svs (List.replicate n Pst.zero) = madeCells #[.int .i64 0, .int .u64 0, .int .u64 0] (n * 3) := by
  apply Array.ext_getElem?
  intro i
  by_cases hi : i < n * 3
  · have hlt : i / 3 < n := by omega
    have hk : (List.replicate n Pst.zero)[i / 3]? = some Pst.zero := by rw [List.getElem?_replicate, if_pos hlt]
    have := svs_at hk (i % 3) (Nat.mod_lt _ (by decide))
    rw [show i / 3 * 3 + i % 3 = i by omega] at this
    rw [this]
    unfold madeCells
    rw [Array.getElem?_map, Array.getElem?_range, if_pos hi, Option.map_some]
    have hm : i % 3 = 0 ∨ i % 3 = 1 ∨ i % 3 = 2 := by omega
    rcases hm with hm | hm | hm <;> simp [hm, Pst.cells, Pst.zero]
  · rw [Array.getElem?_eq_none (by rw [svs_size, List.length_replicate]; omega), Array.getElem?_eq_none (by rw [size_madeCells]; omega)]
section
variable {P : Program}
theorem run_copy3 (w : World) (dT sT ty elem : TypeId) (g n c1 c2 : Nat) (a : Addr) (cur : Array Value) (t : TypeId) (cs : List Value)
    (hu : P.underlying dT = some (.slice elem)) (hs : (P.info? elem).map (·.size) = some 3)
    (hg : w.heap[g]? = some (.cells cur t (0, 0))) (hn : cs.length = n * 3)
    (hsrc : ∀ j v, cs[j]? = some v → w.cell? (a.add j) = some v) (hfit : cur.size = n * 3) (h1 : ∀ v ∈ cs, v.oneCell' = true) :
    (Builtin.copy_ #[dT, sT] ty #[.slice (some ⟨g, 0, none⟩) n c1, .slice (some a) n c2]).run P w = .ok (goInt n) (w.setRow g cs.toArray) := by
  have hl := run_loadCells_list (P := P) w a cs hsrc
  have hst := run_storeCells_at P g 0 t cs 0 cur w hg (by rw [hfit, hn]; omega) h1
  cases hq : P.info? elem with
  | none => simp [hq] at hs
  | some i =>
    have hi : i.size = 3 := by simpa [hq] using hs
    have hd : cur.toList.drop cs.length = [] := List.drop_eq_nil_of_le (by rw [hn]; simp [hfit])
    simp [Builtin.copy_, run_underlying hu, Builtin.lenOf, Builtin.firstCells, sizeOf, typeInfo, hq, hi, ← hn, hl, hst, hd]
end
end Go.Proofs.YtkoikmdmejhhhaaGreat
namespace Go.Proofs.YtkoikmdmejhhhaaGreat
open Go.RowKit
instance : DecidableEq Pt := fun a b => decidable_of_iff (a.name = b.name ∧ a.cmd = b.cmd ∧ a.needs = b.needs) (by
  obtain ⟨x, y, z⟩ := a
  obtain ⟨x', y', z'⟩ := b
  simp)
end Go.Proofs.YtkoikmdmejhhhaaGreat
