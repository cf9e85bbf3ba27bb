import Derived.Test.YtffoeodjbbkdjaaGreatRows
import Derived.BigQuiet
import Derived.ChangeOld
import Derived.Deep.AppendLies
import Derived.Deep.Slices
import Derived.Lib.Hide
import Derived.OpenShut
import Derived.OrdersHeld
import Derived.ProofKit
import Derived.SizedLaws
import Derived.WalkKit
import Derived.WalkLawsBesides
import Derived.WalkSpells
namespace Go.Proofs.YtffoeodjbbkdjaaGreat
open Go.RowKit
def lim : Nat := 140737488351232
theorem lim_is : lim = 140737488351232 := rfl
def bv (b : UInt8) : Value := .int .u8 (b.toNat : Int)
def Box (w : World) (g : Nat) (t : TypeId) (cs : Array Value) : Prop := w.heap[g]? = some (.cells cs t (0, 0))
structure Keep (S : Nat → Prop) (w w' : World) : Prop where
 os : w'.os = w.os
 tape : w'.tape = w.tape
 output : w'.output = w.output
 size : w.heap.size ≤ w'.heap.size
 block : ∀ k, k < w.heap.size → ¬ S k → w'.heap[k]? = w.heap[k]?
def noneOf : Nat → Prop := fun _ => False
section
variable {w w' w'' : World} {S T : Nat → Prop} {g : Nat} {t : TypeId} {cs : Array Value}
theorem Keep.refl (S : Nat → Prop) (w : World) : Keep S w w := ⟨rfl, rfl, rfl, Nat.le_refl _, fun _ _ _ => rfl⟩
theorem Keep.trans (h : Keep S w w') (k : Keep T w' w'') (hT : ∀ i, i < w.heap.size → T i → S i) : Keep S w w'' :=
 ⟨k.os.trans h.os, k.tape.trans h.tape, k.output.trans h.output, Nat.le_trans h.size k.size,
  fun i hi hs => (k.block i (Nat.lt_of_lt_of_le hi h.size) (fun ht => hs (hT i hi ht))).trans (h.block i hi hs)⟩
theorem Keep.mono (h : Keep S w w') (hS : ∀ i, i < w.heap.size → S i → T i) : Keep T w w' :=
 ⟨h.os, h.tape, h.output, h.size, fun i hi ht => h.block i hi (fun hs => ht (hS i hi hs))⟩
theorem Keep.drewN (h : Keep S w w') (n : Nat) : Keep S w (w'.drewN n) := ⟨h.os, h.tape, h.output, h.size, h.block⟩
theorem Keep.drew (h : Keep S w w') : Keep S w w'.drew := ⟨h.os, h.tape, h.output, h.size, h.block⟩
theorem Keep.alloc (h : Keep S w w') (o : Obj) : Keep S w (w'.alloc o) :=
 ⟨h.os, h.tape, h.output, by have := h.size; simp; omega, fun i hi hs => (Below.heap_alloc w' o i (by have := h.size; omega)).trans (h.block i hi hs)⟩
theorem Keep.setCell (h : Keep S w w') {p : Addr} (hp : p.block < w.heap.size → S p.block) (u : Value) : Keep S w (w'.setCell p u) :=
 ⟨h.os, h.tape, h.output, by have := h.size; simpa [World.setCell] using this,
  fun i hi hs => (Below.heap_setCell w' p u i (fun e => by subst e; exact hs (hp hi))).trans (h.block i hi hs)⟩
theorem Keep.of_grown {row : Option Nat} (h : w.grownBy w' row) : Keep (fun k => some k = row) w w' := ⟨h.os, h.tape, h.output, h.size, fun k hk hs => h.block k hk hs⟩
theorem Keep.below (h : Keep S w w') {B : Nat} (hB : ∀ k, S k → B ≤ k) (hw : B ≤ w.heap.size) : Below B w w' :=
 ⟨h.os, h.tape, h.output, h.size, fun k hk => h.block k (by omega) (fun hs => by have := hB k hs; omega)⟩
theorem Keep.all (h : Keep noneOf w w') : Below w.heap.size w w' := h.below (fun _ hk => hk.elim) (Nat.le_refl _)
theorem Keep.cell (h : Keep S w w') {p : Addr} (hp : p.block < w.heap.size) (hs : ¬ S p.block) : w'.cell? p = w.cell? p := World.cell?_of_block (h.block _ hp hs)
theorem Box.lt (h : Box w g t cs) : g < w.heap.size := (Array.getElem?_eq_some_iff.1 h).1
theorem Box.cell (h : Box w g t cs) (i : Nat) : w.cell? ⟨g, i, none⟩ = cs[i]? := cell_of_row w g i cs t (0, 0) h
theorem Box.free (h : Box w g t cs) (i : Nat) : w.frozen? ⟨g, i, none⟩ = false := by
 unfold Box at h
 simp [World.frozen?, h]
theorem Box.new (w : World) (t : TypeId) (cs : Array Value) : Box (w.alloc (.cells cs t)) w.heap.size t cs := heap_alloc_new w _
theorem Box.alloc (h : Box w g t cs) (o : Obj) : Box (w.alloc o) g t cs := (Below.heap_alloc w o g h.lt).trans h
theorem Box.keep (h : Box w g t cs) (k : Keep S w w') (hs : ¬ S g) : Box w' g t cs := (k.block g h.lt hs).trans h
theorem Box.drew (h : Box w g t cs) : Box w.drew g t cs := h
theorem Box.put (h : Box w g t cs) (i : Nat) (u : Value) : Box (w.setCell ⟨g, i, none⟩ u) g t (cs.setIfInBounds i u) := by
 unfold Box at h ⊢
 simp [World.setCell, Array.getElem?_modify, h]
theorem Box.far (h : Box w g t cs) {p : Addr} (hp : g ≠ p.block) (u : Value) : Box (w.setCell p u) g t cs := (Below.heap_setCell w p u g hp).trans h
theorem Box.ne {g' : Nat} {t' : TypeId} {cs' : Array Value} (h : Box w g t cs) (h' : Box w g' t' cs') (hne : t ≠ t') : g ≠ g' := by
 rintro rfl
 unfold Box at h h'
 rw [h] at h'
 injection h' with h'
 injection h' with _ ht
 exact hne ht
end
def Bytes (w : World) (D : Nat → Prop) (v : Value) (bs : List UInt8) : Prop :=
 ∃ (A : Option Addr) (c : Nat), v = .slice A bs.length c ∧ bs.length ≤ c ∧ c ≤ maxLen ∧ (A = none → c = 0) ∧
  (0 < bs.length → ∃ ad : Addr, A = some ad ∧ ad.spot = none ∧ ad.block < w.heap.size ∧ D ad.block ∧ ∀ j (b : UInt8), bs[j]? = some b → w.cell? ⟨ad.block, ad.off + j, none⟩ = some (bv b))
section
variable {w w' : World} {S D D' : Nat → Prop} {v : Value} {bs : List UInt8}
theorem Bytes.keep (h : Bytes w D v bs) (k : Keep S w w') (hs : ∀ i, i < w.heap.size → D i → ¬ S i) : Bytes w' D v bs := by
 obtain ⟨A, c, hv, hl, hm, hn, hc⟩ := h
 refine ⟨A, c, hv, hl, hm, hn, fun h0 => ?_⟩
 obtain ⟨ad, hA, hsp, hlt, hD, hcell⟩ := hc h0
 exact ⟨ad, hA, hsp, Nat.lt_of_lt_of_le hlt k.size, hD, fun j b hb => (k.cell (p := ⟨ad.block, ad.off + j, none⟩) hlt (hs _ hlt hD)).trans (hcell j b hb)⟩
theorem Bytes.mono (h : Bytes w D v bs) (hD : ∀ i, i < w.heap.size → D i → D' i) : Bytes w D' v bs := by
 obtain ⟨A, c, hv, hl, hm, hn, hc⟩ := h
 refine ⟨A, c, hv, hl, hm, hn, fun h0 => ?_⟩
 obtain ⟨ad, hA, hsp, hlt, hd, hcell⟩ := hc h0
 exact ⟨ad, hA, hsp, hlt, hD _ hlt hd, hcell⟩
theorem Bytes.nil (w : World) (D : Nat → Prop) : Bytes w D (.slice none 0 0) [] := ⟨none, 0, rfl, Nat.le_refl _, Nat.zero_le _, fun _ => rfl, fun h => absurd h (by simp)⟩
theorem Bytes.of_own {base : Nat} {e : TypeId} (h : w.ownsRow base e 1 v bs.length (bs.map bv)) : Bytes w (fun k => some k = v.ownBlock) v bs := by
 rcases h.2 with ⟨rfl, h0⟩ | ⟨g, cap, cur, rfl, _, hg, hle, hmx, hsz, htk⟩
 ·
  have : bs = [] := List.eq_nil_of_length_eq_zero h0
  subst this
  exact Bytes.nil _ _
 ·
  refine ⟨some ⟨g, 0, none⟩, cap, rfl, hle, hmx, fun e => (by cases e), fun _ => ⟨⟨g, 0, none⟩, rfl, rfl, (Array.getElem?_eq_some_iff.1 hg).1, rfl, fun j b hb => ?_⟩⟩
  have hx : (bs.map bv)[j]? = some (bv b) := by simp [hb]
  rw [← htk, List.getElem?_take] at hx
  split at hx
  ·
   show w.cell? ⟨g, 0 + j, none⟩ = _
   rw [Nat.zero_add, cell_of_row w g j cur e (0, 0) hg]
   simpa using hx
  ·
   cases hx
end
theorem own_shape {w : World} {base : Nat} {e : TypeId} {size : Nat} {v : Value} {n : Nat} {xs : List Value} (h : w.ownsRow base e size v n xs) : ∃ A c, v = .slice A n c := by
 rcases h.2 with ⟨rfl, rfl⟩ | ⟨g, cap, cur, rfl, _⟩
 ·
  exact ⟨_, _, rfl⟩
 ·
  exact ⟨_, _, rfl⟩
theorem own_keep {w w' : World} {S : Nat → Prop} {base : Nat} {e : TypeId} {size : Nat} {v : Value} {n : Nat} {xs : List Value} (h : w.ownsRow base e size v n xs) (k : Keep S w w') (hs : ∀ j, v.ownBlock = some j → ¬ S j) : w'.ownsRow base e size v n xs := by
 refine ⟨h.1, ?_⟩
 rcases h.2 with hn | ⟨g, cap, cur, rfl, hb, hg, rest⟩
 ·
  exact .inl hn
 ·
  exact .inr ⟨g, cap, cur, rfl, hb, (k.block g (Array.getElem?_eq_some_iff.1 hg).1 (hs g rfl)).trans hg, rest⟩
theorem bytes_oneCell (bs : List UInt8) : ∀ u ∈ bs.map bv, u.oneCell' = true := by
 intro u hu
 obtain ⟨b, _, rfl⟩ := List.mem_map.1 hu
 rfl
end Go.Proofs.YtffoeodjbbkdjaaGreat
namespace Go.Proofs.YtffoeodjbbkdjaaGreat
open Go.RowKit
theorem wp_region_in {P : Program} {id : Nat} {Q : Exit → Act → World → Prop} {a : Act} {w : World} {l : List Oper} (C : World → Prop) (hm : P.follows .mixedOrders = true) (hB : Region.lexB .any l.toArray = true) (hC : C w.drew)
  (h : wpQuiet P l.toArray C (fun a' => ∀ w', C w' → Q .normal a' w') l a) : (Code.region id l.toArray true).wp P Q a w :=
 wp_region_quiet (C := C) hm hB hC (by simpa using h)
theorem quiet_reads {P : Program} {C : World → Prop} {o : Oper} {a : Act} {K : Act → Prop} (v : Value) (h : ∀ w, C w → (execOp a.eval o).run P w = .ok (.value v) w) (hk : K (a.put o.dst v)) : o.quiet P a C K :=
 ⟨v, fun w hw => by unfold Oper.quietAt; rw [h w hw]; exact ⟨rfl, rfl⟩, hk⟩
theorem quiet_calls {P : Program} {C : World → Prop} {o : Oper} {a : Act} {K : Act → Prop} (v : Value) (f : FuncId) (args : Array Value) (he : ∀ w, (execOp a.eval o).run P w = .ok (.enter f args) w) (h : ∀ w, C w → Calls P f args w (fun e w'' => e = .returned v ∧ C w'')) (hk : K (a.put o.dst v)) : o.quiet P a C K :=
 ⟨v, fun w hw => by unfold Oper.quietAt; rw [he w]; exact ⟨rfl, h w hw⟩, hk⟩
end Go.Proofs.YtffoeodjbbkdjaaGreat
namespace Go.Proofs.YtffoeodjbbkdjaaGreat
open Go.RowKit
def Row (w : World) (D : Nat → Prop) (v : Value) (n size : Nat) (xs : List Value) : Prop :=
 ∃ (A : Option Addr) (c : Nat), v = .slice A n c ∧ n ≤ c ∧ c ≤ maxLen ∧ (A = none → c = 0) ∧ xs.length = n * size ∧
  (0 < n → ∃ ad : Addr, A = some ad ∧ ad.spot = none ∧ ad.block < w.heap.size ∧ D ad.block ∧ ∀ j x, xs[j]? = some x → w.cell? ⟨ad.block, ad.off + j, none⟩ = some x)
theorem Row.keep {w w' : World} {S D : Nat → Prop} {v : Value} {n size : Nat} {xs : List Value} (h : Row w D v n size xs) (k : Keep S w w') (hs : ∀ i, i < w.heap.size → D i → ¬ S i) : Row w' D v n size xs := by
 obtain ⟨A, c, hv, hl, hm, hn, hx, hc⟩ := h
 refine ⟨A, c, hv, hl, hm, hn, hx, fun h0 => ?_⟩
 obtain ⟨ad, hA, hsp, hlt, hD, hcell⟩ := hc h0
 exact ⟨ad, hA, hsp, Nat.lt_of_lt_of_le hlt k.size, hD, fun j b hb => (k.cell (p := ⟨ad.block, ad.off + j, none⟩) hlt (hs _ hlt hD)).trans (hcell j b hb)⟩
theorem Row.mono {w : World} {D D' : Nat → Prop} {v : Value} {n size : Nat} {xs : List Value} (h : Row w D v n size xs) (hD : ∀ i, i < w.heap.size → D i → D' i) : Row w D' v n size xs := by
 obtain ⟨A, c, hv, hl, hm, hn, hx, hc⟩ := h
 refine ⟨A, c, hv, hl, hm, hn, hx, fun h0 => ?_⟩
 obtain ⟨ad, hA, hsp, hlt, hd, hcell⟩ := hc h0
 exact ⟨ad, hA, hsp, hlt, hD _ hlt hd, hcell⟩
def Strs (w : World) (D : Nat → Prop) (v : Value) (ss : List ByteArray) : Prop := Row w D v ss.length 1 (ss.map Value.string) ∧ ∀ s ∈ ss, s.size ≤ maxLen
theorem Strs.keep {w w' : World} {S D : Nat → Prop} {v : Value} {ss : List ByteArray} (h : Strs w D v ss) (k : Keep S w w') (hs : ∀ i, i < w.heap.size → D i → ¬ S i) : Strs w' D v ss := ⟨h.1.keep k hs, h.2⟩
structure Tg where
 name : ByteArray
 cmd : ByteArray
 nv : Value
 needs : List ByteArray
def Tg.cells (t : Tg) : List Value := [.string t.name, .string t.cmd, t.nv]
def Tg.lies (w : World) (D : Nat → Prop) (t : Tg) : Prop := t.name.size ≤ maxLen ∧ t.cmd.size ≤ maxLen ∧ Strs w D t.nv t.needs
def Tgs (w : World) (D : Nat → Prop) (v : Value) (ts : List Tg) : Prop := Row w D v ts.length 3 (ts.flatMap Tg.cells) ∧ ∀ t ∈ ts, t.lies w D
theorem Tgs.keep {w w' : World} {S D : Nat → Prop} {v : Value} {ts : List Tg} (h : Tgs w D v ts) (k : Keep S w w') (hs : ∀ i, i < w.heap.size → D i → ¬ S i) : Tgs w' D v ts :=
 ⟨h.1.keep k hs, fun t ht => ⟨(h.2 t ht).1, (h.2 t ht).2.1, (h.2 t ht).2.2.keep k hs⟩⟩
theorem cells_at {ts : List Tg} {k : Nat} {t : Tg} (h : ts[k]? = some t) (j : Nat) (hj : j < 3) : (ts.flatMap Tg.cells)[3 * k + j]? = t.cells[j]? := by
 induction ts generalizing k with
 | nil => simp at h
 | cons a l ih =>
  cases k with
  | zero =>
   simp at h
   subst h
   rw [List.flatMap_cons, List.getElem?_append_left (by simp [Tg.cells]; omega)]
   simp
  | succ k =>
   simp at h
   rw [List.flatMap_cons, List.getElem?_append_right (by simp [Tg.cells]; omega), ← ih h]
   congr 1
   simp [Tg.cells]
   omega
theorem cells_length (ts : List Tg) : (ts.flatMap Tg.cells).length = ts.length * 3 := by
 induction ts with
 | nil => rfl
 | cons a l ih => rw [List.flatMap_cons, List.length_append, ih, List.length_cons]; simp [Tg.cells]; omega
theorem str_beq (s t : ByteArray) : (s.toList == t.toList) = decide (s = t) := by
 rw [Bool.eq_iff_iff, beq_iff_eq, decide_eq_true_eq, ByteArray.toList_eq, ByteArray.toList_eq]
 constructor
 ·
  intro h
  obtain ⟨⟨l⟩⟩ := s
  obtain ⟨⟨m⟩⟩ := t
  have h' : l = m := h
  rw [h']
 ·
  rintro rfl
  rfl
theorem ret_bool {a b : Bool} (h : a = b) : Ending.returned (.bool a) = .returned (.bool b) := by rw [h]
theorem info_parts {P : Program} {t : TypeId} {x : Option Value} {s b : Nat} (h : (P.info? t).map (fun i => (i.zero, i.size, i.bytes)) = some (x, s, b)) : ∃ i, P.info? t = some i ∧ i.zero = x ∧ i.size = s ∧ i.bytes = b := by
 cases hi : P.info? t with
 | none => rw [hi] at h; cases h
 | some i =>
  rw [hi] at h
  simp at h
  exact ⟨i, rfl, h.1, h.2.1, h.2.2⟩
theorem Row.of_own {w : World} {base : Nat} {e : TypeId} {size : Nat} {v : Value} {n : Nat} {xs : List Value} (h : w.ownsRow base e size v n xs) : Row w (fun k => base ≤ k) v n size xs := by
 rcases h.2 with ⟨rfl, rfl⟩ | ⟨g, cap, cur, rfl, hb, hg, hle, hmx, hsz, htk⟩
 ·
  exact ⟨none, 0, rfl, Nat.le_refl _, Nat.zero_le _, fun _ => rfl, h.1, fun h0 => absurd h0 (by simp)⟩
 ·
  refine ⟨some ⟨g, 0, none⟩, cap, rfl, hle, hmx, fun e => (by cases e), h.1, fun _ => ⟨⟨g, 0, none⟩, rfl, rfl, (Array.getElem?_eq_some_iff.1 hg).1, hb, fun j b hb => ?_⟩⟩
  rw [← htk, List.getElem?_take] at hb
  split at hb
  ·
   show w.cell? ⟨g, 0 + j, none⟩ = _
   rw [Nat.zero_add, cell_of_row w g j cur e (0, 0) hg]
   simpa using hb
  ·
   cases hb
def iv (n : Nat) : Value := .int .i64 (n : Int)
def Ints (w : World) (D : Nat → Prop) (v : Value) (ns : List Nat) : Prop := Row w D v ns.length 1 (ns.map iv)
theorem Ints.keep {w w' : World} {S D : Nat → Prop} {v : Value} {ns : List Nat} (h : Ints w D v ns) (k : Keep S w w') (hs : ∀ i, i < w.heap.size → D i → ¬ S i) : Ints w' D v ns := Row.keep h k hs
theorem Ints.of_own {w : World} {base : Nat} {e : TypeId} {v : Value} {ns : List Nat} (h : w.ownsRow base e 1 v ns.length (ns.map iv)) : Ints w (fun k => base ≤ k) v ns := Row.of_own h
structure Pt where
 name : ByteArray
 cmd : ByteArray
 needs : List ByteArray
def Tg.plain (t : Tg) : Pt := ⟨t.name, t.cmd, t.needs⟩
theorem tgs_at {w w' : World} {b o : Nat} {ts : List Tg} {k : Nat} {t : Tg} (hK : Keep noneOf w w') (hblk : b < w.heap.size)
  (hcell : ∀ j x, (ts.flatMap Tg.cells)[j]? = some x → w.cell? ⟨b, o + j, none⟩ = some x) (h : ts[k]? = some t) :
  w'.cell? ⟨b, o + k * 3, none⟩ = some (.string t.name) ∧ w'.cell? ⟨b, o + k * 3 + 1, none⟩ = some (.string t.cmd) ∧ w'.cell? ⟨b, o + k * 3 + 2, none⟩ = some t.nv := by
 have hcc : ∀ j, j < 3 → ∀ x, t.cells[j]? = some x → w'.cell? ⟨b, o + (k * 3 + j), none⟩ = some x := fun j hj x hx =>
  (hK.cell (p := ⟨b, o + (k * 3 + j), none⟩) hblk id).trans (hcell _ x ((Nat.mul_comm k 3 ▸ cells_at h j hj).trans hx))
 exact ⟨hcc 0 (by decide) _ rfl, hcc 1 (by decide) _ rfl, hcc 2 (by decide) _ rfl⟩
end Go.Proofs.YtffoeodjbbkdjaaGreat
namespace Go.Proofs.YtffoeodjbbkdjaaGreat
open Go.RowKit Go.ChangeShapes Go.WideShapes Go.Deep
section
variable {H : Type} {enc : TypeId × Value → H} {w : World} {base : Nat} {held : Bool}
theorem add_at (a : Addr) (h : a.spot = none) (j : Nat) : a.add j = ⟨a.block, a.off + j, none⟩ := by
 obtain ⟨b, o, sp⟩ := a
 simp only at h
 subst h
 unfold Addr.add
 split
 ·
  rename_i h0; subst h0; rfl
 ·
  rfl
theorem spot_of_cell {a : Addr} {v : Value} (h : w.cell? a = some v) : a.spot = none := by
 unfold World.cell? at h
 split at h
 ·
  split at h
  ·
   cases h
  ·
   rename_i hs
   cases hsp : a.spot with
   | none => rfl
   | some _ => rw [hsp] at hs; simp at hs
 ·
  cases h
theorem block_of_cell {a : Addr} {v : Value} (h : w.cell? a = some v) : a.block < w.heap.size := World.block_lt_of_cell? w a h
theorem list_of {α : Type} (n : Nat) (R : Nat → α → Prop) (h : ∀ i, i < n → ∃ x, R i x) : ∃ l : List α, l.length = n ∧ ∀ i x, l[i]? = some x → R i x := by
 induction n with
 | zero => exact ⟨[], rfl, fun i x hx => by simp at hx⟩
 | succ n ih =>
  obtain ⟨l, hl, hr⟩ := ih (fun i hi => h i (by omega))
  obtain ⟨y, hy⟩ := h n (by omega)
  refine ⟨l ++ [y], by simp [hl], fun i x hx => ?_⟩
  rcases Nat.lt_or_ge i n with hi | hi
  ·
   rw [List.getElem?_append_left (by omega)] at hx
   exact hr i x hx
  ·
   rw [List.getElem?_append_right (by omega), hl] at hx
   have hi' : i = n := by
    have := (List.getElem?_eq_some_iff.1 hx).1
    simp at this
    omega
   subst hi'
   simp at hx
   subst hx
   exact hy
def Light (t : TypeId) (d : DataW H) : Prop := ∀ n ∈ d.weights Tryz.prog t, n ≤ reachBytes
theorem weightsAll_mem {P : Program} {e : TypeId} : ∀ {ds : List (DataW H)} {d : DataW H}, d ∈ ds → ∀ n ∈ d.weights P e, n ∈ DataW.weightsAll P e ds
 | d0 :: ds, d, hd, n, hn => by
  simp only [DataW.weightsAll, List.mem_append]
  rcases List.mem_cons.1 hd with rfl | hd
  ·
   exact .inl hn
  ·
   exact .inr (weightsAll_mem hd n hn)
theorem open_elems {t e : TypeId} {fuel : Nat} {v : Value} {x : DataW H × List MemPlace} (ht : Tryz.prog.underlying t = some (.slice e)) (h : DataW.trod enc Tryz.prog w base (fun _ => true) held fuel t [v] = some x) (hw : Light t x.1) :
  v = .slice none 0 0 ∨ ∃ (a : Addr) (len cap : Nat), v = .slice (some a) len cap ∧ len ≤ cap ∧ cap ≤ maxLen ∧ len * Tryz.prog.bytesOf e ≤ reachBytes ∧
   ∀ i, i < len → ∃ (cs : List Value) (n : Nat) (y : DataW H × List MemPlace), cs.length = Tryz.prog.cellsOf e ∧ (∀ j, j < cs.length → w.cell? ((a.add (i * Tryz.prog.cellsOf e)).add j) = cs[j]?) ∧ DataW.trod enc Tryz.prog w base (fun _ => true) held n e cs = some y ∧ Light e y.1 := by
 rcases open_slice ht h with ⟨hcs, _⟩ | ⟨a, len, cap, m, n, D, Pl, hcs, _, hl, hm, hmm, hx, hi⟩
 ·
  left
  simpa using hcs
 ·
  right
  subst hx
  refine ⟨a, len, cap, by simpa using hcs, hl, hm, ?_, fun i hil => ?_⟩
  ·
   have := hw ((((List.range len).map D).length + ((List.range (m - len)).map fun j => D (len + j)).length) * Tryz.prog.bytesOf e) (by simp [DataW.weights, ht])
   simp only [List.length_map, List.length_range] at this
   exact Nat.le_trans (Nat.mul_le_mul_right _ (Nat.le_add_right _ _)) this
  ·
   obtain ⟨cs', hc, htr⟩ := hi i (by rw [hmm]; simp; omega)
   obtain ⟨_, hlen, hat⟩ := World.cells?_some hc
   refine ⟨cs', n, _, hlen, fun j hj => hat j (by omega), htr, fun k hk => hw k ?_⟩
   have hmem := weightsAll_mem (List.mem_map.2 ⟨i, List.mem_range.2 hil, rfl⟩ : D i ∈ (List.range len).map D) k hk
   simp only [DataW.weights, ht, List.mem_cons, List.mem_append]
   exact .inr (.inl hmem)
theorem add_add_at (a : Addr) (i j : Nat) (h : a.spot = none) : (a.add i).add j = ⟨a.block, a.off + (i + j), none⟩ := by
 rw [add_at a h i, add_at _ rfl j]
 simp [Nat.add_assoc]
theorem open_strs' {fuel : Nat} {v : Value} {x : DataW H × List MemPlace} (h : DataW.trod enc Tryz.prog w base (fun _ => true) held fuel 62 [v] = some x) (hw : Light 62 x.1) : ∃ ss, Strs w (fun _ => True) v ss ∧ ss.length * 16 ≤ reachBytes := by
 rcases open_elems Tryz.underlying62 h hw with rfl | ⟨a, len, cap, rfl, hl, hm, hby, hi⟩
 ·
  exact ⟨[], ⟨⟨none, 0, rfl, Nat.le_refl _, Nat.zero_le _, fun _ => rfl, rfl, fun h => absurd h (by simp)⟩, fun s hs => by cases hs⟩, by simp⟩
 ·
  have hc1 : Tryz.prog.cellsOf 9 = 1 := by kernel_rfl
  have key : ∀ i, i < len → ∃ s : ByteArray, w.cell? (a.add i) = some (.string s) ∧ s.size ≤ maxLen := by
   intro i hil
   obtain ⟨cs, n, y, hlen, hat, htr, _⟩ := hi i hil
   obtain ⟨s, rfl, _, hsz⟩ := DataW.trod_string Tryz.underlying9 htr
   have := hat 0 (by simp)
   rw [hc1, Nat.mul_one] at this
   exact ⟨s, this, hsz⟩
  obtain ⟨ss, hbl, hb⟩ := list_of len (fun i s => w.cell? (a.add i) = some (.string s) ∧ s.size ≤ maxLen) key
  have hB : Tryz.prog.bytesOf 9 = 16 := by kernel_rfl
  refine ⟨ss, ⟨⟨some a, cap, by rw [hbl], by omega, hm, fun e => (by cases e), by simp, fun h0 => ?_⟩, fun s hs => ?_⟩, by rw [hbl, ← hB]; exact hby⟩
  ·
   have h00 := (hb 0 ss[0] (List.getElem?_eq_getElem h0)).1
   have hz : a.add 0 = a := rfl
   rw [hz] at h00
   have hsp := spot_of_cell h00
   refine ⟨a, rfl, hsp, block_of_cell h00, trivial, fun j x hj => ?_⟩
   rw [List.getElem?_map] at hj
   cases hsj : ss[j]? with
   | none => rw [hsj] at hj; cases hj
   | some s =>
    rw [hsj] at hj
    have := (hb j s hsj).1
    rw [add_at a hsp] at this
    rw [this]
    simpa using hj
  ·
   obtain ⟨j, hj⟩ := List.getElem?_of_mem hs
   exact (hb j s hj).2
set_option maxRecDepth 100000 in
theorem open_tgs {fuel : Nat} {v : Value} {x : DataW H × List MemPlace} (h : DataW.trod enc Tryz.prog w base (fun _ => true) held fuel 33 [v] = some x) (hw : Light 33 x.1) : ∃ ts, Tgs w (fun _ => True) v ts ∧ ts.length * 56 ≤ reachBytes ∧ ∀ t ∈ ts, t.needs.length * 16 ≤ reachBytes := by
 rcases open_elems Tryz.underlying33 h hw with rfl | ⟨a, len, cap, rfl, hl, hm, hby, hi⟩
 ·
  exact ⟨[], ⟨⟨none, 0, rfl, Nat.le_refl _, Nat.zero_le _, fun _ => rfl, rfl, fun h => absurd h (by simp)⟩, fun s hs => by cases hs⟩, by simp, fun t ht => by cases ht⟩
 ·
  have hc3 : Tryz.prog.cellsOf 64 = 3 := by kernel_rfl
  have o1 : Tryz.prog.cellsOf 9 = 1 := by kernel_rfl
  have o2 : Tryz.prog.cellsOf 62 = 1 := by kernel_rfl
  have key : ∀ i, i < len → ∃ t : Tg, (∀ j, j < 3 → w.cell? ((a.add (i * 3)).add j) = t.cells[j]?) ∧ t.lies w (fun _ => True) ∧ t.needs.length * 16 ≤ reachBytes := by
   intro i hil
   obtain ⟨cs, n, y, hlen, hat, htr, hlight⟩ := hi i hil
   rw [hc3] at hlen hat
   obtain ⟨xs, m, _, hy, _, hxl, hf⟩ := DataW.trod_struct Tryz.underlying64 htr
   match cs, hlen with
   | [c0, c1, c2], _ =>
    have g0 := hf 0 _ rfl
    have g1 := hf 1 _ rfl
    have g2 := hf 2 _ rfl
    match xs, hxl with
    | [x0, x1, x2], _ =>
     simp [o1, o2] at g0 g1 g2
     obtain ⟨s0, e0, _, z0⟩ := DataW.trod_string Tryz.underlying9 g0
     obtain ⟨s1, e1, _, z1⟩ := DataW.trod_string Tryz.underlying9 g1
     have hl2 : Light 62 x2.1 := fun k hk => hlight k (by
      rw [hy]
      simp only [DataW.weights, Tryz.underlying64]
      exact DataW.weights_mem_each (j := 2) (t := 62) (d := x2.1) rfl rfl k hk)
     obtain ⟨ss, hss, hsl⟩ := open_strs' g2 hl2
     simp at e0 e1
     subst e0 e1
     exact ⟨⟨s0, s1, c2, ss⟩, fun j hj => hat j (by simpa using hj), ⟨z0, z1, hss⟩, hsl⟩
  obtain ⟨ts, hbl, hb⟩ := list_of len (fun i (t : Tg) => (∀ j, j < 3 → w.cell? ((a.add (i * 3)).add j) = t.cells[j]?) ∧ t.lies w (fun _ => True) ∧ t.needs.length * 16 ≤ reachBytes) key
  have hB : Tryz.prog.bytesOf 64 = 56 := by kernel_rfl
  refine ⟨ts, ⟨⟨some a, cap, by rw [hbl], by omega, hm, fun e => (by cases e), ?_, fun h0 => ?_⟩, fun t ht => ?_⟩, by rw [hbl, ← hB]; exact hby, fun t ht => ?_⟩
  ·
   rw [cells_length]
  ·
   have h00 := (hb 0 ts[0] (List.getElem?_eq_getElem h0)).1 0 (by decide)
   have hz : (a.add (0 * 3)).add 0 = a := rfl
   rw [hz] at h00
   have h01 : w.cell? a = some (.string ts[0].name) := h00
   have hsp := spot_of_cell h01
   refine ⟨a, rfl, hsp, block_of_cell h01, trivial, fun j x hj => ?_⟩
   have hjl := (List.getElem?_eq_some_iff.1 hj).1
   have hjl' : j < 3 * ts.length := by
    rw [cells_length] at hjl
    omega
   have hdiv : j / 3 < ts.length := by omega
   have hk := List.getElem?_eq_getElem hdiv
   have e1 := (hb (j / 3) _ hk).1 (j % 3) (Nat.mod_lt _ (by decide))
   rw [add_add_at a _ _ hsp, show j / 3 * 3 + j % 3 = j from by omega] at e1
   have e2 := cells_at hk (j % 3) (Nat.mod_lt _ (by decide))
   rw [show 3 * (j / 3) + j % 3 = j from by omega] at e2
   rw [e1, ← e2, hj]
  ·
   obtain ⟨j, hj⟩ := List.getElem?_of_mem ht
   exact (hb j t hj).2.1
  ·
   obtain ⟨j, hj⟩ := List.getElem?_of_mem ht
   exact (hb j t hj).2.2
theorem light_arg {ts : List TypeId} {ds : List (DataW H)} (h : (DataW.weightsEach Tryz.prog ts ds).all (· ≤ reachBytes) = true) {j : Nat} {t : TypeId} {d : DataW H} (ht : ts[j]? = some t) (hd : ds[j]? = some d) : Light t d := fun n hn => by
 have := List.all_eq_true.1 h n (DataW.weights_mem_each ht hd n hn)
 simpa using this
end
theorem own : ownKnob Tryz.prog.godebug = none := by kernel_rfl
theorem laidOut : laidOutB Tryz.prog = true := by kernel_rfl
end Go.Proofs.YtffoeodjbbkdjaaGreat
namespace Go.Proofs.YtffoeodjbbkdjaaGreat
open Go.RowKit
theorem zga {α : Type} {xs : List α} {i : Nat} (h : i < xs.toArray.size) : xs.toArray[i] = xs[i]'(by simpa using h) := List.getElem_toArray h
theorem zgb {α : Type} {x : α} {xs : List α} (h : 0 < (x :: xs).length) : (x :: xs)[0] = x := List.getElem_cons_zero x xs h
theorem zgc {α : Type} {x : α} {xs : List α} {i : Nat} (h : i + 1 < (x :: xs).length) : (x :: xs)[i + 1] = xs[i]'(by simpa using h) := List.getElem_cons_succ x xs i h
theorem zgd {α : Type} (l : List α) (i : Nat) (x : α) : l.toArray.setIfInBounds i x = (l.set i x).toArray := List.setIfInBounds_toArray l i x
theorem zge {α : Type} {x y : α} {xs : List α} : (x :: xs).set 0 y = y :: xs := List.set_cons_zero
theorem zgf {α : Type} {x y : α} {xs : List α} {i : Nat} : (x :: xs).set (i + 1) y = x :: xs.set i y := List.set_cons_succ
theorem ztk {P : Program} {md : Region.Mode} {ops : Array Oper} {Q : Exit → Act → World → Prop} {S : World → Prop} (i : Nat) {oi : Oper} (v : Value) {fuel : Nat} {listed : Array Bool} {a : Act} {w : World} (hi : ops[i]? = some oi) (hy : YieldsIf P ops S oi v a)
    (h : wpAnyH P md ops Q S fuel (listed.setIfInBounds i true) (a.put oi.dst v) w) (hQ : ∀ c a w, Q (.panic c) (a.put oi.dst v) w → Q (.panic c) a w := by exact fun _ _ _ h => h)
    (hs : Region.noSelect ops = true := by kernel_rfl) (hf : Region.free md ops listed i = true := by kernel_rfl) (hr : (Region.ready md ops listed).contains i = true := by kernel_rfl) (hS : S w := by assumption) : wpAnyH P md ops Q S (fuel + 1) listed a w :=
  wpAnyH_take hi hs hf hr hQ hy hS h
end Go.Proofs.YtffoeodjbbkdjaaGreat
