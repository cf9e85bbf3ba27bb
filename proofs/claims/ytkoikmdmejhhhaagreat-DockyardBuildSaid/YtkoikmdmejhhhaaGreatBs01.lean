import Derived.Test.YtkoikmdmejhhhaaGreatRows
import Derived.BigQuiet
import Derived.Deep.AppendLies
import Derived.Lib.Hide
import Derived.WalkKit
import Derived.WalkLawsBesides
import Derived.WalkSpells
namespace Go.Proofs.YtkoikmdmejhhhaaGreat
open Go.RowKit
def bv (b : UInt8) : Value := .int .u8 (b.toNat : Int)
def Box (w : World) (g : Nat) (t : TypeId) (cs : Array Value) : Prop := w.heap[g]? = some (.cells cs t (0, 0))
structure Keep (S : Nat → Prop) (w w' : World) : Prop where
  os : w'.os = w.os
  tape : w'.tape = w.tape
  output : w'.output = w.output
  size : w.heap.size ≤ w'.heap.size
  block : ∀ k, k < w.heap.size → ¬ S k → w'.heap[k]? = w.heap[k]?
def noneOf : Nat → Prop := fun _ => False
section
variable {w w' w'' : World} {S T : Nat → Prop} {g : Nat} {t : TypeId} {cs : Array Value}
theorem Keep.refl (S : Nat → Prop) (w : World) : Keep S w w := ⟨rfl, rfl, rfl, Nat.le_refl _, fun _ _ _ => rfl⟩
theorem Keep.trans (h : Keep S w w') (k : Keep T w' w'') (hT : ∀ i, i < w.heap.size → T i → S i) : Keep S w w'' :=
  ⟨k.os.trans h.os, k.tape.trans h.tape, k.output.trans h.output, Nat.le_trans h.size k.size,
    fun i hi hs => (k.block i (Nat.lt_of_lt_of_le hi h.size) (fun ht => hs (hT i hi ht))).trans (h.block i hi hs)⟩
theorem Keep.mono (h : Keep S w w') (hS : ∀ i, i < w.heap.size → S i → T i) : Keep T w w' :=
  ⟨h.os, h.tape, h.output, h.size, fun i hi ht => h.block i hi (fun hs => ht (hS i hi hs))⟩
theorem Keep.drewN (h : Keep S w w') (n : Nat) : Keep S w (w'.drewN n) := ⟨h.os, h.tape, h.output, h.size, h.block⟩
theorem Keep.drew (h : Keep S w w') : Keep S w w'.drew := ⟨h.os, h.tape, h.output, h.size, h.block⟩
theorem Keep.alloc (h : Keep S w w') (o : Obj) : Keep S w (w'.alloc o) :=
  ⟨h.os, h.tape, h.output, by have := h.size; simp; omega, fun i hi hs => (Below.heap_alloc w' o i (by have := h.size; omega)).trans (h.block i hi hs)⟩
theorem Keep.setCell (h : Keep S w w') {p : Addr} (hp : p.block < w.heap.size → S p.block) (u : Value) : Keep S w (w'.setCell p u) :=
  ⟨h.os, h.tape, h.output, by have := h.size; simpa [World.setCell] using this,
    fun i hi hs => (Below.heap_setCell w' p u i (fun e => by subst e; exact hs (hp hi))).trans (h.block i hi hs)⟩
theorem Keep.of_grown {row : Option Nat} (h : w.grownBy w' row) : Keep (fun k => some k = row) w w' := ⟨h.os, h.tape, h.output, h.size, fun k hk hs => h.block k hk hs⟩
theorem Keep.below (h : Keep S w w') {B : Nat} (hB : ∀ k, S k → B ≤ k) (hw : B ≤ w.heap.size) : Below B w w' :=
  ⟨h.os, h.tape, h.output, h.size, fun k hk => h.block k (by omega) (fun hs => by have := hB k hs; omega)⟩
theorem Keep.all (h : Keep noneOf w w') : Below w.heap.size w w' := h.below (fun _ hk => hk.elim) (Nat.le_refl _)
theorem Keep.cell (h : Keep S w w') {p : Addr} (hp : p.block < w.heap.size) (hs : ¬ S p.block) : w'.cell? p = w.cell? p := World.cell?_of_block (h.block _ hp hs)
theorem Box.lt (h : Box w g t cs) : g < w.heap.size := (Array.getElem?_eq_some_iff.1 h).1
theorem Box.cell (h : Box w g t cs) (i : Nat) : w.cell? ⟨g, i, none⟩ = cs[i]? := cell_of_row w g i cs t (0, 0) h
theorem Box.free (h : Box w g t cs) (i : Nat) : w.frozen? ⟨g, i, none⟩ = false := by
  unfold Box at h
  simp [World.frozen?, h]
theorem Box.new (w : World) (t : TypeId) (cs : Array Value) : Box (w.alloc (.cells cs t)) w.heap.size t cs := heap_alloc_new w _
theorem Box.alloc (h : Box w g t cs) (o : Obj) : Box (w.alloc o) g t cs := (Below.heap_alloc w o g h.lt).trans h
theorem Box.keep (h : Box w g t cs) (k : Keep S w w') (hs : ¬ S g) : Box w' g t cs := (k.block g h.lt hs).trans h
theorem Box.drew (h : Box w g t cs) : Box w.drew g t cs := h
theorem Box.put (h : Box w g t cs) (i : Nat) (u : Value) : Box (w.setCell ⟨g, i, none⟩ u) g t (cs.setIfInBounds i u) := by
  unfold Box at h ⊢
  simp [World.setCell, Array.getElem?_modify, h]
theorem Box.far (h : Box w g t cs) {p : Addr} (hp : g ≠ p.block) (u : Value) : Box (w.setCell p u) g t cs := (Below.heap_setCell w p u g hp).trans h
theorem Box.ne {g' : Nat} {t' : TypeId} {cs' : Array Value} (h : Box w g t cs) (h' : Box w g' t' cs') (hne : t ≠ t') : g ≠ g' := by
  rintro rfl
  unfold Box at h h'
  rw [h] at h'
  injection h' with h'
  injection h' with _ ht
  exact hne ht
end
def Bytes (w : World) (D : Nat → Prop) (v : Value) (bs : List UInt8) : Prop :=
  ∃ (A : Option Addr) (c : Nat), v = .slice A bs.length c ∧ bs.length ≤ c ∧ c ≤ maxLen ∧ (A = none → c = 0) ∧
    (0 < bs.length → ∃ ad : Addr, A = some ad ∧ ad.spot = none ∧ ad.block < w.heap.size ∧ D ad.block ∧ ∀ j (b : UInt8), bs[j]? = some b → w.cell? ⟨ad.block, ad.off + j, none⟩ = some (bv b))
section
variable {w w' : World} {S D D' : Nat → Prop} {v : Value} {bs : List UInt8}
theorem Bytes.keep (h : Bytes w D v bs) (k : Keep S w w') (hs : ∀ i, i < w.heap.size → D i → ¬ S i) : Bytes w' D v bs := by
  obtain ⟨A, c, hv, hl, hm, hn, hc⟩ := h
  refine ⟨A, c, hv, hl, hm, hn, fun h0 => ?_⟩
  obtain ⟨ad, hA, hsp, hlt, hD, hcell⟩ := hc h0
  exact ⟨ad, hA, hsp, Nat.lt_of_lt_of_le hlt k.size, hD, fun j b hb => (k.cell (p := ⟨ad.block, ad.off + j, none⟩) hlt (hs _ hlt hD)).trans (hcell j b hb)⟩
theorem Bytes.mono (h : Bytes w D v bs) (hD : ∀ i, i < w.heap.size → D i → D' i) : Bytes w D' v bs := by
  obtain ⟨A, c, hv, hl, hm, hn, hc⟩ := h
  refine ⟨A, c, hv, hl, hm, hn, fun h0 => ?_⟩
  obtain ⟨ad, hA, hsp, hlt, hd, hcell⟩ := hc h0
  exact ⟨ad, hA, hsp, hlt, hD _ hlt hd, hcell⟩
theorem Bytes.nil (w : World) (D : Nat → Prop) : Bytes w D (.slice none 0 0) [] := ⟨none, 0, rfl, Nat.le_refl _, Nat.zero_le _, fun _ => rfl, fun h => absurd h (by simp)⟩
theorem Bytes.of_own {base : Nat} {e : TypeId} (h : w.ownsRow base e 1 v bs.length (bs.map bv)) : Bytes w (fun k => some k = v.ownBlock) v bs := by
  rcases h.2 with ⟨rfl, h0⟩ | ⟨g, cap, cur, rfl, _, hg, hle, hmx, hsz, htk⟩
  · have : bs = [] := List.eq_nil_of_length_eq_zero h0
    subst this
    exact Bytes.nil _ _
  · refine ⟨some ⟨g, 0, none⟩, cap, rfl, hle, hmx, fun e => (by cases e), fun _ => ⟨⟨g, 0, none⟩, rfl, rfl, (Array.getElem?_eq_some_iff.1 hg).1, rfl, fun j b hb => ?_⟩⟩
    have hx : (bs.map bv)[j]? = some (bv b) := by simp [hb]
    rw [← htk, List.getElem?_take] at hx
    split at hx
    · show w.cell? ⟨g, 0 + j, none⟩ = _
      rw [Nat.zero_add, cell_of_row w g j cur e (0, 0) hg]
      simpa using hx
    · cases hx
end
theorem own_shape {w : World} {base : Nat} {e : TypeId} {size : Nat} {v : Value} {n : Nat} {xs : List Value} (h : w.ownsRow base e size v n xs) : ∃ A c, v = .slice A n c := by
  rcases h.2 with ⟨rfl, rfl⟩ | ⟨g, cap, cur, rfl, _⟩
  · exact ⟨_, _, rfl⟩
  · exact ⟨_, _, rfl⟩
theorem own_keep {w w' : World} {S : Nat → Prop} {base : Nat} {e : TypeId} {size : Nat} {v : Value} {n : Nat} {xs : List Value} (h : w.ownsRow base e size v n xs) (k : Keep S w w') (hs : ∀ j, v.ownBlock = some j → ¬ S j) : w'.ownsRow base e size v n xs := by
  refine ⟨h.1, ?_⟩
  rcases h.2 with hn | ⟨g, cap, cur, rfl, hb, hg, rest⟩
  · exact .inl hn
  · exact .inr ⟨g, cap, cur, rfl, hb, (k.block g (Array.getElem?_eq_some_iff.1 hg).1 (hs g rfl)).trans hg, rest⟩
end Go.Proofs.YtkoikmdmejhhhaaGreat
namespace Go.Proofs.YtkoikmdmejhhhaaGreat
open Go.RowKit
theorem wp_region_in {P : Program} {id : Nat} {Q : Exit → Act → World → Prop} {a : Act} {w : World} {l : List Oper} (C : World → Prop) (hm : P.follows .mixedOrders = true) (hB : Region.lexB .any l.toArray = true) (hC : C w.drew)
    (h : wpQuiet P l.toArray C (fun a' => ∀ w', C w' → Q .normal a' w') l a) : (Code.region id l.toArray true).wp P Q a w :=
  wp_region_quiet (C := C) hm hB hC (by simpa using h)
theorem quiet_reads {P : Program} {C : World → Prop} {o : Oper} {a : Act} {K : Act → Prop} (v : Value) (h : ∀ w, C w → (execOp a.eval o).run P w = .ok (.value v) w) (hk : K (a.put o.dst v)) : o.quiet P a C K :=
  ⟨v, fun w hw => by unfold Oper.quietAt; rw [h w hw]; exact ⟨rfl, rfl⟩, hk⟩
theorem quiet_calls {P : Program} {C : World → Prop} {o : Oper} {a : Act} {K : Act → Prop} (v : Value) (f : FuncId) (args : Array Value) (he : ∀ w, (execOp a.eval o).run P w = .ok (.enter f args) w) (h : ∀ w, C w → Calls P f args w (fun e w'' => e = .returned v ∧ C w'')) (hk : K (a.put o.dst v)) : o.quiet P a C K :=
  ⟨v, fun w hw => by unfold Oper.quietAt; rw [he w]; exact ⟨rfl, h w hw⟩, hk⟩
end Go.Proofs.YtkoikmdmejhhhaaGreat
namespace Go.Proofs.YtkoikmdmejhhhaaGreat
open Go.RowKit
def Row (w : World) (D : Nat → Prop) (v : Value) (n size : Nat) (xs : List Value) : Prop :=
  ∃ (A : Option Addr) (c : Nat), v = .slice A n c ∧ n ≤ c ∧ c ≤ maxLen ∧ (A = none → c = 0) ∧ xs.length = n * size ∧
    (0 < n → ∃ ad : Addr, A = some ad ∧ ad.spot = none ∧ ad.block < w.heap.size ∧ D ad.block ∧ ∀ j x, xs[j]? = some x → w.cell? ⟨ad.block, ad.off + j, none⟩ = some x)
theorem Row.keep {w w' : World} {S D : Nat → Prop} {v : Value} {n size : Nat} {xs : List Value} (h : Row w D v n size xs) (k : Keep S w w') (hs : ∀ i, i < w.heap.size → D i → ¬ S i) : Row w' D v n size xs := by
  obtain ⟨A, c, hv, hl, hm, hn, hx, hc⟩ := h
  refine ⟨A, c, hv, hl, hm, hn, hx, fun h0 => ?_⟩
  obtain ⟨ad, hA, hsp, hlt, hD, hcell⟩ := hc h0
  exact ⟨ad, hA, hsp, Nat.lt_of_lt_of_le hlt k.size, hD, fun j b hb => (k.cell (p := ⟨ad.block, ad.off + j, none⟩) hlt (hs _ hlt hD)).trans (hcell j b hb)⟩
theorem Row.mono {w : World} {D D' : Nat → Prop} {v : Value} {n size : Nat} {xs : List Value} (h : Row w D v n size xs) (hD : ∀ i, i < w.heap.size → D i → D' i) : Row w D' v n size xs := by
  obtain ⟨A, c, hv, hl, hm, hn, hx, hc⟩ := h
  refine ⟨A, c, hv, hl, hm, hn, hx, fun h0 => ?_⟩
  obtain ⟨ad, hA, hsp, hlt, hd, hcell⟩ := hc h0
  exact ⟨ad, hA, hsp, hlt, hD _ hlt hd, hcell⟩
def Strs (w : World) (D : Nat → Prop) (v : Value) (ss : List ByteArray) : Prop := Row w D v ss.length 1 (ss.map Value.string) ∧ ∀ s ∈ ss, s.size ≤ maxLen
theorem Strs.keep {w w' : World} {S D : Nat → Prop} {v : Value} {ss : List ByteArray} (h : Strs w D v ss) (k : Keep S w w') (hs : ∀ i, i < w.heap.size → D i → ¬ S i) : Strs w' D v ss := ⟨h.1.keep k hs, h.2⟩
structure Tg where
  name : ByteArray
  cmd : ByteArray
  nv : Value
  needs : List ByteArray
def Tg.cells (t : Tg) : List Value := [.string t.name, .string t.cmd, t.nv]
def Tg.lies (w : World) (D : Nat → Prop) (t : Tg) : Prop := t.name.size ≤ maxLen ∧ t.cmd.size ≤ maxLen ∧ Strs w D t.nv t.needs
def Tgs (w : World) (D : Nat → Prop) (v : Value) (ts : List Tg) : Prop := Row w D v ts.length 3 (ts.flatMap Tg.cells) ∧ ∀ t ∈ ts, t.lies w D
theorem Tgs.keep {w w' : World} {S D : Nat → Prop} {v : Value} {ts : List Tg} (h : Tgs w D v ts) (k : Keep S w w') (hs : ∀ i, i < w.heap.size → D i → ¬ S i) : Tgs w' D v ts :=
  ⟨h.1.keep k hs, fun t ht => ⟨(h.2 t ht).1, (h.2 t ht).2.1, (h.2 t ht).2.2.keep k hs⟩⟩
theorem cells_at {ts : List Tg} {k : Nat} {t : Tg} (h : ts[k]? = some t) (j : Nat) (hj : j < 3) : (ts.flatMap Tg.cells)[3 * k + j]? = t.cells[j]? := by
  induction ts generalizing k with
  | nil => simp at h
  | cons a l ih =>
    cases k with
    | zero =>
      simp at h
      subst h
      rw [List.flatMap_cons, List.getElem?_append_left (by simp [Tg.cells]; omega)]
      simp
    | succ k =>
      simp at h
      rw [List.flatMap_cons, List.getElem?_append_right (by simp [Tg.cells]; omega), ← ih h]
      congr 1
      simp [Tg.cells]
      omega
theorem cells_length (ts : List Tg) : (ts.flatMap Tg.cells).length = ts.length * 3 := by
  induction ts with
  | nil => rfl
  | cons a l ih => rw [List.flatMap_cons, List.length_append, ih, List.length_cons]; simp [Tg.cells]; omega
theorem str_beq (s t : ByteArray) : (s.toList == t.toList) = decide (s = t) := by
  rw [Bool.eq_iff_iff, beq_iff_eq, decide_eq_true_eq, ByteArray.toList_eq, ByteArray.toList_eq]
  constructor
  · intro h
    obtain ⟨⟨l⟩⟩ := s
    obtain ⟨⟨m⟩⟩ := t
    have h' : l = m := h
    rw [h']
  · rintro rfl
    rfl
theorem ret_bool {a b : Bool} (h : a = b) : Ending.returned (.bool a) = .returned (.bool b) := by rw [h]
theorem info_parts {P : Program} {t : TypeId} {x : Option Value} {s b : Nat} (h : (P.info? t).map (fun i => (i.zero, i.size, i.bytes)) = some (x, s, b)) : ∃ i, P.info? t = some i ∧ i.zero = x ∧ i.size = s ∧ i.bytes = b := by
  cases hi : P.info? t with
  | none => rw [hi] at h; cases h
  | some i =>
    rw [hi] at h
    simp at h
    exact ⟨i, rfl, h.1, h.2.1, h.2.2⟩
theorem Row.of_own {w : World} {base : Nat} {e : TypeId} {size : Nat} {v : Value} {n : Nat} {xs : List Value} (h : w.ownsRow base e size v n xs) : Row w (fun k => base ≤ k) v n size xs := by
  rcases h.2 with ⟨rfl, rfl⟩ | ⟨g, cap, cur, rfl, hb, hg, hle, hmx, hsz, htk⟩
  · exact ⟨none, 0, rfl, Nat.le_refl _, Nat.zero_le _, fun _ => rfl, h.1, fun h0 => absurd h0 (by simp)⟩
  · refine ⟨some ⟨g, 0, none⟩, cap, rfl, hle, hmx, fun e => (by cases e), h.1, fun _ => ⟨⟨g, 0, none⟩, rfl, rfl, (Array.getElem?_eq_some_iff.1 hg).1, hb, fun j b hb => ?_⟩⟩
    rw [← htk, List.getElem?_take] at hb
    split at hb
    · show w.cell? ⟨g, 0 + j, none⟩ = _
      rw [Nat.zero_add, cell_of_row w g j cur e (0, 0) hg]
      simpa using hb
    · cases hb
def iv (n : Nat) : Value := .int .i64 (n : Int)
def Ints (w : World) (D : Nat → Prop) (v : Value) (ns : List Nat) : Prop := Row w D v ns.length 1 (ns.map iv)
theorem Ints.keep {w w' : World} {S D : Nat → Prop} {v : Value} {ns : List Nat} (h : Ints w D v ns) (k : Keep S w w') (hs : ∀ i, i < w.heap.size → D i → ¬ S i) : Ints w' D v ns := Row.keep h k hs
theorem Ints.of_own {w : World} {base : Nat} {e : TypeId} {v : Value} {ns : List Nat} (h : w.ownsRow base e 1 v ns.length (ns.map iv)) : Ints w (fun k => base ≤ k) v ns := Row.of_own h
structure Pt where
  name : ByteArray
  cmd : ByteArray
  needs : List ByteArray
def Tg.plain (t : Tg) : Pt := ⟨t.name, t.cmd, t.needs⟩
theorem tgs_at {w w' : World} {b o : Nat} {ts : List Tg} {k : Nat} {t : Tg} (hK : Keep noneOf w w') (hblk : b < w.heap.size)
    (hcell : ∀ j x, (ts.flatMap Tg.cells)[j]? = some x → w.cell? ⟨b, o + j, none⟩ = some x) (h : ts[k]? = some t) :
    w'.cell? ⟨b, o + k * 3, none⟩ = some (.string t.name) ∧ w'.cell? ⟨b, o + k * 3 + 1, none⟩ = some (.string t.cmd) ∧ w'.cell? ⟨b, o + k * 3 + 2, none⟩ = some t.nv := by
  have hcc : ∀ j, j < 3 → ∀ x, t.cells[j]? = some x → w'.cell? ⟨b, o + (k * 3 + j), none⟩ = some x := fun j hj x hx =>
    (hK.cell (p := ⟨b, o + (k * 3 + j), none⟩) hblk id).trans (hcell _ x ((Nat.mul_comm k 3 ▸ cells_at h j hj).trans hx))
  exact ⟨hcc 0 (by decide) _ rfl, hcc 1 (by decide) _ rfl, hcc 2 (by decide) _ rfl⟩
end Go.Proofs.YtkoikmdmejhhhaaGreat
