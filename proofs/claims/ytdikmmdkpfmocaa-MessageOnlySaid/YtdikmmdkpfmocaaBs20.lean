import Derived.Test.YtdikmmdkpfmocaaBs04
import Derived.Test.YtdikmmdkpfmocaaBs17
import Derived.Test.YtdikmmdkpfmocaaBs18
namespace Go.Proofs.Ytdikmmdkpfmocaa
open Go.RowKit
structure KindZ (E P : Type) where
  te : TypeId
  tl : TypeId
  tf : TypeId
  sz : Nat
  ts : List TypeId
  cel : E → List Value
  plain : E → P
  one : Rs → P × Rs
  lies : World → E → Prop
  ctx : World → Prop
  fv : Value
  most : Nat
  stays : ∀ S W W', Keep S W W' → Avoids S W ts → (ctx W → ctx W') ∧ ∀ x, lies W x → lies W' x
  nte : te ∉ ts
  ntl : tl ∉ ts
  nrd : 77 ∉ ts
  nel : te ≠ tl
  nfe : tf ≠ te
  nre : 56 ≠ te
structure StZ {E P : Type} (K : KindZ E P) (w0 : World) (p : Nat) (D : Nat → Prop) (xs : List E) (s : Rs) (W : World) : Prop where
  rd : ∃ u, Rd W p D u s.left s.err
  row : ∃ v, Box W w0.heap.size K.tl #[v] ∧ W.ownsRow (w0.heap.size + 4) K.te K.sz v xs.length (xs.flatMap K.cel)
  b1 : Box W (w0.heap.size + 1) 56 #[.pointer (some ⟨p, 0, none⟩)]
  b2 : Box W (w0.heap.size + 2) 3 #[.int .i64 K.most]
  b3 : Box W (w0.heap.size + 3) K.tf #[K.fv]
  kp : Keep (fun k => k = p) w0 W
  cx : K.ctx W
  ls : ∀ x ∈ xs, K.lies W x
section
variable {E P : Type} {K : KindZ E P} {w0 W W' : World} {p : Nat} {D : Nat → Prop} {xs : List E} {s s' : Rs} {u' : Value}
theorem StZ.call (h : StZ K w0 p D xs s W) (hp : p < w0.heap.size) (k : Keep (fun k => k = p) W W') (r : Rd W' p D u' s'.left s'.err) : StZ K w0 p D xs s' W' := by
  obtain ⟨v, hb, ho⟩ := h.row
  obtain ⟨u, hr⟩ := h.rd
  have ha : Avoids (fun k => k = p) W K.ts := by
    rintro k rfl cs t ht
    have hb := hr.box
    unfold Box at hb
    rw [hb] at ht
    injection ht with ht
    injection ht with _ ht
    exact ht ▸ K.nrd
  have st := K.stays _ _ _ k ha
  refine ⟨⟨u', r⟩, ⟨v, hb.keep k (by omega), own_keep ho k (fun j hj => by have := (own_ge ho hj).1; omega)⟩, h.b1.keep k (by omega), h.b2.keep k (by omega), h.b3.keep k (by omega), h.kp.trans k (fun _ _ h => h), st.1 h.cx, fun x hx => st.2 x (h.ls x hx)⟩
theorem StZ.below {B : Nat} (h : StZ K w0 p D xs s W) (hB : Below B W W') (hw : B = W.heap.size) : StZ K w0 p D xs s W' := by
  subst hw
  have k : Keep noneOf W W' := ⟨hB.os, hB.tape, hB.output, hB.size, fun i hi _ => hB.block i hi⟩
  obtain ⟨v, hb, ho⟩ := h.row
  obtain ⟨u, hr⟩ := h.rd
  have st := K.stays _ _ _ k (fun _ h => h.elim)
  exact ⟨⟨u, hr.keep k id (fun _ _ => id)⟩, ⟨v, hb.keep k id, own_keep ho k (fun _ _ => id)⟩, h.b1.keep k id, h.b2.keep k id, h.b3.keep k id, h.kp.trans k (fun _ _ h => h.elim), st.1 h.cx, fun x hx => st.2 x (h.ls x hx)⟩
theorem StZ.loop (h : StZ K w0 p D xs s W) (hD : ∀ i, D i → i < w0.heap.size) (hp : p < w0.heap.size) {l : Nat} {o : Obj} (hl : W.heap[l]? = some o) (ho : o.isCells = false) (hw : w0.heap.size ≤ l) (o' : Obj) : StZ K w0 p D xs s (W.putObj l o') := by
  obtain ⟨v, hb, hw'⟩ := h.row
  obtain ⟨u, hr⟩ := h.rd
  have k := loop_keep W l o'
  have ha : Avoids (fun k => k = l) W K.ts := by
    rintro k rfl cs t ht
    rw [hl] at ht
    injection ht with ht
    subst ht
    cases ho
  have st := K.stays _ _ _ k ha
  refine ⟨⟨u, hr.keep k (by omega) (fun i hi => by have := hD i hi; omega)⟩, ⟨v, hb.keep k (hb.not_loop hl ho), own_keep hw' k (fun j hj e => ?_)⟩, h.b1.keep k (h.b1.not_loop hl ho), h.b2.keep k (h.b2.not_loop hl ho), h.b3.keep k (h.b3.not_loop hl ho),
    h.kp.trans k (fun i hi e => by omega), st.1 h.cx, fun x hx => st.2 x (h.ls x hx)⟩
  obtain ⟨_, cur, hg⟩ := own_ge hw' hj
  rw [e, hl] at hg
  injection hg with hg
  subst hg
  cases ho
theorem StZ.app (h : StZ K w0 p D xs s W) (hD : ∀ i, D i → i < w0.heap.size) (hp : p < w0.heap.size) {v : Value} (hb : Box W w0.heap.size K.tl #[v]) (ho : W.ownsRow (w0.heap.size + 4) K.te K.sz v xs.length (xs.flatMap K.cel)) (x : E) (hx : K.lies W x)
    {W1 W2 : World} {o : Obj} (h1 : W1 = W.alloc o) {v' : Value} (hg : W1.grownBy W2 v.ownBlock) (hown : W2.ownsRow (w0.heap.size + 4) K.te K.sz v' (xs.length + 1) (xs.flatMap K.cel ++ K.cel x)) :
    Box W2 w0.heap.size K.tl #[v] ∧ StZ K w0 p D (xs ++ [x]) s (W2.setCell ⟨w0.heap.size, 0, none⟩ v') ∧ KeepsOthers W (W2.setCell ⟨w0.heap.size, 0, none⟩ v') := by
  subst h1
  obtain ⟨u, hr⟩ := h.rd
  have k1 : Keep (fun k => some k = v.ownBlock) W W2 := ((Keep.refl (fun k => some k = v.ownBlock) W).alloc o).trans (Keep.of_grown hg) (fun _ _ h => h)
  have hb2 : Box W2 w0.heap.size K.tl #[v] := hb.keep k1 (fun e => by have := (own_ge ho e.symm).1; omega)
  have k2 : Keep (fun k => some k = v.ownBlock ∨ k = w0.heap.size) W (W2.setCell ⟨w0.heap.size, 0, none⟩ v') := (k1.mono (fun _ _ h => .inl h)).setCell (p := ⟨w0.heap.size, 0, none⟩) (fun _ => .inr rfl) v'
  have ha : Avoids (fun k => some k = v.ownBlock ∨ k = w0.heap.size) W K.ts := by
    rintro k (e | rfl) cs t ht
    · obtain ⟨_, cur, hc⟩ := own_ge ho e.symm
      rw [hc] at ht
      injection ht with ht
      injection ht with _ ht
      exact ht ▸ K.nte
    · unfold Box at hb
      rw [hb] at ht
      injection ht with ht
      injection ht with _ ht
      exact ht ▸ K.ntl
  have st := K.stays _ _ _ k2 ha
  have hge : ∀ i, some i = v.ownBlock ∨ i = w0.heap.size → w0.heap.size ≤ i := by
    rintro i (e | rfl)
    · have := (own_ge ho e.symm).1
      omega
    · exact Nat.le_refl _
  refine ⟨hb2, ⟨⟨u, hr.keep k2 (fun e => by have := hge _ e; omega) (fun i hi e => by have := hge _ e; have := hD i hi; omega)⟩, ⟨v', by simpa using hb2.put 0 v', ?_⟩, h.b1.keep k2 ?_, h.b2.keep k2 ?_, h.b3.keep k2 ?_, ?_, st.1 h.cx, ?_⟩, ?_⟩
  · have : W2.ownsRow (w0.heap.size + 4) K.te K.sz v' (xs ++ [x]).length ((xs ++ [x]).flatMap K.cel) := by simpa using hown
    refine own_keep this ((Keep.refl (fun k => k = w0.heap.size) W2).setCell (p := ⟨w0.heap.size, 0, none⟩) (fun _ => rfl) v') (fun j hj e => ?_)
    obtain ⟨_, cur, hc⟩ := own_ge hown hj
    rw [e] at hc
    unfold Box at hb2
    rw [hb2] at hc
    injection hc with hc
    injection hc with _ hc
    exact K.nel hc.symm
  · rintro (e | e)
    · have := (own_ge ho e.symm).1
      omega
    · omega
  · rintro (e | e)
    · have := (own_ge ho e.symm).1
      omega
    · omega
  · rintro (e | e)
    · have := (own_ge ho e.symm).1
      omega
    · omega
  · exact h.kp.trans k2 (fun i hi e => by have := hge _ e; omega)
  · intro y hy
    rcases List.mem_append.1 hy with hy | hy
    · exact st.2 y (h.ls y hy)
    · rw [List.mem_singleton.1 hy]
      exact st.2 x hx
  · refine ((KeepsOthers.alloc W o).trans (KeepsOthers.of_grownBy hg (fun j o' e ho' => ?_))).trans (KeepsOthers.setCell _ _ _)
    obtain ⟨_, cur, hc⟩ := own_ge ho e
    have := (Below.heap_alloc W o j (Array.getElem?_eq_some_iff.1 hc).1).trans hc
    rw [ho'] at this
    injection this with this
    subst this
    rfl
def JJZ (K : KindZ E P) (w0 : World) (p : Nat) (D : Nat → Prop) (n : Nat) (fin : List P × Rs) (pre : List (Nat × E)) (W : World) : Prop :=
  ∃ s rest, StZ K w0 p D (pre.map Prod.snd) s W ∧ s.err = 0 ∧ pre.length ≤ n ∧ rdL K.one (n - pre.length) s = (rest, fin.2) ∧ (pre.map (fun x => K.plain x.2)) ++ rest = fin.1
def YYZ (K : KindZ E P) (w0 : World) (p : Nat) (D : Nat → Prop) (n : Nat) (fin : List P × Rs) (pre : List (Nat × E)) (x : Nat × E) (W : World) : Prop :=
  x.1 = pre.length ∧ pre.length < n ∧ n ≤ K.most ∧ K.lies W x.2 ∧ ∃ s rest, StZ K w0 p D (pre.map Prod.snd) s W ∧ s.err = 0 ∧ rdL K.one (n - (pre.length + 1)) s = (rest, fin.2) ∧ ((pre ++ [x]).map (fun x => K.plain x.2)) ++ rest = fin.1
def DDZ (K : KindZ E P) (w0 : World) (p : Nat) (D : Nat → Prop) (fin : List P × Rs) (W : World) : Prop :=
  ∃ xs, StZ K w0 p D xs fin.2 W ∧ (fin.2.err = 0 → xs.map K.plain = fin.1)
variable {n : Nat} {fin : List P × Rs}
theorem JJZ.loop {pre : List (Nat × E)} (h : JJZ K w0 p D n fin pre W) (hD : ∀ i, D i → i < w0.heap.size) (hp : p < w0.heap.size) {l : Nat} {o : Obj} (hl : W.heap[l]? = some o) (ho : o.isCells = false) (hw : w0.heap.size ≤ l) (o' : Obj) : JJZ K w0 p D n fin pre (W.putObj l o') := by
  obtain ⟨s, rest, h1, h2⟩ := h
  exact ⟨s, rest, h1.loop hD hp hl ho hw o', h2⟩
theorem YYZ.loop {pre : List (Nat × E)} {x : Nat × E} (h : YYZ K w0 p D n fin pre x W) (hD : ∀ i, D i → i < w0.heap.size) (hp : p < w0.heap.size) {l : Nat} {o : Obj} (hl : W.heap[l]? = some o) (ho : o.isCells = false) (hw : w0.heap.size ≤ l) (o' : Obj) : YYZ K w0 p D n fin pre x (W.putObj l o') := by
  obtain ⟨h1, h2, h3, h4, s, rest, h5, h6⟩ := h
  have ha : Avoids (fun k => k = l) W K.ts := by
    rintro k rfl cs t ht
    rw [hl] at ht
    injection ht with ht
    subst ht
    cases ho
  exact ⟨h1, h2, h3, (K.stays _ _ _ (loop_keep W l o') ha).2 _ h4, s, rest, h5.loop hD hp hl ho hw o', h6⟩
theorem YYZ.below {pre : List (Nat × E)} {x : Nat × E} (h : YYZ K w0 p D n fin pre x W) (hB : Below W.heap.size W W') : YYZ K w0 p D n fin pre x W' := by
  obtain ⟨h1, h2, h3, h4, s, rest, h5, h6⟩ := h
  have k : Keep noneOf W W' := ⟨hB.os, hB.tape, hB.output, hB.size, fun i hi _ => hB.block i hi⟩
  exact ⟨h1, h2, h3, (K.stays _ _ _ k (fun _ h => h.elim)).2 _ h4, s, rest, h5.below hB rfl, h6⟩
theorem DDZ.loop (h : DDZ K w0 p D fin W) (hD : ∀ i, D i → i < w0.heap.size) (hp : p < w0.heap.size) {l : Nat} {o : Obj} (hl : W.heap[l]? = some o) (ho : o.isCells = false) (hw : w0.heap.size ≤ l) (o' : Obj) : DDZ K w0 p D fin (W.putObj l o') := by
  obtain ⟨xs, h1, h2⟩ := h
  exact ⟨xs, h1.loop hD hp hl ho hw o', h2⟩
end
end Go.Proofs.Ytdikmmdkpfmocaa
