/-
  entry.readFields: a command's fields, read.
-/
import Derived.Test.YtngbminjbgomgaaCommand
import Derived.Test.YtngbminjbgomgaaDecode
namespace Go.Proofs.Ytngbminjbgomgaa
open Go.RowKit

/-- A Long, if there is one. -/
def Rs.longIf (b : Bool) (s : Rs) : Nat × Rs := if b then (num (s.take 8).1, (s.take 8).2) else (0, s)
/-- A bool: no other byte than 0 and 1. -/
def Rs.bool (s : Rs) : Bool × Rs := (decide (num (s.take 1).1 = 1), if 1 < num (s.take 1).1 then (s.take 1).2.fail 40 else (s.take 1).2)
def Rs.boolIf (b : Bool) (s : Rs) : Bool × Rs := if b then s.bool else (false, s)

set_option maxRecDepth 100000 in
set_option maxHeartbeats 400000 in
theorem readLong_any (w : World) (p : Nat) (D : Nat → Prop) (u : Value) (b : Bool) (s s' : Rs) (n : Nat) (h : Rd w p D u s.left s.err) (e : s.longIf b = (n, s')) :
    Calls Try.prog 63 #[.pointer (some ⟨p, 0, none⟩), .bool b] w (Got w p D (.int .u64 n) s') := by
  cases b with
  | false =>
    obtain ⟨rfl, rfl⟩ : 0 = n ∧ s = s' := by simpa [Rs.longIf] using e
    clear e
    go_enter Try.func63, Try.ntmps63
    go_wp2
    go_ret
    exact ⟨rfl, Keep.refl _ _, u, h⟩
  | true =>
    obtain ⟨rfl, rfl⟩ : num (s.take 8).1 = n ∧ (s.take 8).2 = s' := by simpa [Rs.longIf] using e
    have T := Lib.hid (rlong_to w p D u s (s.take 8).2 (s.take 8).1 h rfl)
    clear e
    generalize (s.take 8).1 = cs at *
    generalize (s.take 8).2 = s1 at *
    go_enter Try.func63, Try.ntmps63
    go_wp2_with fail
    refine T.out.mono ?_
    rintro e w1 ⟨rfl, k1, u1, h1⟩
    go_wp2
    go_ret
    exact ⟨rfl, k1, u1, h1⟩

set_option maxRecDepth 100000 in
set_option maxHeartbeats 400000 in
theorem readBool_any (w : World) (p : Nat) (D : Nat → Prop) (u : Value) (s s' : Rs) (g : Bool) (h : Rd w p D u s.left s.err) (e : s.bool = (g, s')) :
    Calls Try.prog 65 #[.pointer (some ⟨p, 0, none⟩)] w (Got w p D (.bool g) s') := by
  have e' : (decide (num (s.take 1).1 = 1) = g) ∧ (if 1 < num (s.take 1).1 then (s.take 1).2.fail 40 else (s.take 1).2) = s' := by
    unfold Rs.bool at e
    exact Prod.mk.injEq _ _ _ _ ▸ e
  obtain ⟨e1, e2⟩ := e'
  have T := Lib.hid (rbyte_to w p D u s (s.take 1).2 (s.take 1).1 h rfl)
  have hl := num_one (s.take 1).1 (take_length _ _)
  clear e
  generalize (s.take 1).2 = s1 at *
  generalize (s.take 1).1 = cs at *
  generalize num cs = n at *
  by_cases hn : 1 < n
  · rw [if_pos hn] at e2
    have E1 := Lib.hid e1
    have E2 := Lib.hid e2
    have hg : g = false := by rw [← e1]; simp; omega
    subst hg
    have g1 : ((n : Int) == 1) = false := beq_eq_false_iff_ne.2 (by omega)
    clear e1 e2
    go_enter Try.func65, Try.ntmps65
    go_wp2_with fail
    refine T.out.mono ?_
    rintro e w1 ⟨rfl, k1, u1, h1⟩
    go_wp2_with fail
    refine (fail_any w1 p D u1 _ _ 40 h1).mono ?_
    rintro e w2 ⟨rfl, h2, k2⟩
    go_wp2
    go_ret
    refine ⟨rfl, k1.trans k2 (fun _ _ h => h), u1, ?_⟩
    rw [← E2.out]
    have ef : (Rs.fail s1 40).left = s1.left := by unfold Rs.fail; split <;> rfl
    rw [ef]
    exact h2
  · rw [if_neg hn] at e2
    subst e2
    have E1 := Lib.hid e1
    clear e1
    by_cases h1 : n = 1
    · subst h1
      have hg : g = true := by rw [← E1.out]; rfl
      subst hg
      go_enter Try.func65, Try.ntmps65
      go_wp2_with fail
      refine T.out.mono ?_
      rintro e w1 ⟨rfl, k1, u1, h1⟩
      go_wp2
      go_ret
      exact ⟨rfl, k1, u1, h1⟩
    · have h0 : n = 0 := by omega
      subst h0
      have hg : g = false := by rw [← E1.out]; rfl
      subst hg
      go_enter Try.func65, Try.ntmps65
      go_wp2_with fail
      refine T.out.mono ?_
      rintro e w1 ⟨rfl, k1, u1, h1⟩
      go_wp2
      go_ret
      exact ⟨rfl, k1, u1, h1⟩
/-- A target without its memory. -/
structure Pt where
  name : ByteArray
  cmd : ByteArray
  needs : List ByteArray
def Tg.plain (t : Tg) : Pt := ⟨t.name, t.cmd, t.needs⟩

/-- What readFields has in memory on its way: the result's block, the fields', the command's, and the reader. -/
structure RF (X : World → Prop) (w w' : World) (p q cb : Nat) (D : Nat → Prop) (fl cs : Array Value) (u : Value) (s : Rs) : Prop where
  res : Box w' w.heap.size 38 #[.int .i64 0, .int .u64 0, .int .u64 0, .slice none 0 0, .int .u64 0, .int .u64 0, .bool false, .int .u64 0]
  fb : Box w' q 81 fl
  cbx : Box w' cb 38 cs
  rd : Rd w' p (fun k => D k ∧ k < w.heap.size) u s.left s.err
  kp : Keep (fun k => k = p) w w'
  h1 : p < w.heap.size
  h2 : w.heap.size < q
  h3 : q < cb
  ex : X w'
  st : ∀ a b, X a → Keep (fun k => k = p ∨ k = cb ∨ k = w.heap.size) a b → X b

theorem RF.call {X : World → Prop} {w w1 w2 : World} {p q cb : Nat} {D : Nat → Prop} {fl cs : Array Value} {u u2 : Value} {s s2 : Rs} (h : RF X w w1 p q cb D fl cs u s) (k : Keep (fun k => k = p) w1 w2) (r : Rd w2 p (fun k => D k ∧ k < w.heap.size) u2 s2.left s2.err) : RF X w w2 p q cb D fl cs u2 s2 := by
  have a1 := h.h1
  have a2 := h.h2
  have a3 := h.h3
  exact ⟨h.res.keep k (by omega), h.fb.keep k (by omega), h.cbx.keep k (by omega), r, h.kp.trans k (fun _ _ h => h), a1, a2, a3, h.st _ _ h.ex (k.mono (fun _ _ h => .inl h)), h.st⟩
theorem RF.put {X : World → Prop} {w w1 : World} {p q cb : Nat} {D : Nat → Prop} {fl cs : Array Value} {u : Value} {s : Rs} (h : RF X w w1 p q cb D fl cs u s) (i : Nat) (x : Value) : RF X w (w1.setCell ⟨cb, i, none⟩ x) p q cb D fl (cs.setIfInBounds i x) u s := by
  have a1 := h.h1
  have a2 := h.h2
  have a3 := h.h3
  have k := (Keep.refl (fun k => k = cb) w1).setCell (p := ⟨cb, i, none⟩) (fun _ => rfl) x
  exact ⟨h.res.keep k (by omega), h.fb.keep k (by omega), h.cbx.put i x, h.rd.keep k (by omega) (fun j hj => by omega), h.kp.setCell (p := ⟨cb, i, none⟩) (fun hlt => absurd hlt (by simp; omega)) x, a1, a2, a3, h.st _ _ h.ex (k.mono (fun _ _ h => .inr (.inl h))), h.st⟩

/-- What is behind readGraph. -/
def GotGraph (w : World) (p : Nat) (D : Nat → Prop) (pts : List Pt) (s : Rs) (e : Ending) (w' : World) : Prop :=
  ∃ gv ts, e = .returned gv ∧ Keep (fun k => k = p) w w' ∧ (∃ u, Rd w' p D u s.left s.err) ∧ Tgs w' (fun k => w.heap.size ≤ k) gv ts ∧ ts.map Tg.plain = pts

/-- What is behind readFields. -/
def GotFields (w : World) (p : Nat) (D : Nat → Prop) (k : Int) (n1 n2 : Nat) (pts : List Pt) (n4 n5 : Nat) (g6 : Bool) (n7 : Nat) (s : Rs) (e : Ending) (w' : World) : Prop :=
  ∃ gv ts, e = .returned (.agg #[.int .i64 k, .int .u64 (n1 : Int), .int .u64 (n2 : Int), gv, .int .u64 (n4 : Int), .int .u64 (n5 : Int), .bool g6, .int .u64 (n7 : Int)]) ∧ Keep (fun k => k = p) w w' ∧
    (∃ u, Rd w' p (fun k => D k ∧ k < w.heap.size) u s.left s.err) ∧ Tgs w' (fun k => w.heap.size ≤ k) gv ts ∧ ts.map Tg.plain = pts

theorem Tgs.mono {w : World} {D D' : Nat → Prop} {v : Value} {ts : List Tg} (h : Tgs w D v ts) (hD : ∀ i, i < w.heap.size → D i → D' i) : Tgs w D' v ts :=
  ⟨h.1.mono hD, fun t ht => ⟨(h.2 t ht).1, (h.2 t ht).2.1, (h.2 t ht).2.2.1.mono hD, (h.2 t ht).2.2.2⟩⟩
theorem Tgs.nil (w : World) (D : Nat → Prop) : Tgs w D (.slice none 0 0) [] := ⟨⟨none, 0, rfl, Nat.le_refl _, Nat.zero_le _, fun _ => rfl, rfl, fun h => absurd h (by simp)⟩, fun t ht => by cases ht⟩

/-- A struct of eight cells, stored whole. -/
theorem fill8 {w : World} {g : Nat} {t : TypeId} {a0 a1 a2 a3 a4 a5 a6 a7 : Value} (x0 x1 x2 x3 x4 x5 x6 x7 : Value) (h : Box w g t #[a0, a1, a2, a3, a4, a5, a6, a7]) :
    Box ((((((((w.setCell ⟨g, 0, none⟩ x0).setCell ⟨g, 1, none⟩ x1).setCell ⟨g, 2, none⟩ x2).setCell ⟨g, 3, none⟩ x3).setCell ⟨g, 4, none⟩ x4).setCell ⟨g, 5, none⟩ x5).setCell ⟨g, 6, none⟩ x6).setCell ⟨g, 7, none⟩ x7) g t #[x0, x1, x2, x3, x4, x5, x6, x7] ∧
      Keep (fun k => k = g) w ((((((((w.setCell ⟨g, 0, none⟩ x0).setCell ⟨g, 1, none⟩ x1).setCell ⟨g, 2, none⟩ x2).setCell ⟨g, 3, none⟩ x3).setCell ⟨g, 4, none⟩ x4).setCell ⟨g, 5, none⟩ x5).setCell ⟨g, 6, none⟩ x6).setCell ⟨g, 7, none⟩ x7) := by
  refine ⟨?_, ?_⟩
  · have := (((((((h.put 0 x0).put 1 x1).put 2 x2).put 3 x3).put 4 x4).put 5 x5).put 6 x6).put 7 x7
    simpa using this
  · exact ((((((((Keep.refl (fun k => k = g) w).setCell (p := ⟨g, 0, none⟩) (fun _ => rfl) x0).setCell (p := ⟨g, 1, none⟩) (fun _ => rfl) x1).setCell (p := ⟨g, 2, none⟩) (fun _ => rfl) x2).setCell (p := ⟨g, 3, none⟩) (fun _ => rfl) x3).setCell (p := ⟨g, 4, none⟩) (fun _ => rfl) x4).setCell (p := ⟨g, 5, none⟩) (fun _ => rfl) x5).setCell (p := ⟨g, 6, none⟩) (fun _ => rfl) x6).setCell (p := ⟨g, 7, none⟩) (fun _ => rfl) x7

theorem fields_done {X : World → Prop} {w w9 wf : World} {p q cb : Nat} {D : Nat → Prop} {fl cs : Array Value} {u gv : Value} {s : Rs} {ts : List Tg} {pts : List Pt} {k : Int} {n1 n2 n4 n5 n7 : Nat} {g6 : Bool} (F : RF X w w9 p q cb D fl cs u s) (kl : Keep (fun k => k = w.heap.size) w9 wf)
    (ht : Tgs wf (fun k => w.heap.size ≤ k) gv ts) (hp : ts.map Tg.plain = pts) :
    GotFields w p D k n1 n2 pts n4 n5 g6 n7 s (.returned (.agg #[.int .i64 k, .int .u64 (n1 : Int), .int .u64 (n2 : Int), gv, .int .u64 (n4 : Int), .int .u64 (n5 : Int), .bool g6, .int .u64 (n7 : Int)])) wf := by
  have a1 := F.h1
  exact ⟨gv, ts, rfl, F.kp.trans kl (fun i hi h => by omega), ⟨u, F.rd.keep kl (by omega) (fun j hj => by omega)⟩, ht, hp⟩

set_option maxRecDepth 100000 in
set_option maxHeartbeats 2000000 in
theorem readFields_plain (w : World) (p : Nat) (D : Nat → Prop) (u : Value) (k : Int) (s0 s1 s2 s3 s4 s5 s6 s7 : Rs) (n1 n2 n4 n5 n7 : Nat) (g6 : Bool) (pts : List Pt) (h : Rd w p D u s0.left s0.err)
    (E1 : s0.longIf (fSes k) = (n1, s1)) (E2 : s1.longIf (fSeq k) = (n2, s2)) (hfalse : fGra k = false) (E3 : s3 = s2 ∧ pts = [])
    (E4 : s3.longIf (fId k) = (n4, s4)) (E5 : s4.longIf (fTok k) = (n5, s5)) (E6 : s5.boolIf (fGood k) = (g6, s6)) (E7 : s6.longIf (fTime k) = (n7, s7)) :
    Calls Try.prog 41 #[.pointer (some ⟨p, 0, none⟩), .int .i64 k] w (GotFields w p D k n1 n2 pts n4 n5 g6 n7 s7) := by
  have x0 := Box.new w 38 #[.int .i64 0, .int .u64 0, .int .u64 0, .slice none 0 0, .int .u64 0, .int .u64 0, .bool false, .int .u64 0]
  have k0 := (Keep.refl noneOf w).alloc (.cells #[.int .i64 0, .int .u64 0, .int .u64 0, .slice none 0 0, .int .u64 0, .int .u64 0, .bool false, .int .u64 0] 38)
  have hpl := h.box.lt
  have h0 : Rd w p (fun k => D k ∧ k < w.heap.size) u s0.left s0.err := ⟨h.box, h.bytes.mono (fun i hi hd => ⟨⟨hd.1, hi⟩, hd.2⟩), h.few⟩
  go_enter Try.func41, Try.ntmps41
  go_wp2_with fail
  refine (fieldsOf_any _ k).mono ?_
  rintro e w1 ⟨rfl, k1⟩
  unfold flV
  generalize fSes k = f1 at *
  generalize fSeq k = f2 at *
  rw [hfalse]
  clear hfalse
  generalize fId k = f4 at *
  generalize fTok k = f5 at *
  generalize fGood k = f6 at *
  generalize fTime k = f7 at *
  generalize known k = kn at *
  have hw1 : w.heap.size < w1.heap.size := (x0.keep k1 id).lt
  have kk := k0.trans k1 (fun _ _ h => h)
  have ka := (kk.alloc (.cells #[.bool f1, .bool f2, .bool false, .bool f4, .bool f5, .bool f6, .bool f7] 81)).alloc (.cells #[.int .i64 k, .int .u64 0, .int .u64 0, .slice none 0 0, .int .u64 0, .int .u64 0, .bool false, .int .u64 0] 38)
  have yc := Box.new (w1.alloc (.cells #[.bool f1, .bool f2, .bool false, .bool f4, .bool f5, .bool f6, .bool f7] 81)) 38 #[.int .i64 k, .int .u64 0, .int .u64 0, .slice none 0 0, .int .u64 0, .int .u64 0, .bool false, .int .u64 0]
  have yf := (Box.new w1 81 #[.bool f1, .bool f2, .bool false, .bool f4, .bool f5, .bool f6, .bool f7]).alloc (.cells #[.int .i64 k, .int .u64 0, .int .u64 0, .slice none 0 0, .int .u64 0, .int .u64 0, .bool false, .int .u64 0] 38)
  have yr := (((x0.keep k1 id).alloc (.cells #[.bool f1, .bool f2, .bool false, .bool f4, .bool f5, .bool f6, .bool f7] 81)).alloc (.cells #[.int .i64 k, .int .u64 0, .int .u64 0, .slice none 0 0, .int .u64 0, .int .u64 0, .bool false, .int .u64 0] 38))
  rw [World.size_alloc] at yc
  have F0 : RF (fun _ => True) w ((w1.alloc (.cells #[.bool f1, .bool f2, .bool false, .bool f4, .bool f5, .bool f6, .bool f7] 81)).alloc (.cells #[.int .i64 k, .int .u64 0, .int .u64 0, .slice none 0 0, .int .u64 0, .int .u64 0, .bool false, .int .u64 0] 38)) p w1.heap.size (w1.heap.size + 1) D #[.bool f1, .bool f2, .bool false, .bool f4, .bool f5, .bool f6, .bool f7] #[.int .i64 k, .int .u64 0, .int .u64 0, .slice none 0 0, .int .u64 0, .int .u64 0, .bool false, .int .u64 0] u s0 :=
    ⟨yr, yf, yc, h0.keep ka id (fun _ _ => id), ka.mono (fun _ _ h => h.elim), hpl, hw1, Nat.lt_succ_self _, trivial, fun _ _ _ _ => trivial⟩
  have HF0 := Lib.hid F0
  have H1 := Lib.hid E1
  have H2 := Lib.hid E2
  have H3 := Lib.hid E3
  have H4 := Lib.hid E4
  have H5 := Lib.hid E5
  have H6 := Lib.hid E6
  have H7 := Lib.hid E7
  clear x0 k0 kk ka yc yf yr F0 E1 E2 E3 E4 E5 E6 E7 h0 h k1
  go_wp2_with fail
  refine (readLong_any _ p _ u f1 s0 s1 n1 HF0.out.rd H1.out).mono ?_
  rintro e w2 ⟨rfl, k2, u2, r2⟩
  have F2 := HF0.out.call k2 r2
  clear HF0 k2 r2
  have a2 : w2.cell? ⟨w1.heap.size + 1, 1, none⟩ = some (.int .u64 0) := F2.cbx.cell 1
  have b2 := F2.cbx.free 1
  have c2 : w2.cell? ⟨w1.heap.size, 1, none⟩ = some (.bool f2) := F2.fb.cell 1
  have F2' := F2.put 1 (.int .u64 (n1 : Int))
  have HF2 := Lib.hid F2'
  clear F2 F2'
  go_wp2_with fail
  refine (readLong_any _ p _ u2 f2 s1 s2 n2 HF2.out.rd H2.out).mono ?_
  rintro e w3 ⟨rfl, k3, u3, r3⟩
  have F3 := HF2.out.call k3 r3
  clear HF2 k3 r3 a2 b2 c2
  have a3 : w3.cell? ⟨w1.heap.size + 1, 2, none⟩ = some (.int .u64 0) := F3.cbx.cell 2
  have b3 := F3.cbx.free 2
  have c3 : w3.cell? ⟨w1.heap.size, 2, none⟩ = some (.bool false) := F3.fb.cell 2
  have d3 : w3.cell? ⟨w1.heap.size, 3, none⟩ = some (.bool f4) := F3.fb.cell 3
  have F3' := F3.put 2 (.int .u64 (n2 : Int))
  have HF3 := Lib.hid F3'
  clear F3 F3'
  obtain ⟨rfl, rfl⟩ := H3.out
  go_wp2_with fail
  refine (readLong_any _ p _ u3 f4 s3 s4 n4 HF3.out.rd H4.out).mono ?_
  rintro e w5 ⟨rfl, k5, u5, r5⟩
  have F5 := HF3.out.call k5 r5
  clear HF3 k5 r5
  have a5 : w5.cell? ⟨w1.heap.size + 1, 4, none⟩ = some (.int .u64 0) := F5.cbx.cell 4
  have b5 := F5.cbx.free 4
  have c5 : w5.cell? ⟨w1.heap.size, 4, none⟩ = some (.bool f5) := F5.fb.cell 4
  have F5' := F5.put 4 (.int .u64 (n4 : Int))
  have HF5 := Lib.hid F5'
  clear F5 F5'
  go_wp2_with fail
  refine (readLong_any _ p _ u5 f5 s4 s5 n5 HF5.out.rd H5.out).mono ?_
  rintro e w6 ⟨rfl, k6, u6, r6⟩
  have F6 := HF5.out.call k6 r6
  clear HF5 k6 r6 a5 b5 c5
  have a6 : w6.cell? ⟨w1.heap.size + 1, 5, none⟩ = some (.int .u64 0) := F6.cbx.cell 5
  have b6 := F6.cbx.free 5
  have c6 : w6.cell? ⟨w1.heap.size, 5, none⟩ = some (.bool f6) := F6.fb.cell 5
  have d6 : w6.cell? ⟨w1.heap.size, 6, none⟩ = some (.bool f7) := F6.fb.cell 6
  have F6' := F6.put 5 (.int .u64 (n5 : Int))
  have HF6 := Lib.hid F6'
  clear F6 F6'
  cases f6 with
  | false =>
    obtain ⟨rfl, rfl⟩ : false = g6 ∧ s5 = s6 := by simpa [Rs.boolIf] using H6.out
    go_wp2_with fail
    refine (readLong_any _ p _ u6 f7 s5 s7 n7 HF6.out.rd H7.out).mono ?_
    rintro e w8 ⟨rfl, k8, u8, r8⟩
    have F8 := HF6.out.call k8 r8
    clear HF6 k8 r8 a6 b6 c6 d6
    have x0 : w8.cell? ⟨w1.heap.size + 1, 0, none⟩ = some (.int .i64 k) := F8.cbx.cell 0
    have x1 : w8.cell? ⟨w1.heap.size + 1, 1, none⟩ = some (.int .u64 (n1 : Int)) := F8.cbx.cell 1
    have x2 : w8.cell? ⟨w1.heap.size + 1, 2, none⟩ = some (.int .u64 (n2 : Int)) := F8.cbx.cell 2
    have x3 : w8.cell? ⟨w1.heap.size + 1, 3, none⟩ = some (.slice none 0 0) := F8.cbx.cell 3
    have x4 : w8.cell? ⟨w1.heap.size + 1, 4, none⟩ = some (.int .u64 (n4 : Int)) := F8.cbx.cell 4
    have x5 : w8.cell? ⟨w1.heap.size + 1, 5, none⟩ = some (.int .u64 (n5 : Int)) := F8.cbx.cell 5
    have x6 : w8.cell? ⟨w1.heap.size + 1, 6, none⟩ = some (.bool false) := F8.cbx.cell 6
    have x7 : w8.cell? ⟨w1.heap.size + 1, 7, none⟩ = some (.int .u64 0) := F8.cbx.cell 7
    have y7 := F8.cbx.free 7
    have z0 : w8.cell? ⟨w.heap.size, 0, none⟩ = some (.int .i64 0) := F8.res.cell 0
    have f0' := F8.res.free 0
    have z1 : w8.cell? ⟨w.heap.size, 1, none⟩ = some (.int .u64 0) := F8.res.cell 1
    have f1' := F8.res.free 1
    have z2 : w8.cell? ⟨w.heap.size, 2, none⟩ = some (.int .u64 0) := F8.res.cell 2
    have f2' := F8.res.free 2
    have z3 : w8.cell? ⟨w.heap.size, 3, none⟩ = some (.slice none 0 0) := F8.res.cell 3
    have f3' := F8.res.free 3
    have z4 : w8.cell? ⟨w.heap.size, 4, none⟩ = some (.int .u64 0) := F8.res.cell 4
    have f4' := F8.res.free 4
    have z5 : w8.cell? ⟨w.heap.size, 5, none⟩ = some (.int .u64 0) := F8.res.cell 5
    have f5' := F8.res.free 5
    have z6 : w8.cell? ⟨w.heap.size, 6, none⟩ = some (.bool false) := F8.res.cell 6
    have f6' := F8.res.free 6
    have z7 : w8.cell? ⟨w.heap.size, 7, none⟩ = some (.int .u64 0) := F8.res.cell 7
    have f7' := F8.res.free 7
    have hne : w.heap.size ≠ w1.heap.size + 1 := by omega
    have F9 := F8.put 7 (.int .u64 (n7 : Int))
    have HF9 := Lib.hid F9
    clear F8 F9
    go_wp2
    obtain ⟨hB, hL⟩ := fill8 (.int .i64 k) (.int .u64 (n1 : Int)) (.int .u64 (n2 : Int)) (.slice none 0 0) (.int .u64 (n4 : Int)) (.int .u64 (n5 : Int)) (.bool false) (.int .u64 (n7 : Int)) HF9.out.res
    generalize ((((((((World.setCell _ ⟨w.heap.size, 0, none⟩ _).setCell ⟨w.heap.size, 1, none⟩ _).setCell ⟨w.heap.size, 2, none⟩ _).setCell ⟨w.heap.size, 3, none⟩ _).setCell ⟨w.heap.size, 4, none⟩ _).setCell ⟨w.heap.size, 5, none⟩ _).setCell ⟨w.heap.size, 6, none⟩ _).setCell ⟨w.heap.size, 7, none⟩ _) = wf at *
    have r0 : wf.cell? ⟨w.heap.size, 0, none⟩ = some (.int .i64 k) := hB.cell 0
    have r1 : wf.cell? ⟨w.heap.size, 1, none⟩ = some (.int .u64 (n1 : Int)) := hB.cell 1
    have r2 : wf.cell? ⟨w.heap.size, 2, none⟩ = some (.int .u64 (n2 : Int)) := hB.cell 2
    have r3 : wf.cell? ⟨w.heap.size, 3, none⟩ = some (.slice none 0 0) := hB.cell 3
    have r4 : wf.cell? ⟨w.heap.size, 4, none⟩ = some (.int .u64 (n4 : Int)) := hB.cell 4
    have r5 : wf.cell? ⟨w.heap.size, 5, none⟩ = some (.int .u64 (n5 : Int)) := hB.cell 5
    have r6 : wf.cell? ⟨w.heap.size, 6, none⟩ = some (.bool false) := hB.cell 6
    have r7 : wf.cell? ⟨w.heap.size, 7, none⟩ = some (.int .u64 (n7 : Int)) := hB.cell 7
    have R := fields_done (k := k) (n1 := n1) (n2 := n2) (n4 := n4) (n5 := n5) (g6 := false) (n7 := n7) HF9.out hL (Tgs.nil _ _) rfl
    exact bodyPost_ret (v := .agg #[.int .i64 k, .int .u64 (n1 : Int), .int .u64 (n2 : Int), (.slice none 0 0), .int .u64 (n4 : Int), .int .u64 (n5 : Int), .bool false, .int .u64 (n7 : Int)]) (by simp [results, Try.results41, go_sem, r0, r1, r2, r3, r4, r5, r6, r7]) rfl R
  | true =>
    go_wp2_with fail
    refine (readBool_any _ p _ u6 s5 s6 g6 HF6.out.rd (by simpa [Rs.boolIf] using H6.out)).mono ?_
    rintro e w7 ⟨rfl, k7, u7, r7⟩
    have F7 := HF6.out.call k7 r7
    clear HF6 k7 r7 a6 b6 c6 d6
    have a7 : w7.cell? ⟨w1.heap.size + 1, 6, none⟩ = some (.bool false) := F7.cbx.cell 6
    have b7 := F7.cbx.free 6
    have c7 : w7.cell? ⟨w1.heap.size, 6, none⟩ = some (.bool f7) := F7.fb.cell 6
    have F7' := F7.put 6 (.bool g6)
    have HF7 := Lib.hid F7'
    clear F7 F7'
    go_wp2_with fail
    refine (readLong_any _ p _ u7 f7 s6 s7 n7 HF7.out.rd H7.out).mono ?_
    rintro e w8 ⟨rfl, k8, u8, r8⟩
    have F8 := HF7.out.call k8 r8
    clear HF7 k8 r8 a7 b7 c7
    have x0 : w8.cell? ⟨w1.heap.size + 1, 0, none⟩ = some (.int .i64 k) := F8.cbx.cell 0
    have x1 : w8.cell? ⟨w1.heap.size + 1, 1, none⟩ = some (.int .u64 (n1 : Int)) := F8.cbx.cell 1
    have x2 : w8.cell? ⟨w1.heap.size + 1, 2, none⟩ = some (.int .u64 (n2 : Int)) := F8.cbx.cell 2
    have x3 : w8.cell? ⟨w1.heap.size + 1, 3, none⟩ = some (.slice none 0 0) := F8.cbx.cell 3
    have x4 : w8.cell? ⟨w1.heap.size + 1, 4, none⟩ = some (.int .u64 (n4 : Int)) := F8.cbx.cell 4
    have x5 : w8.cell? ⟨w1.heap.size + 1, 5, none⟩ = some (.int .u64 (n5 : Int)) := F8.cbx.cell 5
    have x6 : w8.cell? ⟨w1.heap.size + 1, 6, none⟩ = some (.bool g6) := F8.cbx.cell 6
    have x7 : w8.cell? ⟨w1.heap.size + 1, 7, none⟩ = some (.int .u64 0) := F8.cbx.cell 7
    have y7 := F8.cbx.free 7
    have z0 : w8.cell? ⟨w.heap.size, 0, none⟩ = some (.int .i64 0) := F8.res.cell 0
    have f0' := F8.res.free 0
    have z1 : w8.cell? ⟨w.heap.size, 1, none⟩ = some (.int .u64 0) := F8.res.cell 1
    have f1' := F8.res.free 1
    have z2 : w8.cell? ⟨w.heap.size, 2, none⟩ = some (.int .u64 0) := F8.res.cell 2
    have f2' := F8.res.free 2
    have z3 : w8.cell? ⟨w.heap.size, 3, none⟩ = some (.slice none 0 0) := F8.res.cell 3
    have f3' := F8.res.free 3
    have z4 : w8.cell? ⟨w.heap.size, 4, none⟩ = some (.int .u64 0) := F8.res.cell 4
    have f4' := F8.res.free 4
    have z5 : w8.cell? ⟨w.heap.size, 5, none⟩ = some (.int .u64 0) := F8.res.cell 5
    have f5' := F8.res.free 5
    have z6 : w8.cell? ⟨w.heap.size, 6, none⟩ = some (.bool false) := F8.res.cell 6
    have f6' := F8.res.free 6
    have z7 : w8.cell? ⟨w.heap.size, 7, none⟩ = some (.int .u64 0) := F8.res.cell 7
    have f7' := F8.res.free 7
    have hne : w.heap.size ≠ w1.heap.size + 1 := by omega
    have F9 := F8.put 7 (.int .u64 (n7 : Int))
    have HF9 := Lib.hid F9
    clear F8 F9
    go_wp2
    obtain ⟨hB, hL⟩ := fill8 (.int .i64 k) (.int .u64 (n1 : Int)) (.int .u64 (n2 : Int)) (.slice none 0 0) (.int .u64 (n4 : Int)) (.int .u64 (n5 : Int)) (.bool g6) (.int .u64 (n7 : Int)) HF9.out.res
    generalize ((((((((World.setCell _ ⟨w.heap.size, 0, none⟩ _).setCell ⟨w.heap.size, 1, none⟩ _).setCell ⟨w.heap.size, 2, none⟩ _).setCell ⟨w.heap.size, 3, none⟩ _).setCell ⟨w.heap.size, 4, none⟩ _).setCell ⟨w.heap.size, 5, none⟩ _).setCell ⟨w.heap.size, 6, none⟩ _).setCell ⟨w.heap.size, 7, none⟩ _) = wf at *
    have r0 : wf.cell? ⟨w.heap.size, 0, none⟩ = some (.int .i64 k) := hB.cell 0
    have r1 : wf.cell? ⟨w.heap.size, 1, none⟩ = some (.int .u64 (n1 : Int)) := hB.cell 1
    have r2 : wf.cell? ⟨w.heap.size, 2, none⟩ = some (.int .u64 (n2 : Int)) := hB.cell 2
    have r3 : wf.cell? ⟨w.heap.size, 3, none⟩ = some (.slice none 0 0) := hB.cell 3
    have r4 : wf.cell? ⟨w.heap.size, 4, none⟩ = some (.int .u64 (n4 : Int)) := hB.cell 4
    have r5 : wf.cell? ⟨w.heap.size, 5, none⟩ = some (.int .u64 (n5 : Int)) := hB.cell 5
    have r6 : wf.cell? ⟨w.heap.size, 6, none⟩ = some (.bool g6) := hB.cell 6
    have r7 : wf.cell? ⟨w.heap.size, 7, none⟩ = some (.int .u64 (n7 : Int)) := hB.cell 7
    have R := fields_done (k := k) (n1 := n1) (n2 := n2) (n4 := n4) (n5 := n5) (g6 := g6) (n7 := n7) HF9.out hL (Tgs.nil _ _) rfl
    exact bodyPost_ret (v := .agg #[.int .i64 k, .int .u64 (n1 : Int), .int .u64 (n2 : Int), (.slice none 0 0), .int .u64 (n4 : Int), .int .u64 (n5 : Int), .bool g6, .int .u64 (n7 : Int)]) (by simp [results, Try.results41, go_sem, r0, r1, r2, r3, r4, r5, r6, r7]) rfl R
end Go.Proofs.Ytngbminjbgomgaa
