import Derived.Test.YtdikmmdkpfmocaaBs06
import Derived.Test.YtdikmmdkpfmocaaBs14
import Derived.Test.YtdikmmdkpfmocaaBs15
namespace Go.Proofs.Ytdikmmdkpfmocaa
open Go.RowKit
structure Pe where
  ix : Nat
  te : Nat
  k : Int
  da : List UInt8
structure En where
  ix : Nat
  te : Nat
  k : Int
  dv : Value
  da : List UInt8
def En.cells (x : En) : List Value := [.int .u64 (x.ix : Int), .int .u64 (x.te : Int), .int .i64 x.k, x.dv]
def En.agg (x : En) : Value := .agg #[.int .u64 (x.ix : Int), .int .u64 (x.te : Int), .int .i64 x.k, x.dv]
def En.plain (x : En) : Pe := ⟨x.ix, x.te, x.k, x.da⟩
structure En.lies (w : World) (D : Nat → Prop) (x : En) : Prop where
  ix : (x.ix : Int) < 18446744073709551616
  te : (x.te : Int) < 18446744073709551616
  da : Bytes w D x.dv x.da
theorem En.lies.keep {w w' : World} {S D : Nat → Prop} {x : En} (h : x.lies w D) (k : Keep S w w') (hs : ∀ i, i < w.heap.size → D i → ¬ S i) : x.lies w' D := ⟨h.ix, h.te, h.da.keep k hs⟩
theorem En.lies.mono {w : World} {D D' : Nat → Prop} {x : En} (h : x.lies w D) (hD : ∀ i, i < w.heap.size → D i → D' i) : x.lies w D' := ⟨h.ix, h.te, h.da.mono hD⟩
def Ens (w : World) (D : Nat → Prop) (v : Value) (l : List En) : Prop := Many En.cells 4 w D v l ∧ ∀ x ∈ l, x.lies w D
theorem Ens.keep {w w' : World} {S D : Nat → Prop} {v : Value} {l : List En} (h : Ens w D v l) (k : Keep S w w') (hs : ∀ i, i < w.heap.size → D i → ¬ S i) : Ens w' D v l := ⟨h.1.keep k hs, fun x hx => (h.2 x hx).keep k hs⟩
theorem Ens.mono {w : World} {D D' : Nat → Prop} {v : Value} {l : List En} (h : Ens w D v l) (hD : ∀ i, i < w.heap.size → D i → D' i) : Ens w D' v l := ⟨h.1.mono hD, fun x hx => (h.2 x hx).mono hD⟩
theorem Ens.nil (w : World) (D : Nat → Prop) : Ens w D (.slice none 0 0) [] := ⟨Many.nil _ _ _ _, fun x hx => (by cases hx)⟩
theorem Ens.shape {w : World} {D : Nat → Prop} {v : Value} {l : List En} (h : Ens w D v l) : ∃ A c, v = .slice A l.length c := h.1.shape
structure Pm where
  k : Int
  fr : Int
  to : Int
  te : Nat
  ix : Nat
  lt : Nat
  cm : Nat
  rd : Nat
  gd : Bool
  es : List Pe
  c : Cf
  off : Nat
  wh : Nat
  da : List UInt8
structure Mg where
  k : Int
  fr : Int
  to : Int
  te : Nat
  ix : Nat
  lt : Nat
  cm : Nat
  rd : Nat
  gd : Bool
  ev : Value
  es : List En
  va : Value
  la : Value
  c : Cf
  off : Nat
  wh : Nat
  dv : Value
  da : List UInt8
def Mg.cells (m : Mg) : Array Value := #[.int .i64 m.k, .int .i64 m.fr, .int .i64 m.to, .int .u64 (m.te : Int), .int .u64 (m.ix : Int), .int .u64 (m.lt : Int), .int .u64 (m.cm : Int), .int .u64 (m.rd : Int), .bool m.gd, m.ev, m.va, m.la, .int .u64 (m.off : Int), .int .u64 (m.wh : Int), m.dv]
def Mg.plain (m : Mg) : Pm := ⟨m.k, m.fr, m.to, m.te, m.ix, m.lt, m.cm, m.rd, m.gd, m.es.map En.plain, m.c, m.off, m.wh, m.da⟩
structure Mg.lies (w : World) (D : Nat → Prop) (m : Mg) : Prop where
  te : (m.te : Int) < 18446744073709551616
  ix : (m.ix : Int) < 18446744073709551616
  lt : (m.lt : Int) < 18446744073709551616
  cm : (m.cm : Int) < 18446744073709551616
  rd : (m.rd : Int) < 18446744073709551616
  off : (m.off : Int) < 18446744073709551616
  wh : (m.wh : Int) < 18446744073709551616
  es : Ens w D m.ev m.es
  vs : Zs w D m.va m.c.v
  ls : Zs w D m.la m.c.l
  da : Bytes w D m.dv m.da
theorem Mg.lies.keep {w w' : World} {S D : Nat → Prop} {m : Mg} (h : m.lies w D) (k : Keep S w w') (hs : ∀ i, i < w.heap.size → D i → ¬ S i) : m.lies w' D :=
  ⟨h.te, h.ix, h.lt, h.cm, h.rd, h.off, h.wh, h.es.keep k hs, h.vs.keep k hs, h.ls.keep k hs, h.da.keep k hs⟩
theorem Mg.lies.mono {w : World} {D D' : Nat → Prop} {m : Mg} (h : m.lies w D) (hD : ∀ i, i < w.heap.size → D i → D' i) : m.lies w D' :=
  ⟨h.te, h.ix, h.lt, h.cm, h.rd, h.off, h.wh, h.es.mono hD, h.vs.mono hD, h.ls.mono hD, h.da.mono hD⟩
theorem Mg.lies.low {w : World} {D : Nat → Prop} {m : Mg} (h : m.lies w D) : m.lies w (fun i => i < w.heap.size) := h.mono (fun _ hi _ => hi)
theorem Mg.lies.keepN {w w' : World} {D : Nat → Prop} {m : Mg} (h : m.lies w D) (k : Keep noneOf w w') : m.lies w' D := h.keep k (fun _ _ _ => id)
theorem Mg.lies.shapes {w : World} {D : Nat → Prop} {m : Mg} (h : m.lies w D) : (∃ A c, m.ev = .slice A m.es.length c) ∧ (∃ A c, m.va = .slice A m.c.v.length c) ∧ (∃ A c, m.la = .slice A m.c.l.length c) ∧ ∃ A c, m.dv = .slice A m.da.length c := by
  refine ⟨h.es.shape, ?_, ?_, ?_⟩
  · obtain ⟨A, c, e, _⟩ := h.vs.shape
    exact ⟨A, c, e⟩
  · obtain ⟨A, c, e, _⟩ := h.ls.shape
    exact ⟨A, c, e⟩
  · obtain ⟨A, c, e, _⟩ := h.da
    exact ⟨A, c, e⟩
theorem Box.cast {w : World} {g : Nat} {t : TypeId} {cs ds : Array Value} (h : Box w g t cs) (e : cs = ds) : Box w g t ds := e ▸ h
theorem Mg.at0 (m : Mg) : m.cells[0]? = some (.int .i64 m.k) := rfl
theorem Mg.at1 (m : Mg) : m.cells[1]? = some (.int .i64 m.fr) := rfl
theorem Mg.at2 (m : Mg) : m.cells[2]? = some (.int .i64 m.to) := rfl
theorem Mg.at3 (m : Mg) : m.cells[3]? = some (.int .u64 (m.te : Int)) := rfl
theorem Mg.at4 (m : Mg) : m.cells[4]? = some (.int .u64 (m.ix : Int)) := rfl
theorem Mg.at5 (m : Mg) : m.cells[5]? = some (.int .u64 (m.lt : Int)) := rfl
theorem Mg.at6 (m : Mg) : m.cells[6]? = some (.int .u64 (m.cm : Int)) := rfl
theorem Mg.at7 (m : Mg) : m.cells[7]? = some (.int .u64 (m.rd : Int)) := rfl
theorem Mg.at8 (m : Mg) : m.cells[8]? = some (.bool m.gd) := rfl
theorem Mg.at9 (m : Mg) : m.cells[9]? = some (m.ev) := rfl
theorem Mg.at10 (m : Mg) : m.cells[10]? = some (m.va) := rfl
theorem Mg.at11 (m : Mg) : m.cells[11]? = some (m.la) := rfl
theorem Mg.at12 (m : Mg) : m.cells[12]? = some (.int .u64 (m.off : Int)) := rfl
theorem Mg.at13 (m : Mg) : m.cells[13]? = some (.int .u64 (m.wh : Int)) := rfl
theorem Mg.at14 (m : Mg) : m.cells[14]? = some (m.dv) := rfl
theorem Mg.set4 (m : Mg) (n : Nat) : m.cells.setIfInBounds 4 (.int .u64 (n : Int)) = ({ m with ix := n } : Mg).cells := rfl
theorem Mg.set5 (m : Mg) (n : Nat) : m.cells.setIfInBounds 5 (.int .u64 (n : Int)) = ({ m with lt := n } : Mg).cells := rfl
theorem Mg.set6 (m : Mg) (n : Nat) : m.cells.setIfInBounds 6 (.int .u64 (n : Int)) = ({ m with cm := n } : Mg).cells := rfl
theorem Mg.set7 (m : Mg) (n : Nat) : m.cells.setIfInBounds 7 (.int .u64 (n : Int)) = ({ m with rd := n } : Mg).cells := rfl
theorem Mg.set12 (m : Mg) (n : Nat) : m.cells.setIfInBounds 12 (.int .u64 (n : Int)) = ({ m with off := n } : Mg).cells := rfl
theorem Mg.set13 (m : Mg) (n : Nat) : m.cells.setIfInBounds 13 (.int .u64 (n : Int)) = ({ m with wh := n } : Mg).cells := rfl
theorem Mg.set8 (m : Mg) (b : Bool) : m.cells.setIfInBounds 8 (.bool b) = ({ m with gd := b } : Mg).cells := rfl
theorem Mg.set9 (m : Mg) (v : Value) (l : List En) : m.cells.setIfInBounds 9 v = ({ m with ev := v, es := l } : Mg).cells := rfl
theorem Mg.set10 (m : Mg) (v u : Value) (c : Cf) : (m.cells.setIfInBounds 10 v).setIfInBounds 11 u = ({ m with va := v, la := u, c := c } : Mg).cells := rfl
theorem Mg.set14 (m : Mg) (v : Value) (l : List UInt8) : m.cells.setIfInBounds 14 v = ({ m with dv := v, da := l } : Mg).cells := rfl
def MBox (w : World) (p : Nat) (m : Mg) : Prop := Box w p 29 m.cells
def isN (n : Int) : Bool := decide (0 ≤ n) && decide (n < 8)
def headP (m : Pm) : Bool := isN m.fr && isN m.to && !decide (m.fr = m.to) && !decide (m.te = 0)
set_option maxRecDepth 100000 in
theorem isNode_any (n : Int) (w : World) : Calls Try.prog 45 #[.int .i64 n] w fun e w' => e = .returned (.bool (isN n)) ∧ w = w' := by
  unfold isN
  by_cases h0 : 0 ≤ n
  · have e0 : decide (0 ≤ n) = true := decide_eq_true h0
    rw [e0]
    go_enter Try.func45, Try.ntmps45
    go_wp2
    go_ret
    exact ⟨ret_bool (by simp), rfl⟩
  · have e0 : decide (0 ≤ n) = false := decide_eq_false h0
    rw [e0]
    go_enter Try.func45, Try.ntmps45
    go_wp2
    go_ret
    exact ⟨ret_bool (by simp), rfl⟩
set_option maxRecDepth 100000 in
set_option maxHeartbeats 1000000 in
theorem rightHead_any (w : World) (m : Mg) :
    Calls Try.prog 26 #[.agg m.cells] w fun e w' => e = .returned (.bool (headP m.plain)) ∧ Keep noneOf w w' := by
  have HK := Lib.hid (fun cs => (Keep.refl noneOf w).alloc (.cells cs 29))
  have N1 := Lib.hid (isNode_any m.fr)
  have N2 := Lib.hid (isNode_any m.to)
  have hp : headP m.plain = (isN m.fr && isN m.to && (m.fr != m.to) && ((m.te : Int) != 0)) := by
    unfold headP
    show (isN m.fr && isN m.to && !decide (m.fr = m.to) && !decide (m.te = 0)) = _
    have e1 : (!decide (m.fr = m.to)) = (m.fr != m.to) := by rw [Bool.eq_iff_iff]; simp
    have e2 : (!decide (m.te = 0)) = ((m.te : Int) != 0) := by rw [Bool.eq_iff_iff]; simp
    rw [e1, e2]
  rw [hp]
  clear hp
  obtain ⟨k, fr, to, te, ix, lt, cm, rd, gd, ev, es, va, la, c, off, wh, dv, da⟩ := m
  simp only [Mg.cells] at *
  obtain ⟨b1, hb1⟩ : ∃ b, isN fr = b := ⟨_, rfl⟩
  obtain ⟨b2, hb2⟩ : ∃ b, isN to = b := ⟨_, rfl⟩
  rw [hb1] at N1 ⊢
  rw [hb2] at N2 ⊢
  clear hb1 hb2
  obtain ⟨b3, hb3⟩ : ∃ b, (fr != to) = b := ⟨_, rfl⟩
  obtain ⟨b4, hb4⟩ : ∃ b, ((te : Int) != 0) = b := ⟨_, rfl⟩
  rw [hb3, hb4]
  go_enter Try.func26, Try.ntmps26
  cases b1
  · go_wp2_with fail
    refine (N1.out _).mono ?_
    rintro e w' ⟨rfl, rfl⟩
    go_wp2
    go_ret
    exact ⟨ret_bool (by simp), HK.out _⟩
  · go_wp2_with fail
    refine (N1.out _).mono ?_
    rintro e w' ⟨rfl, rfl⟩
    cases b2
    · go_wp2_with fail
      refine (N2.out _).mono ?_
      rintro e w' ⟨rfl, rfl⟩
      go_wp2
      go_ret
      exact ⟨ret_bool (by simp), HK.out _⟩
    · go_wp2_with fail
      refine (N2.out _).mono ?_
      rintro e w' ⟨rfl, rfl⟩
      cases b3 <;> cases b4
      all_goals
        go_wp2
        go_ret
        exact ⟨ret_bool (by simp), HK.out _⟩
end Go.Proofs.Ytdikmmdkpfmocaa
