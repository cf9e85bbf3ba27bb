/-
  Texts of the queue, merged: only what QueueTime wants.
-/
import Derived.Test.YtkoikmdmejhhhaaBt09
import Derived.Test.YtkoikmdmejhhhaaBt21
import Derived.Test.YtkoikmdmejhhhaaBt25
import Derived.Test.YtkoikmdmejhhhaaBt27
namespace Go.Proofs.Ytkoikmdmejhhhaa
open Go.RowKit Go.ChangeShapes Go.WideShapes Go.Deep
structure Cm where
  kind : Int
  ses : Int
  seq : Int
  gv : Value
  ts : List Tg
  id : Int
  tok : Int
  good : Bool
  time : Int
def Cm.cells (c : Cm) : List Value := [.int .i64 c.kind, .int .u64 c.ses, .int .u64 c.seq, c.gv, .int .u64 c.id, .int .u64 c.tok, .bool c.good, .int .u64 c.time]
structure Cm.lies (w : World) (D : Nat → Prop) (c : Cm) : Prop where
  tgs : Tgs w D c.gv c.ts
  few : c.ts.length * 56 ≤ reachBytes
  needs : ∀ t ∈ c.ts, t.needs.length * 16 ≤ reachBytes
  ses : 0 ≤ c.ses ∧ c.ses ≤ top
  seq : 0 ≤ c.seq ∧ c.seq ≤ top
  id : 0 ≤ c.id ∧ c.id ≤ top
  tok : 0 ≤ c.tok ∧ c.tok ≤ top
  time : 0 ≤ c.time ∧ c.time ≤ top
theorem Cm.lies.keep {w w' : World} {S D : Nat → Prop} {c : Cm} (h : c.lies w D) (k : Keep S w w') (hs : ∀ i, i < w.heap.size → D i → ¬ S i) : c.lies w' D :=
  ⟨h.tgs.keep k hs, h.few, h.needs, h.ses, h.seq, h.id, h.tok, h.time⟩
def Cms (w : World) (D : Nat → Prop) (v : Value) (l : List Cm) : Prop := Many Cm.cells 8 w D v l ∧ ∀ c ∈ l, c.lies w D
theorem Cms.keep {w w' : World} {S D : Nat → Prop} {v : Value} {l : List Cm} (h : Cms w D v l) (k : Keep S w w') (hs : ∀ i, i < w.heap.size → D i → ¬ S i) : Cms w' D v l :=
  ⟨h.1.keep k hs, fun c hc => (h.2 c hc).keep k hs⟩
section
variable {H : Type} {enc : TypeId × Value → H} {w : World}
set_option maxRecDepth 100000 in
theorem open_manyL {α : Type} (ec : α → List Value) (k : Nat) (hk : ∀ x, (ec x).length = k) (hk0 : 0 < k) (P : α → Prop) {t e : TypeId} (ht : Try.prog.underlying t = some (.slice e)) (hce : Try.prog.cellsOf e = k) {base : Nat} {held : Bool} {fuel : Nat} {v : Value} {x : DataW H × List MemPlace}
    (h : DataW.trod enc Try.prog w base (fun _ => true) held fuel t [v] = some x) (hw : Light t x.1)
    (hone : ∀ (cs : List Value) (n : Nat) (y : DataW H × List MemPlace), cs.length = k → DataW.trod enc Try.prog w base (fun _ => true) held n e cs = some y → Light e y.1 → ∃ a, cs = ec a ∧ P a) :
    ∃ l, Many ec k w (fun _ => True) v l ∧ (∀ a ∈ l, P a) ∧ l.length * Try.prog.bytesOf e ≤ reachBytes := by
  rcases open_elems ht h hw with rfl | ⟨a, len, cap, rfl, hl, hm, hby, hi⟩
  · exact ⟨[], Many.nil ec k w _, fun s hs => (by cases hs), by simp⟩
  · have key : ∀ i, i < len → ∃ y : α, (∀ j, j < k → w.cell? ((a.add (i * k)).add j) = (ec y)[j]?) ∧ P y := by
      intro i hil
      obtain ⟨cs, n, y, hlen, hat, htr, hli⟩ := hi i hil
      rw [hce] at hlen hat
      obtain ⟨z, rfl, hz⟩ := hone cs n y hlen htr hli
      exact ⟨z, fun j hj => hat j (by rw [hk]; exact hj), hz⟩
    obtain ⟨l, hbl, hb⟩ := list_of len (fun i (y : α) => (∀ j, j < k → w.cell? ((a.add (i * k)).add j) = (ec y)[j]?) ∧ P y) key
    refine ⟨l, ⟨some a, cap, by rw [hbl], by omega, hm, fun e => (by cases e), fm_length ec k hk l, fun h0 => ?_⟩, fun s hs => ?_, by rw [hbl]; exact hby⟩
    · have h00 := (hb 0 l[0] (List.getElem?_eq_getElem h0)).1 0 hk0
      have hz : (a.add (0 * k)).add 0 = a := by rw [Nat.zero_mul]; rfl
      rw [hz, List.getElem?_eq_getElem (by rw [hk]; exact hk0)] at h00
      have hsp := spot_of_cell h00
      refine ⟨a, rfl, hsp, block_of_cell h00, trivial, fun j y hj => ?_⟩
      have hjl := (List.getElem?_eq_some_iff.1 hj).1
      rw [fm_length ec k hk] at hjl
      have hdiv : j / k < l.length := (Nat.div_lt_iff_lt_mul hk0).2 hjl
      have hkk := List.getElem?_eq_getElem hdiv
      have e1 := (hb (j / k) _ hkk).1 (j % k) (Nat.mod_lt _ hk0)
      have e2 := fm_at ec k hk hkk (j % k) (Nat.mod_lt _ hk0)
      have hjk : j / k * k + j % k = j := Nat.div_add_mod' j k
      rw [add_add_at a _ _ hsp, hjk] at e1
      rw [hjk] at e2
      rw [e1, ← e2, hj]
    · obtain ⟨j, hj⟩ := List.getElem?_of_mem hs
      exact (hb j s hj).2
set_option maxRecDepth 100000 in
theorem open_gr {base : Nat} {held : Bool} {n : Nat} {c0 : Value} {y : DataW H × List MemPlace} (h : DataW.trod enc Try.prog w base (fun _ => true) held n 29 [c0] = some y) (hw : Light 29 y.1) :
    ∃ ts, Tgs w (fun _ => True) c0 ts ∧ ts.length * 56 ≤ reachBytes ∧ ∀ t ∈ ts, t.needs.length * 16 ≤ reachBytes := by
  have o5 : Try.prog.cellsOf 27 = 1 := by kernel_rfl
  obtain ⟨xs, m, _, hy, _, hxl, hg⟩ := DataW.trod_struct Try.underlying29 h
  have g0 := hg 0 _ rfl
  match xs, hxl with
  | [x0], _ =>
    simp [o5] at g0
    have hl : Light 27 x0.1 := fun k hk => hw k (by
      rw [hy]
      simp only [DataW.weights, Try.underlying29]
      exact DataW.weights_mem_each (j := 0) (t := 27) (d := x0.1) rfl rfl k hk)
    exact open_tgs g0 hl
set_option maxRecDepth 100000 in
theorem open_cm {base : Nat} {held : Bool} {n : Nat} {cs : List Value} {y : DataW H × List MemPlace} (hl : cs.length = 8) (h : DataW.trod enc Try.prog w base (fun _ => true) held n 31 cs = some y) (hw : Light 31 y.1) :
    ∃ c : Cm, cs = c.cells ∧ c.lies w (fun _ => True) := by
  have o1 : Try.prog.cellsOf 3 = 1 := by kernel_rfl
  have o2 : Try.prog.cellsOf 26 = 1 := by kernel_rfl
  have o3 : Try.prog.cellsOf 29 = 1 := by kernel_rfl
  have o4 : Try.prog.cellsOf 4 = 1 := by kernel_rfl
  obtain ⟨xs, m, _, hy, _, hxl, hg⟩ := DataW.trod_struct Try.underlying31 h
  match cs, hl with
  | [c0, c1, c2, c3, c4, c5, c6, c7], _ =>
    have g0 := hg 0 _ rfl
    have g1 := hg 1 _ rfl
    have g2 := hg 2 _ rfl
    have g3 := hg 3 _ rfl
    have g4 := hg 4 _ rfl
    have g5 := hg 5 _ rfl
    have g6 := hg 6 _ rfl
    have g7 := hg 7 _ rfl
    match xs, hxl with
    | [x0, x1, x2, x3, x4, x5, x6, x7], _ =>
      simp [o1, o2, o3, o4] at g0 g1 g2 g3 g4 g5 g6 g7
      obtain ⟨m0, e0, _, _⟩ := DataW.trod_int Try.underlying3 g0
      obtain ⟨m1, e1, _, w1⟩ := DataW.trod_int Try.underlying26 g1
      obtain ⟨m2, e2, _, w2⟩ := DataW.trod_int Try.underlying26 g2
      obtain ⟨m4, e4, _, w4⟩ := DataW.trod_int Try.underlying26 g4
      obtain ⟨m5, e5, _, w5⟩ := DataW.trod_int Try.underlying26 g5
      obtain ⟨b6, e6, _⟩ := DataW.trod_bool Try.underlying4 g6
      obtain ⟨m7, e7, _, w7⟩ := DataW.trod_int Try.underlying26 g7
      have hl3 : Light 29 x3.1 := fun k hk => hw k (by
        rw [hy]
        simp only [DataW.weights, Try.underlying31]
        exact DataW.weights_mem_each (j := 3) (t := 29) (d := x3.1) rfl rfl k hk)
      obtain ⟨ts, hts, h56, h16⟩ := open_gr g3 hl3
      simp at e0 e1 e2 e4 e5 e6 e7
      subst e0 e1 e2 e4 e5 e6 e7
      exact ⟨⟨m0, m1, m2, c3, ts, m4, m5, b6, m7⟩, rfl, ⟨hts, h56, h16, u64_in w1, u64_in w2, u64_in w4, u64_in w5, u64_in w7⟩⟩
set_option maxRecDepth 100000 in
theorem open_cms {base : Nat} {held : Bool} {fuel : Nat} {v : Value} {x : DataW H × List MemPlace} (h : DataW.trod enc Try.prog w base (fun _ => true) held fuel 22 [v] = some x) (hw : Light 22 x.1) : ∃ l, Cms w (fun _ => True) v l ∧ l.length * Try.prog.bytesOf 31 ≤ reachBytes := by
  obtain ⟨l, hl, hp, hb⟩ := open_manyL Cm.cells 8 (fun _ => rfl) (by decide) _ Try.underlying22 (by kernel_rfl) h hw (fun cs n y hl ht hli => open_cm hl ht hli)
  exact ⟨l, ⟨hl, hp⟩, hb⟩
end
end Go.Proofs.Ytkoikmdmejhhhaa
namespace Go.Proofs.Ytkoikmdmejhhhaa
open Go.RowKit
def Cm.plain (c : Cm) : Cq := ⟨c.kind, c.ses, c.seq, c.ts.map Tg.plain, c.id, c.tok, c.good, c.time⟩
def Cm.agg (c : Cm) : Value := .agg #[.int .i64 c.kind, .int .u64 c.ses, .int .u64 c.seq, c.gv, .int .u64 c.id, .int .u64 c.tok, .bool c.good, .int .u64 c.time]
theorem Cm.lies.ok {w : World} {D : Nat → Prop} {c : Cm} (h : c.lies w D) : CqOk c.plain := ⟨h.ses, h.seq, h.time⟩
def Does (q : Qm) (D : Nat → Prop) (r : Qp × An) (w : World) (e : Ending) (w' : World) : Prop :=
  ∃ q', e = .returned r.2.agg ∧ QAt w' (grown w w' D) q' ∧ q'.p = q.p ∧ q'.plain = r.1 ∧ Keep D w w'
theorem grown_lt {w w' : World} {D : Nat → Prop} (h : ∀ i, D i → i < w.heap.size) (hs : w.heap.size ≤ w'.heap.size) : ∀ i, grown w w' D i → i < w'.heap.size :=
  fun i hi => hi.elim (fun hd => Nat.lt_of_lt_of_le (h i hd) hs) (fun hn => hn.2)
set_option maxRecDepth 100000 in
theorem qnew_any (w : World) : Calls Try.prog 4 #[] w fun e w' => ∃ q D, e = .returned (.pointer (some ⟨q.p, 0, none⟩)) ∧ QAt w' D q ∧ q.plain = Qp.new ∧ Keep noneOf w w' ∧ ∀ i, D i → w.heap.size ≤ i := by
  have HN := Lib.hid (new_any w 1)
  go_enter Try.func4, Try.ntmps4
  go_wp2_with fail
  refine HN.out.mono ?_
  rintro e w1 ⟨rfl, k1⟩
  have HS := Lib.hid (new_any_S w1)
  have HK1 := Lib.hid k1
  clear k1 HN
  go_wp2_with fail
  refine HS.out.mono ?_
  rintro e w2 ⟨rfl, ht, k2⟩
  have HT := Lib.hid ht
  have HK2 := Lib.hid (HK1.out.trans k2 (fun _ _ h => h))
  have hs1 := HK1.out.size
  clear ht k2 HS
  go_wp2
  go_ret
  have hb := Box.new w2 55 (Qm.cells ⟨w2.heap.size, w1.heap.size + 1, w1.heap.size, 0, 1, 1, .slice none 0 0, .slice none 0 0, [], [], []⟩)
  have hlt := HT.out.lt
  refine ⟨⟨w2.heap.size, w1.heap.size + 1, w1.heap.size, 0, 1, 1, .slice none 0 0, .slice none 0 0, [], [], []⟩, fun i => w.heap.size ≤ i ∧ i < w2.heap.size + 1, rfl, ⟨hb, ?_, ?_, ?_, ?_, ?_, ?_, ?_, ?_⟩, rfl, HK2.out.alloc _, fun i hi => hi.1⟩
  · exact HT.out.stay ((Keep.refl noneOf w2).alloc _)
  · exact ⟨rfl, .inl ⟨rfl, rfl⟩⟩
  · exact ⟨rfl, .inl ⟨rfl, rfl⟩⟩
  · intro g hg; cases hg
  · exact List.Pairwise.nil
  · intro g hg; cases hg
  · rintro i (h | h | h | h | h | ⟨g, hg, _⟩)
    · dsimp only at h; subst h; exact ⟨Nat.le_trans hs1 (by omega), by omega⟩
    · dsimp only at h; subst h; exact ⟨Nat.le_trans hs1 (by omega), by omega⟩
    · dsimp only at h; subst h; exact ⟨hs1, by omega⟩
    · cases h
    · cases h
    · cases hg
  · intro i hi
    have := hi.2
    simp
    omega
set_option maxRecDepth 100000 in
theorem refusal_any (w : World) (n : Int) : Calls Try.prog 13 #[.int .i64 n] w fun e w' => e = .returned (An.err n).agg ∧ Keep noneOf w w' := by
  go_enter Try.func13, Try.ntmps13
  go_wp2
  exact bodyPost_ret (v := (An.err n).agg) (by simp [results, Try.results13, go_sem, An.err, An.agg]) rfl ⟨rfl, (Keep.refl noneOf w).alloc _⟩
def effF (k : Int) : Nat := if k = 1 then 21 else if k = 2 then 22 else if k = 3 then 23 else if k = 4 then 24 else if k = 5 then 25 else if k = 6 then 26 else 27
def RuleIs (k : Int) (b : Bool) (w : World) (e : Ending) (w' : World) : Prop := e = .returned (.tuple #[.agg #[.func (.func (effF k)) #[] #[], .bool b], .bool true]) ∧ Keep noneOf w w'
set_option maxRecDepth 100000 in
set_option maxHeartbeats 4000000 in
theorem rule_any (w : World) (k : Int) (h1 : 1 ≤ k) (h7 : k ≤ 7) : Calls Try.prog 12 #[.int .i64 k] w (RuleIs k (decide (2 ≤ k ∧ k ≤ 6)) w) := by
  have hk : k = 1 ∨ k = 2 ∨ k = 3 ∨ k = 4 ∨ k = 5 ∨ k = 6 ∨ k = 7 := by omega
  rcases hk with rfl | rfl | rfl | rfl | rfl | rfl | rfl
  · have e1 : effF 1 = 21 := rfl
    unfold RuleIs
    rw [e1, show decide ((2 : Int) ≤ 1 ∧ (1 : Int) ≤ 6) = false from rfl]
    go_enter Try.func12, Try.ntmps12
    go_wp2
    refine bodyPost_ret (v := .tuple #[.agg #[.func (.func 21) #[] #[], .bool false], .bool true]) (by simp [results, Try.results12, go_sem]) rfl ⟨rfl, ?_⟩
    exact ((Keep.refl noneOf w).alloc _).alloc _
  · have e1 : effF 2 = 22 := rfl
    unfold RuleIs
    rw [e1, show decide ((2 : Int) ≤ 2 ∧ (2 : Int) ≤ 6) = true from rfl]
    go_enter Try.func12, Try.ntmps12
    go_wp2
    refine bodyPost_ret (v := .tuple #[.agg #[.func (.func 22) #[] #[], .bool true], .bool true]) (by simp [results, Try.results12, go_sem]) rfl ⟨rfl, ?_⟩
    exact ((Keep.refl noneOf w).alloc _).alloc _
  · have e1 : effF 3 = 23 := rfl
    unfold RuleIs
    rw [e1, show decide ((2 : Int) ≤ 3 ∧ (3 : Int) ≤ 6) = true from rfl]
    go_enter Try.func12, Try.ntmps12
    go_wp2
    refine bodyPost_ret (v := .tuple #[.agg #[.func (.func 23) #[] #[], .bool true], .bool true]) (by simp [results, Try.results12, go_sem]) rfl ⟨rfl, ?_⟩
    exact ((Keep.refl noneOf w).alloc _).alloc _
  · have e1 : effF 4 = 24 := rfl
    unfold RuleIs
    rw [e1, show decide ((2 : Int) ≤ 4 ∧ (4 : Int) ≤ 6) = true from rfl]
    go_enter Try.func12, Try.ntmps12
    go_wp2
    refine bodyPost_ret (v := .tuple #[.agg #[.func (.func 24) #[] #[], .bool true], .bool true]) (by simp [results, Try.results12, go_sem]) rfl ⟨rfl, ?_⟩
    exact ((Keep.refl noneOf w).alloc _).alloc _
  · have e1 : effF 5 = 25 := rfl
    unfold RuleIs
    rw [e1, show decide ((2 : Int) ≤ 5 ∧ (5 : Int) ≤ 6) = true from rfl]
    go_enter Try.func12, Try.ntmps12
    go_wp2
    refine bodyPost_ret (v := .tuple #[.agg #[.func (.func 25) #[] #[], .bool true], .bool true]) (by simp [results, Try.results12, go_sem]) rfl ⟨rfl, ?_⟩
    exact ((Keep.refl noneOf w).alloc _).alloc _
  · have e1 : effF 6 = 26 := rfl
    unfold RuleIs
    rw [e1, show decide ((2 : Int) ≤ 6 ∧ (6 : Int) ≤ 6) = true from rfl]
    go_enter Try.func12, Try.ntmps12
    go_wp2
    refine bodyPost_ret (v := .tuple #[.agg #[.func (.func 26) #[] #[], .bool true], .bool true]) (by simp [results, Try.results12, go_sem]) rfl ⟨rfl, ?_⟩
    exact ((Keep.refl noneOf w).alloc _).alloc _
  · have e1 : effF 7 = 27 := rfl
    unfold RuleIs
    rw [e1, show decide ((2 : Int) ≤ 7 ∧ (7 : Int) ≤ 6) = false from rfl]
    go_enter Try.func12, Try.ntmps12
    go_wp2
    refine bodyPost_ret (v := .tuple #[.agg #[.func (.func 27) #[] #[], .bool false], .bool true]) (by simp [results, Try.results12, go_sem]) rfl ⟨rfl, ?_⟩
    exact ((Keep.refl noneOf w).alloc _).alloc _
end Go.Proofs.Ytkoikmdmejhhhaa
