import Derived.Test.YtffoeodjbbkdjaaGreatBs01
import Derived.Test.YtffoeodjbbkdjaaGreatBs17
import Derived.Test.YtffoeodjbbkdjaaGreatBs22
import Derived.Test.YtffoeodjbbkdjaaGreatBs23
namespace Go.Proofs.YtffoeodjbbkdjaaGreat
open Go.RowKit Go.ChangeShapes Go.WideShapes Go.Deep
structure Cm where
 kind : Int
 ses : Int
 seq : Int
 gv : Value
 ts : List Tg
 id : Int
 tok : Int
 good : Bool
 time : Int
def Cm.cells (c : Cm) : List Value := [.int .i64 c.kind, .int .u64 c.ses, .int .u64 c.seq, c.gv, .int .u64 c.id, .int .u64 c.tok, .bool c.good, .int .u64 c.time]
structure Cm.lies (w : World) (D : Nat → Prop) (c : Cm) : Prop where
 tgs : Tgs w D c.gv c.ts
 few : c.ts.length * 56 ≤ reachBytes
 needs : ∀ t ∈ c.ts, t.needs.length * 16 ≤ reachBytes
 ses : 0 ≤ c.ses ∧ c.ses ≤ top
 seq : 0 ≤ c.seq ∧ c.seq ≤ top
 id : 0 ≤ c.id ∧ c.id ≤ top
 tok : 0 ≤ c.tok ∧ c.tok ≤ top
 time : 0 ≤ c.time ∧ c.time ≤ top
theorem Cm.lies.keep {w w' : World} {S D : Nat → Prop} {c : Cm} (h : c.lies w D) (k : Keep S w w') (hs : ∀ i, i < w.heap.size → D i → ¬ S i) : c.lies w' D :=
 ⟨h.tgs.keep k hs, h.few, h.needs, h.ses, h.seq, h.id, h.tok, h.time⟩
def Cms (w : World) (D : Nat → Prop) (v : Value) (l : List Cm) : Prop := Many Cm.cells 8 w D v l ∧ ∀ c ∈ l, c.lies w D
theorem Cms.keep {w w' : World} {S D : Nat → Prop} {v : Value} {l : List Cm} (h : Cms w D v l) (k : Keep S w w') (hs : ∀ i, i < w.heap.size → D i → ¬ S i) : Cms w' D v l :=
 ⟨h.1.keep k hs, fun c hc => (h.2 c hc).keep k hs⟩
section
variable {H : Type} {enc : TypeId × Value → H} {w : World}
set_option maxRecDepth 100000 in
theorem open_manyL {α : Type} (ec : α → List Value) (k : Nat) (hk : ∀ x, (ec x).length = k) (hk0 : 0 < k) (P : α → Prop) {t e : TypeId} (ht : Tryz.prog.underlying t = some (.slice e)) (hce : Tryz.prog.cellsOf e = k) {base : Nat} {held : Bool} {fuel : Nat} {v : Value} {x : DataW H × List MemPlace}
  (h : DataW.trod enc Tryz.prog w base (fun _ => true) held fuel t [v] = some x) (hw : Light t x.1)
  (hone : ∀ (cs : List Value) (n : Nat) (y : DataW H × List MemPlace), cs.length = k → DataW.trod enc Tryz.prog w base (fun _ => true) held n e cs = some y → Light e y.1 → ∃ a, cs = ec a ∧ P a) :
  ∃ l, Many ec k w (fun _ => True) v l ∧ (∀ a ∈ l, P a) ∧ l.length * Tryz.prog.bytesOf e ≤ reachBytes := by
 rcases open_elems ht h hw with rfl | ⟨a, len, cap, rfl, hl, hm, hby, hi⟩
 ·
  exact ⟨[], Many.nil ec k w _, fun s hs => (by cases hs), by simp⟩
 ·
  have key : ∀ i, i < len → ∃ y : α, (∀ j, j < k → w.cell? ((a.add (i * k)).add j) = (ec y)[j]?) ∧ P y := by
   intro i hil
   obtain ⟨cs, n, y, hlen, hat, htr, hli⟩ := hi i hil
   rw [hce] at hlen hat
   obtain ⟨z, rfl, hz⟩ := hone cs n y hlen htr hli
   exact ⟨z, fun j hj => hat j (by rw [hk]; exact hj), hz⟩
  obtain ⟨l, hbl, hb⟩ := list_of len (fun i (y : α) => (∀ j, j < k → w.cell? ((a.add (i * k)).add j) = (ec y)[j]?) ∧ P y) key
  refine ⟨l, ⟨some a, cap, by rw [hbl], by omega, hm, fun e => (by cases e), fm_length ec k hk l, fun h0 => ?_⟩, fun s hs => ?_, by rw [hbl]; exact hby⟩
  ·
   have h00 := (hb 0 l[0] (List.getElem?_eq_getElem h0)).1 0 hk0
   have hz : (a.add (0 * k)).add 0 = a := by rw [Nat.zero_mul]; rfl
   rw [hz, List.getElem?_eq_getElem (by rw [hk]; exact hk0)] at h00
   have hsp := spot_of_cell h00
   refine ⟨a, rfl, hsp, block_of_cell h00, trivial, fun j y hj => ?_⟩
   have hjl := (List.getElem?_eq_some_iff.1 hj).1
   rw [fm_length ec k hk] at hjl
   have hdiv : j / k < l.length := (Nat.div_lt_iff_lt_mul hk0).2 hjl
   have hkk := List.getElem?_eq_getElem hdiv
   have e1 := (hb (j / k) _ hkk).1 (j % k) (Nat.mod_lt _ hk0)
   have e2 := fm_at ec k hk hkk (j % k) (Nat.mod_lt _ hk0)
   have hjk : j / k * k + j % k = j := Nat.div_add_mod' j k
   rw [add_add_at a _ _ hsp, hjk] at e1
   rw [hjk] at e2
   rw [e1, ← e2, hj]
  ·
   obtain ⟨j, hj⟩ := List.getElem?_of_mem hs
   exact (hb j s hj).2
set_option maxRecDepth 100000 in
theorem open_gr {base : Nat} {held : Bool} {n : Nat} {c0 : Value} {y : DataW H × List MemPlace} (h : DataW.trod enc Tryz.prog w base (fun _ => true) held n 35 [c0] = some y) (hw : Light 35 y.1) :
  ∃ ts, Tgs w (fun _ => True) c0 ts ∧ ts.length * 56 ≤ reachBytes ∧ ∀ t ∈ ts, t.needs.length * 16 ≤ reachBytes := by
 have o5 : Tryz.prog.cellsOf 33 = 1 := by kernel_rfl
 obtain ⟨xs, m, _, hy, _, hxl, hg⟩ := DataW.trod_struct Tryz.underlying35 h
 have g0 := hg 0 _ rfl
 match xs, hxl with
 | [x0], _ =>
  simp [o5] at g0
  have hl : Light 33 x0.1 := fun k hk => hw k (by
   rw [hy]
   simp only [DataW.weights, Tryz.underlying35]
   exact DataW.weights_mem_each (j := 0) (t := 33) (d := x0.1) rfl rfl k hk)
  exact open_tgs g0 hl
set_option maxRecDepth 100000 in
theorem open_cm {base : Nat} {held : Bool} {n : Nat} {cs : List Value} {y : DataW H × List MemPlace} (hl : cs.length = 8) (h : DataW.trod enc Tryz.prog w base (fun _ => true) held n 37 cs = some y) (hw : Light 37 y.1) :
  ∃ c : Cm, cs = c.cells ∧ c.lies w (fun _ => True) := by
 have o1 : Tryz.prog.cellsOf 3 = 1 := by kernel_rfl
 have o2 : Tryz.prog.cellsOf 23 = 1 := by kernel_rfl
 have o3 : Tryz.prog.cellsOf 35 = 1 := by kernel_rfl
 have o4 : Tryz.prog.cellsOf 4 = 1 := by kernel_rfl
 obtain ⟨xs, m, _, hy, _, hxl, hg⟩ := DataW.trod_struct Tryz.underlying37 h
 match cs, hl with
 | [c0, c1, c2, c3, c4, c5, c6, c7], _ =>
  have g0 := hg 0 _ rfl
  have g1 := hg 1 _ rfl
  have g2 := hg 2 _ rfl
  have g3 := hg 3 _ rfl
  have g4 := hg 4 _ rfl
  have g5 := hg 5 _ rfl
  have g6 := hg 6 _ rfl
  have g7 := hg 7 _ rfl
  match xs, hxl with
  | [x0, x1, x2, x3, x4, x5, x6, x7], _ =>
   simp [o1, o2, o3, o4] at g0 g1 g2 g3 g4 g5 g6 g7
   obtain ⟨m0, e0, _, _⟩ := DataW.trod_int Tryz.underlying3 g0
   obtain ⟨m1, e1, _, w1⟩ := DataW.trod_int Tryz.underlying23 g1
   obtain ⟨m2, e2, _, w2⟩ := DataW.trod_int Tryz.underlying23 g2
   obtain ⟨m4, e4, _, w4⟩ := DataW.trod_int Tryz.underlying23 g4
   obtain ⟨m5, e5, _, w5⟩ := DataW.trod_int Tryz.underlying23 g5
   obtain ⟨b6, e6, _⟩ := DataW.trod_bool Tryz.underlying4 g6
   obtain ⟨m7, e7, _, w7⟩ := DataW.trod_int Tryz.underlying23 g7
   have hl3 : Light 35 x3.1 := fun k hk => hw k (by
    rw [hy]
    simp only [DataW.weights, Tryz.underlying37]
    exact DataW.weights_mem_each (j := 3) (t := 35) (d := x3.1) rfl rfl k hk)
   obtain ⟨ts, hts, h56, h16⟩ := open_gr g3 hl3
   simp at e0 e1 e2 e4 e5 e6 e7
   subst e0 e1 e2 e4 e5 e6 e7
   exact ⟨⟨m0, m1, m2, c3, ts, m4, m5, b6, m7⟩, rfl, ⟨hts, h56, h16, u64_in w1, u64_in w2, u64_in w4, u64_in w5, u64_in w7⟩⟩
set_option maxRecDepth 100000 in
theorem open_cms {base : Nat} {held : Bool} {fuel : Nat} {v : Value} {x : DataW H × List MemPlace} (h : DataW.trod enc Tryz.prog w base (fun _ => true) held fuel 22 [v] = some x) (hw : Light 22 x.1) : ∃ l, Cms w (fun _ => True) v l ∧ l.length * Tryz.prog.bytesOf 37 ≤ reachBytes := by
 obtain ⟨l, hl, hp, hb⟩ := open_manyL Cm.cells 8 (fun _ => rfl) (by decide) _ Tryz.underlying22 (by kernel_rfl) h hw (fun cs n y hl ht hli => open_cm hl ht hli)
 exact ⟨l, ⟨hl, hp⟩, hb⟩
end
end Go.Proofs.YtffoeodjbbkdjaaGreat
namespace Go.Proofs.YtffoeodjbbkdjaaGreat
open Go.RowKit
def Cm.plain (c : Cm) : Cq := ⟨c.kind, c.ses, c.seq, c.ts.map Tg.plain, c.id, c.tok, c.good, c.time⟩
def Cm.agg (c : Cm) : Value := .agg #[.int .i64 c.kind, .int .u64 c.ses, .int .u64 c.seq, c.gv, .int .u64 c.id, .int .u64 c.tok, .bool c.good, .int .u64 c.time]
theorem Cm.lies.ok {w : World} {D : Nat → Prop} {c : Cm} (h : c.lies w D) : CqOk c.plain := ⟨h.ses, h.seq, h.time⟩
def Does (q : Qm) (D : Nat → Prop) (r : Qp × An) (w : World) (e : Ending) (w' : World) : Prop :=
 ∃ q', e = .returned r.2.agg ∧ QAt w' (grown w w' D) q' ∧ q'.p = q.p ∧ q'.plain = r.1 ∧ Keep D w w'
theorem grown_lt {w w' : World} {D : Nat → Prop} (h : ∀ i, D i → i < w.heap.size) (hs : w.heap.size ≤ w'.heap.size) : ∀ i, grown w w' D i → i < w'.heap.size :=
 fun i hi => hi.elim (fun hd => Nat.lt_of_lt_of_le (h i hd) hs) (fun hn => hn.2)
set_option maxRecDepth 100000 in
theorem qnew_any (w : World) : Calls Tryz.prog 6 #[] w fun e w' => ∃ q D, e = .returned (.pointer (some ⟨q.p, 0, none⟩)) ∧ QAt w' D q ∧ q.plain = Qp.new ∧ Keep noneOf w w' ∧ ∀ i, D i → w.heap.size ≤ i := by
 have HN := Lib.hid (new_any w 1)
 go_enter Tryz.func6, Tryz.ntmps6
 go_wp2_with fail
 refine HN.out.mono ?_
 rintro e w1 ⟨rfl, k1⟩
 have HS := Lib.hid (new_any_S w1)
 have HK1 := Lib.hid k1
 clear k1 HN
 go_wp2_with fail
 refine HS.out.mono ?_
 rintro e w2 ⟨rfl, ht, k2⟩
 have HT := Lib.hid ht
 have HK2 := Lib.hid (HK1.out.trans k2 (fun _ _ h => h))
 have hs1 := HK1.out.size
 clear ht k2 HS
 go_wp2
 go_ret
 have hb := Box.new w2 72 (Qm.cells ⟨w2.heap.size, w1.heap.size + 1, w1.heap.size, 0, 1, 1, .slice none 0 0, .slice none 0 0, [], [], []⟩)
 have hlt := HT.out.lt
 refine ⟨⟨w2.heap.size, w1.heap.size + 1, w1.heap.size, 0, 1, 1, .slice none 0 0, .slice none 0 0, [], [], []⟩, fun i => w.heap.size ≤ i ∧ i < w2.heap.size + 1, rfl, ⟨hb, ?_, ?_, ?_, ?_, ?_, ?_, ?_, ?_⟩, rfl, HK2.out.alloc _, fun i hi => hi.1⟩
 ·
  exact HT.out.stay ((Keep.refl noneOf w2).alloc _)
 ·
  exact ⟨rfl, .inl ⟨rfl, rfl⟩⟩
 ·
  exact ⟨rfl, .inl ⟨rfl, rfl⟩⟩
 ·
  intro g hg; cases hg
 ·
  exact List.Pairwise.nil
 ·
  intro g hg; cases hg
 ·
  rintro i (h | h | h | h | h | ⟨g, hg, _⟩)
  ·
   dsimp only at h; subst h; exact ⟨Nat.le_trans hs1 (by omega), by omega⟩
  ·
   dsimp only at h; subst h; exact ⟨Nat.le_trans hs1 (by omega), by omega⟩
  ·
   dsimp only at h; subst h; exact ⟨hs1, by omega⟩
  ·
   cases h
  ·
   cases h
  ·
   cases hg
 ·
  intro i hi
  have := hi.2
  simp
  omega
set_option maxRecDepth 100000 in
theorem refusal_any (w : World) (n : Int) : Calls Tryz.prog 24 #[.int .i64 n] w fun e w' => e = .returned (An.err n).agg ∧ Keep noneOf w w' := by
 go_enter Tryz.func24, Tryz.ntmps24
 go_wp2
 exact bodyPost_ret (v := (An.err n).agg) (by simp [results, Tryz.results24, go_sem, An.err, An.agg]) rfl ⟨rfl, (Keep.refl noneOf w).alloc _⟩
def effF (k : Int) : Nat := if k = 1 then 57 else if k = 2 then 58 else if k = 3 then 59 else if k = 4 then 60 else if k = 5 then 61 else if k = 6 then 62 else 63
def RuleIs (k : Int) (b : Bool) (w : World) (e : Ending) (w' : World) : Prop := e = .returned (.tuple #[.agg #[.func (.func (effF k)) #[] #[], .bool b], .bool true]) ∧ Keep noneOf w w'
set_option maxRecDepth 100000 in
set_option maxHeartbeats 4000000 in
theorem rule_any (w : World) (k : Int) (h1 : 1 ≤ k) (h7 : k ≤ 7) : Calls Tryz.prog 23 #[.int .i64 k] w (RuleIs k (decide (2 ≤ k ∧ k ≤ 6)) w) := by
 have hk : k = 1 ∨ k = 2 ∨ k = 3 ∨ k = 4 ∨ k = 5 ∨ k = 6 ∨ k = 7 := by omega
 rcases hk with rfl | rfl | rfl | rfl | rfl | rfl | rfl
 ·
  have e1 : effF 1 = 57 := rfl
  unfold RuleIs
  rw [e1, show decide ((2 : Int) ≤ 1 ∧ (1 : Int) ≤ 6) = false from rfl]
  go_enter Tryz.func23, Tryz.ntmps23
  go_wp2
  refine bodyPost_ret (v := .tuple #[.agg #[.func (.func 57) #[] #[], .bool false], .bool true]) (by simp [results, Tryz.results23, go_sem]) rfl ⟨rfl, ?_⟩
  exact ((Keep.refl noneOf w).alloc _).alloc _
 ·
  have e1 : effF 2 = 58 := rfl
  unfold RuleIs
  rw [e1, show decide ((2 : Int) ≤ 2 ∧ (2 : Int) ≤ 6) = true from rfl]
  go_enter Tryz.func23, Tryz.ntmps23
  go_wp2
  refine bodyPost_ret (v := .tuple #[.agg #[.func (.func 58) #[] #[], .bool true], .bool true]) (by simp [results, Tryz.results23, go_sem]) rfl ⟨rfl, ?_⟩
  exact ((Keep.refl noneOf w).alloc _).alloc _
 ·
  have e1 : effF 3 = 59 := rfl
  unfold RuleIs
  rw [e1, show decide ((2 : Int) ≤ 3 ∧ (3 : Int) ≤ 6) = true from rfl]
  go_enter Tryz.func23, Tryz.ntmps23
  go_wp2
  refine bodyPost_ret (v := .tuple #[.agg #[.func (.func 59) #[] #[], .bool true], .bool true]) (by simp [results, Tryz.results23, go_sem]) rfl ⟨rfl, ?_⟩
  exact ((Keep.refl noneOf w).alloc _).alloc _
 ·
  have e1 : effF 4 = 60 := rfl
  unfold RuleIs
  rw [e1, show decide ((2 : Int) ≤ 4 ∧ (4 : Int) ≤ 6) = true from rfl]
  go_enter Tryz.func23, Tryz.ntmps23
  go_wp2
  refine bodyPost_ret (v := .tuple #[.agg #[.func (.func 60) #[] #[], .bool true], .bool true]) (by simp [results, Tryz.results23, go_sem]) rfl ⟨rfl, ?_⟩
  exact ((Keep.refl noneOf w).alloc _).alloc _
 ·
  have e1 : effF 5 = 61 := rfl
  unfold RuleIs
  rw [e1, show decide ((2 : Int) ≤ 5 ∧ (5 : Int) ≤ 6) = true from rfl]
  go_enter Tryz.func23, Tryz.ntmps23
  go_wp2
  refine bodyPost_ret (v := .tuple #[.agg #[.func (.func 61) #[] #[], .bool true], .bool true]) (by simp [results, Tryz.results23, go_sem]) rfl ⟨rfl, ?_⟩
  exact ((Keep.refl noneOf w).alloc _).alloc _
 ·
  have e1 : effF 6 = 62 := rfl
  unfold RuleIs
  rw [e1, show decide ((2 : Int) ≤ 6 ∧ (6 : Int) ≤ 6) = true from rfl]
  go_enter Tryz.func23, Tryz.ntmps23
  go_wp2
  refine bodyPost_ret (v := .tuple #[.agg #[.func (.func 62) #[] #[], .bool true], .bool true]) (by simp [results, Tryz.results23, go_sem]) rfl ⟨rfl, ?_⟩
  exact ((Keep.refl noneOf w).alloc _).alloc _
 ·
  have e1 : effF 7 = 63 := rfl
  unfold RuleIs
  rw [e1, show decide ((2 : Int) ≤ 7 ∧ (7 : Int) ≤ 6) = false from rfl]
  go_enter Tryz.func23, Tryz.ntmps23
  go_wp2
  refine bodyPost_ret (v := .tuple #[.agg #[.func (.func 63) #[] #[], .bool false], .bool true]) (by simp [results, Tryz.results23, go_sem]) rfl ⟨rfl, ?_⟩
  exact ((Keep.refl noneOf w).alloc _).alloc _
end Go.Proofs.YtffoeodjbbkdjaaGreat
namespace Go.Proofs.YtffoeodjbbkdjaaGreat
open Go.RowKit
abbrev sixPut (w : World) (b : Nat) (x0 x1 x2 x3 x4 x5 : Value) : World := (((((w.setCell ⟨b, 0, none⟩ x0).setCell ⟨b, 1, none⟩ x1).setCell ⟨b, 2, none⟩ x2).setCell ⟨b, 3, none⟩ x3).setCell ⟨b, 4, none⟩ x4).setCell ⟨b, 5, none⟩ x5
theorem Box.put6 {w : World} {b : Nat} {t : TypeId} {y0 y1 y2 y3 y4 y5 : Value} (h : Box w b t #[y0, y1, y2, y3, y4, y5]) (x0 x1 x2 x3 x4 x5 : Value) : Box (sixPut w b x0 x1 x2 x3 x4 x5) b t #[x0, x1, x2, x3, x4, x5] := by
 exact (((((h.put 0 x0).put 1 x1).put 2 x2).put 3 x3).put 4 x4).put 5 x5
theorem Box.far6 {w : World} {b g : Nat} {t : TypeId} {cs : Array Value} (h : Box w g t cs) (hg : g ≠ b) (x0 x1 x2 x3 x4 x5 : Value) : Box (sixPut w b x0 x1 x2 x3 x4 x5) g t cs :=
 (((((h.far (p := ⟨b, 0, none⟩) hg x0).far (p := ⟨b, 1, none⟩) hg x1).far (p := ⟨b, 2, none⟩) hg x2).far (p := ⟨b, 3, none⟩) hg x3).far (p := ⟨b, 4, none⟩) hg x4).far (p := ⟨b, 5, none⟩) hg x5
theorem Keep.put6 {S : Nat → Prop} {w w' : World} (h : Keep S w w') {b : Nat} (hb : b < w.heap.size → S b) (x0 x1 x2 x3 x4 x5 : Value) : Keep S w (sixPut w' b x0 x1 x2 x3 x4 x5) :=
 (((((h.setCell (p := ⟨b, 0, none⟩) hb x0).setCell (p := ⟨b, 1, none⟩) hb x1).setCell (p := ⟨b, 2, none⟩) hb x2).setCell (p := ⟨b, 3, none⟩) hb x3).setCell (p := ⟨b, 4, none⟩) hb x4).setCell (p := ⟨b, 5, none⟩) hb x5
theorem Box.six {w : World} {b : Nat} {t : TypeId} {y0 y1 y2 y3 y4 y5 : Value} (h : Box w b t #[y0, y1, y2, y3, y4, y5]) : w.cell? ⟨b, 0, none⟩ = some y0 ∧ w.cell? ⟨b, 1, none⟩ = some y1 ∧ w.cell? ⟨b, 2, none⟩ = some y2 ∧ w.cell? ⟨b, 3, none⟩ = some y3 ∧ w.cell? ⟨b, 4, none⟩ = some y4 ∧ w.cell? ⟨b, 5, none⟩ = some y5 :=
 ⟨h.cell 0, h.cell 1, h.cell 2, h.cell 3, h.cell 4, h.cell 5⟩
theorem Box.free6 {w : World} {b : Nat} {t : TypeId} {cs : Array Value} (h : Box w b t cs) : w.frozen? ⟨b, 0, none⟩ = false ∧ w.frozen? ⟨b, 1, none⟩ = false ∧ w.frozen? ⟨b, 2, none⟩ = false ∧ w.frozen? ⟨b, 3, none⟩ = false ∧ w.frozen? ⟨b, 4, none⟩ = false ∧ w.frozen? ⟨b, 5, none⟩ = false :=
 ⟨h.free 0, h.free 1, h.free 2, h.free 3, h.free 4, h.free 5⟩
structure Begun2 (w w1 : World) (D : Nat → Prop) (q : Qm) (c : Cm) : Prop where
 at_ : QAt w1 D q
 lt : ∀ i, D i → i < w.heap.size
 keep : Keep noneOf w w1
 cm : Box w1 w.heap.size 37 #[.int .i64 c.kind, .int .u64 c.ses, .int .u64 c.seq, c.gv, .int .u64 c.id, .int .u64 c.tok, .bool c.good, .int .u64 c.time]
 an : Box w1 (w.heap.size + 1) 40 #[.int .i64 0, .int .u64 0, .int .u64 0, .int .u64 0, .string ⟨#[]⟩, .string ⟨#[]⟩]
theorem begun2 {w : World} {D : Nat → Prop} {q : Qm} (h : QAt w D q) (c : Cm) : Begun2 w ((w.alloc (.cells #[.int .i64 c.kind, .int .u64 c.ses, .int .u64 c.seq, c.gv, .int .u64 c.id, .int .u64 c.tok, .bool c.good, .int .u64 c.time] 37)).alloc (.cells #[.int .i64 0, .int .u64 0, .int .u64 0, .int .u64 0, .string ⟨#[]⟩, .string ⟨#[]⟩] 40)) D q c := by
 have kb := ((Keep.refl noneOf w).alloc (.cells c.cells.toArray 37)).alloc (.cells (An.cells .zero).toArray 40)
 have hb := Box.new (w.alloc (.cells c.cells.toArray 37)) 40 (An.cells .zero).toArray
 exact ⟨h.stay kb, h.lt, kb, (Box.new w 37 c.cells.toArray).alloc (.cells (An.cells .zero).toArray 40), by rw [show (w.alloc (.cells c.cells.toArray 37)).heap.size = w.heap.size + 1 from by simp] at hb; exact hb⟩
theorem refusal_lit (w : World) (n : Int) : Calls Tryz.prog 24 #[.int .i64 n] w fun e w' => e = .returned (.agg #[.int .i64 n, .int .u64 0, .int .u64 0, .int .u64 0, .string ⟨#[]⟩, .string ⟨#[]⟩]) ∧ Keep noneOf w w' := refusal_any w n
end Go.Proofs.YtffoeodjbbkdjaaGreat
namespace Go.Proofs.YtffoeodjbbkdjaaGreat
open Go.RowKit
set_option maxRecDepth 100000 in
set_option maxHeartbeats 4000000 in
theorem qopen_any (w : World) (D : Nat → Prop) (q : Qm) (h : QAt w D q) (c : Cm) (hs : 0 ≤ c.ses ∧ c.ses ≤ top) :
  Calls Tryz.prog 57 #[.pointer (some ⟨q.p, 0, none⟩), c.agg] w (Does q D ({ q.plain with ses := openL q.ses c.ses }, .err (openE q.ses c.ses)) w) := by
 have HB := Lib.hid (begun2 h c)
 have HS := Lib.hid hs
 unfold Cm.agg
 clear h hs
 go_enter Tryz.func57, Tryz.ntmps57
 go_wp2
 generalize (w.alloc (.cells #[.int .i64 c.kind, .int .u64 c.ses, .int .u64 c.seq, c.gv, .int .u64 c.id, .int .u64 c.tok, .bool c.good, .int .u64 c.time] 37)).alloc (.cells #[.int .i64 0, .int .u64 0, .int .u64 0, .int .u64 0, .string ⟨#[]⟩, .string ⟨#[]⟩] 40) = w1 at *
 have B := HB.out
 have hlp := B.lt _ (B.at_.inD _ (.inl rfl))
 have hlm := B.lt _ (B.at_.inD _ (.inr (.inr (.inl rfl))))
 have hpm := B.at_.p_ne_m
 have MK : Hid (∀ w', Keep (fun i => i = q.m ∨ i = w.heap.size + 1) w1 w' → w'.cell? ⟨q.p, 3, none⟩ = some (.pointer (some ⟨q.tp, 0, none⟩)) ∧ w'.cell? ⟨w.heap.size, 1, none⟩ = some (.int .u64 c.ses)) := Lib.hid fun w' k' =>
  ⟨(B.at_.box.keep k' (by omega)).cell 3, (B.cm.keep k' (by omega)).cell 1⟩
 have OP : Hid (∀ w', Keep noneOf w1 w' → Calls Tryz.prog 97 #[.pointer (some ⟨q.tp, 0, none⟩), .int .u64 c.ses] w' fun e w'' => e = .returned (.int .i64 (openE q.ses c.ses)) ∧ TabAt w'' q.tp q.m (openL q.ses c.ses) ∧ Keep (fun i => i = q.m) w' w'') :=
  Lib.hid fun w' k' => open_any w' q.tp q.m q.ses c.ses (B.at_.tab.stay k') HS.out.1 HS.out.2
 have RF := Lib.hid (fun w' n => refusal_lit w' n)
 have MS : Hid (∀ w', Keep (fun i => i = q.m) w1 w' → Box w' (w.heap.size + 1) 40 #[.int .i64 0, .int .u64 0, .int .u64 0, .int .u64 0, .string ⟨#[]⟩, .string ⟨#[]⟩]) := Lib.hid fun w' k' => B.an.keep k' (by omega)
 have FIN : Hid (∀ w2 w3, TabAt w2 q.tp q.m (openL q.ses c.ses) → Keep (fun i => i = q.m) w1 w2 → Keep noneOf w2 w3 → ∀ x0 x1 x2 x3 x4 x5, QAt (sixPut w3 (w.heap.size + 1) x0 x1 x2 x3 x4 x5) (grown w (sixPut w3 (w.heap.size + 1) x0 x1 x2 x3 x4 x5) D) { q with ses := openL q.ses c.ses } ∧ Keep D w (sixPut w3 (w.heap.size + 1) x0 x1 x2 x3 x4 x5)) := Lib.hid fun w2 w3 ht k2 k3 x0 x1 x2 x3 x4 x5 => by
  have q2 := (B.at_.sessions ht k2).stay k3
  have kp := (Keep.refl (fun i => i = w.heap.size + 1) w3).put6 (b := w.heap.size + 1) (fun _ => rfl) x0 x1 x2 x3 x4 x5
  have q3 := q2.keep kp (fun i hi e => by have := B.lt i hi; omega)
  have kD : Keep D w (sixPut w3 (w.heap.size + 1) x0 x1 x2 x3 x4 x5) := (((Keep.wide B.keep).trans k2 (fun i _ e => by subst e; exact B.at_.inD _ (.inr (.inr (.inl rfl))))).andNone k3).trans kp (fun i hi e => by omega)
  exact ⟨q3.wide (fun i hi => .inl hi) (grown_lt B.lt kD.size), kD⟩
 have K0 := Keep.refl noneOf w1
 have KS := Keep.refl (fun i => i = q.m ∨ i = w.heap.size + 1) w1
 generalize openE q.ses c.ses = E at *
 clear B HS hlp hlm hpm
 go_region_held3 (fun w' => Keep (fun i => i = q.m ∨ i = w.heap.size + 1) w1 w' ∧ w'.cell? ⟨q.p, 3, none⟩ = some (.pointer (some ⟨q.tp, 0, none⟩)) ∧ w'.cell? ⟨w.heap.size, 1, none⟩ = some (.int .u64 c.ses))
  (first | (with_reducible exact ⟨KS.drew, MK.out _ KS.drew⟩) | (refine (fun k => ⟨k, MK.out _ k⟩) ?_; first | (with_reducible exact Keep.andNone (And.left (by assumption)) (by assumption)) | (with_reducible refine Keep.trans (And.left (by assumption)) (by assumption) ?_; exact fun _ _ e => Or.inl e) | (with_reducible refine Keep.put6 (And.left (by assumption)) ?_ _ _ _ _ _ _; exact fun _ => Or.inr rfl)))
  (first | (go_at_call 97; refine (OP.out _ K0.drew).mono ?_; rintro e w2 ⟨rfl, ht, k2⟩) | (go_at_call 24; refine (RF.out _ _).mono ?_; rintro e w3 ⟨rfl, k3⟩; obtain ⟨c0, c1, c2, c3, c4, c5⟩ := (MS.out _ ((K0.drew.wide.trans k2 (fun _ _ h => h)).andNone k3)).six; obtain ⟨f0, f1, f2, f3, f4, f5⟩ := (MS.out _ ((K0.drew.wide.trans k2 (fun _ _ h => h)).andNone k3)).free6))
 replace k2 : Keep (fun i => i = q.m) w1 w2 := K0.drew.wide.trans k2 (fun _ _ h => h)
 obtain ⟨hq, hk⟩ := FIN.out _ _ ht k2 k3 (.int .i64 E) (.int .u64 0) (.int .u64 0) (.int .u64 0) (.string ⟨#[]⟩) (.string ⟨#[]⟩)
 have HBX := Lib.hid ((MS.out _ (k2.andNone k3)).put6 (.int .i64 E) (.int .u64 0) (.int .u64 0) (.int .u64 0) (.string ⟨#[]⟩) (.string ⟨#[]⟩))
 have HQ := Lib.hid hq
 have HK := Lib.hid hk
 clear hq hk FIN MS MK OP RF K0 KS ht k2 k3 c0 c1 c2 c3 c4 c5 f0 f1 f2 f3 f4 f5
 unfold sixPut at *
 generalize (((((w3.setCell ⟨w.heap.size + 1, 0, none⟩ (.int .i64 E)).setCell ⟨w.heap.size + 1, 1, none⟩ (.int .u64 0)).setCell ⟨w.heap.size + 1, 2, none⟩ (.int .u64 0)).setCell ⟨w.heap.size + 1, 3, none⟩ (.int .u64 0)).setCell ⟨w.heap.size + 1, 4, none⟩ (.string ⟨#[]⟩)).setCell ⟨w.heap.size + 1, 5, none⟩ (.string ⟨#[]⟩) = wf at *
 go_wp2
 obtain ⟨r0, r1, r2, r3, r4, r5⟩ := HBX.out.six
 exact bodyPost_ret (v := (An.err E).agg) (by simp [results, Tryz.results57, go_sem, An.err, An.agg, r0, r1, r2, r3, r4, r5]) rfl ⟨_, rfl, HQ.out, rfl, rfl, HK.out⟩
end Go.Proofs.YtffoeodjbbkdjaaGreat
