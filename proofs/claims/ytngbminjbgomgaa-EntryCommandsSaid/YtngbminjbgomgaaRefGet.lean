/-
  The document's reader, on: Get, GetVar, GetText, End.
-/
import Derived.Test.YtngbminjbgomgaaRefRead
import Derived.StillTailTactics
namespace Go.Proofs.Ytngbminjbgomgaa
open Go.RowKit

section
variable {w w' : World} {g g' : Nat} {t : TypeId} {a b c : Value}
theorem Box.put3 (h : Box w g t #[a, b, c]) (x y z : Value) : Box (((w.setCell ⟨g, 0, none⟩ x).setCell ⟨g, 1, none⟩ y).setCell ⟨g, 2, none⟩ z) g t #[x, y, z] := by simpa using ((h.put 0 x).put 1 y).put 2 z
theorem Keep.put3 (g : Nat) (x y z : Value) : Keep (fun k => k = g) w (((w.setCell ⟨g, 0, none⟩ x).setCell ⟨g, 1, none⟩ y).setCell ⟨g, 2, none⟩ z) :=
  (((Keep.refl (fun k => k = g) w).setCell (p := ⟨g, 0, none⟩) (fun _ => rfl) x).setCell (p := ⟨g, 1, none⟩) (fun _ => rfl) y).setCell (p := ⟨g, 2, none⟩) (fun _ => rfl) z
theorem Keep.newer {B : Nat} {w1 w2 : World} (h : Keep noneOf w w1) (k : Keep (fun k => k = B) w1 w2) (hB : w.heap.size ≤ B) : Keep noneOf w w2 := h.trans k (fun i hi e => absurd hi (by omega))
end

/-- The beginning of a call with a reader: its box, and the cell of the reader that is answered. -/
theorem two_boxes (w : World) (x y : Array Value) (t : TypeId) :
    Keep noneOf w ((w.alloc (.cells x t)).alloc (.cells y t)) ∧ Box ((w.alloc (.cells x t)).alloc (.cells y t)) w.heap.size t x ∧ Box ((w.alloc (.cells x t)).alloc (.cells y t)) (w.heap.size + 1) t y := by
  refine ⟨((Keep.refl _ _).alloc _).alloc _, (Box.new w t x).alloc _, ?_⟩
  have := Box.new (w.alloc (.cells x t)) t y
  simpa only [World.size_alloc] using this

set_option maxRecDepth 100000 in
set_option maxHeartbeats 1000000 in
theorem refEnd_any (w : World) (A : Option Addr) (c p : Nat) (bs : List UInt8) (er : Int) (hp : p ≤ bs.length) :
    Calls Try.prog 37 #[.agg #[.slice A bs.length c, .int .i64 p, .int .i64 er]] w fun e w' => e = .returned (.int .i64 (Rs.end_ ⟨bs.drop p, er⟩)) ∧ Keep noneOf w w' := by
  have E : Rs.end_ ⟨bs.drop p, er⟩ = if er = 0 ∧ 0 < bs.length - p then 13 else er := by unfold Rs.end_; simp only [List.length_drop]
  have K0 := Lib.hid ((Keep.refl noneOf w).alloc (.cells #[.slice A bs.length c, .int .i64 p, .int .i64 er] 67))
  by_cases he : er = 0
  · subst he
    by_cases hlt : p < bs.length
    · rw [if_pos ⟨rfl, by omega⟩] at E
      rw [E]
      clear E
      go_enter Try.func37, Try.ntmps37
      go_wp2
      go_ret
      exact ⟨rfl, K0.out⟩
    · rw [if_neg (by omega)] at E
      rw [E]
      clear E
      go_enter Try.func37, Try.ntmps37
      go_wp2
      go_ret
      exact ⟨rfl, K0.out⟩
  · rw [if_neg (fun h => he h.1)] at E
    rw [E]
    have g : (er == 0) = false := beq_eq_false_iff_ne.2 he
    clear E he
    go_enter Try.func37, Try.ntmps37
    go_wp2
    go_ret
    exact ⟨rfl, K0.out⟩

/-- What is behind Get and GetVar: the reader, and the number. -/
def RefGot (w : World) (v : Value) (bs : List UInt8) (n : Nat) (s : Rs) (e : Ending) (w' : World) : Prop :=
  ∃ at' : Nat, e = .returned (.tuple #[.agg #[v, .int .i64 at', .int .i64 s.err], .int .u64 n]) ∧ at' ≤ bs.length ∧ bs.drop at' = s.left ∧ Keep noneOf w w'

theorem refSaid_eq (w : World) (D : Nat → Prop) (u : Value) (bs : List UInt8) (hs : Bytes w D u bs) (hl : bs.length ≤ 8) :
    Calls Try.prog 36 #[u] w fun e w' => e = .returned (.int .u64 (num bs)) ∧ w' = w := (refSaid_any w D u bs hs hl).mono fun _ _ h => ⟨h.1, h.2.symm⟩

set_option maxRecDepth 100000 in
set_option maxHeartbeats 1000000 in
theorem refGet_any (w : World) (D : Nat → Prop) (A : Option Addr) (c : Nat) (bs cs : List UInt8) (p n : Nat) (er : Int) (s : Rs) (hs : Bytes w D (.slice A bs.length c) bs) (hl : bs.length ≤ lim) (hp : p ≤ bs.length) (hn : n ≤ 8) (h : Rs.take ⟨bs.drop p, er⟩ n = (cs, s)) :
    Calls Try.prog 42 #[.agg #[.slice A bs.length c, .int .i64 p, .int .i64 er], .int .i64 n] w (RefGot w (.slice A bs.length c) bs (num cs) s) := by
  obtain ⟨K0, X0, Y0⟩ := two_boxes w #[.slice A bs.length c, .int .i64 p, .int .i64 er] #[.slice none 0 0, .int .i64 0, .int .i64 0] 67
  have RR := Lib.hid (refRaw_any _ D _ bs cs p n er s (hs.keep K0 (fun _ _ _ => id)) hl hp (by omega) h)
  have hcs : cs.length ≤ 8 := by
    have := take_length ⟨bs.drop p, er⟩ n
    rw [h] at this
    exact Nat.le_trans this hn
  have HC := Lib.hid hcs
  have HK := Lib.hid K0
  have HX := Lib.hid X0
  have HY := Lib.hid Y0
  clear K0 X0 Y0 hcs h
  go_enter Try.func42, Try.ntmps42
  go_wp2_with fail
  refine RR.out.mono ?_
  rintro e w1 ⟨p1, u1, rfl, hp1, hd1, F1⟩
  obtain ⟨A1, c1, hs1⟩ := own_shape F1.own
  subst hs1
  have X1 := HX.out.keep F1.keep id
  have Y1 := HY.out.keep F1.keep id
  have K1 := HK.out.trans F1.keep (fun _ _ h => h)
  have a0 : w1.cell? ⟨w.heap.size, 0, none⟩ = some (.slice A bs.length c) := X1.cell 0
  have a1 : w1.cell? ⟨w.heap.size, 1, none⟩ = some (.int .i64 p) := X1.cell 1
  have a2 : w1.cell? ⟨w.heap.size, 2, none⟩ = some (.int .i64 er) := X1.cell 2
  have f0 := X1.free 0
  have f1 := X1.free 1
  have f2 := X1.free 2
  have X2 := X1.put3 (.slice A bs.length c) (.int .i64 p1) (.int .i64 s.err)
  have KK := Keep.put3 (w := w1) w.heap.size (.slice A bs.length c) (.int .i64 p1) (.int .i64 s.err)
  have Y2 := Y1.keep KK (by omega)
  have K2 := K1.newer KK (Nat.le_refl _)
  have b2 := (Bytes.mono (D' := fun k => w.heap.size + 1 < k) F1.bytes (fun i _ hi => by simp only [World.size_alloc] at hi; omega)).keep KK (fun i _ h1 h2 => by omega)
  have HX2 := Lib.hid X2
  have HY2 := Lib.hid Y2
  have HK2 := Lib.hid K2
  have HB2 := Lib.hid b2
  clear RR HK HX HY X1 Y1 K1 X2 Y2 K2 KK b2 F1
  have HD1 := Lib.hid hd1
  obtain ⟨se, hse⟩ : ∃ se, s.err = se := ⟨_, rfl⟩
  have HSE := Lib.hid hse
  rw [hse] at HX2 HY2 HK2 HB2 ⊢
  clear hd1 hse
  go_wp2
  generalize ((w1.setCell ⟨w.heap.size, 0, none⟩ (.slice A bs.length c)).setCell ⟨w.heap.size, 1, none⟩ (.int .i64 p1)).setCell ⟨w.heap.size, 2, none⟩ (.int .i64 se) = w2 at *
  refine wp_region_still_tail 3 (by kernel_rfl) (by kernel_rfl) ?_
  change wpStill _ _ w2.drew (fun a' => wpList _ _ _ _ a' w2.drew) _ _
  have X3 := HX2.out.drew
  have Y3 := HY2.out.drew
  have K3 := HK2.out.drew
  have b3 : Bytes w2.drew _ _ _ := HB2.out
  clear HX2 HY2 HK2 HB2 a0 a1 a2 f0 f1 f2
  generalize w2.drew = w3 at *
  have a0 : w3.cell? ⟨w.heap.size, 0, none⟩ = some (.slice A bs.length c) := X3.cell 0
  have a1 : w3.cell? ⟨w.heap.size, 1, none⟩ = some (.int .i64 p1) := X3.cell 1
  have a2 : w3.cell? ⟨w.heap.size, 2, none⟩ = some (.int .i64 se) := X3.cell 2
  have b0 : w3.cell? ⟨w.heap.size + 1, 0, none⟩ = some (.slice none 0 0) := Y3.cell 0
  have b1 : w3.cell? ⟨w.heap.size + 1, 1, none⟩ = some (.int .i64 0) := Y3.cell 1
  have b2 : w3.cell? ⟨w.heap.size + 1, 2, none⟩ = some (.int .i64 0) := Y3.cell 2
  have f0 := Y3.free 0
  have f1 := Y3.free 1
  have f2 := Y3.free 2
  have SD := Lib.hid (refSaid_eq w3 _ _ cs b3 HC.out)
  have Y4 := Y3.put3 (.slice A bs.length c) (.int .i64 p1) (.int .i64 se)
  have K4 := K3.newer (Keep.put3 (w := w3) (w.heap.size + 1) (.slice A bs.length c) (.int .i64 p1) (.int .i64 se)) (Nat.le_succ _)
  have HY4 := Lib.hid Y4
  have HK4 := Lib.hid K4
  clear X3 Y3 K3 b3 Y4 K4
  simp only [List.take_succ_cons, List.take_zero, List.drop_succ_cons, List.drop_zero]
  still_step
  still_step
  still_call SD.out
  refine wpStill_nil ?_
  go_wp2
  generalize ((w3.setCell ⟨w.heap.size + 1, 0, none⟩ (.slice A bs.length c)).setCell ⟨w.heap.size + 1, 1, none⟩ (.int .i64 p1)).setCell ⟨w.heap.size + 1, 2, none⟩ (.int .i64 se) = wf at *
  have r0 : wf.cell? ⟨w.heap.size + 1, 0, none⟩ = some (.slice A bs.length c) := HY4.out.cell 0
  have r1 : wf.cell? ⟨w.heap.size + 1, 1, none⟩ = some (.int .i64 p1) := HY4.out.cell 1
  have r2 : wf.cell? ⟨w.heap.size + 1, 2, none⟩ = some (.int .i64 se) := HY4.out.cell 2
  exact bodyPost_ret (v := .tuple #[.agg #[.slice A bs.length c, .int .i64 p1, .int .i64 se], .int .u64 (num cs)]) (by simp [results, Try.results42, go_sem, r0, r1, r2]) rfl ⟨p1, by rw [HSE.out], hp1, HD1.out, HK4.out⟩
end Go.Proofs.Ytngbminjbgomgaa
