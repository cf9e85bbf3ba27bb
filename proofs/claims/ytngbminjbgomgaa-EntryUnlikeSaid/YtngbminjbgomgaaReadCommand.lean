/-
  entry.ReadCommand, on what readFields does; dockyardlaw04.alive.
-/
import Derived.Test.YtngbminjbgomgaaReadCmd
namespace Go.Proofs.Ytngbminjbgomgaa
open Go.RowKit

/-- Whether a command may be hangs on its targets without their memory. -/
def Pt.fits (t : Pt) : Bool := decide (t.name.size ≤ 32) && decide (t.cmd.size ≤ 256) && decide (t.needs.length ≤ 16) && t.needs.all (fun s => decide (s.size ≤ 32))
def pFits (ts : List Pt) : Bool := decide (ts.length ≤ 32) && ts.all Pt.fits
theorem gFits_plain (ts : List Tg) : gFits ts = pFits (ts.map Tg.plain) := by
  unfold gFits pFits
  rw [List.length_map, List.all_map]
  rfl
def rightP (k : Int) (ses seq : Nat) (ts : List Pt) (id tok : Nat) (good : Bool) (time : Nat) : Bool :=
  known k && (fSes k || decide (ses = 0)) && (fSeq k || decide (seq = 0)) && (fGra k || decide (ts.length = 0)) && (fId k || decide (id = 0)) && (fTok k || decide (tok = 0)) &&
    (fGood k || !good) && (fTime k || decide (time = 0)) && pFits ts
theorem right_plain (c : Cmd) : c.right = rightP c.kind c.ses c.seq (c.ts.map Tg.plain) c.id c.tok c.good c.time := by
  unfold Cmd.right rightP
  rw [gFits_plain, List.length_map]

/-- What is behind ReadCommand. -/
def GotCommand (w : World) (k : Int) (n1 n2 : Nat) (pts : List Pt) (n4 n5 : Nat) (g6 : Bool) (n7 : Nat) (ok : Bool) (e : Ending) (w' : World) : Prop :=
  Keep noneOf w w' ∧
  ((ok = false ∧ e = .returned (.tuple #[.agg #[.int .i64 0, .int .u64 0, .int .u64 0, .slice none 0 0, .int .u64 0, .int .u64 0, .bool false, .int .u64 0], .int .i64 40])) ∨
   (ok = true ∧ ∃ gv ts, e = .returned (.tuple #[.agg #[.int .i64 k, .int .u64 (n1 : Int), .int .u64 (n2 : Int), gv, .int .u64 (n4 : Int), .int .u64 (n5 : Int), .bool g6, .int .u64 (n7 : Int)], .int .i64 0]) ∧
     Tgs w' (fun k => w.heap.size ≤ k) gv ts ∧ ts.map Tg.plain = pts))

set_option maxRecDepth 100000 in
set_option maxHeartbeats 2000000 in
theorem readCommand_core (w : World) (D : Nat → Prop) (v : Value) (bs ck : List UInt8) (s0 s7 : Rs) (n1 n2 n4 n5 n7 : Nat) (g6 : Bool) (pts : List Pt) (er : Int) (hs : Bytes w D v bs) (hl : bs.length ≤ lim)
    (ek : Rs.take ⟨bs, 0⟩ 1 = (ck, s0)) (ee : s7.end_ = er) (hkk : num ck < 256)
    (HF : ∀ w' p D' u, Rd w' p D' u s0.left s0.err → Calls Try.prog 41 #[.pointer (some ⟨p, 0, none⟩), .int .i64 (num ck)] w' (GotFields w' p D' (num ck) n1 n2 pts n4 n5 g6 n7 s7)) :
    Calls Try.prog 17 #[v] w (GotCommand w (num ck) n1 n2 pts n4 n5 g6 n7 (decide (er = 0) && rightP (num ck) n1 n2 pts n4 n5 g6 n7)) := by
  have hs0 := hs.keep ((Keep.refl noneOf w).alloc (.cells #[.int .i64 0, .int .u64 0, .int .u64 0, .slice none 0 0, .int .u64 0, .int .u64 0, .bool false, .int .u64 0] 38)) (fun _ _ _ h => h)
  have hx0 := Box.new w 38 #[.int .i64 0, .int .u64 0, .int .u64 0, .slice none 0 0, .int .u64 0, .int .u64 0, .bool false, .int .u64 0]
  have hk0 := (Keep.refl noneOf w).alloc (.cells #[.int .i64 0, .int .u64 0, .int .u64 0, .slice none 0 0, .int .u64 0, .int .u64 0, .bool false, .int .u64 0] 38)
  have EK := Lib.hid ek
  have EE := Lib.hid ee
  have HHF := Lib.hid HF
  clear ek ee HF
  go_enter Try.func17, Try.ntmps17
  go_wp2_with fail
  refine (read_any _ D v bs hs0 hl).mono ?_
  rintro e w1 ⟨p, u1, rfl, hp, k1, h1⟩
  have hx1 := hx0.keep k1 id
  have k1' := hk0.trans k1 (fun _ _ h => h)
  have hp' : w.heap.size < p := by simp at hp; omega
  clear hs0 hx0 hk0 k1 hp
  go_wp2_with fail
  refine (rbyte_to w1 p _ u1 ⟨bs, 0⟩ s0 ck h1 EK.out).mono ?_
  rintro e w2 ⟨rfl, k2, u2, h2⟩
  go_wp2_with fail
  refine (HHF.out w2 p _ u2 h2).mono ?_
  rintro e w3 ⟨gv, ts, rfl, k3, ⟨u3, h3⟩, t3, hpt⟩
  have K13 : Keep (fun k => k = p) w1 w3 := k2.trans k3 (fun _ _ h => h)
  have hx3 := hx1.keep K13 (by omega)
  have K03 : Keep noneOf w w3 := k1'.trans K13 (fun i hi h => by omega)
  have hw2 : w.heap.size < w2.heap.size := (hx1.keep k2 (by omega)).lt
  have t3' := t3.mono (D' := fun k => w.heap.size < k) (fun i hi h => by omega)
  have HPT := Lib.hid hpt
  obtain ⟨A3, c3, hgv, _⟩ := t3.1
  subst hgv
  clear k2 k3 K13 h1 h2 hx1 k1' t3 hpt
  have ka := (Keep.refl noneOf w3).alloc (.cells #[.int .i64 (num ck : Int), .int .u64 (n1 : Int), .int .u64 (n2 : Int), .slice A3 ts.length c3, .int .u64 (n4 : Int), .int .u64 (n5 : Int), .bool g6, .int .u64 (n7 : Int)] 38)
  have hy := Box.new w3 38 #[.int .i64 (num ck : Int), .int .u64 (n1 : Int), .int .u64 (n2 : Int), .slice A3 ts.length c3, .int .u64 (n4 : Int), .int .u64 (n5 : Int), .bool g6, .int .u64 (n7 : Int)]
  have hx6 := hx3.keep ka id
  have h6 := h3.keep ka id (fun _ _ => id)
  have t6 := t3'.keep ka (fun _ _ _ => id)
  have K06 := K03.trans ka (fun _ _ h => h)
  have hsz5 : w.heap.size < w3.heap.size := hx3.lt
  clear ka h3 t3' hx3 K03
  go_wp2_with fail
  refine (end_to _ p _ u3 s7 er h6 EE.out).mono ?_
  rintro e w6 ⟨rfl, rfl⟩
  by_cases he : er = 0
  · subst he
    have HRT := Lib.hid (right_any _ _ ⟨(num ck : Int), n1, n2, .slice A3 ts.length c3, ts, n4, n5, g6, n7⟩ t6)
    have HRP := Lib.hid (right_plain ⟨(num ck : Int), n1, n2, .slice A3 ts.length c3, ts, n4, n5, g6, n7⟩)
    unfold Cmd.cells at HRT
    simp only at HRT HRP
    go_wp2_with fail
    refine HRT.out.mono ?_
    rintro e w7 ⟨rfl, k7⟩
    have hx7 := hx6.keep k7 id
    have hy7 := hy.keep k7 id
    have t7 := t6.keep k7 (fun _ _ _ => id)
    have K07 := K06.trans k7 (fun _ _ h => h)
    clear hx6 hy t6 K06 k7 h6 HRT
    have q0 : w7.cell? ⟨w.heap.size, 0, none⟩ = some (.int .i64 0) := hx7.cell 0
    have q1 : w7.cell? ⟨w.heap.size, 1, none⟩ = some (.int .u64 0) := hx7.cell 1
    have q2 : w7.cell? ⟨w.heap.size, 2, none⟩ = some (.int .u64 0) := hx7.cell 2
    have q3 : w7.cell? ⟨w.heap.size, 3, none⟩ = some (.slice none 0 0) := hx7.cell 3
    have q4 : w7.cell? ⟨w.heap.size, 4, none⟩ = some (.int .u64 0) := hx7.cell 4
    have q5 : w7.cell? ⟨w.heap.size, 5, none⟩ = some (.int .u64 0) := hx7.cell 5
    have q6 : w7.cell? ⟨w.heap.size, 6, none⟩ = some (.bool false) := hx7.cell 6
    have q7 : w7.cell? ⟨w.heap.size, 7, none⟩ = some (.int .u64 0) := hx7.cell 7
    have f0 := hx7.free 0
    have f1 := hx7.free 1
    have f2 := hx7.free 2
    have f3 := hx7.free 3
    have f4 := hx7.free 4
    have f5 := hx7.free 5
    have f6 := hx7.free 6
    have f7 := hx7.free 7
    cases hr : Cmd.right ⟨(num ck : Int), n1, n2, .slice A3 ts.length c3, ts, n4, n5, g6, n7⟩ with
    | false =>
      have HQ := Lib.hid hr
      have HX7 := Lib.hid hx7
      have HK7 := Lib.hid K07
      clear hr hx7 hy7 t7 K07
      go_wp2
      obtain ⟨hB, hL⟩ := fill8 (.int .i64 0) (.int .u64 0) (.int .u64 0) (.slice none 0 0) (.int .u64 0) (.int .u64 0) (.bool false) (.int .u64 0) HX7.out
      have hK := HK7.out.trans hL (fun i hi h => by omega)
      generalize ((((((((World.setCell _ ⟨w.heap.size, 0, none⟩ _).setCell ⟨w.heap.size, 1, none⟩ _).setCell ⟨w.heap.size, 2, none⟩ _).setCell ⟨w.heap.size, 3, none⟩ _).setCell ⟨w.heap.size, 4, none⟩ _).setCell ⟨w.heap.size, 5, none⟩ _).setCell ⟨w.heap.size, 6, none⟩ _).setCell ⟨w.heap.size, 7, none⟩ _) = wf at *
      have r0 : wf.cell? ⟨w.heap.size, 0, none⟩ = some (.int .i64 0) := hB.cell 0
      have r1 : wf.cell? ⟨w.heap.size, 1, none⟩ = some (.int .u64 0) := hB.cell 1
      have r2 : wf.cell? ⟨w.heap.size, 2, none⟩ = some (.int .u64 0) := hB.cell 2
      have r3 : wf.cell? ⟨w.heap.size, 3, none⟩ = some (.slice none 0 0) := hB.cell 3
      have r4 : wf.cell? ⟨w.heap.size, 4, none⟩ = some (.int .u64 0) := hB.cell 4
      have r5 : wf.cell? ⟨w.heap.size, 5, none⟩ = some (.int .u64 0) := hB.cell 5
      have r6 : wf.cell? ⟨w.heap.size, 6, none⟩ = some (.bool false) := hB.cell 6
      have r7 : wf.cell? ⟨w.heap.size, 7, none⟩ = some (.int .u64 0) := hB.cell 7
      exact bodyPost_ret (v := .tuple #[.agg #[.int .i64 0, .int .u64 0, .int .u64 0, .slice none 0 0, .int .u64 0, .int .u64 0, .bool false, .int .u64 0], .int .i64 40]) (by simp [results, Try.results17, go_sem, r0, r1, r2, r3, r4, r5, r6, r7]) rfl
        ⟨hK, .inl ⟨by rw [← HPT.out, ← HRP.out, HQ.out]; rfl, rfl⟩⟩
    | true =>
      have HQ := Lib.hid hr
      have HX7 := Lib.hid hx7
      have HK7 := Lib.hid K07
      have HT7 := Lib.hid t7
      have y0 : w7.cell? ⟨w3.heap.size, 0, none⟩ = some (.int .i64 (num ck : Int)) := hy7.cell 0
      have y1 : w7.cell? ⟨w3.heap.size, 1, none⟩ = some (.int .u64 (n1 : Int)) := hy7.cell 1
      have y2 : w7.cell? ⟨w3.heap.size, 2, none⟩ = some (.int .u64 (n2 : Int)) := hy7.cell 2
      have y3 : w7.cell? ⟨w3.heap.size, 3, none⟩ = some (.slice A3 ts.length c3) := hy7.cell 3
      have y4 : w7.cell? ⟨w3.heap.size, 4, none⟩ = some (.int .u64 (n4 : Int)) := hy7.cell 4
      have y5 : w7.cell? ⟨w3.heap.size, 5, none⟩ = some (.int .u64 (n5 : Int)) := hy7.cell 5
      have y6 : w7.cell? ⟨w3.heap.size, 6, none⟩ = some (.bool g6) := hy7.cell 6
      have y7 : w7.cell? ⟨w3.heap.size, 7, none⟩ = some (.int .u64 (n7 : Int)) := hy7.cell 7
      clear hr hx7 hy7 t7 K07
      go_wp2
      obtain ⟨hB, hL⟩ := fill8 (.int .i64 (num ck : Int)) (.int .u64 (n1 : Int)) (.int .u64 (n2 : Int)) (.slice A3 ts.length c3) (.int .u64 (n4 : Int)) (.int .u64 (n5 : Int)) (.bool g6) (.int .u64 (n7 : Int)) HX7.out
      have hK := HK7.out.trans hL (fun i hi h => by omega)
      have hT := (HT7.out.keep hL (fun i _ hi h => by omega)).mono (D' := fun k => w.heap.size ≤ k) (fun i _ h => by omega)
      generalize ((((((((World.setCell _ ⟨w.heap.size, 0, none⟩ _).setCell ⟨w.heap.size, 1, none⟩ _).setCell ⟨w.heap.size, 2, none⟩ _).setCell ⟨w.heap.size, 3, none⟩ _).setCell ⟨w.heap.size, 4, none⟩ _).setCell ⟨w.heap.size, 5, none⟩ _).setCell ⟨w.heap.size, 6, none⟩ _).setCell ⟨w.heap.size, 7, none⟩ _) = wf at *
      have r0 : wf.cell? ⟨w.heap.size, 0, none⟩ = some (.int .i64 (num ck : Int)) := hB.cell 0
      have r1 : wf.cell? ⟨w.heap.size, 1, none⟩ = some (.int .u64 (n1 : Int)) := hB.cell 1
      have r2 : wf.cell? ⟨w.heap.size, 2, none⟩ = some (.int .u64 (n2 : Int)) := hB.cell 2
      have r3 : wf.cell? ⟨w.heap.size, 3, none⟩ = some (.slice A3 ts.length c3) := hB.cell 3
      have r4 : wf.cell? ⟨w.heap.size, 4, none⟩ = some (.int .u64 (n4 : Int)) := hB.cell 4
      have r5 : wf.cell? ⟨w.heap.size, 5, none⟩ = some (.int .u64 (n5 : Int)) := hB.cell 5
      have r6 : wf.cell? ⟨w.heap.size, 6, none⟩ = some (.bool g6) := hB.cell 6
      have r7 : wf.cell? ⟨w.heap.size, 7, none⟩ = some (.int .u64 (n7 : Int)) := hB.cell 7
      exact bodyPost_ret (v := .tuple #[.agg #[.int .i64 (num ck : Int), .int .u64 (n1 : Int), .int .u64 (n2 : Int), .slice A3 ts.length c3, .int .u64 (n4 : Int), .int .u64 (n5 : Int), .bool g6, .int .u64 (n7 : Int)], .int .i64 0]) (by simp [results, Try.results17, go_sem, r0, r1, r2, r3, r4, r5, r6, r7]) rfl
        ⟨hK, .inr ⟨by rw [← HPT.out, ← HRP.out, HQ.out]; rfl, _, ts, rfl, hT, HPT.out⟩⟩
  · have g' : (er != 0) = true := by rw [bne_iff_ne]; exact he
    have HE := Lib.hid he
    generalize w3.alloc (.cells #[.int .i64 (num ck : Int), .int .u64 (n1 : Int), .int .u64 (n2 : Int), .slice A3 ts.length c3, .int .u64 (n4 : Int), .int .u64 (n5 : Int), .bool g6, .int .u64 (n7 : Int)] 38) = w7 at *
    have q0 : w7.cell? ⟨w.heap.size, 0, none⟩ = some (.int .i64 0) := hx6.cell 0
    have q1 : w7.cell? ⟨w.heap.size, 1, none⟩ = some (.int .u64 0) := hx6.cell 1
    have q2 : w7.cell? ⟨w.heap.size, 2, none⟩ = some (.int .u64 0) := hx6.cell 2
    have q3 : w7.cell? ⟨w.heap.size, 3, none⟩ = some (.slice none 0 0) := hx6.cell 3
    have q4 : w7.cell? ⟨w.heap.size, 4, none⟩ = some (.int .u64 0) := hx6.cell 4
    have q5 : w7.cell? ⟨w.heap.size, 5, none⟩ = some (.int .u64 0) := hx6.cell 5
    have q6 : w7.cell? ⟨w.heap.size, 6, none⟩ = some (.bool false) := hx6.cell 6
    have q7 : w7.cell? ⟨w.heap.size, 7, none⟩ = some (.int .u64 0) := hx6.cell 7
    have f0 := hx6.free 0
    have f1 := hx6.free 1
    have f2 := hx6.free 2
    have f3 := hx6.free 3
    have f4 := hx6.free 4
    have f5 := hx6.free 5
    have f6 := hx6.free 6
    have f7 := hx6.free 7
    have HX7 := Lib.hid hx6
    have HK7 := Lib.hid K06
    clear he h6 hy t6 hx6 K06
    go_wp2
    obtain ⟨hB, hL⟩ := fill8 (.int .i64 0) (.int .u64 0) (.int .u64 0) (.slice none 0 0) (.int .u64 0) (.int .u64 0) (.bool false) (.int .u64 0) HX7.out
    have hK := HK7.out.trans hL (fun i hi h => by omega)
    generalize ((((((((World.setCell _ ⟨w.heap.size, 0, none⟩ _).setCell ⟨w.heap.size, 1, none⟩ _).setCell ⟨w.heap.size, 2, none⟩ _).setCell ⟨w.heap.size, 3, none⟩ _).setCell ⟨w.heap.size, 4, none⟩ _).setCell ⟨w.heap.size, 5, none⟩ _).setCell ⟨w.heap.size, 6, none⟩ _).setCell ⟨w.heap.size, 7, none⟩ _) = wf at *
    have r0 : wf.cell? ⟨w.heap.size, 0, none⟩ = some (.int .i64 0) := hB.cell 0
    have r1 : wf.cell? ⟨w.heap.size, 1, none⟩ = some (.int .u64 0) := hB.cell 1
    have r2 : wf.cell? ⟨w.heap.size, 2, none⟩ = some (.int .u64 0) := hB.cell 2
    have r3 : wf.cell? ⟨w.heap.size, 3, none⟩ = some (.slice none 0 0) := hB.cell 3
    have r4 : wf.cell? ⟨w.heap.size, 4, none⟩ = some (.int .u64 0) := hB.cell 4
    have r5 : wf.cell? ⟨w.heap.size, 5, none⟩ = some (.int .u64 0) := hB.cell 5
    have r6 : wf.cell? ⟨w.heap.size, 6, none⟩ = some (.bool false) := hB.cell 6
    have r7 : wf.cell? ⟨w.heap.size, 7, none⟩ = some (.int .u64 0) := hB.cell 7
    exact bodyPost_ret (v := .tuple #[.agg #[.int .i64 0, .int .u64 0, .int .u64 0, .slice none 0 0, .int .u64 0, .int .u64 0, .bool false, .int .u64 0], .int .i64 40]) (by simp [results, Try.results17, go_sem, r0, r1, r2, r3, r4, r5, r6, r7]) rfl
      ⟨hK, .inl ⟨by simp [HE.out], rfl⟩⟩
end Go.Proofs.Ytngbminjbgomgaa
