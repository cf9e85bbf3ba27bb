/-
  entry.Command: a command, written.
-/
import Derived.Test.YtngbminjbgomgaaCmd
import Derived.Test.YtngbminjbgomgaaPut
namespace Go.Proofs.Ytngbminjbgomgaa
open Go.RowKit

/-- A command's fields, as bytes. -/
def partLong (b : Bool) (n : Nat) : List UInt8 := if b then be n 8 else []
def partGood (b g : Bool) : List UInt8 := if b then [if g then 1 else 0] else []
def partGraph (b : Bool) (ts : List Tg) : List UInt8 := if b then graphBytes ts else []
def fieldBytes (c : Cmd) : List UInt8 :=
  partLong (fSes c.kind) c.ses ++ (partLong (fSeq c.kind) c.seq ++ (partGraph (fGra c.kind) c.ts ++ (partLong (fId c.kind) c.id ++ (partLong (fTok c.kind) c.tok ++ (partGood (fGood c.kind) c.good ++ partLong (fTime c.kind) c.time)))))
theorem partLong_le (b : Bool) (n : Nat) : (partLong b n).length ≤ 8 := by cases b <;> simp [partLong, be_length]
theorem partGood_le (b g : Bool) : (partGood b g).length ≤ 1 := by cases b <;> simp [partGood]
theorem partGraph_le (b : Bool) (ts : List Tg) : (partGraph b ts).length ≤ (graphBytes ts).length := by cases b <;> simp [partGraph]

set_option maxRecDepth 100000 in
set_option maxHeartbeats 400000 in
theorem putLong_any (w : World) (p : Nat) (v : Value) (bs : List UInt8) (b : Bool) (n : Nat) (h : Wr w p v bs) (hb : bs.length + 8 ≤ lim) (hn : (n : Int) < 18446744073709551616) :
    Calls Try.prog 60 #[.pointer (some ⟨p, 0, none⟩), .bool b, .int .u64 n] w (Wrote w p v bs (partLong b n)) := by
  have HN := Lib.hid hn
  clear hn
  cases b with
  | false =>
    go_enter Try.func60, Try.ntmps60
    go_wp2
    go_end0
    exact ⟨rfl, v, by simpa [partLong] using h, Went.refl _ _ _⟩
  | true =>
    go_enter Try.func60, Try.ntmps60
    go_wp2_with fail
    refine (long_any w p v bs n h hb HN.out).mono ?_
    rintro e w1 ⟨rfl, v1, g1, G1⟩
    go_wp2
    go_end0
    exact ⟨rfl, v1, g1, G1⟩

set_option maxRecDepth 100000 in
set_option maxHeartbeats 400000 in
theorem putBool_any (w : World) (p : Nat) (v : Value) (bs : List UInt8) (b : Bool) (h : Wr w p v bs) (hb : bs.length < lim) :
    Calls Try.prog 62 #[.pointer (some ⟨p, 0, none⟩), .bool b] w (Wrote w p v bs [if b then 1 else 0]) := by
  cases b with
  | false =>
    go_enter Try.func62, Try.ntmps62
    go_wp2_with fail
    refine (byte_any w p v bs 0 h hb (by decide) (by decide)).mono ?_
    rintro e w1 ⟨rfl, v1, g1, G1⟩
    go_wp2
    go_end0
    exact ⟨rfl, v1, g1, G1⟩
  | true =>
    go_enter Try.func62, Try.ntmps62
    go_wp2_with fail
    refine (byte_any w p v bs 1 h hb (by decide) (by decide)).mono ?_
    rintro e w1 ⟨rfl, v1, g1, G1⟩
    go_wp2
    go_end0
    exact ⟨rfl, v1, g1, G1⟩

theorem Wrote.intro' {w w1 : World} {p : Nat} {v v1 : Value} {bs cs : List UInt8} (g : Wr w1 p v1 (bs ++ cs)) (G : Went w p v w1 v1) : Wrote w p v bs cs (.returned (.tuple #[])) w1 := ⟨rfl, v1, g, G⟩

set_option maxRecDepth 100000 in
set_option maxHeartbeats 2000000 in
theorem putFields_core (w : World) (p : Nat) (D : Nat → Prop) (v : Value) (bs : List UInt8) (k : Int) (ses seq gid tok time : Nat) (good : Bool) (gv : Value) (ts : List Tg) (h : Wr w p v bs) (hl : Cmd.lies w D ⟨k, ses, seq, gv, ts, gid, tok, good, time⟩)
    (hD : ∀ k, D k → k ≠ p ∧ some k ≠ v.ownBlock) (hb : bs.length + (graphBytes ts).length + 200 ≤ lim) :
    Calls Try.prog 38 #[.pointer (some ⟨p, 0, none⟩), .agg #[.int .i64 k, .int .u64 (ses : Int), .int .u64 (seq : Int), gv, .int .u64 (gid : Int), .int .u64 (tok : Int), .bool good, .int .u64 (time : Int)]] w
      (Wrote w p v bs (fieldBytes ⟨k, ses, seq, gv, ts, gid, tok, good, time⟩)) := by
  have HX := Lib.hid (show fieldBytes ⟨k, ses, seq, gv, ts, gid, tok, good, time⟩ = partLong (fSes k) ses ++ (partLong (fSeq k) seq ++ (partGraph (fGra k) ts ++ (partLong (fId k) gid ++ (partLong (fTok k) tok ++ (partGood (fGood k) good ++ partLong (fTime k) time))))) from rfl)
  obtain ⟨h1, h2, h3, h4, h5, hts⟩ := hl
  simp only at h1 h2 h3 h4 h5 hts
  have H1 := Lib.hid h1
  have H2 := Lib.hid h2
  have H3 := Lib.hid h3
  have H4 := Lib.hid h4
  have H5 := Lib.hid h5
  obtain ⟨A, c, rfl, _⟩ := hts.1
  have x0 := Box.new w 38 #[.int .i64 k, .int .u64 (ses : Int), .int .u64 (seq : Int), .slice A ts.length c, .int .u64 (gid : Int), .int .u64 (tok : Int), .bool good, .int .u64 (time : Int)]
  have k0 := (Keep.refl noneOf w).alloc (.cells #[.int .i64 k, .int .u64 (ses : Int), .int .u64 (seq : Int), .slice A ts.length c, .int .u64 (gid : Int), .int .u64 (tok : Int), .bool good, .int .u64 (time : Int)] 38)
  have HT := Lib.hid hts
  have HD := Lib.hid hD
  have hpl := h.box.lt
  have HR := Lib.hid (fun j (e : v.ownBlock = some j) => h.row_lt e)
  clear h1 h2 h3 h4 h5 hts hD
  go_enter Try.func38, Try.ntmps38
  go_wp2_with fail
  refine (fieldsOf_any _ k).mono ?_
  rintro e w1 ⟨rfl, k1⟩
  unfold flV
  have B1 := partLong_le (fSes k) ses
  have B2 := partLong_le (fSeq k) seq
  have B3 := partGraph_le (fGra k) ts
  have B4 := partLong_le (fId k) gid
  have B5 := partLong_le (fTok k) tok
  have B6 := partGood_le (fGood k) good
  generalize fSes k = f1 at *
  generalize fSeq k = f2 at *
  generalize fGra k = f3 at *
  generalize fId k = f4 at *
  generalize fTok k = f5 at *
  generalize fGood k = f6 at *
  generalize fTime k = f7 at *
  generalize known k = kn at *
  have x1 := x0.keep k1 id
  have ka := (k0.trans k1 (fun _ _ h => h)).alloc (.cells #[.bool f1, .bool f2, .bool f3, .bool f4, .bool f5, .bool f6, .bool f7] 81)
  have y2 := Box.new w1 81 #[.bool f1, .bool f2, .bool f3, .bool f4, .bool f5, .bool f6, .bool f7]
  have x2 := x1.alloc (.cells #[.bool f1, .bool f2, .bool f3, .bool f4, .bool f5, .bool f6, .bool f7] 81)
  have g2 := h.keep ka id (fun _ _ => id)
  have t2 := HT.out.keep ka (fun _ _ _ => id)
  have hlt : w.heap.size < w1.heap.size := x1.lt
  have c1 : w1.cell? ⟨w.heap.size, 1, none⟩ = some (.int .u64 (ses : Int)) := x1.cell 1
  clear k1 k0 x0 x1 h
  have HB := Lib.hid (show (bs.length + (graphBytes ts).length + 200 ≤ lim) ∧ (partLong f1 ses).length ≤ 8 ∧ (partLong f2 seq).length ≤ 8 ∧ (partGraph f3 ts).length ≤ (graphBytes ts).length ∧ (partLong f4 gid).length ≤ 8 ∧ (partLong f5 tok).length ≤ 8 ∧ (partGood f6 good).length ≤ 1 from ⟨hb, B1, B2, B3, B4, B5, B6⟩)
  clear hb B1 B2 B3 B4 B5 B6
  have HG2 := Lib.hid g2
  have HX2 := Lib.hid x2
  have HY2 := Lib.hid y2
  have HT2 := Lib.hid t2
  have HKA := Lib.hid ka
  clear g2 x2 y2 t2 ka
  go_wp2_with fail
  refine (putLong_any _ p v bs f1 ses HG2.out (by obtain ⟨b0, b1, b2, b3, b4, b5, b6⟩ := HB.out; first | omega | (simp only [List.length_append]; omega) | (simp only [List.length_append, List.length_cons, List.length_nil]; omega)) H1.out).mono ?_
  rintro e w3 ⟨rfl, v3, g3, G3⟩
  have x2 := HX2.out
  have y2 := HY2.out
  have t2 := HT2.out
  have ka := HKA.out
  clear HG2 HX2 HY2 HT2 HKA c1
  generalize hw2 : w1.alloc (.cells #[.bool f1, .bool f2, .bool f3, .bool f4, .bool f5, .bool f6, .bool f7] 81) = w2 at *
  generalize w1.heap.size = q at *
  clear hw2
  have hxp : w.heap.size ≠ p := by omega
  have hyp : q ≠ p := by omega
  have hxr : some w.heap.size ≠ v.ownBlock := fun e => by have := HR.out _ e.symm; omega
  have hyr : some q ≠ v.ownBlock := fun e => by have := HR.out _ e.symm; omega
  have FX : ∀ w' v', Went w2 p v w' v' → Box w' w.heap.size 38 _ := fun w' v' G => x2.keep G.keep (fun h => h.elim hxp hxr)
  have FY : ∀ w' v', Went w2 p v w' v' → Box w' q 81 _ := fun w' v' G => y2.keep G.keep (fun h => h.elim hyp hyr)
  have t2' : Tgs w2 (fun j => D j ∧ j < w2.heap.size) (.slice A ts.length c) ts := ⟨t2.1.mono (fun i hi hd => ⟨hd, hi⟩), fun t ht => ⟨(t2.2 t ht).1, (t2.2 t ht).2.1, (t2.2 t ht).2.2.1.mono (fun i hi hd => ⟨hd, hi⟩), (t2.2 t ht).2.2.2⟩⟩
  have FT : ∀ w' v', Went w2 p v w' v' → Tgs w' (fun j => D j ∧ j < w2.heap.size) (.slice A ts.length c) ts := fun w' v' G => t2'.keep G.keep (fun i _ hi h => h.elim (HD.out i hi.1).1 (HD.out i hi.1).2)
  have FD : ∀ w' v', Went w2 p v w' v' → ∀ j, (D j ∧ j < w2.heap.size) → j ≠ p ∧ some j ≠ v'.ownBlock := fun w' v' G j hj => ⟨(HD.out j hj.1).1, fun e => by
    rcases G.row with h | h
    · rw [h] at e; exact (HD.out j hj.1).2 e
    · have := h j e.symm; omega⟩
  have HFX := Lib.hid FX
  have HFY := Lib.hid FY
  have HFT := Lib.hid FT
  have HFD := Lib.hid FD
  have HKA := Lib.hid ka
  clear x2 y2 t2 t2' FX FY FT FD ka hxp hyp hxr hyr HR HD HT
  have m3 : w3.cell? ⟨w.heap.size, 2, none⟩ = some (.int .u64 (seq : Int)) := (HFX.out _ _ G3).cell 2
  have n3 : w3.cell? ⟨q, 1, none⟩ = some (.bool f2) := (HFY.out _ _ G3).cell 1
  go_wp2_with fail
  refine (putLong_any _ p v3 _ f2 seq g3 (by obtain ⟨b0, b1, b2, b3, b4, b5, b6⟩ := HB.out; first | omega | (simp only [List.length_append]; omega) | (simp only [List.length_append, List.length_cons, List.length_nil]; omega)) H2.out).mono ?_
  rintro e w4 ⟨rfl, v4, g4, G4⟩
  have G4 := G3.trans G4
  have n4 : w4.cell? ⟨q, 2, none⟩ = some (.bool f3) := (HFY.out _ _ G4).cell 2
  clear m3 n3 g3 G3
  cases f3 with
  | false =>
    have m4 : w4.cell? ⟨w.heap.size, 4, none⟩ = some (.int .u64 (gid : Int)) := (HFX.out _ _ G4).cell 4
    have o4 : w4.cell? ⟨q, 3, none⟩ = some (.bool f4) := (HFY.out _ _ G4).cell 3
    go_wp2_with fail
    refine (putLong_any _ p v4 _ f4 gid g4 (by obtain ⟨b0, b1, b2, b3, b4, b5, b6⟩ := HB.out; first | omega | (simp only [List.length_append]; omega) | (simp only [List.length_append, List.length_cons, List.length_nil]; omega)) H3.out).mono ?_
    rintro e w5 ⟨rfl, v5, g5, G5⟩
    have G5 := G4.trans G5
    have m5 : w5.cell? ⟨w.heap.size, 5, none⟩ = some (.int .u64 (tok : Int)) := (HFX.out _ _ G5).cell 5
    have n5 : w5.cell? ⟨q, 4, none⟩ = some (.bool f5) := (HFY.out _ _ G5).cell 4
    clear g4 G4
    go_wp2_with fail
    refine (putLong_any _ p v5 _ f5 tok g5 (by obtain ⟨b0, b1, b2, b3, b4, b5, b6⟩ := HB.out; first | omega | (simp only [List.length_append]; omega) | (simp only [List.length_append, List.length_cons, List.length_nil]; omega)) H4.out).mono ?_
    rintro e w6 ⟨rfl, v6, g6, G6⟩
    have G6 := G5.trans G6
    have m6 : w6.cell? ⟨w.heap.size, 6, none⟩ = some (.bool good) := (HFX.out _ _ G6).cell 6
    have n6 : w6.cell? ⟨q, 5, none⟩ = some (.bool f6) := (HFY.out _ _ G6).cell 5
    have r6 : w6.cell? ⟨w.heap.size, 7, none⟩ = some (.int .u64 (time : Int)) := (HFX.out _ _ G6).cell 7
    have s6 : w6.cell? ⟨q, 6, none⟩ = some (.bool f7) := (HFY.out _ _ G6).cell 6
    clear g5 G5 m5 n5
    cases f6 with
    | false =>
      go_wp2_with fail
      refine (putLong_any _ p v6 _ f7 time g6 (by obtain ⟨b0, b1, b2, b3, b4, b5, b6⟩ := HB.out; first | omega | (simp only [List.length_append]; omega) | (simp only [List.length_append, List.length_cons, List.length_nil]; omega)) H5.out).mono ?_
      rintro e w7 ⟨rfl, v7, g7, G7⟩
      have G7 := G6.trans G7
      have GG := G7.after HKA.out
      go_wp2
      go_end0
      exact ⟨rfl, v7, by rw [HX.out]; simpa [partGraph, partGood] using g7, GG⟩
    | true =>
      go_wp2_with fail
      refine (putBool_any _ p v6 _ good g6 (by obtain ⟨b0, b1, b2, b3, b4, b5, b6⟩ := HB.out; first | omega | (simp only [List.length_append]; omega) | (simp only [List.length_append, List.length_cons, List.length_nil]; omega))).mono ?_
      rintro e w7 ⟨rfl, v7, g7, G7⟩
      have G7 := G6.trans G7
      have r7 : w7.cell? ⟨w.heap.size, 7, none⟩ = some (.int .u64 (time : Int)) := (HFX.out _ _ G7).cell 7
      have s7 : w7.cell? ⟨q, 6, none⟩ = some (.bool f7) := (HFY.out _ _ G7).cell 6
      clear g6 G6 m6 n6 r6 s6
      go_wp2_with fail
      refine (putLong_any _ p v7 _ f7 time g7 (by obtain ⟨b0, b1, b2, b3, b4, b5, b6⟩ := HB.out; first | omega | (simp only [List.length_append]; omega) | (simp only [List.length_append, List.length_cons, List.length_nil]; omega)) H5.out).mono ?_
      rintro e w8 ⟨rfl, v8, g8, G8⟩
      have G8 := G7.trans G8
      have GG := G8.after HKA.out
      go_wp2
      go_end0
      exact ⟨rfl, v8, by rw [HX.out]; simpa [partGraph, partGood] using g8, GG⟩
  | true =>
    have m4 : w4.cell? ⟨w.heap.size, 3, none⟩ = some (.slice A ts.length c) := (HFX.out _ _ G4).cell 3
    go_wp2_with fail
    refine (putGraph_any _ p _ v4 _ _ ts g4 (HFT.out _ _ G4) (HFD.out _ _ G4) (by obtain ⟨b0, b1, b2, b3, b4, b5, b6⟩ := HB.out; first | omega | (simp only [List.length_append]; omega) | (simp only [List.length_append, List.length_cons, List.length_nil]; omega))).mono ?_
    rintro e w5 ⟨rfl, v5, g5, G5⟩
    have G5 := G4.trans G5
    have m5 : w5.cell? ⟨w.heap.size, 4, none⟩ = some (.int .u64 (gid : Int)) := (HFX.out _ _ G5).cell 4
    have o5 : w5.cell? ⟨q, 3, none⟩ = some (.bool f4) := (HFY.out _ _ G5).cell 3
    clear g4 G4 m4 n4
    go_wp2_with fail
    refine (putLong_any _ p v5 _ f4 gid g5 (by obtain ⟨b0, b1, b2, b3, b4, b5, b6⟩ := HB.out; first | omega | (simp only [List.length_append]; omega) | (simp only [List.length_append, List.length_cons, List.length_nil]; omega)) H3.out).mono ?_
    rintro e w6 ⟨rfl, v6, g6, G6⟩
    have G6 := G5.trans G6
    have m6 : w6.cell? ⟨w.heap.size, 5, none⟩ = some (.int .u64 (tok : Int)) := (HFX.out _ _ G6).cell 5
    have n6 : w6.cell? ⟨q, 4, none⟩ = some (.bool f5) := (HFY.out _ _ G6).cell 4
    clear g5 G5
    go_wp2_with fail
    refine (putLong_any _ p v6 _ f5 tok g6 (by obtain ⟨b0, b1, b2, b3, b4, b5, b6⟩ := HB.out; first | omega | (simp only [List.length_append]; omega) | (simp only [List.length_append, List.length_cons, List.length_nil]; omega)) H4.out).mono ?_
    rintro e w7 ⟨rfl, v7, g7, G7⟩
    have G7 := G6.trans G7
    have m7 : w7.cell? ⟨w.heap.size, 6, none⟩ = some (.bool good) := (HFX.out _ _ G7).cell 6
    have n7 : w7.cell? ⟨q, 5, none⟩ = some (.bool f6) := (HFY.out _ _ G7).cell 5
    have r7 : w7.cell? ⟨w.heap.size, 7, none⟩ = some (.int .u64 (time : Int)) := (HFX.out _ _ G7).cell 7
    have s7 : w7.cell? ⟨q, 6, none⟩ = some (.bool f7) := (HFY.out _ _ G7).cell 6
    clear g6 G6 m6 n6
    cases f6 with
    | false =>
      go_wp2_with fail
      refine (putLong_any _ p v7 _ f7 time g7 (by obtain ⟨b0, b1, b2, b3, b4, b5, b6⟩ := HB.out; first | omega | (simp only [List.length_append]; omega) | (simp only [List.length_append, List.length_cons, List.length_nil]; omega)) H5.out).mono ?_
      rintro e w8 ⟨rfl, v8, g8, G8⟩
      have G8 := G7.trans G8
      have GG := G8.after HKA.out
      go_wp2
      go_end0
      exact ⟨rfl, v8, by rw [HX.out]; simpa [partGraph, partGood] using g8, GG⟩
    | true =>
      go_wp2_with fail
      refine (putBool_any _ p v7 _ good g7 (by obtain ⟨b0, b1, b2, b3, b4, b5, b6⟩ := HB.out; first | omega | (simp only [List.length_append]; omega) | (simp only [List.length_append, List.length_cons, List.length_nil]; omega))).mono ?_
      rintro e w8 ⟨rfl, v8, g8, G8⟩
      have G8 := G7.trans G8
      have r8 : w8.cell? ⟨w.heap.size, 7, none⟩ = some (.int .u64 (time : Int)) := (HFX.out _ _ G8).cell 7
      have s8 : w8.cell? ⟨q, 6, none⟩ = some (.bool f7) := (HFY.out _ _ G8).cell 6
      clear g7 G7 m7 n7 r7 s7
      go_wp2_with fail
      refine (putLong_any _ p v8 _ f7 time g8 (by obtain ⟨b0, b1, b2, b3, b4, b5, b6⟩ := HB.out; first | omega | (simp only [List.length_append]; omega) | (simp only [List.length_append, List.length_cons, List.length_nil]; omega)) H5.out).mono ?_
      rintro e w9 ⟨rfl, v9, g9, G9⟩
      have G9 := G8.trans G9
      have GG := G9.after HKA.out
      go_wp2
      go_end0
      exact ⟨rfl, v9, by rw [HX.out]; simpa [partGraph, partGood] using g9, GG⟩

/-- A command, as bytes. -/
def cmdBytes (c : Cmd) : List UInt8 := UInt8.ofNat c.kind.toNat :: fieldBytes c

theorem allTexts_le (ss : List ByteArray) (h : ∀ s ∈ ss, s.size ≤ 32) : (allTexts ss).length ≤ 41 * ss.length := by
  induction ss with
  | nil => simp [allTexts]
  | cons a l ih =>
    have h1 := ih (fun s hs => h s (List.mem_cons_of_mem _ hs))
    have h2 := h a List.mem_cons_self
    have h3 := textBytes_length (sb a)
    have h4 := varBytes_le (sb a).length
    have h5 := sb_length a
    have e : allTexts (a :: l) = textBytes (sb a) ++ allTexts l := by simp [allTexts]
    rw [e, List.length_append, List.length_cons]
    omega
theorem tgBytes_small (t : Tg) (h : t.fits = true) : (tgBytes t).length ≤ 1000 := by
  unfold Tg.fits at h
  simp only [Bool.and_eq_true, decide_eq_true_eq, List.all_eq_true] at h
  obtain ⟨⟨⟨h1, h2⟩, h3⟩, h4⟩ := h
  have e := tgBytes_le t
  have a1 := textBytes_length (sb t.name)
  have a2 := varBytes_le (sb t.name).length
  have a3 := sb_length t.name
  have b1 := textBytes_length (sb t.cmd)
  have b2 := varBytes_le (sb t.cmd).length
  have b3 := sb_length t.cmd
  have c1 : (strsBytes t.needs).length = (varBytes t.needs.length).length + (allTexts t.needs).length := by simp [strsBytes]
  have c2 := varBytes_le t.needs.length
  have c3 := allTexts_le t.needs h4
  omega
theorem allTgs_le (ts : List Tg) (h : ∀ t ∈ ts, t.fits = true) : (allTgs ts).length ≤ 1000 * ts.length := by
  induction ts with
  | nil => simp [allTgs]
  | cons a l ih =>
    have h1 := ih (fun s hs => h s (List.mem_cons_of_mem _ hs))
    have h2 := tgBytes_small a (h a List.mem_cons_self)
    have e : allTgs (a :: l) = tgBytes a ++ allTgs l := by simp [allTgs]
    rw [e, List.length_append, List.length_cons]
    omega
theorem graphBytes_small (ts : List Tg) (h : gFits ts = true) : (graphBytes ts).length ≤ 33000 := by
  unfold gFits at h
  simp only [Bool.and_eq_true, decide_eq_true_eq, List.all_eq_true] at h
  have a := allTgs_le ts h.2
  have b := varBytes_le ts.length
  have e : (graphBytes ts).length = (varBytes ts.length).length + (allTgs ts).length := by simp [graphBytes]
  omega
theorem right_parts (c : Cmd) (h : c.right = true) : (1 ≤ c.kind ∧ c.kind ≤ 7) ∧ gFits c.ts = true := by
  unfold Cmd.right at h
  simp only [Bool.and_eq_true] at h
  refine ⟨?_, h.2⟩
  have := h.1.1.1.1.1.1.1.1
  unfold known at this
  simpa using this

/-- What is behind Command: nothing and the error, or the bytes. -/
def Commanded (w : World) (c : Cmd) (e : Ending) (w' : World) : Prop :=
  Keep noneOf w w' ∧
  ((c.right = false ∧ e = .returned (.tuple #[.slice none 0 0, .int .i64 40])) ∨
   (c.right = true ∧ ∃ u, e = .returned (.tuple #[u, .int .i64 0]) ∧ w'.ownsRow 0 5 1 u (cmdBytes c).length ((cmdBytes c).map bv) ∧ ∀ b, u.ownBlock = some b → w.heap.size ≤ b))

set_option maxRecDepth 100000 in
set_option maxHeartbeats 1000000 in
theorem command_core (w : World) (D : Nat → Prop) (k : Int) (ses seq gid tok time : Nat) (good : Bool) (A : Option Addr) (cap : Nat) (ts : List Tg) (hl : Cmd.lies w D ⟨k, ses, seq, .slice A ts.length cap, ts, gid, tok, good, time⟩) :
    Calls Try.prog 15 #[.agg #[.int .i64 k, .int .u64 (ses : Int), .int .u64 (seq : Int), .slice A ts.length cap, .int .u64 (gid : Int), .int .u64 (tok : Int), .bool good, .int .u64 (time : Int)]] w
      (Commanded w ⟨k, ses, seq, .slice A ts.length cap, ts, gid, tok, good, time⟩) := by
  have x0 := Box.new w 38 #[.int .i64 k, .int .u64 (ses : Int), .int .u64 (seq : Int), .slice A ts.length cap, .int .u64 (gid : Int), .int .u64 (tok : Int), .bool good, .int .u64 (time : Int)]
  have k0 := (Keep.refl noneOf w).alloc (.cells #[.int .i64 k, .int .u64 (ses : Int), .int .u64 (seq : Int), .slice A ts.length cap, .int .u64 (gid : Int), .int .u64 (tok : Int), .bool good, .int .u64 (time : Int)] 38)
  have hl' : Cmd.lies w (fun j => D j ∧ j < w.heap.size) ⟨k, ses, seq, .slice A ts.length cap, ts, gid, tok, good, time⟩ :=
    ⟨hl.ses, hl.seq, hl.id, hl.tok, hl.time, ⟨hl.ts.1.mono (fun i hi hd => ⟨hd, hi⟩), fun t ht => ⟨(hl.ts.2 t ht).1, (hl.ts.2 t ht).2.1, (hl.ts.2 t ht).2.2.1.mono (fun i hi hd => ⟨hd, hi⟩), (hl.ts.2 t ht).2.2.2⟩⟩⟩
  have HR := Lib.hid (right_any _ _ ⟨k, ses, seq, .slice A ts.length cap, ts, gid, tok, good, time⟩ (hl'.ts.keep k0 (fun _ _ _ => id)))
  have HP := Lib.hid (right_parts ⟨k, ses, seq, .slice A ts.length cap, ts, gid, tok, good, time⟩)
  have HL := Lib.hid hl'
  have HCB := Lib.hid (show cmdBytes ⟨k, ses, seq, .slice A ts.length cap, ts, gid, tok, good, time⟩ = UInt8.ofNat k.toNat :: fieldBytes ⟨k, ses, seq, .slice A ts.length cap, ts, gid, tok, good, time⟩ from rfl)
  unfold Cmd.cells at HR
  simp only at HR HP
  clear hl hl'
  go_enter Try.func15, Try.ntmps15
  go_wp2_with fail
  refine HR.out.mono ?_
  rintro e w1 ⟨rfl, k1⟩
  cases hr : Cmd.right ⟨k, ses, seq, .slice A ts.length cap, ts, gid, tok, good, time⟩ with
  | false =>
    have HQ := Lib.hid hr
    have K := k0.trans k1 (fun _ _ h => h)
    clear hr k0 k1 x0
    go_wp2
    go_ret2
    exact ⟨K, .inl ⟨HQ.out, rfl⟩⟩
  | true =>
    have HQ := Lib.hid hr
    obtain ⟨⟨p1, p2⟩, p3⟩ := HP.out hr
    have hsm := graphBytes_small ts p3
    have x1 := x0.keep k1 id
    have hsz : w.heap.size < w1.heap.size := x1.lt
    have k2 : Keep noneOf w (w1.alloc (.cells #[.slice none 0 0] 88)) := (k0.trans k1 (fun _ _ h => h)).alloc _
    have x2 := x1.alloc (.cells #[.slice none 0 0] 88)
    have g2 := Wr.new w1
    have hlim := Lib.hid lim_is
    have HX2 := Lib.hid x2
    have HK2 := Lib.hid k2
    have HG2 := Lib.hid g2
    have c1 : w1.cell? ⟨w.heap.size, 0, none⟩ = some (.int .i64 k) := x1.cell 0
    have HSM := Lib.hid hsm
    have hk256 : k < 256 := by omega
    have hk0 : 0 ≤ k := by omega
    clear hr x0 x1 k0 k1 x2 g2 k2 p3 hsm
    go_wp2_with fail
    refine (new_any w1).mono ?_
    rintro e w2 ⟨rfl, rfl⟩
    go_wp2_with fail
    refine (byte_any _ w1.heap.size _ _ _ HG2.out (by rw [hlim.out]; simp) hk0 hk256).mono ?_
    rintro e w3 ⟨rfl, v3, g3, G3⟩
    have x2 := HX2.out
    have k2 := HK2.out
    have hp2 := HG2.out.box.lt
    generalize w1.alloc (.cells #[.slice none 0 0] 88) = w2 at *
    generalize w1.heap.size = p at *
    have x3 := G3.box x2 (by omega)
    have d0 : w3.cell? ⟨w.heap.size, 0, none⟩ = some (.int .i64 k) := x3.cell 0
    have d1 : w3.cell? ⟨w.heap.size, 1, none⟩ = some (.int .u64 (ses : Int)) := x3.cell 1
    have d2 : w3.cell? ⟨w.heap.size, 2, none⟩ = some (.int .u64 (seq : Int)) := x3.cell 2
    have d3 : w3.cell? ⟨w.heap.size, 3, none⟩ = some (.slice A ts.length cap) := x3.cell 3
    have d4 : w3.cell? ⟨w.heap.size, 4, none⟩ = some (.int .u64 (gid : Int)) := x3.cell 4
    have d5 : w3.cell? ⟨w.heap.size, 5, none⟩ = some (.int .u64 (tok : Int)) := x3.cell 5
    have d6 : w3.cell? ⟨w.heap.size, 6, none⟩ = some (.bool good) := x3.cell 6
    have d7 : w3.cell? ⟨w.heap.size, 7, none⟩ = some (.int .u64 (time : Int)) := x3.cell 7
    have K3 : Keep noneOf w w3 := k2.trans G3.keep (by rintro i hi (h | h); omega; cases h)
    have hl3 : Cmd.lies w3 (fun j => D j ∧ j < w.heap.size) ⟨k, ses, seq, .slice A ts.length cap, ts, gid, tok, good, time⟩ :=
      ⟨HL.out.ses, HL.out.seq, HL.out.id, HL.out.tok, HL.out.time, HL.out.ts.keep K3 (fun _ _ _ => id)⟩
    have HPF := Lib.hid (putFields_core w3 p _ v3 _ k ses seq gid tok time good _ ts g3 hl3 (fun j hj => ⟨by omega, G3.row_new (by have := k2.size; omega)⟩) (by have := HSM.out; rw [hlim.out]; simp; omega))
    clear c1 HG2 HX2 HK2 x2 x3 hl3 g3
    go_wp2_with fail
    refine HPF.out.mono ?_
    rintro e w4 ⟨rfl, v4, g4, G4⟩
    have G := G3.trans G4
    have K4 : Keep noneOf w w4 := k2.trans G.keep (by rintro i hi (h | h); omega; cases h)
    clear d0 d1 d2 d3 d4 d5 d6 d7 HPF
    go_wp2_with fail
    refine (bytes_any w4 p _ _ g4).mono ?_
    rintro e w5 ⟨u, rfl, hF⟩
    go_wp2
    go_ret2
    refine ⟨K4.trans hF.keep (fun _ _ h => h), .inr ⟨HQ.out, u, rfl, ?_, ?_⟩⟩
    · rw [HCB.out]
      simpa [by8] using hF.own
    · intro b hb
      have := hF.new b hb
      have := K4.size
      omega

/-- **entry.Command, of whatever command.** -/
theorem command_any (w : World) (D : Nat → Prop) (c : Cmd) (hl : c.lies w D) : Calls Try.prog 15 #[.agg c.cells] w (Commanded w c) := by
  obtain ⟨k, ses, seq, gv, ts, gid, tok, good, time⟩ := c
  have hl' := hl
  obtain ⟨A, cap, hgv, _⟩ := hl.ts.1
  simp only at hgv
  subst hgv
  exact command_core w D k ses seq gid tok time good A cap ts hl'
end Go.Proofs.Ytngbminjbgomgaa
