/-
  Proved: dockyardlaw04.EntryUnlike answers true for every input that can be read, and leaves its arguments as they were. No conditions.
-/
import Derived.Test.YtngbminjbgomgaaPlain
import Derived.Test.YtngbminjbgomgaaAlive
import Derived.Test.YtngbminjbgomgaaOpen2
import Derived.Test.YtngbminjbgomgaaHeld
import Derived.Deep.RegionHeld
namespace Go.Proofs.Ytngbminjbgomgaa
open Go.ChangeShapes Go.WideShapes Go.ChangeAt Go.RowKit

theorem allocs6 (w : World) (o1 o2 : Obj) (t3 t5 : TypeId) (x3 x4 x5 x6 : Array Value) :
    Keep noneOf w ((((((w.alloc o1).alloc o2).alloc (.cells x3 t3)).alloc (.cells x4 t3)).alloc (.cells x5 t5)).alloc (.cells x6 t5)) ∧
    Box ((((((w.alloc o1).alloc o2).alloc (.cells x3 t3)).alloc (.cells x4 t3)).alloc (.cells x5 t5)).alloc (.cells x6 t5)) (w.heap.size + 1 + 1) t3 x3 ∧
    Box ((((((w.alloc o1).alloc o2).alloc (.cells x3 t3)).alloc (.cells x4 t3)).alloc (.cells x5 t5)).alloc (.cells x6 t5)) (w.heap.size + 1 + 1 + 1) t3 x4 ∧
    Box ((((((w.alloc o1).alloc o2).alloc (.cells x3 t3)).alloc (.cells x4 t3)).alloc (.cells x5 t5)).alloc (.cells x6 t5)) (w.heap.size + 1 + 1 + 1 + 1) t5 x5 ∧
    Box ((((((w.alloc o1).alloc o2).alloc (.cells x3 t3)).alloc (.cells x4 t3)).alloc (.cells x5 t5)).alloc (.cells x6 t5)) (w.heap.size + 1 + 1 + 1 + 1 + 1) t5 x6 := by
  refine ⟨((((((Keep.refl noneOf w).alloc _).alloc _).alloc _).alloc _).alloc _).alloc _, ?_, ?_, ?_, ?_⟩
  · have := Box.new ((w.alloc o1).alloc o2) t3 x3
    simp only [World.size_alloc] at this
    exact ((this.alloc _).alloc _).alloc _
  · have := Box.new (((w.alloc o1).alloc o2).alloc (.cells x3 t3)) t3 x4
    simp only [World.size_alloc] at this
    exact (this.alloc _).alloc _
  · have := Box.new ((((w.alloc o1).alloc o2).alloc (.cells x3 t3)).alloc (.cells x4 t3)) t5 x5
    simp only [World.size_alloc] at this
    exact this.alloc _
  · have := Box.new (((((w.alloc o1).alloc o2).alloc (.cells x3 t3)).alloc (.cells x4 t3)).alloc (.cells x5 t5)) t5 x6
    simp only [World.size_alloc] at this
    exact this

/-- What Command answers, in one form. -/
def Answered (w : World) (ok : Bool) (bs : List UInt8) (e : Ending) (w' : World) : Prop :=
  Keep noneOf w w' ∧ ∃ A n c er, e = .returned (.tuple #[.slice A n c, .int .i64 er]) ∧ ((ok = false ∧ er = 40) ∨ (ok = true ∧ er = 0 ∧ Bytes w' (fun _ => True) (.slice A n c) bs))
theorem command_one (w : World) (D : Nat → Prop) (c : Cmd) (hl : c.lies w D) : Calls Try.prog 15 #[.agg c.cells] w (Answered w c.right (cmdBytes c)) := by
  refine (command_any w D c hl).mono ?_
  rintro e w' ⟨k, (⟨h, rfl⟩ | ⟨h, u, rfl, o, _⟩)⟩
  · exact ⟨k, none, 0, 0, 40, rfl, .inl ⟨h, rfl⟩⟩
  · obtain ⟨A, c', hs⟩ := own_shape o
    have hb := (Bytes.of_own o).mono (D' := fun _ => True) (fun _ _ _ => trivial)
    subst hs
    exact ⟨k, A, _, c', 0, rfl, .inr ⟨h, rfl, hb⟩⟩
theorem encode_one (w : World) (D : Nat → Prop) (i t : Nat) (k : Int) (u : Value) (cs : List UInt8) (hi : (i : Int) < 18446744073709551616) (ht : (t : Int) < 18446744073709551616) (hs : Bytes w D u cs) :
    Calls Try.prog 9 #[.agg #[.int .u64 (i : Int), .int .u64 (t : Int), .int .i64 k, u]] w (Answered w (entRight i t k cs.length) (entBytes i t k.toNat cs)) := by
  refine (encode_any w D i t k u cs hi ht hs).mono ?_
  rintro e w' ⟨k, (⟨h, rfl⟩ | ⟨h, u, rfl, o, _⟩)⟩
  · exact ⟨k, none, 0, 0, 40, rfl, .inl ⟨h, rfl⟩⟩
  · obtain ⟨A, c', hs⟩ := own_shape o
    have hb := (Bytes.of_own o).mono (D' := fun _ => True) (fun _ _ _ => trivial)
    subst hs
    exact ⟨k, A, _, c', 0, rfl, .inr ⟨h, rfl, hb⟩⟩
theorem Bytes.shape {w : World} {D : Nat → Prop} {A : Option Addr} {n c : Nat} {bs : List UInt8} (h : Bytes w D (.slice A n c) bs) : n = bs.length := by
  obtain ⟨A', c', e, _⟩ := h
  injection e

set_option maxRecDepth 100000 in
set_option maxHeartbeats 4000000 in
theorem unlike_walk (w : World) (ak : Int) (ases aseq agid atok atime : Nat) (agood : Bool) (aA : Option Addr) (ac : Nat) (ats : List Tg) (bk : Int) (bses bseq bgid btok btime : Nat) (bgood : Bool) (bA : Option Addr) (bc : Nat) (bts : List Tg)
    (ei et : Nat) (ek : Int) (eA : Option Addr) (ec : Nat) (ecs : List UInt8) (fi ft : Nat) (fk : Int) (fA : Option Addr) (fc : Nat) (fcs : List UInt8)
    (ha : Cmd.lies w (fun _ => True) ⟨ak, ases, aseq, .slice aA ats.length ac, ats, agid, atok, agood, atime⟩) (hb : Cmd.lies w (fun _ => True) ⟨bk, bses, bseq, .slice bA bts.length bc, bts, bgid, btok, bgood, btime⟩)
    (hei : (ei : Int) < 18446744073709551616) (het : (et : Int) < 18446744073709551616) (hfi : (fi : Int) < 18446744073709551616) (hft : (ft : Int) < 18446744073709551616)
    (he : Bytes w (fun _ => True) (.slice eA ecs.length ec) ecs) (hf : Bytes w (fun _ => True) (.slice fA fcs.length fc) fcs) :
    Calls Try.prog 7 #[.agg #[.int .i64 ak, .int .u64 (ases : Int), .int .u64 (aseq : Int), .slice aA ats.length ac, .int .u64 (agid : Int), .int .u64 (atok : Int), .bool agood, .int .u64 (atime : Int), .int .i64 bk, .int .u64 (bses : Int), .int .u64 (bseq : Int), .slice bA bts.length bc, .int .u64 (bgid : Int), .int .u64 (btok : Int), .bool bgood, .int .u64 (btime : Int)], .agg #[.int .u64 (ei : Int), .int .u64 (et : Int), .int .i64 ek, .slice eA ecs.length ec, .int .u64 (fi : Int), .int .u64 (ft : Int), .int .i64 fk, .slice fA fcs.length fc]] w
      fun e w' => e = .returned (.bool true) ∧ Keep noneOf w w' := by
  have HA := Lib.hid ha
  have HB := Lib.hid hb
  have HE := Lib.hid he
  have HF := Lib.hid hf
  have HN := Lib.hid (And.intro hei (And.intro het (And.intro hfi hft)))
  obtain ⟨K0, Xa, Xb, Xe, Xf⟩ := allocs6 w (.cells #[.int .i64 ak, .int .u64 (ases : Int), .int .u64 (aseq : Int), .slice aA ats.length ac, .int .u64 (agid : Int), .int .u64 (atok : Int), .bool agood, .int .u64 (atime : Int), .int .i64 bk, .int .u64 (bses : Int), .int .u64 (bseq : Int), .slice bA bts.length bc, .int .u64 (bgid : Int), .int .u64 (btok : Int), .bool bgood, .int .u64 (btime : Int)] 47) (.cells #[.int .u64 (ei : Int), .int .u64 (et : Int), .int .i64 ek, .slice eA ecs.length ec, .int .u64 (fi : Int), .int .u64 (ft : Int), .int .i64 fk, .slice fA fcs.length fc] 48) 38 25 #[.int .i64 ak, .int .u64 (ases : Int), .int .u64 (aseq : Int), .slice aA ats.length ac, .int .u64 (agid : Int), .int .u64 (atok : Int), .bool agood, .int .u64 (atime : Int)] #[.int .i64 bk, .int .u64 (bses : Int), .int .u64 (bseq : Int), .slice bA bts.length bc, .int .u64 (bgid : Int), .int .u64 (btok : Int), .bool bgood, .int .u64 (btime : Int)] #[.int .u64 (ei : Int), .int .u64 (et : Int), .int .i64 ek, .slice eA ecs.length ec] #[.int .u64 (fi : Int), .int .u64 (ft : Int), .int .i64 fk, .slice fA fcs.length fc]
  have CA : Hid (∀ w', Keep noneOf w w' → Calls Try.prog 15 #[.agg #[.int .i64 ak, .int .u64 (ases : Int), .int .u64 (aseq : Int), .slice aA ats.length ac, .int .u64 (agid : Int), .int .u64 (atok : Int), .bool agood, .int .u64 (atime : Int)]] w' (Answered w' (Cmd.right ⟨ak, ases, aseq, .slice aA ats.length ac, ats, agid, atok, agood, atime⟩) (cmdBytes ⟨ak, ases, aseq, .slice aA ats.length ac, ats, agid, atok, agood, atime⟩))) := fun w' k => command_one w' (fun _ => True) ⟨ak, ases, aseq, .slice aA ats.length ac, ats, agid, atok, agood, atime⟩ ⟨HA.out.ses, HA.out.seq, HA.out.id, HA.out.tok, HA.out.time, HA.out.ts.keep k (fun _ _ _ => id)⟩
  have CB : Hid (∀ w', Keep noneOf w w' → Calls Try.prog 15 #[.agg #[.int .i64 bk, .int .u64 (bses : Int), .int .u64 (bseq : Int), .slice bA bts.length bc, .int .u64 (bgid : Int), .int .u64 (btok : Int), .bool bgood, .int .u64 (btime : Int)]] w' (Answered w' (Cmd.right ⟨bk, bses, bseq, .slice bA bts.length bc, bts, bgid, btok, bgood, btime⟩) (cmdBytes ⟨bk, bses, bseq, .slice bA bts.length bc, bts, bgid, btok, bgood, btime⟩))) := fun w' k => command_one w' (fun _ => True) ⟨bk, bses, bseq, .slice bA bts.length bc, bts, bgid, btok, bgood, btime⟩ ⟨HB.out.ses, HB.out.seq, HB.out.id, HB.out.tok, HB.out.time, HB.out.ts.keep k (fun _ _ _ => id)⟩
  have SC : Hid (∀ w', Keep noneOf w w' → Calls Try.prog 21 #[.agg #[.int .i64 ak, .int .u64 (ases : Int), .int .u64 (aseq : Int), .slice aA ats.length ac, .int .u64 (agid : Int), .int .u64 (atok : Int), .bool agood, .int .u64 (atime : Int)], .agg #[.int .i64 bk, .int .u64 (bses : Int), .int .u64 (bseq : Int), .slice bA bts.length bc, .int .u64 (bgid : Int), .int .u64 (btok : Int), .bool bgood, .int .u64 (btime : Int)]] w' (Told' (Cmd.same ⟨ak, ases, aseq, .slice aA ats.length ac, ats, agid, atok, agood, atime⟩ ⟨bk, bses, bseq, .slice bA bts.length bc, bts, bgid, btok, bgood, btime⟩) w')) := fun w' k => sameCommand_any w' (fun _ => True) (fun _ => True) ⟨ak, ases, aseq, .slice aA ats.length ac, ats, agid, atok, agood, atime⟩ ⟨bk, bses, bseq, .slice bA bts.length bc, bts, bgid, btok, bgood, btime⟩ (HA.out.ts.keep k (fun _ _ _ => id)) (HB.out.ts.keep k (fun _ _ _ => id))
  have CE : Hid (∀ w', Keep noneOf w w' → Calls Try.prog 9 #[.agg #[.int .u64 (ei : Int), .int .u64 (et : Int), .int .i64 ek, .slice eA ecs.length ec]] w' (Answered w' (entRight ei et ek ecs.length) (entBytes ei et ek.toNat ecs))) := fun w' k => encode_one w' (fun _ => True) ei et ek _ ecs HN.out.1 HN.out.2.1 (HE.out.keep k (fun _ _ _ => id))
  have CF : Hid (∀ w', Keep noneOf w w' → Calls Try.prog 9 #[.agg #[.int .u64 (fi : Int), .int .u64 (ft : Int), .int .i64 fk, .slice fA fcs.length fc]] w' (Answered w' (entRight fi ft fk fcs.length) (entBytes fi ft fk.toNat fcs))) := fun w' k => encode_one w' (fun _ => True) fi ft fk _ fcs HN.out.2.2.1 HN.out.2.2.2 (HF.out.keep k (fun _ _ _ => id))
  have SE : Hid (∀ w', Keep noneOf w w' → Calls Try.prog 14 #[.agg #[.int .u64 (ei : Int), .int .u64 (et : Int), .int .i64 ek, .slice eA ecs.length ec], .agg #[.int .u64 (fi : Int), .int .u64 (ft : Int), .int .i64 fk, .slice fA fcs.length fc]] w' (Told' (sameEnt ei et ek ecs fi ft fk fcs) w')) := fun w' k => sameEntry_any w' (fun _ => True) (fun _ => True) ei et fi ft ek fk _ _ ecs fcs (HE.out.keep k (fun _ _ _ => id)) (HF.out.keep k (fun _ _ _ => id))
  have IC := Lib.hid (fun r1 r2 h => cmdBytes_inj ⟨ak, ases, aseq, .slice aA ats.length ac, ats, agid, atok, agood, atime⟩ ⟨bk, bses, bseq, .slice bA bts.length bc, bts, bgid, btok, bgood, btime⟩ HA.out HB.out r1 r2 h)
  have JC := Lib.hid (cmdBytes_same ⟨ak, ases, aseq, .slice aA ats.length ac, ats, agid, atok, agood, atime⟩ ⟨bk, bses, bseq, .slice bA bts.length bc, bts, bgid, btok, bgood, btime⟩)
  have IE := Lib.hid (fun r1 r2 h => entBytes_inj (k := ek) (k' := fk) (cs := ecs) (cs' := fcs) HN.out.1 HN.out.2.1 HN.out.2.2.1 HN.out.2.2.2 r1 r2 h)
  have JE := Lib.hid (entBytes_same (i := ei) (t := et) (k := ek) (cs := ecs) (i' := fi) (t' := ft) (k' := fk) (cs' := fcs))
  generalize cmdBytes ⟨ak, ases, aseq, .slice aA ats.length ac, ats, agid, atok, agood, atime⟩ = abs at *
  generalize cmdBytes ⟨bk, bses, bseq, .slice bA bts.length bc, bts, bgid, btok, bgood, btime⟩ = bbs at *
  generalize entBytes ei et ek.toNat ecs = ebs at *
  generalize entBytes fi ft fk.toNat fcs = fbs at *
  generalize Cmd.right ⟨ak, ases, aseq, .slice aA ats.length ac, ats, agid, atok, agood, atime⟩ = ar at *
  generalize Cmd.right ⟨bk, bses, bseq, .slice bA bts.length bc, bts, bgid, btok, bgood, btime⟩ = br at *
  generalize entRight ei et ek ecs.length = er at *
  generalize entRight fi ft fk fcs.length = fr at *
  generalize Cmd.same ⟨ak, ases, aseq, .slice aA ats.length ac, ats, agid, atok, agood, atime⟩ ⟨bk, bses, bseq, .slice bA bts.length bc, bts, bgid, btok, bgood, btime⟩ = cq at *
  generalize sameEnt ei et ek ecs fi ft fk fcs = eq at *
  have HK0 := Lib.hid K0
  have HX0 := Lib.hid (And.intro Xa (And.intro Xb (And.intro Xe Xf)))
  clear ha hb he hf hei het hfi hft K0 Xa Xb Xe Xf
  go_enter Try.func7, Try.ntmps7
  go_wp2_with fail
  generalize ((((((w.alloc (.cells #[.int .i64 ak, .int .u64 (ases : Int), .int .u64 (aseq : Int), .slice aA ats.length ac, .int .u64 (agid : Int), .int .u64 (atok : Int), .bool agood, .int .u64 (atime : Int), .int .i64 bk, .int .u64 (bses : Int), .int .u64 (bseq : Int), .slice bA bts.length bc, .int .u64 (bgid : Int), .int .u64 (btok : Int), .bool bgood, .int .u64 (btime : Int)] 47)).alloc (.cells #[.int .u64 (ei : Int), .int .u64 (et : Int), .int .i64 ek, .slice eA ecs.length ec, .int .u64 (fi : Int), .int .u64 (ft : Int), .int .i64 fk, .slice fA fcs.length fc] 48)).alloc (.cells #[.int .i64 ak, .int .u64 (ases : Int), .int .u64 (aseq : Int), .slice aA ats.length ac, .int .u64 (agid : Int), .int .u64 (atok : Int), .bool agood, .int .u64 (atime : Int)] 38)).alloc (.cells #[.int .i64 bk, .int .u64 (bses : Int), .int .u64 (bseq : Int), .slice bA bts.length bc, .int .u64 (bgid : Int), .int .u64 (btok : Int), .bool bgood, .int .u64 (btime : Int)] 38)).alloc (.cells #[.int .u64 (ei : Int), .int .u64 (et : Int), .int .i64 ek, .slice eA ecs.length ec] 25)).alloc (.cells #[.int .u64 (fi : Int), .int .u64 (ft : Int), .int .i64 fk, .slice fA fcs.length fc] 25)) = W0 at *
  have K0 := HK0.out
  obtain ⟨Xa, Xb, Xe, Xf⟩ := HX0.out
  clear HK0 HX0
  refine (CA.out W0 K0).mono ?_
  rintro e w1 ⟨k1, A1, n1, c1, e1, rfl, h1⟩
  have K1 := K0.trans k1 (fun _ _ h => h)
  replace Xa := Xa.keep k1 id
  replace Xb := Xb.keep k1 id
  replace Xe := Xe.keep k1 id
  replace Xf := Xf.keep k1 id
  have H1 := Lib.hid h1
  clear h1 K0 k1 CA
  have b0 : w1.cell? ⟨w.heap.size + 1 + 1 + 1, 0, none⟩ = some (.int .i64 bk) := Xb.cell 0
  have b1 : w1.cell? ⟨w.heap.size + 1 + 1 + 1, 1, none⟩ = some (.int .u64 (bses : Int)) := Xb.cell 1
  have b2 : w1.cell? ⟨w.heap.size + 1 + 1 + 1, 2, none⟩ = some (.int .u64 (bseq : Int)) := Xb.cell 2
  have b3 : w1.cell? ⟨w.heap.size + 1 + 1 + 1, 3, none⟩ = some (.slice bA bts.length bc) := Xb.cell 3
  have b4 : w1.cell? ⟨w.heap.size + 1 + 1 + 1, 4, none⟩ = some (.int .u64 (bgid : Int)) := Xb.cell 4
  have b5 : w1.cell? ⟨w.heap.size + 1 + 1 + 1, 5, none⟩ = some (.int .u64 (btok : Int)) := Xb.cell 5
  have b6 : w1.cell? ⟨w.heap.size + 1 + 1 + 1, 6, none⟩ = some (.bool bgood) := Xb.cell 6
  have b7 : w1.cell? ⟨w.heap.size + 1 + 1 + 1, 7, none⟩ = some (.int .u64 (btime : Int)) := Xb.cell 7
  go_wp2_with fail
  refine (CB.out w1 K1).mono ?_
  rintro e w2 ⟨k2, A2, n2, c2, e2, rfl, h2⟩
  have K2 := K1.trans k2 (fun _ _ h => h)
  replace Xa := Xa.keep k2 id
  replace Xb := Xb.keep k2 id
  replace Xe := Xe.keep k2 id
  replace Xf := Xf.keep k2 id
  have H2 := Lib.hid h2
  clear h2 K1 CB b0 b1 b2 b3 b4 b5 b6 b7
  have H1' : (ar = false ∧ e1 = 40) ∨ (ar = true ∧ e1 = 0 ∧ Bytes w2 (fun _ => True) (.slice A1 n1 c1) abs) := H1.out.imp id (fun h => ⟨h.1, h.2.1, h.2.2.keep k2 (fun _ _ _ => id)⟩)
  have h2 := H2.out
  clear k2 H1 H2
  rcases H1' with ⟨_, rfl⟩ | ⟨r1, rfl, b1⟩
  · clear h2 SC Xa Xb IC JC
    go_wp2
    go_quiet (fail)
    have K3 := K2.drewN nq
    replace Xe := Xe.keep ((Keep.refl noneOf w2).drewN nq) id
    replace Xf := Xf.keep ((Keep.refl noneOf w2).drewN nq) id
    clear K2
    generalize w2.drewN nq = w3 at *
    have q0 : w3.cell? ⟨w.heap.size + 1 + 1 + 1 + 1, 0, none⟩ = some (.int .u64 (ei : Int)) := Xe.cell 0
    have q1 : w3.cell? ⟨w.heap.size + 1 + 1 + 1 + 1, 1, none⟩ = some (.int .u64 (et : Int)) := Xe.cell 1
    have q2 : w3.cell? ⟨w.heap.size + 1 + 1 + 1 + 1, 2, none⟩ = some (.int .i64 ek) := Xe.cell 2
    have q3 : w3.cell? ⟨w.heap.size + 1 + 1 + 1 + 1, 3, none⟩ = some (.slice eA ecs.length ec) := Xe.cell 3
    go_wp2_with fail
    refine (CE.out w3 K3).mono ?_
    rintro e w4 ⟨k4, A4, n4, c4, e4, rfl, h4⟩
    have K4 := K3.trans k4 (fun _ _ h => h)
    replace Xe := Xe.keep k4 id
    replace Xf := Xf.keep k4 id
    have H4 := Lib.hid h4
    clear h4 k4 CE q0 q1 q2 q3 K3
    have q0 : w4.cell? ⟨w.heap.size + 1 + 1 + 1 + 1 + 1, 0, none⟩ = some (.int .u64 (fi : Int)) := Xf.cell 0
    have q1 : w4.cell? ⟨w.heap.size + 1 + 1 + 1 + 1 + 1, 1, none⟩ = some (.int .u64 (ft : Int)) := Xf.cell 1
    have q2 : w4.cell? ⟨w.heap.size + 1 + 1 + 1 + 1 + 1, 2, none⟩ = some (.int .i64 fk) := Xf.cell 2
    have q3 : w4.cell? ⟨w.heap.size + 1 + 1 + 1 + 1 + 1, 3, none⟩ = some (.slice fA fcs.length fc) := Xf.cell 3
    go_wp2_with fail
    refine (CF.out w4 K4).mono ?_
    rintro e w5 ⟨k5, A5, n5, c5, e5, rfl, h5⟩
    have K5 := K4.trans k5 (fun _ _ h => h)
    replace Xe := Xe.keep k5 id
    replace Xf := Xf.keep k5 id
    have H4' : (er = false ∧ e4 = 40) ∨ (er = true ∧ e4 = 0 ∧ Bytes w5 (fun _ => True) (.slice A4 n4 c4) ebs) := H4.out.imp id (fun h => ⟨h.1, h.2.1, h.2.2.keep k5 (fun _ _ _ => id)⟩)
    clear k5 CF q0 q1 q2 q3 H4 K4
    rcases H4' with ⟨_, rfl⟩ | ⟨r4, rfl, b4⟩
    · clear h5 SE Xe Xf IE JE
      go_wp2
      refine wp_region_in (fun w' => Keep noneOf w w') (by kernel_rfl) (by kernel_rfl) K5.drew ?_
      repeat
        first
        | go_big_quiet_skip
        | go_big_quiet_want
          go_big_quiet_op
          go_big_quiet_on
        | go_big_quiet_want
          apply quiet_calls
          case he => intro w'; go_simp; exact ⟨rfl, rfl⟩
          case h =>
            intro w' hw'
            go_at_call 13
            refine (alive_any _).mono ?_
            rintro e w'' ⟨rfl, k''⟩
            exact ⟨rfl, Keep.trans hw' k'' (fun _ _ h => h)⟩
          simp only [Act.put, List.setIfInBounds_toArray, List.set_cons_zero, List.set_cons_succ]
          go_big_quiet_on
        | go_big_quiet_want
          apply quiet_reads
          case h =>
            intro w' hw'
            try dsimp only at hw'
            go_split_ands
            go_simp
            rfl
          simp only [Act.put, List.setIfInBounds_toArray, List.set_cons_zero, List.set_cons_succ]
          go_big_quiet_on
      refine wpQuiet_nil ?_
      intro w6 hw6
      go_wp2
      go_ret
      exact ⟨rfl, hw6⟩
    rcases h5 with ⟨_, rfl⟩ | ⟨r5, rfl, b5⟩
    · clear r4 b4 SE Xe Xf IE JE
      go_wp2
      refine wp_region_in (fun w' => Keep noneOf w w') (by kernel_rfl) (by kernel_rfl) K5.drew ?_
      repeat
        first
        | go_big_quiet_skip
        | go_big_quiet_want
          go_big_quiet_op
          go_big_quiet_on
        | go_big_quiet_want
          apply quiet_calls
          case he => intro w'; go_simp; exact ⟨rfl, rfl⟩
          case h =>
            intro w' hw'
            go_at_call 13
            refine (alive_any _).mono ?_
            rintro e w'' ⟨rfl, k''⟩
            exact ⟨rfl, Keep.trans hw' k'' (fun _ _ h => h)⟩
          simp only [Act.put, List.setIfInBounds_toArray, List.set_cons_zero, List.set_cons_succ]
          go_big_quiet_on
        | go_big_quiet_want
          apply quiet_reads
          case h =>
            intro w' hw'
            try dsimp only at hw'
            go_split_ands
            go_simp
            rfl
          simp only [Act.put, List.setIfInBounds_toArray, List.set_cons_zero, List.set_cons_succ]
          go_big_quiet_on
      refine wpQuiet_nil ?_
      intro w6 hw6
      go_wp2
      go_ret
      exact ⟨rfl, hw6⟩
    have hq : decide (strOf ebs = strOf fbs) = eq := by
      rw [Bool.eq_iff_iff, decide_eq_true_eq]
      exact ⟨fun h => IE.out r4 r5 (strOf_inj h), fun h => by rw [JE.out h]⟩
    have HQ := Lib.hid hq
    obtain rfl := b4.shape
    obtain rfl := b5.shape
    have MK : Hid (∀ w', Keep noneOf w5 w' → (convert 23 9 (.slice A4 ebs.length c4)).run Try.prog w' = .ok (.string (strOf ebs)) w' ∧ (convert 23 9 (.slice A5 fbs.length c5)).run Try.prog w' = .ok (.string (strOf fbs)) w' ∧ w'.cell? ⟨w.heap.size + 1 + 1 + 1 + 1, 0, none⟩ = some (.int .u64 (ei : Int)) ∧ w'.cell? ⟨w.heap.size + 1 + 1 + 1 + 1, 1, none⟩ = some (.int .u64 (et : Int)) ∧ w'.cell? ⟨w.heap.size + 1 + 1 + 1 + 1, 2, none⟩ = some (.int .i64 ek) ∧ w'.cell? ⟨w.heap.size + 1 + 1 + 1 + 1, 3, none⟩ = some (.slice eA ecs.length ec) ∧ w'.cell? ⟨w.heap.size + 1 + 1 + 1 + 1 + 1, 0, none⟩ = some (.int .u64 (fi : Int)) ∧ w'.cell? ⟨w.heap.size + 1 + 1 + 1 + 1 + 1, 1, none⟩ = some (.int .u64 (ft : Int)) ∧ w'.cell? ⟨w.heap.size + 1 + 1 + 1 + 1 + 1, 2, none⟩ = some (.int .i64 fk) ∧ w'.cell? ⟨w.heap.size + 1 + 1 + 1 + 1 + 1, 3, none⟩ = some (.slice fA fcs.length fc)) := fun w' k =>
      ⟨run_str (b4.keep k (fun _ _ _ => id)), run_str (b5.keep k (fun _ _ _ => id)), (Xe.keep k id).cell 0, (Xe.keep k id).cell 1, (Xe.keep k id).cell 2, (Xe.keep k id).cell 3, (Xf.keep k id).cell 0, (Xf.keep k id).cell 1, (Xf.keep k id).cell 2, (Xf.keep k id).cell 3⟩
    have K55 := Keep.refl noneOf w5
    have HK5 := Lib.hid K5
    clear hq r4 r5 b4 b5 Xe Xf IE JE K5
    go_wp2
    refine wp_region_in (fun w' => Keep noneOf w5 w' ∧ (convert 23 9 (.slice A4 ebs.length c4)).run Try.prog w' = .ok (.string (strOf ebs)) w' ∧ (convert 23 9 (.slice A5 fbs.length c5)).run Try.prog w' = .ok (.string (strOf fbs)) w' ∧ w'.cell? ⟨w.heap.size + 1 + 1 + 1 + 1, 0, none⟩ = some (.int .u64 (ei : Int)) ∧ w'.cell? ⟨w.heap.size + 1 + 1 + 1 + 1, 1, none⟩ = some (.int .u64 (et : Int)) ∧ w'.cell? ⟨w.heap.size + 1 + 1 + 1 + 1, 2, none⟩ = some (.int .i64 ek) ∧ w'.cell? ⟨w.heap.size + 1 + 1 + 1 + 1, 3, none⟩ = some (.slice eA ecs.length ec) ∧ w'.cell? ⟨w.heap.size + 1 + 1 + 1 + 1 + 1, 0, none⟩ = some (.int .u64 (fi : Int)) ∧ w'.cell? ⟨w.heap.size + 1 + 1 + 1 + 1 + 1, 1, none⟩ = some (.int .u64 (ft : Int)) ∧ w'.cell? ⟨w.heap.size + 1 + 1 + 1 + 1 + 1, 2, none⟩ = some (.int .i64 fk) ∧ w'.cell? ⟨w.heap.size + 1 + 1 + 1 + 1 + 1, 3, none⟩ = some (.slice fA fcs.length fc)) (by kernel_rfl) (by kernel_rfl) ⟨K55.drew, MK.out _ K55.drew⟩ ?_
    repeat
      first
      | go_big_quiet_skip
      | go_big_quiet_want
        go_big_quiet_op
        go_big_quiet_on
      | go_big_quiet_want
        apply quiet_calls
        case he => intro w'; go_simp; exact ⟨rfl, rfl⟩
        case h =>
          intro w' hw'
          first
          | go_at_call 13
            refine (alive_any _).mono ?_
            rintro e w'' ⟨rfl, k''⟩
            exact ⟨rfl, Keep.trans hw'.1 k'' (fun _ _ h => h), MK.out _ (Keep.trans hw'.1 k'' (fun _ _ h => h))⟩
          | go_at_call 14
            refine (SE.out _ (HK5.out.trans hw'.1 (fun _ _ h => h))).mono ?_
            rintro e w'' ⟨rfl, k''⟩
            exact ⟨rfl, Keep.trans hw'.1 k'' (fun _ _ h => h), MK.out _ (Keep.trans hw'.1 k'' (fun _ _ h => h))⟩
        simp only [Act.put, List.setIfInBounds_toArray, List.set_cons_zero, List.set_cons_succ]
        go_big_quiet_on
      | go_big_quiet_want
        apply quiet_reads
        case h =>
          intro w' hw'
          try dsimp only at hw'
          go_split_ands
          go_simp
          rfl
        simp only [Act.put, List.setIfInBounds_toArray, List.set_cons_zero, List.set_cons_succ]
        go_big_quiet_on
    refine wpQuiet_nil ?_
    intro w6 hw6
    go_wp2
    go_ret
    refine ⟨ret_bool ?_, HK5.out.trans hw6.1 (fun _ _ h => h)⟩
    rw [str_beq, HQ.out]
    simp
  rcases h2 with ⟨_, rfl⟩ | ⟨r2, rfl, b2⟩
  · clear SC Xa Xb IC JC r1 b1
    go_wp2
    go_quiet (fail)
    have K3 := K2.drewN nq
    replace Xe := Xe.keep ((Keep.refl noneOf w2).drewN nq) id
    replace Xf := Xf.keep ((Keep.refl noneOf w2).drewN nq) id
    clear K2
    generalize w2.drewN nq = w3 at *
    have q0 : w3.cell? ⟨w.heap.size + 1 + 1 + 1 + 1, 0, none⟩ = some (.int .u64 (ei : Int)) := Xe.cell 0
    have q1 : w3.cell? ⟨w.heap.size + 1 + 1 + 1 + 1, 1, none⟩ = some (.int .u64 (et : Int)) := Xe.cell 1
    have q2 : w3.cell? ⟨w.heap.size + 1 + 1 + 1 + 1, 2, none⟩ = some (.int .i64 ek) := Xe.cell 2
    have q3 : w3.cell? ⟨w.heap.size + 1 + 1 + 1 + 1, 3, none⟩ = some (.slice eA ecs.length ec) := Xe.cell 3
    go_wp2_with fail
    refine (CE.out w3 K3).mono ?_
    rintro e w4 ⟨k4, A4, n4, c4, e4, rfl, h4⟩
    have K4 := K3.trans k4 (fun _ _ h => h)
    replace Xe := Xe.keep k4 id
    replace Xf := Xf.keep k4 id
    have H4 := Lib.hid h4
    clear h4 k4 CE q0 q1 q2 q3 K3
    have q0 : w4.cell? ⟨w.heap.size + 1 + 1 + 1 + 1 + 1, 0, none⟩ = some (.int .u64 (fi : Int)) := Xf.cell 0
    have q1 : w4.cell? ⟨w.heap.size + 1 + 1 + 1 + 1 + 1, 1, none⟩ = some (.int .u64 (ft : Int)) := Xf.cell 1
    have q2 : w4.cell? ⟨w.heap.size + 1 + 1 + 1 + 1 + 1, 2, none⟩ = some (.int .i64 fk) := Xf.cell 2
    have q3 : w4.cell? ⟨w.heap.size + 1 + 1 + 1 + 1 + 1, 3, none⟩ = some (.slice fA fcs.length fc) := Xf.cell 3
    go_wp2_with fail
    refine (CF.out w4 K4).mono ?_
    rintro e w5 ⟨k5, A5, n5, c5, e5, rfl, h5⟩
    have K5 := K4.trans k5 (fun _ _ h => h)
    replace Xe := Xe.keep k5 id
    replace Xf := Xf.keep k5 id
    have H4' : (er = false ∧ e4 = 40) ∨ (er = true ∧ e4 = 0 ∧ Bytes w5 (fun _ => True) (.slice A4 n4 c4) ebs) := H4.out.imp id (fun h => ⟨h.1, h.2.1, h.2.2.keep k5 (fun _ _ _ => id)⟩)
    clear k5 CF q0 q1 q2 q3 H4 K4
    rcases H4' with ⟨_, rfl⟩ | ⟨r4, rfl, b4⟩
    · clear h5 SE Xe Xf IE JE
      go_wp2
      refine wp_region_in (fun w' => Keep noneOf w w') (by kernel_rfl) (by kernel_rfl) K5.drew ?_
      repeat
        first
        | go_big_quiet_skip
        | go_big_quiet_want
          go_big_quiet_op
          go_big_quiet_on
        | go_big_quiet_want
          apply quiet_calls
          case he => intro w'; go_simp; exact ⟨rfl, rfl⟩
          case h =>
            intro w' hw'
            go_at_call 13
            refine (alive_any _).mono ?_
            rintro e w'' ⟨rfl, k''⟩
            exact ⟨rfl, Keep.trans hw' k'' (fun _ _ h => h)⟩
          simp only [Act.put, List.setIfInBounds_toArray, List.set_cons_zero, List.set_cons_succ]
          go_big_quiet_on
        | go_big_quiet_want
          apply quiet_reads
          case h =>
            intro w' hw'
            try dsimp only at hw'
            go_split_ands
            go_simp
            rfl
          simp only [Act.put, List.setIfInBounds_toArray, List.set_cons_zero, List.set_cons_succ]
          go_big_quiet_on
      refine wpQuiet_nil ?_
      intro w6 hw6
      go_wp2
      go_ret
      exact ⟨rfl, hw6⟩
    rcases h5 with ⟨_, rfl⟩ | ⟨r5, rfl, b5⟩
    · clear r4 b4 SE Xe Xf IE JE
      go_wp2
      refine wp_region_in (fun w' => Keep noneOf w w') (by kernel_rfl) (by kernel_rfl) K5.drew ?_
      repeat
        first
        | go_big_quiet_skip
        | go_big_quiet_want
          go_big_quiet_op
          go_big_quiet_on
        | go_big_quiet_want
          apply quiet_calls
          case he => intro w'; go_simp; exact ⟨rfl, rfl⟩
          case h =>
            intro w' hw'
            go_at_call 13
            refine (alive_any _).mono ?_
            rintro e w'' ⟨rfl, k''⟩
            exact ⟨rfl, Keep.trans hw' k'' (fun _ _ h => h)⟩
          simp only [Act.put, List.setIfInBounds_toArray, List.set_cons_zero, List.set_cons_succ]
          go_big_quiet_on
        | go_big_quiet_want
          apply quiet_reads
          case h =>
            intro w' hw'
            try dsimp only at hw'
            go_split_ands
            go_simp
            rfl
          simp only [Act.put, List.setIfInBounds_toArray, List.set_cons_zero, List.set_cons_succ]
          go_big_quiet_on
      refine wpQuiet_nil ?_
      intro w6 hw6
      go_wp2
      go_ret
      exact ⟨rfl, hw6⟩
    have hq : decide (strOf ebs = strOf fbs) = eq := by
      rw [Bool.eq_iff_iff, decide_eq_true_eq]
      exact ⟨fun h => IE.out r4 r5 (strOf_inj h), fun h => by rw [JE.out h]⟩
    have HQ := Lib.hid hq
    obtain rfl := b4.shape
    obtain rfl := b5.shape
    have MK : Hid (∀ w', Keep noneOf w5 w' → (convert 23 9 (.slice A4 ebs.length c4)).run Try.prog w' = .ok (.string (strOf ebs)) w' ∧ (convert 23 9 (.slice A5 fbs.length c5)).run Try.prog w' = .ok (.string (strOf fbs)) w' ∧ w'.cell? ⟨w.heap.size + 1 + 1 + 1 + 1, 0, none⟩ = some (.int .u64 (ei : Int)) ∧ w'.cell? ⟨w.heap.size + 1 + 1 + 1 + 1, 1, none⟩ = some (.int .u64 (et : Int)) ∧ w'.cell? ⟨w.heap.size + 1 + 1 + 1 + 1, 2, none⟩ = some (.int .i64 ek) ∧ w'.cell? ⟨w.heap.size + 1 + 1 + 1 + 1, 3, none⟩ = some (.slice eA ecs.length ec) ∧ w'.cell? ⟨w.heap.size + 1 + 1 + 1 + 1 + 1, 0, none⟩ = some (.int .u64 (fi : Int)) ∧ w'.cell? ⟨w.heap.size + 1 + 1 + 1 + 1 + 1, 1, none⟩ = some (.int .u64 (ft : Int)) ∧ w'.cell? ⟨w.heap.size + 1 + 1 + 1 + 1 + 1, 2, none⟩ = some (.int .i64 fk) ∧ w'.cell? ⟨w.heap.size + 1 + 1 + 1 + 1 + 1, 3, none⟩ = some (.slice fA fcs.length fc)) := fun w' k =>
      ⟨run_str (b4.keep k (fun _ _ _ => id)), run_str (b5.keep k (fun _ _ _ => id)), (Xe.keep k id).cell 0, (Xe.keep k id).cell 1, (Xe.keep k id).cell 2, (Xe.keep k id).cell 3, (Xf.keep k id).cell 0, (Xf.keep k id).cell 1, (Xf.keep k id).cell 2, (Xf.keep k id).cell 3⟩
    have K55 := Keep.refl noneOf w5
    have HK5 := Lib.hid K5
    clear hq r4 r5 b4 b5 Xe Xf IE JE K5
    go_wp2
    refine wp_region_in (fun w' => Keep noneOf w5 w' ∧ (convert 23 9 (.slice A4 ebs.length c4)).run Try.prog w' = .ok (.string (strOf ebs)) w' ∧ (convert 23 9 (.slice A5 fbs.length c5)).run Try.prog w' = .ok (.string (strOf fbs)) w' ∧ w'.cell? ⟨w.heap.size + 1 + 1 + 1 + 1, 0, none⟩ = some (.int .u64 (ei : Int)) ∧ w'.cell? ⟨w.heap.size + 1 + 1 + 1 + 1, 1, none⟩ = some (.int .u64 (et : Int)) ∧ w'.cell? ⟨w.heap.size + 1 + 1 + 1 + 1, 2, none⟩ = some (.int .i64 ek) ∧ w'.cell? ⟨w.heap.size + 1 + 1 + 1 + 1, 3, none⟩ = some (.slice eA ecs.length ec) ∧ w'.cell? ⟨w.heap.size + 1 + 1 + 1 + 1 + 1, 0, none⟩ = some (.int .u64 (fi : Int)) ∧ w'.cell? ⟨w.heap.size + 1 + 1 + 1 + 1 + 1, 1, none⟩ = some (.int .u64 (ft : Int)) ∧ w'.cell? ⟨w.heap.size + 1 + 1 + 1 + 1 + 1, 2, none⟩ = some (.int .i64 fk) ∧ w'.cell? ⟨w.heap.size + 1 + 1 + 1 + 1 + 1, 3, none⟩ = some (.slice fA fcs.length fc)) (by kernel_rfl) (by kernel_rfl) ⟨K55.drew, MK.out _ K55.drew⟩ ?_
    repeat
      first
      | go_big_quiet_skip
      | go_big_quiet_want
        go_big_quiet_op
        go_big_quiet_on
      | go_big_quiet_want
        apply quiet_calls
        case he => intro w'; go_simp; exact ⟨rfl, rfl⟩
        case h =>
          intro w' hw'
          first
          | go_at_call 13
            refine (alive_any _).mono ?_
            rintro e w'' ⟨rfl, k''⟩
            exact ⟨rfl, Keep.trans hw'.1 k'' (fun _ _ h => h), MK.out _ (Keep.trans hw'.1 k'' (fun _ _ h => h))⟩
          | go_at_call 14
            refine (SE.out _ (HK5.out.trans hw'.1 (fun _ _ h => h))).mono ?_
            rintro e w'' ⟨rfl, k''⟩
            exact ⟨rfl, Keep.trans hw'.1 k'' (fun _ _ h => h), MK.out _ (Keep.trans hw'.1 k'' (fun _ _ h => h))⟩
        simp only [Act.put, List.setIfInBounds_toArray, List.set_cons_zero, List.set_cons_succ]
        go_big_quiet_on
      | go_big_quiet_want
        apply quiet_reads
        case h =>
          intro w' hw'
          try dsimp only at hw'
          go_split_ands
          go_simp
          rfl
        simp only [Act.put, List.setIfInBounds_toArray, List.set_cons_zero, List.set_cons_succ]
        go_big_quiet_on
    refine wpQuiet_nil ?_
    intro w6 hw6
    go_wp2
    go_ret
    refine ⟨ret_bool ?_, HK5.out.trans hw6.1 (fun _ _ h => h)⟩
    rw [str_beq, HQ.out]
    simp
  have hq : decide (strOf abs = strOf bbs) = cq := by
    rw [Bool.eq_iff_iff, decide_eq_true_eq]
    exact ⟨fun h => IC.out r1 r2 (strOf_inj h), fun h => by rw [JC.out h]⟩
  have HQ := Lib.hid (str_beq (strOf abs) (strOf bbs))
  rw [hq] at HQ
  obtain rfl := b1.shape
  obtain rfl := b2.shape
  have MK : Hid (∀ w', Keep noneOf w2 w' → (convert 23 9 (.slice A1 abs.length c1)).run Try.prog w' = .ok (.string (strOf abs)) w' ∧ (convert 23 9 (.slice A2 bbs.length c2)).run Try.prog w' = .ok (.string (strOf bbs)) w' ∧ w'.cell? ⟨w.heap.size + 1 + 1, 0, none⟩ = some (.int .i64 ak) ∧ w'.cell? ⟨w.heap.size + 1 + 1, 1, none⟩ = some (.int .u64 (ases : Int)) ∧ w'.cell? ⟨w.heap.size + 1 + 1, 2, none⟩ = some (.int .u64 (aseq : Int)) ∧ w'.cell? ⟨w.heap.size + 1 + 1, 3, none⟩ = some (.slice aA ats.length ac) ∧ w'.cell? ⟨w.heap.size + 1 + 1, 4, none⟩ = some (.int .u64 (agid : Int)) ∧ w'.cell? ⟨w.heap.size + 1 + 1, 5, none⟩ = some (.int .u64 (atok : Int)) ∧ w'.cell? ⟨w.heap.size + 1 + 1, 6, none⟩ = some (.bool agood) ∧ w'.cell? ⟨w.heap.size + 1 + 1, 7, none⟩ = some (.int .u64 (atime : Int)) ∧ w'.cell? ⟨w.heap.size + 1 + 1 + 1, 0, none⟩ = some (.int .i64 bk) ∧ w'.cell? ⟨w.heap.size + 1 + 1 + 1, 1, none⟩ = some (.int .u64 (bses : Int)) ∧ w'.cell? ⟨w.heap.size + 1 + 1 + 1, 2, none⟩ = some (.int .u64 (bseq : Int)) ∧ w'.cell? ⟨w.heap.size + 1 + 1 + 1, 3, none⟩ = some (.slice bA bts.length bc) ∧ w'.cell? ⟨w.heap.size + 1 + 1 + 1, 4, none⟩ = some (.int .u64 (bgid : Int)) ∧ w'.cell? ⟨w.heap.size + 1 + 1 + 1, 5, none⟩ = some (.int .u64 (btok : Int)) ∧ w'.cell? ⟨w.heap.size + 1 + 1 + 1, 6, none⟩ = some (.bool bgood) ∧ w'.cell? ⟨w.heap.size + 1 + 1 + 1, 7, none⟩ = some (.int .u64 (btime : Int))) := fun w' k =>
    ⟨run_str (b1.keep k (fun _ _ _ => id)), run_str (b2.keep k (fun _ _ _ => id)), (Xa.keep k id).cell 0, (Xa.keep k id).cell 1, (Xa.keep k id).cell 2, (Xa.keep k id).cell 3, (Xa.keep k id).cell 4, (Xa.keep k id).cell 5, (Xa.keep k id).cell 6, (Xa.keep k id).cell 7, (Xb.keep k id).cell 0, (Xb.keep k id).cell 1, (Xb.keep k id).cell 2, (Xb.keep k id).cell 3, (Xb.keep k id).cell 4, (Xb.keep k id).cell 5, (Xb.keep k id).cell 6, (Xb.keep k id).cell 7⟩
  have K22 := Keep.refl noneOf w2
  have HK2 := Lib.hid K2
  clear hq r1 r2 b1 b2 Xa Xb IC JC
  have G := HQ.out
  go_wp2
  refine wp_region_in (fun w' => Keep noneOf w2 w' ∧ (convert 23 9 (.slice A1 abs.length c1)).run Try.prog w' = .ok (.string (strOf abs)) w' ∧ (convert 23 9 (.slice A2 bbs.length c2)).run Try.prog w' = .ok (.string (strOf bbs)) w' ∧ w'.cell? ⟨w.heap.size + 1 + 1, 0, none⟩ = some (.int .i64 ak) ∧ w'.cell? ⟨w.heap.size + 1 + 1, 1, none⟩ = some (.int .u64 (ases : Int)) ∧ w'.cell? ⟨w.heap.size + 1 + 1, 2, none⟩ = some (.int .u64 (aseq : Int)) ∧ w'.cell? ⟨w.heap.size + 1 + 1, 3, none⟩ = some (.slice aA ats.length ac) ∧ w'.cell? ⟨w.heap.size + 1 + 1, 4, none⟩ = some (.int .u64 (agid : Int)) ∧ w'.cell? ⟨w.heap.size + 1 + 1, 5, none⟩ = some (.int .u64 (atok : Int)) ∧ w'.cell? ⟨w.heap.size + 1 + 1, 6, none⟩ = some (.bool agood) ∧ w'.cell? ⟨w.heap.size + 1 + 1, 7, none⟩ = some (.int .u64 (atime : Int)) ∧ w'.cell? ⟨w.heap.size + 1 + 1 + 1, 0, none⟩ = some (.int .i64 bk) ∧ w'.cell? ⟨w.heap.size + 1 + 1 + 1, 1, none⟩ = some (.int .u64 (bses : Int)) ∧ w'.cell? ⟨w.heap.size + 1 + 1 + 1, 2, none⟩ = some (.int .u64 (bseq : Int)) ∧ w'.cell? ⟨w.heap.size + 1 + 1 + 1, 3, none⟩ = some (.slice bA bts.length bc) ∧ w'.cell? ⟨w.heap.size + 1 + 1 + 1, 4, none⟩ = some (.int .u64 (bgid : Int)) ∧ w'.cell? ⟨w.heap.size + 1 + 1 + 1, 5, none⟩ = some (.int .u64 (btok : Int)) ∧ w'.cell? ⟨w.heap.size + 1 + 1 + 1, 6, none⟩ = some (.bool bgood) ∧ w'.cell? ⟨w.heap.size + 1 + 1 + 1, 7, none⟩ = some (.int .u64 (btime : Int))) (by kernel_rfl) (by kernel_rfl) ⟨K22.drew, MK.out _ K22.drew⟩ ?_
  repeat
    first
    | go_big_quiet_skip
    | go_big_quiet_want
      go_big_quiet_op
      go_big_quiet_on
    | go_big_quiet_want
      apply quiet_calls
      case he => intro w'; go_simp; exact ⟨rfl, rfl⟩
      case h =>
        intro w' hw'
        go_at_call 21
        refine (SC.out _ (HK2.out.trans hw'.1 (fun _ _ h => h))).mono ?_
        rintro e w'' ⟨rfl, k''⟩
        exact ⟨rfl, Keep.trans hw'.1 k'' (fun _ _ h => h), MK.out _ (Keep.trans hw'.1 k'' (fun _ _ h => h))⟩
      simp only [Act.put, List.setIfInBounds_toArray, List.set_cons_zero, List.set_cons_succ]
      go_big_quiet_on
    | go_big_quiet_want
      apply quiet_reads
      case h =>
        intro w' hw'
        try dsimp only at hw'
        go_split_ands
        go_simp
        rfl
      simp only [Act.put, List.setIfInBounds_toArray, List.set_cons_zero, List.set_cons_succ]
      go_big_quiet_on
  refine wpQuiet_nil ?_
  intro w3 hw3
  have K3 := K2.trans hw3.1 (fun _ _ h => h)
  replace Xe := Xe.keep hw3.1 id
  replace Xf := Xf.keep hw3.1 id
  clear K2 hw3 MK SC HK2 K22
  have q0 : w3.cell? ⟨w.heap.size + 1 + 1 + 1 + 1, 0, none⟩ = some (.int .u64 (ei : Int)) := Xe.cell 0
  have q1 : w3.cell? ⟨w.heap.size + 1 + 1 + 1 + 1, 1, none⟩ = some (.int .u64 (et : Int)) := Xe.cell 1
  have q2 : w3.cell? ⟨w.heap.size + 1 + 1 + 1 + 1, 2, none⟩ = some (.int .i64 ek) := Xe.cell 2
  have q3 : w3.cell? ⟨w.heap.size + 1 + 1 + 1 + 1, 3, none⟩ = some (.slice eA ecs.length ec) := Xe.cell 3
  go_wp2_with fail
  refine (CE.out w3 K3).mono ?_
  rintro e w4 ⟨k4, A4, n4, c4, e4, rfl, h4⟩
  have K4 := K3.trans k4 (fun _ _ h => h)
  replace Xe := Xe.keep k4 id
  replace Xf := Xf.keep k4 id
  have H4 := Lib.hid h4
  clear h4 k4 CE q0 q1 q2 q3 K3
  have q0 : w4.cell? ⟨w.heap.size + 1 + 1 + 1 + 1 + 1, 0, none⟩ = some (.int .u64 (fi : Int)) := Xf.cell 0
  have q1 : w4.cell? ⟨w.heap.size + 1 + 1 + 1 + 1 + 1, 1, none⟩ = some (.int .u64 (ft : Int)) := Xf.cell 1
  have q2 : w4.cell? ⟨w.heap.size + 1 + 1 + 1 + 1 + 1, 2, none⟩ = some (.int .i64 fk) := Xf.cell 2
  have q3 : w4.cell? ⟨w.heap.size + 1 + 1 + 1 + 1 + 1, 3, none⟩ = some (.slice fA fcs.length fc) := Xf.cell 3
  go_wp2_with fail
  refine (CF.out w4 K4).mono ?_
  rintro e w5 ⟨k5, A5, n5, c5, e5, rfl, h5⟩
  have K5 := K4.trans k5 (fun _ _ h => h)
  replace Xe := Xe.keep k5 id
  replace Xf := Xf.keep k5 id
  have H4' : (er = false ∧ e4 = 40) ∨ (er = true ∧ e4 = 0 ∧ Bytes w5 (fun _ => True) (.slice A4 n4 c4) ebs) := H4.out.imp id (fun h => ⟨h.1, h.2.1, h.2.2.keep k5 (fun _ _ _ => id)⟩)
  clear k5 CF q0 q1 q2 q3 H4 K4
  rcases H4' with ⟨_, rfl⟩ | ⟨r4, rfl, b4⟩
  · clear h5 SE Xe Xf IE JE
    go_wp2
    refine wp_region_in (fun w' => Keep noneOf w w') (by kernel_rfl) (by kernel_rfl) K5.drew ?_
    repeat
      first
      | go_big_quiet_skip
      | go_big_quiet_want
        go_big_quiet_op
        go_big_quiet_on
      | go_big_quiet_want
        apply quiet_calls
        case he => intro w'; go_simp; exact ⟨rfl, rfl⟩
        case h =>
          intro w' hw'
          go_at_call 13
          refine (alive_any _).mono ?_
          rintro e w'' ⟨rfl, k''⟩
          exact ⟨rfl, Keep.trans hw' k'' (fun _ _ h => h)⟩
        simp only [Act.put, List.setIfInBounds_toArray, List.set_cons_zero, List.set_cons_succ]
        go_big_quiet_on
      | go_big_quiet_want
        apply quiet_reads
        case h =>
          intro w' hw'
          try dsimp only at hw'
          go_split_ands
          go_simp
          rfl
        simp only [Act.put, List.setIfInBounds_toArray, List.set_cons_zero, List.set_cons_succ]
        go_big_quiet_on
    refine wpQuiet_nil ?_
    intro w6 hw6
    go_wp2
    go_ret
    exact ⟨rfl, hw6⟩
  rcases h5 with ⟨_, rfl⟩ | ⟨r5, rfl, b5⟩
  · clear r4 b4 SE Xe Xf IE JE
    go_wp2
    refine wp_region_in (fun w' => Keep noneOf w w') (by kernel_rfl) (by kernel_rfl) K5.drew ?_
    repeat
      first
      | go_big_quiet_skip
      | go_big_quiet_want
        go_big_quiet_op
        go_big_quiet_on
      | go_big_quiet_want
        apply quiet_calls
        case he => intro w'; go_simp; exact ⟨rfl, rfl⟩
        case h =>
          intro w' hw'
          go_at_call 13
          refine (alive_any _).mono ?_
          rintro e w'' ⟨rfl, k''⟩
          exact ⟨rfl, Keep.trans hw' k'' (fun _ _ h => h)⟩
        simp only [Act.put, List.setIfInBounds_toArray, List.set_cons_zero, List.set_cons_succ]
        go_big_quiet_on
      | go_big_quiet_want
        apply quiet_reads
        case h =>
          intro w' hw'
          try dsimp only at hw'
          go_split_ands
          go_simp
          rfl
        simp only [Act.put, List.setIfInBounds_toArray, List.set_cons_zero, List.set_cons_succ]
        go_big_quiet_on
    refine wpQuiet_nil ?_
    intro w6 hw6
    go_wp2
    go_ret
    exact ⟨rfl, hw6⟩
  have hq : decide (strOf ebs = strOf fbs) = eq := by
    rw [Bool.eq_iff_iff, decide_eq_true_eq]
    exact ⟨fun h => IE.out r4 r5 (strOf_inj h), fun h => by rw [JE.out h]⟩
  have HQ := Lib.hid hq
  obtain rfl := b4.shape
  obtain rfl := b5.shape
  have MK : Hid (∀ w', Keep noneOf w5 w' → (convert 23 9 (.slice A4 ebs.length c4)).run Try.prog w' = .ok (.string (strOf ebs)) w' ∧ (convert 23 9 (.slice A5 fbs.length c5)).run Try.prog w' = .ok (.string (strOf fbs)) w' ∧ w'.cell? ⟨w.heap.size + 1 + 1 + 1 + 1, 0, none⟩ = some (.int .u64 (ei : Int)) ∧ w'.cell? ⟨w.heap.size + 1 + 1 + 1 + 1, 1, none⟩ = some (.int .u64 (et : Int)) ∧ w'.cell? ⟨w.heap.size + 1 + 1 + 1 + 1, 2, none⟩ = some (.int .i64 ek) ∧ w'.cell? ⟨w.heap.size + 1 + 1 + 1 + 1, 3, none⟩ = some (.slice eA ecs.length ec) ∧ w'.cell? ⟨w.heap.size + 1 + 1 + 1 + 1 + 1, 0, none⟩ = some (.int .u64 (fi : Int)) ∧ w'.cell? ⟨w.heap.size + 1 + 1 + 1 + 1 + 1, 1, none⟩ = some (.int .u64 (ft : Int)) ∧ w'.cell? ⟨w.heap.size + 1 + 1 + 1 + 1 + 1, 2, none⟩ = some (.int .i64 fk) ∧ w'.cell? ⟨w.heap.size + 1 + 1 + 1 + 1 + 1, 3, none⟩ = some (.slice fA fcs.length fc)) := fun w' k =>
    ⟨run_str (b4.keep k (fun _ _ _ => id)), run_str (b5.keep k (fun _ _ _ => id)), (Xe.keep k id).cell 0, (Xe.keep k id).cell 1, (Xe.keep k id).cell 2, (Xe.keep k id).cell 3, (Xf.keep k id).cell 0, (Xf.keep k id).cell 1, (Xf.keep k id).cell 2, (Xf.keep k id).cell 3⟩
  have K55 := Keep.refl noneOf w5
  have HK5 := Lib.hid K5
  clear hq r4 r5 b4 b5 Xe Xf IE JE K5
  go_wp2
  refine wp_region_in (fun w' => Keep noneOf w5 w' ∧ (convert 23 9 (.slice A4 ebs.length c4)).run Try.prog w' = .ok (.string (strOf ebs)) w' ∧ (convert 23 9 (.slice A5 fbs.length c5)).run Try.prog w' = .ok (.string (strOf fbs)) w' ∧ w'.cell? ⟨w.heap.size + 1 + 1 + 1 + 1, 0, none⟩ = some (.int .u64 (ei : Int)) ∧ w'.cell? ⟨w.heap.size + 1 + 1 + 1 + 1, 1, none⟩ = some (.int .u64 (et : Int)) ∧ w'.cell? ⟨w.heap.size + 1 + 1 + 1 + 1, 2, none⟩ = some (.int .i64 ek) ∧ w'.cell? ⟨w.heap.size + 1 + 1 + 1 + 1, 3, none⟩ = some (.slice eA ecs.length ec) ∧ w'.cell? ⟨w.heap.size + 1 + 1 + 1 + 1 + 1, 0, none⟩ = some (.int .u64 (fi : Int)) ∧ w'.cell? ⟨w.heap.size + 1 + 1 + 1 + 1 + 1, 1, none⟩ = some (.int .u64 (ft : Int)) ∧ w'.cell? ⟨w.heap.size + 1 + 1 + 1 + 1 + 1, 2, none⟩ = some (.int .i64 fk) ∧ w'.cell? ⟨w.heap.size + 1 + 1 + 1 + 1 + 1, 3, none⟩ = some (.slice fA fcs.length fc)) (by kernel_rfl) (by kernel_rfl) ⟨K55.drew, MK.out _ K55.drew⟩ ?_
  repeat
    first
    | go_big_quiet_skip
    | go_big_quiet_want
      go_big_quiet_op
      go_big_quiet_on
    | go_big_quiet_want
      apply quiet_calls
      case he => intro w'; go_simp; exact ⟨rfl, rfl⟩
      case h =>
        intro w' hw'
        first
        | go_at_call 13
          refine (alive_any _).mono ?_
          rintro e w'' ⟨rfl, k''⟩
          exact ⟨rfl, Keep.trans hw'.1 k'' (fun _ _ h => h), MK.out _ (Keep.trans hw'.1 k'' (fun _ _ h => h))⟩
        | go_at_call 14
          refine (SE.out _ (HK5.out.trans hw'.1 (fun _ _ h => h))).mono ?_
          rintro e w'' ⟨rfl, k''⟩
          exact ⟨rfl, Keep.trans hw'.1 k'' (fun _ _ h => h), MK.out _ (Keep.trans hw'.1 k'' (fun _ _ h => h))⟩
      simp only [Act.put, List.setIfInBounds_toArray, List.set_cons_zero, List.set_cons_succ]
      go_big_quiet_on
    | go_big_quiet_want
      apply quiet_reads
      case h =>
        intro w' hw'
        try dsimp only at hw'
        go_split_ands
        go_simp
        rfl
      simp only [Act.put, List.setIfInBounds_toArray, List.set_cons_zero, List.set_cons_succ]
      go_big_quiet_on
  refine wpQuiet_nil ?_
  intro w6 hw6
  go_wp2
  go_ret
  refine ⟨ret_bool ?_, HK5.out.trans hw6.1 (fun _ _ h => h)⟩
  rw [str_beq, HQ.out]
  simp


theorem own : ownKnob Try.prog.godebug = none := by kernel_rfl
theorem laidOut : laidOutB Try.prog = true := by kernel_rfl

namespace EntryUnlike
set_option maxRecDepth 100000 in
theorem lifted (os : Os) (started : os.Started) (H : Type) (enc : TypeId × Value → H) :
    ReturnsInHanded {} Try.checked os 7 .any (Rows.entryUnlikeSpec.pre6 enc Try.prog Try.f7 Rows.entryUnlikeRow.domain false) (Rows.entryUnlikeSpec.post enc Try.prog Try.f7 false true false false) := by
  refine returnsInHanded_of_change (C := Try.checked) own started (by kernel_rfl) Try.func7
    (ChangeSpec.witness6 (enc := enc) (C := Try.checked) false ⟨#[], #[.agg #[.int .i64 0, .int .u64 0, .int .u64 0, .slice none 0 0, .int .u64 0, .int .u64 0, .bool false, .int .u64 0, .int .i64 0, .int .u64 0, .int .u64 0, .slice none 0 0, .int .u64 0, .int .u64 0, .bool false, .int .u64 0], .agg #[.int .u64 0, .int .u64 0, .int .i64 0, .slice none 0 0, .int .u64 0, .int .u64 0, .int .i64 0, .slice none 0 0]], []⟩ 8 (by kernel_rfl) (by kernel_rfl) (by kernel_rfl) (by kernel_rfl)) ?_
  intro W base args ds gs before hval0 hW hcnd _
  have hval : ∀ (j : Nat) t v, Try.f7.params[j]? = some t → args[j]? = some v → Value.okWide Try.prog W .any base t v := hval0
  have hW' := hW
  obtain ⟨p, q, hA0, hV, rfl, hfz, hnd⟩ := hW
  have hA : DataW.TrodAll enc Try.prog W 0 (fun _ => true) true Try.f7.params.toList args.toList ds p := hA0
  rw [Try.params7] at hA hval
  obtain ⟨v0, vs0, d0, ds0, p0, q0, hargs, rfl, rfl, h0, r0⟩ := trodAll_cons hA
  obtain ⟨v1, vs1, d1, ds1, p1, q1, rfl, rfl, rfl, h1, r1⟩ := trodAll_cons r0
  obtain ⟨rfl, rfl, rfl⟩ := trodAll_nil r1
  obtain rfl : args = #[v0, v1] := by cases args; simp_all
  obtain ⟨rfl, rfl⟩ := trodVars_none hV
  have k0 := h0
  have k1 := h1
  have lt0 : ∀ x ∈ p0, x.block < W.heap.size := by obtain ⟨m, hm⟩ := k0; exact DataW.trod_lt m _ _ _ hm
  have lt1 : ∀ x ∈ p1, x.block < W.heap.size := by obtain ⟨m, hm⟩ := k1; exact DataW.trod_lt m _ _ _ hm
  obtain ⟨cs0, rfl, z0⟩ := okWide_array Try.underlying47 (hval 0 47 v0 rfl rfl)
  obtain ⟨cs1, rfl, z1⟩ := okWide_array Try.underlying48 (hval 1 48 v1 rfl rfl)
  have hC2 : Try.prog.cellsOf 47 = 16 := by kernel_rfl
  have hE2 : Try.prog.cellsOf 48 = 8 := by kernel_rfl
  have hC : Try.prog.cellsOf 38 = 8 := by kernel_rfl
  have hE : Try.prog.cellsOf 25 = 4 := by kernel_rfl
  rw [hC2] at z0
  rw [hE2] at z1
  clear hA0 hval0
  obtain ⟨l0⟩ := cs0
  obtain ⟨l1⟩ := cs1
  obtain ⟨fuel0, hf0⟩ := h0
  obtain ⟨fuel1, hf1⟩ := h1
  have hf0' : DataW.trod enc Try.prog W 0 (fun _ => true) true fuel0 47 l0 = some (d0, p0) := hf0
  have hf1' : DataW.trod enc Try.prog W 0 (fun _ => true) true fuel1 48 l1 = some (d1, p1) := hf1
  obtain ⟨xs, n, _, _, _, hxl, hg⟩ := DataW.trod_array Try.underlying47 hf0'
  obtain ⟨ys, m, _, _, _, hyl, hh⟩ := DataW.trod_array Try.underlying48 hf1'
  have zl0 : l0.length = 16 := z0
  have zl1 : l1.length = 8 := z1
  have g0 := hg 0 (by decide)
  have g1 := hg 1 (by decide)
  have e0 := hh 0 (by decide)
  have e1 := hh 1 (by decide)
  rw [hC] at g0 g1
  rw [hE] at e0 e1
  match xs, hxl with
  | [x0, x1], _ =>
    match ys, hyl with
    | [y0, y1], _ =>
      simp only [Nat.zero_mul, Nat.one_mul, List.drop_zero, List.getElem?_cons_zero, List.getElem?_cons_succ] at g0 g1 e0 e1
      obtain ⟨a, ha, la⟩ := open_cmd_at (by rw [List.length_take, zl0]; rfl) g0
      obtain ⟨b, hb, lb⟩ := open_cmd_at (by rw [List.length_take, List.length_drop, zl0]; rfl) g1
      obtain ⟨ei, et, ek, eu, ecs, he, hei, het, hec⟩ := open_ent_at (by rw [List.length_take, zl1]; rfl) e0
      obtain ⟨fi, ft, fk, fu, fcs, hf, hfi, hft, hfc⟩ := open_ent_at (by rw [List.length_take, List.length_drop, zl1]; rfl) e1
      have hl0 : l0 = a.cells.toList ++ b.cells.toList := by
        rw [← ha, ← hb, List.take_of_length_le (l := l0.drop 8) (by rw [List.length_drop, zl0]; decide), List.take_append_drop]
      have hl1 : l1 = [.int .u64 (ei : Int), .int .u64 (et : Int), .int .i64 ek, eu] ++ [.int .u64 (fi : Int), .int .u64 (ft : Int), .int .i64 fk, fu] := by
        rw [← he, ← hf, List.take_of_length_le (l := l1.drop 4) (by rw [List.length_drop, zl1]; decide), List.take_append_drop]
      clear ha hb he hf g0 g1 e0 e1 hg hh hxl hyl zl0 zl1 z0 z1 hf0 hf1 hf0' hf1'
      obtain ⟨ak, ases, aseq, agv, ats, agid, atok, agood, atime⟩ := a
      obtain ⟨bk, bses, bseq, bgv, bts, bgid, btok, bgood, btime⟩ := b
      have la' := la
      have lb' := lb
      have hec' := hec
      have hfc' := hfc
      obtain ⟨aA, ac, hav, _⟩ := la.ts.1
      obtain ⟨bA, bc, hbv, _⟩ := lb.ts.1
      obtain ⟨eA, ec, hev, _⟩ := hec
      obtain ⟨fA, fc, hfv, _⟩ := hfc
      simp only at hav hbv
      subst hav hbv hev hfv
      unfold Cmd.cells at hl0
      simp only [List.cons_append, List.nil_append] at hl0 hl1
      subst hl0 hl1
      refine (unlike_walk W ak ases aseq agid atok atime agood aA ac ats bk bses bseq bgid btok btime bgood bA bc bts ei et ek eA ec ecs fi ft fk fA fc fcs la' lb' hei het hfi hft hec' hfc').mono fun e W' ⟨he, bel0⟩ => ?_
      subst he
      have bel := bel0.all
      exact ⟨_, rfl, _, _, _, [], _, [], hW', trodAll_mk1 (shut_bool Try.underlying4 _), (trodAll_cons_mk (Below.trod laidOut (by kernel_rfl) (of_decide_eq_true (by kernel_rfl)) k0 bel lt0) (trodAll_cons_mk (Below.trod laidOut (by kernel_rfl) (of_decide_eq_true (by kernel_rfl)) k1 bel lt1) trodAll_mk0)), rfl, bel.frame _, fun h => by cases h⟩

theorem over : Rows.entryUnlikeRow.holds Try.pinned (OpenSpec.ofChange Rows.entryUnlikeSpec) :=
  OpenClaim.holds_of_wide 7 Try.f7 rfl rfl rfl rfl rfl rfl rfl ⟨rfl, rfl, rfl, rfl, rfl⟩ rfl rfl rfl rfl rfl (by kernel_rfl) Try.func7 (by kernel_rfl)
    (of_decide_eq_true (by kernel_rfl)) (by unfold Func.isWrapper; first | (rw [if_pos (by decide +kernel)]; kernel_rfl) | (rw [if_neg (by decide +kernel)]; exact ⟨rfl, rfl⟩))
    (fun os started H enc _ => lifted os started H enc)

theorem proved : Rows.EntryUnlikeSaid := over
end EntryUnlike
end Go.Proofs.Ytngbminjbgomgaa
