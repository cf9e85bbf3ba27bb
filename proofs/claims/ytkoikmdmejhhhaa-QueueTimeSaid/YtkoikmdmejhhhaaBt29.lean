/-
  Texts of the queue, merged: only what QueueTime wants.
-/
import Derived.Test.YtkoikmdmejhhhaaBt28
namespace Go.Proofs.Ytkoikmdmejhhhaa
open Go.RowKit
abbrev sixPut (w : World) (b : Nat) (x0 x1 x2 x3 x4 x5 : Value) : World := (((((w.setCell ⟨b, 0, none⟩ x0).setCell ⟨b, 1, none⟩ x1).setCell ⟨b, 2, none⟩ x2).setCell ⟨b, 3, none⟩ x3).setCell ⟨b, 4, none⟩ x4).setCell ⟨b, 5, none⟩ x5
theorem Box.put6 {w : World} {b : Nat} {t : TypeId} {y0 y1 y2 y3 y4 y5 : Value} (h : Box w b t #[y0, y1, y2, y3, y4, y5]) (x0 x1 x2 x3 x4 x5 : Value) : Box (sixPut w b x0 x1 x2 x3 x4 x5) b t #[x0, x1, x2, x3, x4, x5] := by
  exact (((((h.put 0 x0).put 1 x1).put 2 x2).put 3 x3).put 4 x4).put 5 x5
theorem Keep.put6 {S : Nat → Prop} {w w' : World} (h : Keep S w w') {b : Nat} (hb : b < w.heap.size → S b) (x0 x1 x2 x3 x4 x5 : Value) : Keep S w (sixPut w' b x0 x1 x2 x3 x4 x5) :=
  (((((h.setCell (p := ⟨b, 0, none⟩) hb x0).setCell (p := ⟨b, 1, none⟩) hb x1).setCell (p := ⟨b, 2, none⟩) hb x2).setCell (p := ⟨b, 3, none⟩) hb x3).setCell (p := ⟨b, 4, none⟩) hb x4).setCell (p := ⟨b, 5, none⟩) hb x5
theorem Box.six {w : World} {b : Nat} {t : TypeId} {y0 y1 y2 y3 y4 y5 : Value} (h : Box w b t #[y0, y1, y2, y3, y4, y5]) : w.cell? ⟨b, 0, none⟩ = some y0 ∧ w.cell? ⟨b, 1, none⟩ = some y1 ∧ w.cell? ⟨b, 2, none⟩ = some y2 ∧ w.cell? ⟨b, 3, none⟩ = some y3 ∧ w.cell? ⟨b, 4, none⟩ = some y4 ∧ w.cell? ⟨b, 5, none⟩ = some y5 :=
  ⟨h.cell 0, h.cell 1, h.cell 2, h.cell 3, h.cell 4, h.cell 5⟩
theorem Box.free6 {w : World} {b : Nat} {t : TypeId} {cs : Array Value} (h : Box w b t cs) : w.frozen? ⟨b, 0, none⟩ = false ∧ w.frozen? ⟨b, 1, none⟩ = false ∧ w.frozen? ⟨b, 2, none⟩ = false ∧ w.frozen? ⟨b, 3, none⟩ = false ∧ w.frozen? ⟨b, 4, none⟩ = false ∧ w.frozen? ⟨b, 5, none⟩ = false :=
  ⟨h.free 0, h.free 1, h.free 2, h.free 3, h.free 4, h.free 5⟩
structure Begun2 (w w1 : World) (D : Nat → Prop) (q : Qm) (c : Cm) : Prop where
  at_ : QAt w1 D q
  lt : ∀ i, D i → i < w.heap.size
  keep : Keep noneOf w w1
  cm : Box w1 w.heap.size 31 #[.int .i64 c.kind, .int .u64 c.ses, .int .u64 c.seq, c.gv, .int .u64 c.id, .int .u64 c.tok, .bool c.good, .int .u64 c.time]
  an : Box w1 (w.heap.size + 1) 34 #[.int .i64 0, .int .u64 0, .int .u64 0, .int .u64 0, .string ⟨#[]⟩, .string ⟨#[]⟩]
theorem begun2 {w : World} {D : Nat → Prop} {q : Qm} (h : QAt w D q) (c : Cm) : Begun2 w ((w.alloc (.cells #[.int .i64 c.kind, .int .u64 c.ses, .int .u64 c.seq, c.gv, .int .u64 c.id, .int .u64 c.tok, .bool c.good, .int .u64 c.time] 31)).alloc (.cells #[.int .i64 0, .int .u64 0, .int .u64 0, .int .u64 0, .string ⟨#[]⟩, .string ⟨#[]⟩] 34)) D q c := by
  have kb := ((Keep.refl noneOf w).alloc (.cells c.cells.toArray 31)).alloc (.cells (An.cells .zero).toArray 34)
  have hb := Box.new (w.alloc (.cells c.cells.toArray 31)) 34 (An.cells .zero).toArray
  exact ⟨h.stay kb, h.lt, kb, (Box.new w 31 c.cells.toArray).alloc (.cells (An.cells .zero).toArray 34), by rw [show (w.alloc (.cells c.cells.toArray 31)).heap.size = w.heap.size + 1 from by simp] at hb; exact hb⟩
theorem refusal_lit (w : World) (n : Int) : Calls Try.prog 13 #[.int .i64 n] w fun e w' => e = .returned (.agg #[.int .i64 n, .int .u64 0, .int .u64 0, .int .u64 0, .string ⟨#[]⟩, .string ⟨#[]⟩]) ∧ Keep noneOf w w' := refusal_any w n
end Go.Proofs.Ytkoikmdmejhhhaa
namespace Go.Proofs.Ytkoikmdmejhhhaa
open Go.RowKit
set_option maxRecDepth 100000 in
set_option maxHeartbeats 4000000 in
theorem qopen_any (w : World) (D : Nat → Prop) (q : Qm) (h : QAt w D q) (c : Cm) (hs : 0 ≤ c.ses ∧ c.ses ≤ top) :
    Calls Try.prog 21 #[.pointer (some ⟨q.p, 0, none⟩), c.agg] w (Does q D ({ q.plain with ses := openL q.ses c.ses }, .err (openE q.ses c.ses)) w) := by
  have HB := Lib.hid (begun2 h c)
  have HS := Lib.hid hs
  unfold Cm.agg
  clear h hs
  go_enter Try.func21, Try.ntmps21
  go_wp2
  generalize (w.alloc (.cells #[.int .i64 c.kind, .int .u64 c.ses, .int .u64 c.seq, c.gv, .int .u64 c.id, .int .u64 c.tok, .bool c.good, .int .u64 c.time] 31)).alloc (.cells #[.int .i64 0, .int .u64 0, .int .u64 0, .int .u64 0, .string ⟨#[]⟩, .string ⟨#[]⟩] 34) = w1 at *
  have B := HB.out
  have hlp := B.lt _ (B.at_.inD _ (.inl rfl))
  have hlm := B.lt _ (B.at_.inD _ (.inr (.inr (.inl rfl))))
  have hpm := B.at_.p_ne_m
  have MK : Hid (∀ w', Keep (fun i => i = q.m ∨ i = w.heap.size + 1) w1 w' → w'.cell? ⟨q.p, 3, none⟩ = some (.pointer (some ⟨q.tp, 0, none⟩)) ∧ w'.cell? ⟨w.heap.size, 1, none⟩ = some (.int .u64 c.ses)) := Lib.hid fun w' k' =>
    ⟨(B.at_.box.keep k' (by omega)).cell 3, (B.cm.keep k' (by omega)).cell 1⟩
  have OP : Hid (∀ w', Keep noneOf w1 w' → Calls Try.prog 38 #[.pointer (some ⟨q.tp, 0, none⟩), .int .u64 c.ses] w' fun e w'' => e = .returned (.int .i64 (openE q.ses c.ses)) ∧ TabAt w'' q.tp q.m (openL q.ses c.ses) ∧ Keep (fun i => i = q.m) w' w'') :=
    Lib.hid fun w' k' => open_any w' q.tp q.m q.ses c.ses (B.at_.tab.stay k') HS.out.1 HS.out.2
  have RF := Lib.hid (fun w' n => refusal_lit w' n)
  have MS : Hid (∀ w', Keep (fun i => i = q.m) w1 w' → Box w' (w.heap.size + 1) 34 #[.int .i64 0, .int .u64 0, .int .u64 0, .int .u64 0, .string ⟨#[]⟩, .string ⟨#[]⟩]) := Lib.hid fun w' k' => B.an.keep k' (by omega)
  have FIN : Hid (∀ w2 w3, TabAt w2 q.tp q.m (openL q.ses c.ses) → Keep (fun i => i = q.m) w1 w2 → Keep noneOf w2 w3 → ∀ x0 x1 x2 x3 x4 x5, QAt (sixPut w3 (w.heap.size + 1) x0 x1 x2 x3 x4 x5) (grown w (sixPut w3 (w.heap.size + 1) x0 x1 x2 x3 x4 x5) D) { q with ses := openL q.ses c.ses } ∧ Keep D w (sixPut w3 (w.heap.size + 1) x0 x1 x2 x3 x4 x5)) := Lib.hid fun w2 w3 ht k2 k3 x0 x1 x2 x3 x4 x5 => by
    have q2 := (B.at_.sessions ht k2).stay k3
    have kp := (Keep.refl (fun i => i = w.heap.size + 1) w3).put6 (b := w.heap.size + 1) (fun _ => rfl) x0 x1 x2 x3 x4 x5
    have q3 := q2.keep kp (fun i hi e => by have := B.lt i hi; omega)
    have kD : Keep D w (sixPut w3 (w.heap.size + 1) x0 x1 x2 x3 x4 x5) := (((Keep.wide B.keep).trans k2 (fun i _ e => by subst e; exact B.at_.inD _ (.inr (.inr (.inl rfl))))).andNone k3).trans kp (fun i hi e => by omega)
    exact ⟨q3.wide (fun i hi => .inl hi) (grown_lt B.lt kD.size), kD⟩
  have K0 := Keep.refl noneOf w1
  have KS := Keep.refl (fun i => i = q.m ∨ i = w.heap.size + 1) w1
  generalize openE q.ses c.ses = E at *
  clear B HS hlp hlm hpm
  go_region_held3 (fun w' => Keep (fun i => i = q.m ∨ i = w.heap.size + 1) w1 w' ∧ w'.cell? ⟨q.p, 3, none⟩ = some (.pointer (some ⟨q.tp, 0, none⟩)) ∧ w'.cell? ⟨w.heap.size, 1, none⟩ = some (.int .u64 c.ses))
    (first | (with_reducible exact ⟨KS.drew, MK.out _ KS.drew⟩) | (refine (fun k => ⟨k, MK.out _ k⟩) ?_; first | (with_reducible exact Keep.andNone (And.left (by assumption)) (by assumption)) | (with_reducible refine Keep.trans (And.left (by assumption)) (by assumption) ?_; exact fun _ _ e => Or.inl e) | (with_reducible refine Keep.put6 (And.left (by assumption)) ?_ _ _ _ _ _ _; exact fun _ => Or.inr rfl)))
    (first | (go_at_call 38; refine (OP.out _ K0.drew).mono ?_; rintro e w2 ⟨rfl, ht, k2⟩) | (go_at_call 13; refine (RF.out _ _).mono ?_; rintro e w3 ⟨rfl, k3⟩; obtain ⟨c0, c1, c2, c3, c4, c5⟩ := (MS.out _ ((K0.drew.wide.trans k2 (fun _ _ h => h)).andNone k3)).six; obtain ⟨f0, f1, f2, f3, f4, f5⟩ := (MS.out _ ((K0.drew.wide.trans k2 (fun _ _ h => h)).andNone k3)).free6))
  replace k2 : Keep (fun i => i = q.m) w1 w2 := K0.drew.wide.trans k2 (fun _ _ h => h)
  obtain ⟨hq, hk⟩ := FIN.out _ _ ht k2 k3 (.int .i64 E) (.int .u64 0) (.int .u64 0) (.int .u64 0) (.string ⟨#[]⟩) (.string ⟨#[]⟩)
  have HBX := Lib.hid ((MS.out _ (k2.andNone k3)).put6 (.int .i64 E) (.int .u64 0) (.int .u64 0) (.int .u64 0) (.string ⟨#[]⟩) (.string ⟨#[]⟩))
  have HQ := Lib.hid hq
  have HK := Lib.hid hk
  clear hq hk FIN MS MK OP RF K0 KS ht k2 k3 c0 c1 c2 c3 c4 c5 f0 f1 f2 f3 f4 f5
  unfold sixPut at *
  generalize (((((w3.setCell ⟨w.heap.size + 1, 0, none⟩ (.int .i64 E)).setCell ⟨w.heap.size + 1, 1, none⟩ (.int .u64 0)).setCell ⟨w.heap.size + 1, 2, none⟩ (.int .u64 0)).setCell ⟨w.heap.size + 1, 3, none⟩ (.int .u64 0)).setCell ⟨w.heap.size + 1, 4, none⟩ (.string ⟨#[]⟩)).setCell ⟨w.heap.size + 1, 5, none⟩ (.string ⟨#[]⟩) = wf at *
  go_wp2
  obtain ⟨r0, r1, r2, r3, r4, r5⟩ := HBX.out.six
  exact bodyPost_ret (v := (An.err E).agg) (by simp [results, Try.results21, go_sem, An.err, An.agg, r0, r1, r2, r3, r4, r5]) rfl ⟨_, rfl, HQ.out, rfl, rfl, HK.out⟩
end Go.Proofs.Ytkoikmdmejhhhaa
