import Derived.Test.YtdikmmdkpfmocaaBs34
namespace Go.Proofs.Ytdikmmdkpfmocaa
open Go.RowKit Go.Shelf
def rightP (m : Pm) : Bool := headP m && bareP m && entsP m && (!decide (m.k = 7) || chunkP m)
theorem Mg.lies.shp {w : World} {D : Nat → Prop} {m : Mg} (h : m.lies w D) : m.shp := h.shapes
set_option maxRecDepth 100000 in
set_option maxHeartbeats 2000000 in
theorem right_any (w : World) (D : Nat → Prop) (m : Mg) (h : m.lies w D) :
    Calls Try.prog 12 #[.agg m.cells] w fun e w' => e = .returned (.bool (rightP m.plain)) ∧ Keep noneOf w w' := by
  have KB := (Keep.refl noneOf w).alloc (.cells m.cells 29)
  have HB : Hid (MBox (w.alloc (.cells m.cells 29)) w.heap.size m) := Lib.hid (Box.new w 29 m.cells)
  have HK := Lib.hid KB
  have HL := Lib.hid (h.keepN KB)
  have c0 : (w.alloc (.cells m.cells 29)).cell? ⟨w.heap.size, 0, none⟩ = some (.int .i64 m.k) := (HB.out.cell 0).trans m.at0
  have c1 : (w.alloc (.cells m.cells 29)).cell? ⟨w.heap.size, 1, none⟩ = some (.int .i64 m.fr) := (HB.out.cell 1).trans m.at1
  have c2 : (w.alloc (.cells m.cells 29)).cell? ⟨w.heap.size, 2, none⟩ = some (.int .i64 m.to) := (HB.out.cell 2).trans m.at2
  have c3 : (w.alloc (.cells m.cells 29)).cell? ⟨w.heap.size, 3, none⟩ = some (.int .u64 (m.te : Int)) := (HB.out.cell 3).trans m.at3
  have c4 : (w.alloc (.cells m.cells 29)).cell? ⟨w.heap.size, 4, none⟩ = some (.int .u64 (m.ix : Int)) := (HB.out.cell 4).trans m.at4
  have c5 : (w.alloc (.cells m.cells 29)).cell? ⟨w.heap.size, 5, none⟩ = some (.int .u64 (m.lt : Int)) := (HB.out.cell 5).trans m.at5
  have c6 : (w.alloc (.cells m.cells 29)).cell? ⟨w.heap.size, 6, none⟩ = some (.int .u64 (m.cm : Int)) := (HB.out.cell 6).trans m.at6
  have c7 : (w.alloc (.cells m.cells 29)).cell? ⟨w.heap.size, 7, none⟩ = some (.int .u64 (m.rd : Int)) := (HB.out.cell 7).trans m.at7
  have c8 : (w.alloc (.cells m.cells 29)).cell? ⟨w.heap.size, 8, none⟩ = some (.bool m.gd) := (HB.out.cell 8).trans m.at8
  have c9 : (w.alloc (.cells m.cells 29)).cell? ⟨w.heap.size, 9, none⟩ = some (m.ev) := (HB.out.cell 9).trans m.at9
  have c10 : (w.alloc (.cells m.cells 29)).cell? ⟨w.heap.size, 10, none⟩ = some (m.va) := (HB.out.cell 10).trans m.at10
  have c11 : (w.alloc (.cells m.cells 29)).cell? ⟨w.heap.size, 11, none⟩ = some (m.la) := (HB.out.cell 11).trans m.at11
  have c12 : (w.alloc (.cells m.cells 29)).cell? ⟨w.heap.size, 12, none⟩ = some (.int .u64 (m.off : Int)) := (HB.out.cell 12).trans m.at12
  have c13 : (w.alloc (.cells m.cells 29)).cell? ⟨w.heap.size, 13, none⟩ = some (.int .u64 (m.wh : Int)) := (HB.out.cell 13).trans m.at13
  have c14 : (w.alloc (.cells m.cells 29)).cell? ⟨w.heap.size, 14, none⟩ = some (m.dv) := (HB.out.cell 14).trans m.at14
  have C1 := Lib.hid (rightHead_any (w.alloc (.cells m.cells 29)) m)
  have C2 := Lib.hid (fun w => bare_any w m h.shp)
  have C3 := Lib.hid (fun w (hl : m.lies w D) => rightEntries_any w D m hl)
  have C4 := Lib.hid (fun w (hl : m.lies w D) => rightChunk_any w D m hl)
  have hp : rightP m.plain = (headP m.plain && bareP m.plain && entsP m.plain && ((m.k != 7) || chunkP m.plain)) := by
    unfold rightP
    have e : (!decide (m.plain.k = 7)) = (m.k != 7) := by rw [Bool.eq_iff_iff]; simp [show m.plain.k = m.k from rfl]
    rw [e]
  rw [hp]
  clear hp KB h
  have e0 : (Value.agg m.cells).cells = m.cells := rfl
  generalize headP m.plain = b1 at *
  generalize bareP m.plain = b2 at *
  generalize entsP m.plain = b3 at *
  generalize chunkP m.plain = b4 at *
  obtain ⟨g, hg⟩ : ∃ g, (m.k != 7) = g := ⟨_, rfl⟩
  rw [hg]
  go_enter Try.func12, Try.ntmps12
  go_wp2_with fail
  refine C1.out.mono ?_
  rintro e w1 ⟨rfl, k1⟩
  have HK1 := Lib.hid (HK.out.trans k1 (fun _ _ h => h))
  have HB1 : Hid (MBox w1 w.heap.size m) := Lib.hid (HB.out.keep k1 id)
  have HL1 := Lib.hid (HL.out.keepN k1)
  clear c0 c1 c2 c3 c4 c5 c6 c7 c8 c9 c10 c11 c12 c13 c14
  have c0 : w1.cell? ⟨w.heap.size, 0, none⟩ = some (.int .i64 m.k) := (HB1.out.cell 0).trans m.at0
  have c1 : w1.cell? ⟨w.heap.size, 1, none⟩ = some (.int .i64 m.fr) := (HB1.out.cell 1).trans m.at1
  have c2 : w1.cell? ⟨w.heap.size, 2, none⟩ = some (.int .i64 m.to) := (HB1.out.cell 2).trans m.at2
  have c3 : w1.cell? ⟨w.heap.size, 3, none⟩ = some (.int .u64 (m.te : Int)) := (HB1.out.cell 3).trans m.at3
  have c4 : w1.cell? ⟨w.heap.size, 4, none⟩ = some (.int .u64 (m.ix : Int)) := (HB1.out.cell 4).trans m.at4
  have c5 : w1.cell? ⟨w.heap.size, 5, none⟩ = some (.int .u64 (m.lt : Int)) := (HB1.out.cell 5).trans m.at5
  have c6 : w1.cell? ⟨w.heap.size, 6, none⟩ = some (.int .u64 (m.cm : Int)) := (HB1.out.cell 6).trans m.at6
  have c7 : w1.cell? ⟨w.heap.size, 7, none⟩ = some (.int .u64 (m.rd : Int)) := (HB1.out.cell 7).trans m.at7
  have c8 : w1.cell? ⟨w.heap.size, 8, none⟩ = some (.bool m.gd) := (HB1.out.cell 8).trans m.at8
  have c9 : w1.cell? ⟨w.heap.size, 9, none⟩ = some (m.ev) := (HB1.out.cell 9).trans m.at9
  have c10 : w1.cell? ⟨w.heap.size, 10, none⟩ = some (m.va) := (HB1.out.cell 10).trans m.at10
  have c11 : w1.cell? ⟨w.heap.size, 11, none⟩ = some (m.la) := (HB1.out.cell 11).trans m.at11
  have c12 : w1.cell? ⟨w.heap.size, 12, none⟩ = some (.int .u64 (m.off : Int)) := (HB1.out.cell 12).trans m.at12
  have c13 : w1.cell? ⟨w.heap.size, 13, none⟩ = some (.int .u64 (m.wh : Int)) := (HB1.out.cell 13).trans m.at13
  have c14 : w1.cell? ⟨w.heap.size, 14, none⟩ = some (m.dv) := (HB1.out.cell 14).trans m.at14
  clear k1 HK HB HL
  cases b1
  · go_wp2
    go_ret
    exact ⟨ret_bool (by simp), HK1.out⟩
  go_wp2_with fail
  refine (C2.out w1).mono ?_
  rintro e w2 ⟨rfl, k2⟩
  have HK2 := Lib.hid (HK1.out.trans k2 (fun _ _ h => h))
  have HB2 : Hid (MBox w2 w.heap.size m) := Lib.hid (HB1.out.keep k2 id)
  have HL2 := Lib.hid (HL1.out.keepN k2)
  clear c0 c1 c2 c3 c4 c5 c6 c7 c8 c9 c10 c11 c12 c13 c14
  have c0 : w2.cell? ⟨w.heap.size, 0, none⟩ = some (.int .i64 m.k) := (HB2.out.cell 0).trans m.at0
  have c1 : w2.cell? ⟨w.heap.size, 1, none⟩ = some (.int .i64 m.fr) := (HB2.out.cell 1).trans m.at1
  have c2 : w2.cell? ⟨w.heap.size, 2, none⟩ = some (.int .i64 m.to) := (HB2.out.cell 2).trans m.at2
  have c3 : w2.cell? ⟨w.heap.size, 3, none⟩ = some (.int .u64 (m.te : Int)) := (HB2.out.cell 3).trans m.at3
  have c4 : w2.cell? ⟨w.heap.size, 4, none⟩ = some (.int .u64 (m.ix : Int)) := (HB2.out.cell 4).trans m.at4
  have c5 : w2.cell? ⟨w.heap.size, 5, none⟩ = some (.int .u64 (m.lt : Int)) := (HB2.out.cell 5).trans m.at5
  have c6 : w2.cell? ⟨w.heap.size, 6, none⟩ = some (.int .u64 (m.cm : Int)) := (HB2.out.cell 6).trans m.at6
  have c7 : w2.cell? ⟨w.heap.size, 7, none⟩ = some (.int .u64 (m.rd : Int)) := (HB2.out.cell 7).trans m.at7
  have c8 : w2.cell? ⟨w.heap.size, 8, none⟩ = some (.bool m.gd) := (HB2.out.cell 8).trans m.at8
  have c9 : w2.cell? ⟨w.heap.size, 9, none⟩ = some (m.ev) := (HB2.out.cell 9).trans m.at9
  have c10 : w2.cell? ⟨w.heap.size, 10, none⟩ = some (m.va) := (HB2.out.cell 10).trans m.at10
  have c11 : w2.cell? ⟨w.heap.size, 11, none⟩ = some (m.la) := (HB2.out.cell 11).trans m.at11
  have c12 : w2.cell? ⟨w.heap.size, 12, none⟩ = some (.int .u64 (m.off : Int)) := (HB2.out.cell 12).trans m.at12
  have c13 : w2.cell? ⟨w.heap.size, 13, none⟩ = some (.int .u64 (m.wh : Int)) := (HB2.out.cell 13).trans m.at13
  have c14 : w2.cell? ⟨w.heap.size, 14, none⟩ = some (m.dv) := (HB2.out.cell 14).trans m.at14
  clear k2 HK1 HB1 HL1
  cases b2
  · go_wp2
    go_ret
    exact ⟨ret_bool (by simp), HK2.out⟩
  go_wp2_with fail
  refine (C3.out w2 HL2.out).mono ?_
  rintro e w3 ⟨rfl, k3⟩
  have HK3 := Lib.hid (HK2.out.trans k3 (fun _ _ h => h))
  have HB3 : Hid (MBox w3 w.heap.size m) := Lib.hid (HB2.out.keep k3 id)
  have HL3 := Lib.hid (HL2.out.keepN k3)
  clear c0 c1 c2 c3 c4 c5 c6 c7 c8 c9 c10 c11 c12 c13 c14
  have c0 : w3.cell? ⟨w.heap.size, 0, none⟩ = some (.int .i64 m.k) := (HB3.out.cell 0).trans m.at0
  have c1 : w3.cell? ⟨w.heap.size, 1, none⟩ = some (.int .i64 m.fr) := (HB3.out.cell 1).trans m.at1
  have c2 : w3.cell? ⟨w.heap.size, 2, none⟩ = some (.int .i64 m.to) := (HB3.out.cell 2).trans m.at2
  have c3 : w3.cell? ⟨w.heap.size, 3, none⟩ = some (.int .u64 (m.te : Int)) := (HB3.out.cell 3).trans m.at3
  have c4 : w3.cell? ⟨w.heap.size, 4, none⟩ = some (.int .u64 (m.ix : Int)) := (HB3.out.cell 4).trans m.at4
  have c5 : w3.cell? ⟨w.heap.size, 5, none⟩ = some (.int .u64 (m.lt : Int)) := (HB3.out.cell 5).trans m.at5
  have c6 : w3.cell? ⟨w.heap.size, 6, none⟩ = some (.int .u64 (m.cm : Int)) := (HB3.out.cell 6).trans m.at6
  have c7 : w3.cell? ⟨w.heap.size, 7, none⟩ = some (.int .u64 (m.rd : Int)) := (HB3.out.cell 7).trans m.at7
  have c8 : w3.cell? ⟨w.heap.size, 8, none⟩ = some (.bool m.gd) := (HB3.out.cell 8).trans m.at8
  have c9 : w3.cell? ⟨w.heap.size, 9, none⟩ = some (m.ev) := (HB3.out.cell 9).trans m.at9
  have c10 : w3.cell? ⟨w.heap.size, 10, none⟩ = some (m.va) := (HB3.out.cell 10).trans m.at10
  have c11 : w3.cell? ⟨w.heap.size, 11, none⟩ = some (m.la) := (HB3.out.cell 11).trans m.at11
  have c12 : w3.cell? ⟨w.heap.size, 12, none⟩ = some (.int .u64 (m.off : Int)) := (HB3.out.cell 12).trans m.at12
  have c13 : w3.cell? ⟨w.heap.size, 13, none⟩ = some (.int .u64 (m.wh : Int)) := (HB3.out.cell 13).trans m.at13
  have c14 : w3.cell? ⟨w.heap.size, 14, none⟩ = some (m.dv) := (HB3.out.cell 14).trans m.at14
  clear k3 HK2 HB2 HL2
  cases b3
  · go_wp2
    go_ret
    exact ⟨ret_bool (by simp), HK3.out⟩
  cases g
  · go_wp2_with fail
    refine (C4.out w3 HL3.out).mono ?_
    rintro e w4 ⟨rfl, k4⟩
    have HK4 := Lib.hid (HK3.out.trans k4 (fun _ _ h => h))
    clear k4
    go_wp2
    go_ret
    exact ⟨ret_bool (by simp), HK4.out⟩
  · go_wp2
    go_ret
    exact ⟨ret_bool (by simp), HK3.out⟩
end Go.Proofs.Ytdikmmdkpfmocaa
