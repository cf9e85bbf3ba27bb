import Derived.Test.YtdikmmdkpfmocaaBs47
namespace Go.Proofs.Ytdikmmdkpfmocaa
open Go.RowKit Go.Shelf
theorem str_bool (a b : List UInt8) : ((strOf a).toList == (strOf b).toList) = true ↔ a = b := by
  have h := str_beq (strOf a) (strOf b)
  rw [h, decide_eq_true_eq, strOf_eq]
set_option maxRecDepth 100000 in
set_option maxHeartbeats 4000000 in
theorem msame_any (w : World) (D D' : Nat → Prop) (a b : Mg) (h : a.lies w D) (h' : b.lies w D') :
    Calls Try.prog 10 #[.agg a.cells, .agg b.cells] w (Says (a.plain = b.plain) w) := by
  have K1 := (Keep.refl noneOf w).alloc (.cells a.cells 29)
  have K2 := K1.alloc (.cells b.cells 29)
  have HA : Hid (MBox ((w.alloc (.cells a.cells 29)).alloc (.cells b.cells 29)) w.heap.size a) := Lib.hid ((Box.new w 29 a.cells).alloc _)
  have HB : Hid (MBox ((w.alloc (.cells a.cells 29)).alloc (.cells b.cells 29)) (w.heap.size + 1) b) := Lib.hid (by have := Box.new (w.alloc (.cells a.cells 29)) 29 b.cells; rw [World.size_alloc] at this; exact this)
  have HK := Lib.hid K2
  have HL := Lib.hid (h.keepN K2)
  have HL' := Lib.hid (h'.keepN K2)
  have ea : (Value.agg a.cells).cells = a.cells := rfl
  have eb : (Value.agg b.cells).cells = b.cells := rfl
  have CE := Lib.hid (sameEntries_any ((w.alloc (.cells a.cells 29)).alloc (.cells b.cells 29)) _ _ a.ev b.ev a.es b.es HL.out.es HL'.out.es)
  have CC := Lib.hid (fun w' (k : Keep noneOf ((w.alloc (.cells a.cells 29)).alloc (.cells b.cells 29)) w') => rsame_any w' _ _ (.agg #[a.va, a.la]) (.agg #[b.va, b.la]) a.c b.c (CfAt.keepN ⟨_, _, rfl, HL.out.vs, HL.out.ls⟩ k) (CfAt.keepN ⟨_, _, rfl, HL'.out.vs, HL'.out.ls⟩ k))
  have HS := Lib.hid h.shapes
  have HS' := Lib.hid h'.shapes
  clear K1 K2 h h'
  have c9 : ((w.alloc (.cells a.cells 29)).alloc (.cells b.cells 29)).cell? ⟨w.heap.size, 9, none⟩ = some a.ev := (HA.out.cell 9).trans a.at9
  have d9 : ((w.alloc (.cells a.cells 29)).alloc (.cells b.cells 29)).cell? ⟨w.heap.size + 1, 9, none⟩ = some b.ev := (HB.out.cell 9).trans b.at9
  go_enter Try.func10, Try.ntmps10
  go_wp2_with fail
  refine CE.out.mono ?_
  rintro e w1 ⟨R1, rfl, hR1, k1⟩
  have HR1 := Lib.hid hR1
  have HK1 := Lib.hid (HK.out.trans k1 (fun _ _ h => h))
  have HA1 : Hid (MBox w1 w.heap.size a) := Lib.hid (HA.out.keep k1 id)
  have HB1 : Hid (MBox w1 (w.heap.size + 1) b) := Lib.hid (HB.out.keep k1 id)
  have HL1 := Lib.hid (HL.out.keepN k1)
  have HL1' := Lib.hid (HL'.out.keepN k1)
  have CC1 := Lib.hid (CC.out w1 k1)
  obtain ⟨_, ⟨A10, n10, h10⟩, ⟨A11, n11, h11⟩, ⟨A14, n14, h14⟩⟩ := HS.out
  obtain ⟨_, ⟨B10, m10, g10⟩, ⟨B11, m11, g11⟩, ⟨B14, m14, g14⟩⟩ := HS'.out
  have c10 : w1.cell? ⟨w.heap.size, 10, none⟩ = some (.slice A10 a.c.v.length n10) := by rw [← h10]; exact (HA1.out.cell 10).trans a.at10
  have c11 : w1.cell? ⟨w.heap.size, 11, none⟩ = some (.slice A11 a.c.l.length n11) := by rw [← h11]; exact (HA1.out.cell 11).trans a.at11
  have d10 : w1.cell? ⟨w.heap.size + 1, 10, none⟩ = some (.slice B10 b.c.v.length m10) := by rw [← g10]; exact (HB1.out.cell 10).trans b.at10
  have d11 : w1.cell? ⟨w.heap.size + 1, 11, none⟩ = some (.slice B11 b.c.l.length m11) := by rw [← g11]; exact (HB1.out.cell 11).trans b.at11
  rw [h10, h11, g10, g11] at CC1
  have H14 := Lib.hid h14
  have G14 := Lib.hid g14
  clear hR1 k1 c9 d9 CE HK HA HB HL HL' CC HS HS' h10 h11 h14 g10 g11 g14
  go_wp2_with fail
  refine CC1.out.mono ?_
  rintro e w2 ⟨rfl, k2⟩
  have HK2 := Lib.hid (HK1.out.trans k2 (fun _ _ h => h))
  have hA2 : MBox w2 w.heap.size a := HA1.out.keep k2 id
  have hB2 : MBox w2 (w.heap.size + 1) b := HB1.out.keep k2 id
  have HL2 := Lib.hid (HL1.out.keepN k2)
  have HL2' := Lib.hid (HL1'.out.keepN k2)
  have HR2 : Hid (sameP a.c b.c = true ↔ a.c = b.c) := Lib.hid same_iff
  generalize sameP a.c b.c = R2 at *
  have r1 := run_str HL2.out.da
  have r2 := run_str HL2'.out.da
  rw [H14.out] at r1
  rw [G14.out] at r2
  have HRS := Lib.hid (str_bool a.da b.da)
  have c14 : w2.cell? ⟨w.heap.size, 14, none⟩ = some (.slice A14 a.da.length n14) := by rw [← H14.out]; exact (hA2.cell 14).trans a.at14
  have d14 : w2.cell? ⟨w.heap.size + 1, 14, none⟩ = some (.slice B14 b.da.length m14) := by rw [← G14.out]; exact (hB2.cell 14).trans b.at14
  have c0 : w2.cell? ⟨w.heap.size, 0, none⟩ = some (.int .i64 a.k) := (hA2.cell 0).trans a.at0
  have d0 : w2.cell? ⟨w.heap.size + 1, 0, none⟩ = some (.int .i64 b.k) := (hB2.cell 0).trans b.at0
  have c1 : w2.cell? ⟨w.heap.size, 1, none⟩ = some (.int .i64 a.fr) := (hA2.cell 1).trans a.at1
  have d1 : w2.cell? ⟨w.heap.size + 1, 1, none⟩ = some (.int .i64 b.fr) := (hB2.cell 1).trans b.at1
  have c2 : w2.cell? ⟨w.heap.size, 2, none⟩ = some (.int .i64 a.to) := (hA2.cell 2).trans a.at2
  have d2 : w2.cell? ⟨w.heap.size + 1, 2, none⟩ = some (.int .i64 b.to) := (hB2.cell 2).trans b.at2
  have c3 : w2.cell? ⟨w.heap.size, 3, none⟩ = some (.int .u64 (a.te : Int)) := (hA2.cell 3).trans a.at3
  have d3 : w2.cell? ⟨w.heap.size + 1, 3, none⟩ = some (.int .u64 (b.te : Int)) := (hB2.cell 3).trans b.at3
  have c4 : w2.cell? ⟨w.heap.size, 4, none⟩ = some (.int .u64 (a.ix : Int)) := (hA2.cell 4).trans a.at4
  have d4 : w2.cell? ⟨w.heap.size + 1, 4, none⟩ = some (.int .u64 (b.ix : Int)) := (hB2.cell 4).trans b.at4
  have c5 : w2.cell? ⟨w.heap.size, 5, none⟩ = some (.int .u64 (a.lt : Int)) := (hA2.cell 5).trans a.at5
  have d5 : w2.cell? ⟨w.heap.size + 1, 5, none⟩ = some (.int .u64 (b.lt : Int)) := (hB2.cell 5).trans b.at5
  have c6 : w2.cell? ⟨w.heap.size, 6, none⟩ = some (.int .u64 (a.cm : Int)) := (hA2.cell 6).trans a.at6
  have d6 : w2.cell? ⟨w.heap.size + 1, 6, none⟩ = some (.int .u64 (b.cm : Int)) := (hB2.cell 6).trans b.at6
  have c7 : w2.cell? ⟨w.heap.size, 7, none⟩ = some (.int .u64 (a.rd : Int)) := (hA2.cell 7).trans a.at7
  have d7 : w2.cell? ⟨w.heap.size + 1, 7, none⟩ = some (.int .u64 (b.rd : Int)) := (hB2.cell 7).trans b.at7
  have c8 : w2.cell? ⟨w.heap.size, 8, none⟩ = some (.bool a.gd) := (hA2.cell 8).trans a.at8
  have d8 : w2.cell? ⟨w.heap.size + 1, 8, none⟩ = some (.bool b.gd) := (hB2.cell 8).trans b.at8
  have c12 : w2.cell? ⟨w.heap.size, 12, none⟩ = some (.int .u64 (a.off : Int)) := (hA2.cell 12).trans a.at12
  have d12 : w2.cell? ⟨w.heap.size + 1, 12, none⟩ = some (.int .u64 (b.off : Int)) := (hB2.cell 12).trans b.at12
  have c13 : w2.cell? ⟨w.heap.size, 13, none⟩ = some (.int .u64 (a.wh : Int)) := (hA2.cell 13).trans a.at13
  have d13 : w2.cell? ⟨w.heap.size + 1, 13, none⟩ = some (.int .u64 (b.wh : Int)) := (hB2.cell 13).trans b.at13
  clear k2 hA2 hB2 HL2 HL2' HL1 HL1' HA1 HB1 HK1 CC1 H14 G14 c10 c11 d10 d11
  obtain ⟨gs, hgs⟩ : ∃ g, ((strOf a.da).toList == (strOf b.da).toList) = g := ⟨_, rfl⟩
  rw [hgs] at HRS
  have hgs' : ((strOf a.da).toList != (strOf b.da).toList) = !gs := by rw [← hgs]; rfl
  have HI0 : Hid ((a.k == b.k) = true ↔ a.k = b.k) := Lib.hid (by rw [beq_iff_eq])
  obtain ⟨g0, hg0⟩ : ∃ g, (a.k == b.k) = g := ⟨_, rfl⟩
  rw [hg0] at HI0
  have HI1 : Hid ((a.fr == b.fr) = true ↔ a.fr = b.fr) := Lib.hid (by rw [beq_iff_eq])
  obtain ⟨g1, hg1⟩ : ∃ g, (a.fr == b.fr) = g := ⟨_, rfl⟩
  rw [hg1] at HI1
  have HI2 : Hid ((a.to == b.to) = true ↔ a.to = b.to) := Lib.hid (by rw [beq_iff_eq])
  obtain ⟨g2, hg2⟩ : ∃ g, (a.to == b.to) = g := ⟨_, rfl⟩
  rw [hg2] at HI2
  have HI3 : Hid (((a.te : Int) == (b.te : Int)) = true ↔ a.te = b.te) := Lib.hid (by rw [beq_iff_eq]; omega)
  obtain ⟨g3, hg3⟩ : ∃ g, ((a.te : Int) == (b.te : Int)) = g := ⟨_, rfl⟩
  rw [hg3] at HI3
  have HI4 : Hid (((a.ix : Int) == (b.ix : Int)) = true ↔ a.ix = b.ix) := Lib.hid (by rw [beq_iff_eq]; omega)
  obtain ⟨g4, hg4⟩ : ∃ g, ((a.ix : Int) == (b.ix : Int)) = g := ⟨_, rfl⟩
  rw [hg4] at HI4
  have HI5 : Hid (((a.lt : Int) == (b.lt : Int)) = true ↔ a.lt = b.lt) := Lib.hid (by rw [beq_iff_eq]; omega)
  obtain ⟨g5, hg5⟩ : ∃ g, ((a.lt : Int) == (b.lt : Int)) = g := ⟨_, rfl⟩
  rw [hg5] at HI5
  have HI6 : Hid (((a.cm : Int) == (b.cm : Int)) = true ↔ a.cm = b.cm) := Lib.hid (by rw [beq_iff_eq]; omega)
  obtain ⟨g6, hg6⟩ : ∃ g, ((a.cm : Int) == (b.cm : Int)) = g := ⟨_, rfl⟩
  rw [hg6] at HI6
  have HI7 : Hid (((a.rd : Int) == (b.rd : Int)) = true ↔ a.rd = b.rd) := Lib.hid (by rw [beq_iff_eq]; omega)
  obtain ⟨g7, hg7⟩ : ∃ g, ((a.rd : Int) == (b.rd : Int)) = g := ⟨_, rfl⟩
  rw [hg7] at HI7
  have HI8 : Hid ((a.gd == b.gd) = true ↔ a.gd = b.gd) := Lib.hid (by rw [beq_iff_eq])
  obtain ⟨g8, hg8⟩ : ∃ g, (a.gd == b.gd) = g := ⟨_, rfl⟩
  rw [hg8] at HI8
  have HI12 : Hid (((a.off : Int) == (b.off : Int)) = true ↔ a.off = b.off) := Lib.hid (by rw [beq_iff_eq]; omega)
  obtain ⟨g12, hg12⟩ : ∃ g, ((a.off : Int) == (b.off : Int)) = g := ⟨_, rfl⟩
  rw [hg12] at HI12
  have HI13 : Hid (((a.wh : Int) == (b.wh : Int)) = true ↔ a.wh = b.wh) := Lib.hid (by rw [beq_iff_eq]; omega)
  obtain ⟨g13, hg13⟩ : ∃ g, ((a.wh : Int) == (b.wh : Int)) = g := ⟨_, rfl⟩
  rw [hg13] at HI13
  cases R1
  · go_wp2
    go_ret
    exact ⟨false, rfl, ⟨fun h => (by cases h), fun e => (by have := HR1.out.2 (congrArg Pm.es e); cases this)⟩, HK2.out⟩
  · cases R2
    · go_wp2
      go_ret
      exact ⟨false, rfl, ⟨fun h => (by cases h), fun e => (by have := HR2.out.2 (congrArg Pm.c e); cases this)⟩, HK2.out⟩
    · cases gs
      · go_wp2
        go_ret
        exact ⟨false, rfl, ⟨fun h => (by cases h), fun e => (by have := HRS.out.2 (congrArg Pm.da e); cases this)⟩, HK2.out⟩
      · cases g0
        · go_wp2
          go_ret
          exact ⟨false, rfl, ⟨fun h => (by cases h), fun e => (by have := HI0.out.2 (congrArg Pm.k e); cases this)⟩, HK2.out⟩
        · cases g1
          · go_wp2
            go_ret
            exact ⟨false, rfl, ⟨fun h => (by cases h), fun e => (by have := HI1.out.2 (congrArg Pm.fr e); cases this)⟩, HK2.out⟩
          · cases g2
            · go_wp2
              go_ret
              exact ⟨false, rfl, ⟨fun h => (by cases h), fun e => (by have := HI2.out.2 (congrArg Pm.to e); cases this)⟩, HK2.out⟩
            · cases g3
              · go_wp2
                go_ret
                exact ⟨false, rfl, ⟨fun h => (by cases h), fun e => (by have := HI3.out.2 (congrArg Pm.te e); cases this)⟩, HK2.out⟩
              · cases g4
                · go_wp2
                  go_ret
                  exact ⟨false, rfl, ⟨fun h => (by cases h), fun e => (by have := HI4.out.2 (congrArg Pm.ix e); cases this)⟩, HK2.out⟩
                · cases g5
                  · go_wp2
                    go_ret
                    exact ⟨false, rfl, ⟨fun h => (by cases h), fun e => (by have := HI5.out.2 (congrArg Pm.lt e); cases this)⟩, HK2.out⟩
                  · cases g6
                    · go_wp2
                      go_ret
                      exact ⟨false, rfl, ⟨fun h => (by cases h), fun e => (by have := HI6.out.2 (congrArg Pm.cm e); cases this)⟩, HK2.out⟩
                    · cases g7
                      · go_wp2
                        go_ret
                        exact ⟨false, rfl, ⟨fun h => (by cases h), fun e => (by have := HI7.out.2 (congrArg Pm.rd e); cases this)⟩, HK2.out⟩
                      · cases g8
                        · go_wp2
                          go_ret
                          exact ⟨false, rfl, ⟨fun h => (by cases h), fun e => (by have := HI8.out.2 (congrArg Pm.gd e); cases this)⟩, HK2.out⟩
                        · cases g12
                          · go_wp2
                            go_ret
                            exact ⟨false, rfl, ⟨fun h => (by cases h), fun e => (by have := HI12.out.2 (congrArg Pm.off e); cases this)⟩, HK2.out⟩
                          · cases g13
                            · go_wp2
                              go_ret
                              exact ⟨false, rfl, ⟨fun h => (by cases h), fun e => (by have := HI13.out.2 (congrArg Pm.wh e); cases this)⟩, HK2.out⟩
                            · have z0 := HR1.out.1 rfl
                              have z1 := HR2.out.1 rfl
                              have z2 := HRS.out.1 rfl
                              have z3 := HI0.out.1 rfl
                              have z4 := HI1.out.1 rfl
                              have z5 := HI2.out.1 rfl
                              have z6 := HI3.out.1 rfl
                              have z7 := HI4.out.1 rfl
                              have z8 := HI5.out.1 rfl
                              have z9 := HI6.out.1 rfl
                              have z10 := HI7.out.1 rfl
                              have z11 := HI8.out.1 rfl
                              have z12 := HI12.out.1 rfl
                              have z13 := HI13.out.1 rfl
                              have HE : Hid (a.plain = b.plain) := Lib.hid (by
                                unfold Mg.plain
                                rw [z0, z1, z2, z3, z4, z5, z6, z7, z8, z9, z10, z11, z12, z13])
                              clear z0 z1 z2 z3 z4 z5 z6 z7 z8 z9 z10 z11 z12 z13
                              go_wp2
                              go_ret
                              exact ⟨true, rfl, ⟨fun _ => HE.out, fun _ => rfl⟩, HK2.out⟩
end Go.Proofs.Ytdikmmdkpfmocaa
