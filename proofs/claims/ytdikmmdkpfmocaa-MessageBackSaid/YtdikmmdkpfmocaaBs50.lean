/-
  MessageBack: what message.Encode writes is read by Decode as it was; what Decode reads is written as the same bytes. No conditions.
-/
import Derived.Test.YtdikmmdkpfmocaaBs49
namespace Go.Proofs.Ytdikmmdkpfmocaa
open Go.RowKit Go.Shelf Go.ChangeShapes Go.WideShapes Go.Deep
theorem sameM_refl (a : Pm) : sameM a a = true := by unfold sameM; simp
theorem decM_len (b : List UInt8) (p : Pm) (h : decM b = some p) : encN p = 0 ∧ encBs p = b := by
  obtain ⟨h1, h2⟩ := decM_was b p h
  unfold encN encBs
  rw [if_pos h2, if_pos h2]
  exact ⟨rfl, h1⟩
set_option maxRecDepth 100000 in
set_option maxHeartbeats 4000000 in
theorem back_walk (w : World) (m : Mg) (vb : Value) (bs : List UInt8) (h : m.lies w (fun _ => True)) (hb : Bytes w (fun _ => True) vb bs) (hbl : bs.length ≤ lim) :
    Calls Try.prog 3 #[.agg m.cells, vb] w fun e w' => e = .returned (.bool true) ∧ Keep noneOf w w' := by
  have KB := (Keep.refl noneOf w).alloc (.cells m.cells 29)
  have HB : Hid (MBox (w.alloc (.cells m.cells 29)) w.heap.size m) := Lib.hid (Box.new w 29 m.cells)
  have HK := Lib.hid KB
  have HL := Lib.hid (h.keepN KB)
  have HE := Lib.hid (mencode_one _ _ m (h.keepN KB))
  have e0 : (Value.agg m.cells).cells = m.cells := rfl
  have HLIM := Lib.hid lim_is
  have HDB := Lib.hid (fun w' (k : Keep noneOf w w') => mdecode_one w' _ vb bs (hb.keep k (fun _ _ _ => id)) hbl)
  have HBB := Lib.hid (fun w' (k : Keep noneOf w w') => hb.keep k (fun _ _ _ => id))
  obtain ⟨Ab, cb, rfl, -⟩ := hb
  clear KB hbl
  obtain ⟨R, hR⟩ : ∃ R, rightP m.plain = R := ⟨_, rfl⟩
  have HFEW := Lib.hid (encBs_few m.plain)
  have HDX : Hid (R = true → decM (encBs m.plain) = some m.plain) := Lib.hid (fun e => by unfold encBs; rw [if_pos (hR.trans e)]; exact decM_back _ (hR.trans e) h.num64)
  obtain ⟨E, hE⟩ : ∃ E, encN m.plain = E := ⟨_, rfl⟩
  have HEN : Hid (E = if R = true then 0 else 160) := Lib.hid (by rw [← hE]; unfold encN; rw [hR])
  rw [hE] at HE
  obtain ⟨X, hX⟩ : ∃ X, encBs m.plain = X := ⟨_, rfl⟩
  rw [hX] at HE HFEW HDX
  obtain ⟨D, hD⟩ : ∃ D, decM bs = D := ⟨_, rfl⟩
  have HDN : Hid (decN bs = if D.isSome = true then 0 else 160) := Lib.hid (by unfold decN; rw [hD])
  have HDD := Lib.hid hD
  obtain ⟨DN, hDN⟩ : ∃ D, decN bs = D := ⟨_, rfl⟩
  rw [hDN] at HDN HDB
  obtain ⟨L, hL⟩ : ∃ L, bs.length = L := ⟨_, rfl⟩
  rw [hL] at HDB HBB ⊢
  clear hR hE hX hD hDN h
  go_enter Try.func3, Try.ntmps3
  go_wp2_with (refine wpList_load_row rfl 29 _ rfl (w.heap.size) rfl 29 _ _ _ HB.out Try.underlying29 rfl (by kernel_rfl) ?_)
  refine HE.out.mono ?_
  rintro e w1 ⟨u, rfl, F⟩
  have HX1 := Lib.hid F.bytes
  have HK1 := Lib.hid (HK.out.trans F.keep (fun _ _ h => h))
  have HB1 : Hid (MBox w1 w.heap.size m) := Lib.hid (HB.out.keep F.keep id)
  have HL1 := Lib.hid (HL.out.keepN F.keep)
  obtain ⟨A, c, hu⟩ := own_shape F.own
  subst hu
  clear F HE HK HB HL
  cases R
  · have he : E = 160 := HEN.out
    subst he
    clear HEN HDX HX1 HFEW HB1 HL1
    go_wp2_with fail
    refine (HDB.out _ HK1.out).mono ?_
    rintro e w5 ⟨o2, rfl, k5, hl5, hp5⟩
    have HK5 := Lib.hid (HK1.out.trans k5 (fun _ _ h => h))
    have HL5 := Lib.hid hl5
    have HP5 := Lib.hid hp5
    clear k5 hl5 hp5
    cases D with
    | none =>
      have hd : DN = 160 := HDN.out
      subst hd
      have HZ := Lib.hid (fun w7 (hK7 : Keep (fun k => k = w5.heap.size) (w5.alloc (.cells #[.int .i64 0, .int .i64 0, .int .i64 0, .int .u64 0, .int .u64 0, .int .u64 0, .int .u64 0, .int .u64 0, .bool false, .slice none 0 0, .slice none 0 0, .slice none 0 0, .int .u64 0, .int .u64 0, .slice none 0 0] 29)) w7) => show Keep noneOf w w7 from (HK5.out.alloc _).trans hK7 (fun i hi e => by have := HK5.out.size; omega))
      go_wp2_with (refine wpList_store_row _ rfl 29 _ _ rfl w5.heap.size 29 #[.int .i64 0, .int .i64 0, .int .i64 0, .int .u64 0, .int .u64 0, .int .u64 0, .int .u64 0, .int .u64 0, .bool false, .slice none 0 0, .slice none 0 0, .slice none 0 0, .int .u64 0, .int .u64 0, .slice none 0 0] o2.cells rfl rfl (Box.new _ _ _) rfl (by kernel_rfl) HL5.out.cells_one ?_; intro w7 hB7 hK7; clear hB7)
      have HK7 := Lib.hid (HZ.out w7 hK7)
      clear hK7 HZ
      refine (alive_any _).mono ?_
      rintro e w8 ⟨rfl, k8⟩
      have HK8 := Lib.hid (HK7.out.trans k8 (fun _ _ h => h))
      clear k8
      go_wp2
      go_ret
      exact ⟨rfl, HK8.out⟩
    | some pp =>
      have hd : DN = 0 := HDN.out
      subst hd
      have HPP : Hid (o2.plain = pp) := Lib.hid (by rw [HP5.out, HDD.out]; rfl)
      have HEB := Lib.hid (decM_len bs pp HDD.out)
      have HZ := Lib.hid (fun w7 (hK7 : Keep (fun k => k = w5.heap.size) (w5.alloc (.cells #[.int .i64 0, .int .i64 0, .int .i64 0, .int .u64 0, .int .u64 0, .int .u64 0, .int .u64 0, .int .u64 0, .bool false, .slice none 0 0, .slice none 0 0, .slice none 0 0, .int .u64 0, .int .u64 0, .slice none 0 0] 29)) w7) => show Keep noneOf w5 w7 from ((Keep.refl noneOf w5).alloc _).trans hK7 (fun i hi e => by omega))
      go_wp2_with (first | (refine wpList_store_row _ rfl 29 _ _ rfl w5.heap.size 29 #[.int .i64 0, .int .i64 0, .int .i64 0, .int .u64 0, .int .u64 0, .int .u64 0, .int .u64 0, .int .u64 0, .bool false, .slice none 0 0, .slice none 0 0, .slice none 0 0, .int .u64 0, .int .u64 0, .slice none 0 0] o2.cells rfl rfl (Box.new _ _ _) rfl (by kernel_rfl) HL5.out.cells_one ?_; intro w7 hB7 hK7) | (refine wpList_load_row rfl 29 _ rfl (w5.heap.size) rfl 29 _ _ _ hB7 Try.underlying29 rfl (by kernel_rfl) ?_))
      have HK7 := Lib.hid (HK5.out.trans (HZ.out w7 hK7) (fun _ _ h => h))
      have HEN2 := Lib.hid (mencode_one w7 _ o2 (HL5.out.keepN (HZ.out w7 hK7)))
      rw [HPP.out, HEB.out.1, HEB.out.2] at HEN2
      clear hK7 hB7 HZ
      refine HEN2.out.mono ?_
      rintro e w8 ⟨u8, rfl, F8⟩
      have HK8 := Lib.hid (HK7.out.trans F8.keep (fun _ _ h => h))
      have HY8 := Lib.hid F8.bytes
      obtain ⟨A8, c8, hu8⟩ := own_shape F8.own
      rw [hL] at hu8
      subst hu8
      clear F8 HEN2
      go_wp2_with fail
      refine (alive_any _).mono ?_
      rintro e w9 ⟨rfl, k9⟩
      have HK9 := Lib.hid (HK8.out.trans k9 (fun _ _ h => h))
      have r1 := run_str (HY8.out.keep k9 (fun _ _ _ => id))
      have r2 := run_str (HBB.out w9 HK9.out)
      clear k9
      go_wp2
      go_ret
      exact ⟨rfl, HK9.out⟩
  · have he : E = 0 := HEN.out
    subst he
    have HDX := Lib.hid (HDX.out rfl)
    clear HEN
    have HDE := Lib.hid (mdecode_one w1 _ _ X HX1.out (by rw [HLIM.out]; have := HFEW.out; omega))
    rw [show decN X = 0 from by unfold decN; rw [HDX.out]; rfl, HDX.out] at HDE
    clear HDX HX1 HFEW
    go_wp2_with fail
    refine HDE.out.mono ?_
    rintro e w2 ⟨o1, rfl, k2, hl2, hp2⟩
    have hp2 : o1.plain = m.plain := hp2
    have HP2 := Lib.hid hp2
    have HK2 := Lib.hid (HK1.out.trans k2 (fun _ _ h => h))
    have HL2 := Lib.hid hl2
    have HB2 : Hid (MBox w2 w.heap.size m) := Lib.hid (HB1.out.keep k2 id)
    have HLm2 := Lib.hid (HL1.out.keepN k2)
    have hw2 : w.heap.size < w2.heap.size := HB2.out.lt
    have HZ := Lib.hid (fun w3 (hK3 : Keep (fun k => k = w2.heap.size) (w2.alloc (.cells #[.int .i64 0, .int .i64 0, .int .i64 0, .int .u64 0, .int .u64 0, .int .u64 0, .int .u64 0, .int .u64 0, .bool false, .slice none 0 0, .slice none 0 0, .slice none 0 0, .int .u64 0, .int .u64 0, .slice none 0 0] 29)) w3) => show Keep noneOf w2 w3 from ((Keep.refl noneOf w2).alloc _).trans hK3 (fun i hi e => by omega))
    have HMB := Lib.hid (fun w3 (k : Keep noneOf w2 w3) => show MBox w3 w.heap.size m from HB2.out.keep k id)
    have CS := Lib.hid (fun w3 (k : Keep noneOf w2 w3) => show Calls Try.prog 10 #[.agg #[.int .i64 o1.k, .int .i64 o1.fr, .int .i64 o1.to, .int .u64 (o1.te : Int), .int .u64 (o1.ix : Int), .int .u64 (o1.lt : Int), .int .u64 (o1.cm : Int), .int .u64 (o1.rd : Int), .bool o1.gd, o1.ev, o1.va, o1.la, .int .u64 (o1.off : Int), .int .u64 (o1.wh : Int), o1.dv], .agg #[.int .i64 m.k, .int .i64 m.fr, .int .i64 m.to, .int .u64 (m.te : Int), .int .u64 (m.ix : Int), .int .u64 (m.lt : Int), .int .u64 (m.cm : Int), .int .u64 (m.rd : Int), .bool m.gd, m.ev, m.va, m.la, .int .u64 (m.off : Int), .int .u64 (m.wh : Int), m.dv]] w3 (fun e w' => e = .returned (.bool true) ∧ Keep noneOf w3 w') from by
      have := msame_tells w3 _ _ o1 m (HL2.out.keepN k) (HLm2.out.keepN k)
      rw [HP2.out, sameM_refl] at this
      exact this)
    clear k2 hl2 hp2 HDE HK1 HB1 HL1
    go_wp2_with (refine wpList_store_row _ rfl 29 _ _ rfl w2.heap.size 29 #[.int .i64 0, .int .i64 0, .int .i64 0, .int .u64 0, .int .u64 0, .int .u64 0, .int .u64 0, .int .u64 0, .bool false, .slice none 0 0, .slice none 0 0, .slice none 0 0, .int .u64 0, .int .u64 0, .slice none 0 0] o1.cells rfl rfl (Box.new _ _ _) rfl (by kernel_rfl) HL2.out.cells_one ?_; intro w3 hB3 hK3; have hM3 := HMB.out w3 (HZ.out w3 hK3); have c0 : w3.cell? ⟨w2.heap.size, 0, none⟩ = some (.int .i64 o1.k) := (hB3.cell 0).trans o1.at0; have d0 : w3.cell? ⟨w.heap.size, 0, none⟩ = some (.int .i64 m.k) := (hM3.cell 0).trans m.at0; have c1 : w3.cell? ⟨w2.heap.size, 1, none⟩ = some (.int .i64 o1.fr) := (hB3.cell 1).trans o1.at1; have d1 : w3.cell? ⟨w.heap.size, 1, none⟩ = some (.int .i64 m.fr) := (hM3.cell 1).trans m.at1; have c2 : w3.cell? ⟨w2.heap.size, 2, none⟩ = some (.int .i64 o1.to) := (hB3.cell 2).trans o1.at2; have d2 : w3.cell? ⟨w.heap.size, 2, none⟩ = some (.int .i64 m.to) := (hM3.cell 2).trans m.at2; have c3 : w3.cell? ⟨w2.heap.size, 3, none⟩ = some (.int .u64 (o1.te : Int)) := (hB3.cell 3).trans o1.at3; have d3 : w3.cell? ⟨w.heap.size, 3, none⟩ = some (.int .u64 (m.te : Int)) := (hM3.cell 3).trans m.at3; have c4 : w3.cell? ⟨w2.heap.size, 4, none⟩ = some (.int .u64 (o1.ix : Int)) := (hB3.cell 4).trans o1.at4; have d4 : w3.cell? ⟨w.heap.size, 4, none⟩ = some (.int .u64 (m.ix : Int)) := (hM3.cell 4).trans m.at4; have c5 : w3.cell? ⟨w2.heap.size, 5, none⟩ = some (.int .u64 (o1.lt : Int)) := (hB3.cell 5).trans o1.at5; have d5 : w3.cell? ⟨w.heap.size, 5, none⟩ = some (.int .u64 (m.lt : Int)) := (hM3.cell 5).trans m.at5; have c6 : w3.cell? ⟨w2.heap.size, 6, none⟩ = some (.int .u64 (o1.cm : Int)) := (hB3.cell 6).trans o1.at6; have d6 : w3.cell? ⟨w.heap.size, 6, none⟩ = some (.int .u64 (m.cm : Int)) := (hM3.cell 6).trans m.at6; have c7 : w3.cell? ⟨w2.heap.size, 7, none⟩ = some (.int .u64 (o1.rd : Int)) := (hB3.cell 7).trans o1.at7; have d7 : w3.cell? ⟨w.heap.size, 7, none⟩ = some (.int .u64 (m.rd : Int)) := (hM3.cell 7).trans m.at7; have c8 : w3.cell? ⟨w2.heap.size, 8, none⟩ = some (.bool o1.gd) := (hB3.cell 8).trans o1.at8; have d8 : w3.cell? ⟨w.heap.size, 8, none⟩ = some (.bool m.gd) := (hM3.cell 8).trans m.at8; have c9 : w3.cell? ⟨w2.heap.size, 9, none⟩ = some (o1.ev) := (hB3.cell 9).trans o1.at9; have d9 : w3.cell? ⟨w.heap.size, 9, none⟩ = some (m.ev) := (hM3.cell 9).trans m.at9; have c10 : w3.cell? ⟨w2.heap.size, 10, none⟩ = some (o1.va) := (hB3.cell 10).trans o1.at10; have d10 : w3.cell? ⟨w.heap.size, 10, none⟩ = some (m.va) := (hM3.cell 10).trans m.at10; have c11 : w3.cell? ⟨w2.heap.size, 11, none⟩ = some (o1.la) := (hB3.cell 11).trans o1.at11; have d11 : w3.cell? ⟨w.heap.size, 11, none⟩ = some (m.la) := (hM3.cell 11).trans m.at11; have c12 : w3.cell? ⟨w2.heap.size, 12, none⟩ = some (.int .u64 (o1.off : Int)) := (hB3.cell 12).trans o1.at12; have d12 : w3.cell? ⟨w.heap.size, 12, none⟩ = some (.int .u64 (m.off : Int)) := (hM3.cell 12).trans m.at12; have c13 : w3.cell? ⟨w2.heap.size, 13, none⟩ = some (.int .u64 (o1.wh : Int)) := (hB3.cell 13).trans o1.at13; have d13 : w3.cell? ⟨w.heap.size, 13, none⟩ = some (.int .u64 (m.wh : Int)) := (hM3.cell 13).trans m.at13; have c14 : w3.cell? ⟨w2.heap.size, 14, none⟩ = some (o1.dv) := (hB3.cell 14).trans o1.at14; have d14 : w3.cell? ⟨w.heap.size, 14, none⟩ = some (m.dv) := (hM3.cell 14).trans m.at14; clear hB3 hM3)
    have KZ := HZ.out w3 hK3
    have HKZ := Lib.hid KZ
    refine (CS.out w3 KZ).mono ?_
    rintro e w4 ⟨rfl, k4⟩
    have HK4 := Lib.hid ((HK2.out.trans HKZ.out (fun _ _ h => h)).trans k4 (fun _ _ h => h))
    clear k4 KZ hK3 HKZ CS HMB HZ HB2 HLm2 HL2 HK2 HP2 c0 d0 c1 d1 c2 d2 c3 d3 c4 d4 c5 d5 c6 d6 c7 d7 c8 d8 c9 d9 c10 d10 c11 d11 c12 d12 c13 d13 c14 d14
    go_wp2_with fail
    refine (HDB.out _ HK4.out).mono ?_
    rintro e w5 ⟨o2, rfl, k5, hl5, hp5⟩
    have HK5 := Lib.hid (HK4.out.trans k5 (fun _ _ h => h))
    have HL5 := Lib.hid hl5
    have HP5 := Lib.hid hp5
    clear k5 hl5 hp5
    cases D with
    | none =>
      have hd : DN = 160 := HDN.out
      subst hd
      have HZ := Lib.hid (fun w7 (hK7 : Keep (fun k => k = w5.heap.size) (w5.alloc (.cells #[.int .i64 0, .int .i64 0, .int .i64 0, .int .u64 0, .int .u64 0, .int .u64 0, .int .u64 0, .int .u64 0, .bool false, .slice none 0 0, .slice none 0 0, .slice none 0 0, .int .u64 0, .int .u64 0, .slice none 0 0] 29)) w7) => show Keep noneOf w w7 from (HK5.out.alloc _).trans hK7 (fun i hi e => by have := HK5.out.size; omega))
      go_wp2_with (refine wpList_store_row _ rfl 29 _ _ rfl w5.heap.size 29 #[.int .i64 0, .int .i64 0, .int .i64 0, .int .u64 0, .int .u64 0, .int .u64 0, .int .u64 0, .int .u64 0, .bool false, .slice none 0 0, .slice none 0 0, .slice none 0 0, .int .u64 0, .int .u64 0, .slice none 0 0] o2.cells rfl rfl (Box.new _ _ _) rfl (by kernel_rfl) HL5.out.cells_one ?_; intro w7 hB7 hK7; clear hB7)
      have HK7 := Lib.hid (HZ.out w7 hK7)
      clear hK7 HZ
      refine (alive_any _).mono ?_
      rintro e w8 ⟨rfl, k8⟩
      have HK8 := Lib.hid (HK7.out.trans k8 (fun _ _ h => h))
      clear k8
      go_wp2
      go_ret
      exact ⟨rfl, HK8.out⟩
    | some pp =>
      have hd : DN = 0 := HDN.out
      subst hd
      have HPP : Hid (o2.plain = pp) := Lib.hid (by rw [HP5.out, HDD.out]; rfl)
      have HEB := Lib.hid (decM_len bs pp HDD.out)
      have HZ := Lib.hid (fun w7 (hK7 : Keep (fun k => k = w5.heap.size) (w5.alloc (.cells #[.int .i64 0, .int .i64 0, .int .i64 0, .int .u64 0, .int .u64 0, .int .u64 0, .int .u64 0, .int .u64 0, .bool false, .slice none 0 0, .slice none 0 0, .slice none 0 0, .int .u64 0, .int .u64 0, .slice none 0 0] 29)) w7) => show Keep noneOf w5 w7 from ((Keep.refl noneOf w5).alloc _).trans hK7 (fun i hi e => by omega))
      go_wp2_with (first | (refine wpList_store_row _ rfl 29 _ _ rfl w5.heap.size 29 #[.int .i64 0, .int .i64 0, .int .i64 0, .int .u64 0, .int .u64 0, .int .u64 0, .int .u64 0, .int .u64 0, .bool false, .slice none 0 0, .slice none 0 0, .slice none 0 0, .int .u64 0, .int .u64 0, .slice none 0 0] o2.cells rfl rfl (Box.new _ _ _) rfl (by kernel_rfl) HL5.out.cells_one ?_; intro w7 hB7 hK7) | (refine wpList_load_row rfl 29 _ rfl (w5.heap.size) rfl 29 _ _ _ hB7 Try.underlying29 rfl (by kernel_rfl) ?_))
      have HK7 := Lib.hid (HK5.out.trans (HZ.out w7 hK7) (fun _ _ h => h))
      have HEN2 := Lib.hid (mencode_one w7 _ o2 (HL5.out.keepN (HZ.out w7 hK7)))
      rw [HPP.out, HEB.out.1, HEB.out.2] at HEN2
      clear hK7 hB7 HZ
      refine HEN2.out.mono ?_
      rintro e w8 ⟨u8, rfl, F8⟩
      have HK8 := Lib.hid (HK7.out.trans F8.keep (fun _ _ h => h))
      have HY8 := Lib.hid F8.bytes
      obtain ⟨A8, c8, hu8⟩ := own_shape F8.own
      rw [hL] at hu8
      subst hu8
      clear F8 HEN2
      go_wp2_with fail
      refine (alive_any _).mono ?_
      rintro e w9 ⟨rfl, k9⟩
      have HK9 := Lib.hid (HK8.out.trans k9 (fun _ _ h => h))
      have r1 := run_str (HY8.out.keep k9 (fun _ _ _ => id))
      have r2 := run_str (HBB.out w9 HK9.out)
      clear k9
      go_wp2
      go_ret
      exact ⟨rfl, HK9.out⟩
namespace MessageBack
set_option maxRecDepth 100000 in
theorem lifted (os : Os) (started : os.Started) (H : Type) (enc : TypeId × Value → H) :
    ReturnsInHanded {} Try.checked os 3 .any (Rows.messageBackSpec.pre6 enc Try.prog Try.f3 Rows.messageBackRow.domain false) (Rows.messageBackSpec.post enc Try.prog Try.f3 false true false false) := by
  refine returnsInHanded_of_change_sized (C := Try.checked) own started (by kernel_rfl) Try.func3
    (ChangeSpec.witness6 (enc := enc) (C := Try.checked) false ⟨#[], #[.agg #[.int .i64 0, .int .i64 0, .int .i64 0, .int .u64 0, .int .u64 0, .int .u64 0, .int .u64 0, .int .u64 0, .bool false, .slice none 0 0, .slice none 0 0, .slice none 0 0, .int .u64 0, .int .u64 0, .slice none 0 0], .slice none 0 0], []⟩ 8 (by kernel_rfl) (by kernel_rfl) (by kernel_rfl) (by kernel_rfl)) ?_
  intro W base args ds gs before hval0 hW hcnd hsz _
  have hval : ∀ (j : Nat) t v, Try.f3.params[j]? = some t → args[j]? = some v → Value.okWide Try.prog W .any base t v := hval0
  have hW' := hW
  obtain ⟨p, q, hA0, hV, rfl, hfz, hnd⟩ := hW
  have hA : DataW.TrodAll enc Try.prog W 0 (fun _ => true) true Try.f3.params.toList args.toList ds p := hA0
  rw [Try.params3] at hA hval
  obtain ⟨v0, vs0, d0, ds0, p0, q0, hargs, rfl, rfl, h0, r0⟩ := trodAll_cons hA
  obtain ⟨v1, vs1, d1, ds1, p1, q1, rfl, rfl, rfl, h1, r1⟩ := trodAll_cons r0
  obtain ⟨rfl, rfl, rfl⟩ := trodAll_nil r1
  obtain rfl : args = #[v0, v1] := by cases args; simp_all
  obtain ⟨rfl, rfl⟩ := trodVars_none hV
  have k0 := h0
  have lt0 : ∀ x ∈ p0, x.block < W.heap.size := by obtain ⟨m, hm⟩ := k0; exact DataW.trod_lt m _ _ _ hm
  have k1 := h1
  have lt1 : ∀ x ∈ p1, x.block < W.heap.size := by obtain ⟨m, hm⟩ := k1; exact DataW.trod_lt m _ _ _ hm
  obtain ⟨m0, rfl, hm0⟩ := open_arg_msg (hval 0 29 v0 rfl rfl) h0 (light_arg hsz (j := 0) rfl rfl)
  obtain ⟨b1, hb1, hl1⟩ := open_arg_bytes (hval 1 27 v1 rfl rfl) h1 (light_arg hsz (j := 1) rfl rfl)
  clear hA0 hval0
  refine (back_walk W m0 v1 b1 hm0 hb1 hl1).mono fun e W' ⟨he, bel0⟩ => ?_
  subst he
  have bel := bel0.all
  exact ⟨_, rfl, _, _, _, [], _, [], hW', trodAll_mk1 (shut_bool Try.underlying4 _), (trodAll_cons_mk (Below.trod laidOut (by kernel_rfl) (of_decide_eq_true (by kernel_rfl)) k0 bel lt0) (trodAll_cons_mk (Below.trod laidOut (by kernel_rfl) (of_decide_eq_true (by kernel_rfl)) k1 bel lt1) trodAll_mk0)), rfl, bel.frame _, fun h => by cases h⟩
theorem over : Rows.messageBackRow.holds Try.pinned (OpenSpec.ofChange Rows.messageBackSpec) :=
  OpenClaim.holds_of_wide 3 Try.f3 rfl rfl rfl rfl rfl rfl rfl ⟨rfl, rfl, rfl, rfl, rfl⟩ rfl rfl rfl rfl rfl (by kernel_rfl) Try.func3 (by kernel_rfl)
    (of_decide_eq_true (by kernel_rfl)) (by unfold Func.isWrapper; first | (rw [if_pos (by decide +kernel)]; kernel_rfl) | (rw [if_neg (by decide +kernel)]; exact ⟨rfl, rfl⟩))
    (fun os started H enc _ => lifted os started H enc)
theorem proved : Rows.MessageBackSaid := over
end MessageBack
end Go.Proofs.Ytdikmmdkpfmocaa
