import Derived.Test.YtdikmmdkpfmocaaBs43
namespace Go.Proofs.Ytdikmmdkpfmocaa
open Go.RowKit Go.Shelf
def encN (m : Pm) : Int := if rightP m = true then 0 else 160
noncomputable def encBs (m : Pm) : List UInt8 := if rightP m = true then frameOf (msgB m) else []
theorem encBs_few (m : Pm) : (encBs m).length ≤ 700012 := by
  unfold encBs
  split
  · rename_i h
    have := msg_few (rgt_of h)
    rw [frame_length]
    omega
  · simp
theorem mencode_one (w : World) (D : Nat → Prop) (m : Mg) (h : m.lies w D) :
    Calls Try.prog 8 #[.agg m.cells] w fun e w' => ∃ u, e = .returned (.tuple #[u, .int .i64 (encN m.plain)]) ∧ Fresh w w' u (encBs m.plain) :=
  (mencode_any w D m h).mono fun e w' hp => by
    unfold encN encBs
    rcases hp with ⟨hr, rfl, k⟩ | ⟨hr, u, rfl, hf⟩
    · rw [if_neg (by rw [hr]; decide), if_neg (by rw [hr]; decide)]
      exact ⟨_, rfl, ⟨k, World.ownsRow_nil _ _ _ _, fun k hk => by cases hk⟩⟩
    · rw [if_pos hr, if_pos hr]
      exact ⟨u, rfl, hf⟩
noncomputable def decN (bs : List UInt8) : Int := if (decM bs).isSome = true then 0 else 160
def zeroG : Mg := ⟨0, 0, 0, 0, 0, 0, 0, 0, false, .slice none 0 0, [], .slice none 0 0, .slice none 0 0, ⟨[], []⟩, 0, 0, .slice none 0 0, []⟩
theorem zeroG_lies (w : World) (D : Nat → Prop) : zeroG.lies w D := ⟨z64, z64, z64, z64, z64, z64, z64, Ens.nil _ _, Zs.nil _ _, Zs.nil _ _, Bytes.nil _ _⟩
theorem mdecode_one (w : World) (D : Nat → Prop) (v : Value) (bs : List UInt8) (h : Bytes w D v bs) (hl : bs.length ≤ lim) :
    Calls Try.prog 9 #[v] w fun e w' => ∃ m : Mg, e = .returned (.tuple #[.agg m.cells, .int .i64 (decN bs)]) ∧ Keep noneOf w w' ∧ m.lies w' (fun i => w.heap.size ≤ i) ∧ m.plain = (decM bs).getD zeroG.plain :=
  (mdecode_any w D v bs h hl).mono fun e w' hp => by
    unfold decN
    rcases hp with ⟨hr, rfl, k⟩ | ⟨m, hr, rfl, k, hm⟩
    · rw [hr]
      exact ⟨zeroG, rfl, k, zeroG_lies _ _, rfl⟩
    · rw [hr]
      exact ⟨m, rfl, k, hm, rfl⟩
def m1 : Mg := ⟨4, 0, 1, 3, 0, 0, 0, 0, true, .slice none 0 0, [], .slice none 0 0, .slice none 0 0, ⟨[], []⟩, 0, 0, .slice none 0 0, []⟩
theorem m1_lies (w : World) (D : Nat → Prop) : m1.lies w D := ⟨by decide, by decide, by decide, by decide, by decide, by decide, by decide, Ens.nil _ _, Zs.nil _ _, Zs.nil _ _, Bytes.nil _ _⟩
theorem m1_right : rightP m1.plain = true := by decide
theorem m1_encN : encN m1.plain = 0 := by unfold encN; rw [if_pos m1_right]
theorem m1_encBs : encBs m1.plain = frameOf (msgB m1.plain) := by unfold encBs; rw [if_pos m1_right]
theorem m1_dec : decM (encBs m1.plain) = some m1.plain := by
  rw [m1_encBs]
  exact decM_back _ m1_right ⟨by decide, by decide, by decide, by decide, by decide, by decide, by decide, fun x hx => by cases hx⟩
theorem m1_len : (encBs m1.plain).length = 24 := by rw [m1_encBs, frame_length]; decide
theorem m1_at : (encBs m1.plain)[8]? = some 4 := by
  rw [m1_encBs]
  unfold frameOf
  rw [List.append_assoc, List.append_assoc, List.getElem?_append_right (by rw [be_length]; decide), be_length, List.getElem?_append_right (by rw [be_length]; decide), be_length, List.getElem?_append_left (by decide)]
  decide
theorem m1_decN : decN (encBs m1.plain) = 0 := by unfold decN; rw [m1_dec]; rfl
end Go.Proofs.Ytdikmmdkpfmocaa
namespace Go.Proofs.Ytdikmmdkpfmocaa
open Go.RowKit Go.Shelf
set_option maxRecDepth 100000 in
set_option maxHeartbeats 2000000 in
theorem alive_any (w : World) : Calls Try.prog 11 #[] w fun e w' => e = .returned (.bool true) ∧ Keep noneOf w w' := by
  have HE := Lib.hid (mencode_one w (fun _ => True) m1 (m1_lies _ _))
  rw [show (Value.agg m1.cells) = .agg #[.int .i64 4, .int .i64 0, .int .i64 1, .int .u64 3, .int .u64 0, .int .u64 0, .int .u64 0, .int .u64 0, .bool true, .slice none 0 0, .slice none 0 0, .slice none 0 0, .int .u64 0, .int .u64 0, .slice none 0 0] from rfl, m1_encN] at HE
  have HLEN := Lib.hid m1_len
  have HAT := Lib.hid m1_at
  have HDN := Lib.hid m1_decN
  have HDC := Lib.hid m1_dec
  have HLIM := Lib.hid lim_is
  generalize encBs m1.plain = B at *
  go_enter Try.func11, Try.ntmps11
  go_wp2_with fail
  refine HE.out.mono ?_
  rintro e w1 ⟨u, rfl, F⟩
  have HK1 := Lib.hid F.keep
  have hby := F.bytes
  have HDE := Lib.hid (mdecode_one w1 _ u B hby (by rw [HLIM.out, HLEN.out]; decide))
  rw [HDN.out, HDC.out] at HDE
  have HBY := Lib.hid hby
  obtain ⟨A, c, hu⟩ := own_shape F.own
  subst hu
  clear F HE hby
  go_wp2_with fail
  refine HDE.out.mono ?_
  rintro e w2 ⟨m, rfl, k2, hm, hpl⟩
  have HK2 := Lib.hid (HK1.out.trans k2 (fun _ _ h => h))
  have HB2 := Lib.hid (HBY.out.keep k2 (fun _ _ _ => id))
  have HML := Lib.hid hm
  have hpl' : m.plain = m1.plain := hpl
  have HTE : Hid (m.te = 3) := Lib.hid (show m.plain.te = 3 by rw [hpl']; rfl)
  have HGD : Hid (m.gd = true) := Lib.hid (show m.plain.gd = true by rw [hpl']; rfl)
  have HR : Hid (rightP m.plain = true) := Lib.hid (by rw [hpl']; exact m1_right)
  clear k2 hm hpl hpl' HK1 HBY HDE
  obtain ⟨b, o, hA, hle, hmx⟩ := HB2.out.at_ (by rw [HLEN.out]; decide)
  subst hA
  have hl8 : (8 : Int) < (B.length : Int) := by rw [HLEN.out]; decide
  have heq : ((B.length : Int) == 24) = true := by rw [HLEN.out]; rfl
  have KK := Lib.hid (fun w3 (hK : Keep (fun k => k = w2.heap.size) (w2.alloc (.cells #[.int .i64 0, .int .i64 0, .int .i64 0, .int .u64 0, .int .u64 0, .int .u64 0, .int .u64 0, .int .u64 0, .bool false, .slice none 0 0, .slice none 0 0, .slice none 0 0, .int .u64 0, .int .u64 0, .slice none 0 0] 29)) w3) => show Keep noneOf w2 w3 from ((Keep.refl noneOf w2).alloc (.cells #[.int .i64 0, .int .i64 0, .int .i64 0, .int .u64 0, .int .u64 0, .int .u64 0, .int .u64 0, .int .u64 0, .bool false, .slice none 0 0, .slice none 0 0, .slice none 0 0, .int .u64 0, .int .u64 0, .slice none 0 0] 29)).trans hK (fun i hi e => by omega))
  have C8 := Lib.hid (fun w3 (kk : Keep noneOf w2 w3) => show w3.cell? ⟨b, o + 8, none⟩ = some (.int .u8 4) from by
    obtain ⟨A', c', e1, _, _, _, e2⟩ := HB2.out.keep kk (fun _ _ _ => id)
    obtain ⟨ad, e3, hsp, _, _, e4⟩ := e2 (by rw [HLEN.out]; decide)
    have := e4 8 4 HAT.out
    injection e1 with e1 _ _
    rw [← e1] at e3
    injection e3 with e3
    subst e3
    exact this)
  have HRT := Lib.hid (fun w3 (kk : Keep noneOf w2 w3) => show Calls Try.prog 12 #[.agg #[.int .i64 m.k, .int .i64 m.fr, .int .i64 m.to, .int .u64 ((3 : Nat) : Int), .int .u64 (m.ix : Int), .int .u64 (m.lt : Int), .int .u64 (m.cm : Int), .int .u64 (m.rd : Int), .bool true, m.ev, m.va, m.la, .int .u64 (m.off : Int), .int .u64 (m.wh : Int), m.dv]] w3 (fun e w' => e = .returned (.bool true) ∧ Keep noneOf w3 w') from by
    have h := right_any w3 _ m (HML.out.keepN kk)
    rw [HR.out] at h
    have ecl : (.agg m.cells : Value) = .agg #[.int .i64 m.k, .int .i64 m.fr, .int .i64 m.to, .int .u64 ((3 : Nat) : Int), .int .u64 (m.ix : Int), .int .u64 (m.lt : Int), .int .u64 (m.cm : Int), .int .u64 (m.rd : Int), .bool true, m.ev, m.va, m.la, .int .u64 (m.off : Int), .int .u64 (m.wh : Int), m.dv] := by unfold Mg.cells; rw [HTE.out, HGD.out]
    rw [ecl] at h
    exact h)
  clear hle hmx
  go_wp2_with (refine wpList_store_row _ rfl 29 _ _ rfl w2.heap.size 29 #[.int .i64 0, .int .i64 0, .int .i64 0, .int .u64 0, .int .u64 0, .int .u64 0, .int .u64 0, .int .u64 0, .bool false, .slice none 0 0, .slice none 0 0, .slice none 0 0, .int .u64 0, .int .u64 0, .slice none 0 0] m.cells rfl rfl (Box.new _ _ _) rfl (by kernel_rfl) HML.out.cells_one ?_; intro w3 hB hK; have kk := KK.out w3 hK; have c8 := C8.out w3 kk; have d0 : w3.cell? ⟨w2.heap.size, 0, none⟩ = some (.int .i64 m.k) := ((hB.cell 0).trans m.at0); have d1 : w3.cell? ⟨w2.heap.size, 1, none⟩ = some (.int .i64 m.fr) := ((hB.cell 1).trans m.at1); have d2 : w3.cell? ⟨w2.heap.size, 2, none⟩ = some (.int .i64 m.to) := ((hB.cell 2).trans m.at2); have d3 : w3.cell? ⟨w2.heap.size, 3, none⟩ = some (.int .u64 ((3 : Nat) : Int)) := ((hB.cell 3).trans (m.at3.trans (by rw [HTE.out]))); have d4 : w3.cell? ⟨w2.heap.size, 4, none⟩ = some (.int .u64 (m.ix : Int)) := ((hB.cell 4).trans m.at4); have d5 : w3.cell? ⟨w2.heap.size, 5, none⟩ = some (.int .u64 (m.lt : Int)) := ((hB.cell 5).trans m.at5); have d6 : w3.cell? ⟨w2.heap.size, 6, none⟩ = some (.int .u64 (m.cm : Int)) := ((hB.cell 6).trans m.at6); have d7 : w3.cell? ⟨w2.heap.size, 7, none⟩ = some (.int .u64 (m.rd : Int)) := ((hB.cell 7).trans m.at7); have d8 : w3.cell? ⟨w2.heap.size, 8, none⟩ = some (.bool true) := ((hB.cell 8).trans (m.at8.trans (by rw [HGD.out]))); have d9 : w3.cell? ⟨w2.heap.size, 9, none⟩ = some (m.ev) := ((hB.cell 9).trans m.at9); have d10 : w3.cell? ⟨w2.heap.size, 10, none⟩ = some (m.va) := ((hB.cell 10).trans m.at10); have d11 : w3.cell? ⟨w2.heap.size, 11, none⟩ = some (m.la) := ((hB.cell 11).trans m.at11); have d12 : w3.cell? ⟨w2.heap.size, 12, none⟩ = some (.int .u64 (m.off : Int)) := ((hB.cell 12).trans m.at12); have d13 : w3.cell? ⟨w2.heap.size, 13, none⟩ = some (.int .u64 (m.wh : Int)) := ((hB.cell 13).trans m.at13); have d14 : w3.cell? ⟨w2.heap.size, 14, none⟩ = some (m.dv) := ((hB.cell 14).trans m.at14); clear hB)
  have HK3 := Lib.hid (HK2.out.trans kk (fun _ _ h => h))
  refine (HRT.out w3 kk).mono ?_
  rintro e w4 ⟨rfl, k4⟩
  have HK4 := Lib.hid (HK3.out.trans k4 (fun _ _ h => h))
  clear k4
  go_wp2
  go_ret
  exact ⟨rfl, HK4.out⟩
end Go.Proofs.Ytdikmmdkpfmocaa
