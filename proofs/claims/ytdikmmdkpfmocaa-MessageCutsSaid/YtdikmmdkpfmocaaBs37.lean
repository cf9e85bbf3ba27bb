import Derived.Test.YtdikmmdkpfmocaaBs12
import Derived.Test.YtdikmmdkpfmocaaBs32
import Derived.Test.YtdikmmdkpfmocaaBs35
import Derived.Test.YtdikmmdkpfmocaaBs36
namespace Go.Proofs.Ytdikmmdkpfmocaa
open Go.RowKit Go.Shelf
theorem z64 : ((0 : Nat) : Int) < 18446744073709551616 := by decide
theorem unfr_le (bs : List UInt8) : (unfr bs).1.length ≤ bs.length := by
  unfold unfr
  split
  · exact Nat.zero_le _
  split
  · exact Nat.zero_le _
  split
  · exact Nat.zero_le _
  split
  · exact Nat.zero_le _
  split
  · exact Nat.zero_le _
  · simp only [List.length_take, List.length_drop]; omega
theorem Mg.lies.cells_one {w : World} {D : Nat → Prop} {m : Mg} (h : m.lies w D) : ∀ v ∈ m.cells.toList, v.oneCell' = true := by
  obtain ⟨⟨_, _, h9⟩, ⟨_, _, h10⟩, ⟨_, _, h11⟩, ⟨_, _, h14⟩⟩ := h.shapes
  unfold Mg.cells
  rw [h9, h10, h11, h14]
  simp [Value.oneCell']
def hdM (bs : List UInt8) : Pm × Rs :=
  (⟨(num (Rs.take ⟨bs, 0⟩ 1).1 : Int), (num ((Rs.take ⟨bs, 0⟩ 1).2.take 1).1 : Int), (num (((Rs.take ⟨bs, 0⟩ 1).2.take 1).2.take 1).1 : Int), num ((((Rs.take ⟨bs, 0⟩ 1).2.take 1).2.take 1).2.take 8).1, 0, 0, 0, 0, false, [], ⟨[], []⟩, 0, 0, []⟩,
    ((((Rs.take ⟨bs, 0⟩ 1).2.take 1).2.take 1).2.take 8).2)
def allM (bs : List UInt8) : Pm × Rs := if isKind (hdM bs).1.k = true then fieldsR (hdM bs) else hdM bs
def bodyM (bs : List UInt8) : Option Pm := if (allM bs).2.end_ = 0 ∧ rightP (allM bs).1 = true then some (allM bs).1 else none
noncomputable def decM (bs : List UInt8) : Option Pm := if (unfr bs).2.2 = 0 ∧ (unfr bs).2.1 = bs.length then bodyM (unfr bs).1 else none
def Decodes (w : World) (bs : List UInt8) (e : Ending) (w' : World) : Prop :=
  (decM bs = none ∧ e = .returned (.tuple #[.agg #[.int .i64 0, .int .i64 0, .int .i64 0, .int .u64 0, .int .u64 0, .int .u64 0, .int .u64 0, .int .u64 0, .bool false, .slice none 0 0, .slice none 0 0, .slice none 0 0, .int .u64 0, .int .u64 0, .slice none 0 0], .int .i64 160]) ∧ Keep noneOf w w') ∨
  (∃ m : Mg, decM bs = some m.plain ∧ e = .returned (.tuple #[.agg m.cells, .int .i64 0]) ∧ Keep noneOf w w' ∧ m.lies w' (fun i => w.heap.size ≤ i))
set_option maxRecDepth 100000 in
set_option maxHeartbeats 4000000 in
theorem mdecode_any (w : World) (D : Nat → Prop) (v : Value) (bs : List UInt8) (h : Bytes w D v bs) (hl : bs.length ≤ lim) :
    Calls Try.prog 9 #[v] w (Decodes w bs) := by
  have k0 := (Keep.refl noneOf w).alloc (.cells #[.int .i64 0, .int .i64 0, .int .i64 0, .int .u64 0, .int .u64 0, .int .u64 0, .int .u64 0, .int .u64 0, .bool false, .slice none 0 0, .slice none 0 0, .slice none 0 0, .int .u64 0, .int .u64 0, .slice none 0 0] 29)
  have HK0 := Lib.hid k0
  have HX0 := Lib.hid (Box.new w 29 #[.int .i64 0, .int .i64 0, .int .i64 0, .int .u64 0, .int .u64 0, .int .u64 0, .int .u64 0, .int .u64 0, .bool false, .slice none 0 0, .slice none 0 0, .slice none 0 0, .int .u64 0, .int .u64 0, .slice none 0 0])
  have HU := Lib.hid (unframe_any _ D v bs (h.keep k0 (fun _ _ _ => id)) hl)
  have HD : Hid (decM bs = if (unfr bs).2.2 = 0 ∧ (unfr bs).2.1 = bs.length then bodyM (unfr bs).1 else none) := Lib.hid rfl
  have HLIM := Lib.hid lim_is
  obtain ⟨⟨body, n, er⟩, hR⟩ : ∃ R, unfr bs = R := ⟨_, rfl⟩
  rw [hR] at HU HD
  have HBL : Hid (body.length ≤ bs.length) := Lib.hid (by have := unfr_le bs; rw [hR] at this; exact this)
  have HL := Lib.hid hl
  obtain ⟨A, c, rfl, -⟩ := h
  simp only at HU HD
  clear k0 hl hR
  obtain ⟨N, hN⟩ : ∃ N, bs.length = N := ⟨_, rfl⟩
  rw [hN] at HD HBL HL ⊢
  rw [hN] at HU
  obtain ⟨g1, hg1⟩ : ∃ g, (er != 0) = g := ⟨_, rfl⟩
  obtain ⟨g2, hg2⟩ : ∃ g, ((n : Int) != (N : Int)) = g := ⟨_, rfl⟩
  go_enter Try.func9, Try.ntmps9
  go_wp2_with fail
  refine HU.out.mono ?_
  rintro e w1 ⟨u1, rfl, F1⟩
  have HK1 := Lib.hid (HK0.out.trans F1.keep (fun _ _ h => h))
  have HX1 := Lib.hid (HX0.out.keep F1.keep id)
  have HB1 := Lib.hid F1.bytes
  obtain ⟨A1, c1, hu1⟩ := own_shape F1.own
  subst hu1
  clear F1 HU HK0 HX0
  cases g1
  · cases g2
    · have HE : Hid (decM bs = bodyM body) := Lib.hid (by
        rw [HD.out, if_pos]
        refine ⟨?_, ?_⟩
        · simpa using hg1
        · have : (n : Int) = (N : Int) := by simpa using hg2
          omega)
      have HRD := Lib.hid (read_any w1 _ _ body HB1.out (by have := HBL.out; have := HL.out; omega))
      have hwx : w.heap.size < w1.heap.size := HX1.out.lt
      clear HD HB1 HBL HL
      go_wp2_with fail
      refine HRD.out.mono ?_
      rintro e w2 ⟨pr, u2, rfl, hpr, k2, r2⟩
      have HK2 := Lib.hid (HK1.out.trans k2 (fun _ _ h => h))
      have HX2 := Lib.hid (HX1.out.keep k2 id)
      have hpl := r2.box.lt
      have HR2 : Hid (Rd w2 pr (fun k => w1.heap.size ≤ k ∧ k < w2.heap.size) u2 (Rs.mk body 0).left (Rs.mk body 0).err) := Lib.hid ⟨r2.box, r2.bytes.mono (fun i hi hd => ⟨⟨hd.1, hi⟩, hd.2⟩), r2.few⟩
      clear k2 r2 HRD HK1 HX1
      obtain ⟨c0, s1, e0⟩ : ∃ c s, Rs.take ⟨body, 0⟩ 1 = (c, s) := ⟨_, _, rfl⟩
      obtain ⟨c1', s2, e1⟩ : ∃ c s, s1.take 1 = (c, s) := ⟨_, _, rfl⟩
      obtain ⟨c2, s3, e2⟩ : ∃ c s, s2.take 1 = (c, s) := ⟨_, _, rfl⟩
      obtain ⟨c3, s4, e3⟩ : ∃ c s, s3.take 8 = (c, s) := ⟨_, _, rfl⟩
      have hz0 := num_one c0 (by have := take_length ⟨body, 0⟩ 1; rw [e0] at this; exact this)
      have hz1 := num_one c1' (by have := take_length s1 1; rw [e1] at this; exact this)
      have hz2 := num_one c2 (by have := take_length s2 1; rw [e2] at this; exact this)
      have HZ3 := Lib.hid (num_lt64 c3 (by have := take_length s3 8; rw [e3] at this; exact this))
      have HHD : Hid (hdM body = (⟨(num c0 : Int), (num c1' : Int), (num c2 : Int), num c3, 0, 0, 0, 0, false, [], ⟨[], []⟩, 0, 0, []⟩, s4)) := Lib.hid (by unfold hdM; rw [e0]; simp only; rw [e1]; simp only; rw [e2]; simp only; rw [e3])
      have HC0 := Lib.hid (rbyte_to w2 pr _ u2 _ s1 c0 HR2.out e0)
      have HE1 := Lib.hid e1
      have HE2 := Lib.hid e2
      have HE3 := Lib.hid e3
      clear e0 e1 e2 e3 HR2
      generalize num c0 = n0 at *
      generalize hn1 : num c1' = n1 at *
      generalize hn2 : num c2 = n2 at *
      generalize hn3 : num c3 = n3 at *
      have HN1 := Lib.hid hn1
      have HN2 := Lib.hid hn2
      have HN3 := Lib.hid hn3
      clear hn1 hn2 hn3
      have q0 : IntKind.i64.wrap (n0 : Int) = (n0 : Int) := IntWalk.i64_in _ ⟨by omega, by omega⟩
      have q1 : IntKind.i64.wrap (n1 : Int) = (n1 : Int) := IntWalk.i64_in _ ⟨by omega, by omega⟩
      have q2 : IntKind.i64.wrap (n2 : Int) = (n2 : Int) := IntWalk.i64_in _ ⟨by omega, by omega⟩
      go_wp2_with fail
      refine HC0.out.mono ?_
      rintro e w3 ⟨rfl, k3, u3, r3⟩
      have HC1 := Lib.hid (rbyte_to w3 pr _ u3 s1 s2 c1' r3 HE1.out)
      rw [HN1.out] at HC1
      have HK3 : Hid (Keep noneOf w w3) := Lib.hid (HK2.out.trans k3 (fun i hi e => by omega))
      have KP3 := Lib.hid k3
      clear k3 r3 HC0
      go_wp2_with fail
      refine HC1.out.mono ?_
      rintro e w4 ⟨rfl, k4, u4, r4⟩
      have HC2 := Lib.hid (rbyte_to w4 pr _ u4 s2 s3 c2 r4 HE2.out)
      rw [HN2.out] at HC2
      have KP4 := Lib.hid (KP3.out.trans k4 (fun _ _ h => h))
      clear k4 r4 HC1 KP3
      go_wp2_with fail
      refine HC2.out.mono ?_
      rintro e w5 ⟨rfl, k5, u5, r5⟩
      have HC3 := Lib.hid (rlong_to w5 pr _ u5 s3 s4 c3 r5 HE3.out)
      rw [HN3.out] at HC3
      have KP5 := Lib.hid (KP4.out.trans k5 (fun _ _ h => h))
      clear k5 r5 HC2 KP4
      go_wp2_with fail
      refine HC3.out.mono ?_
      rintro e w6 ⟨rfl, k6, u6, r6⟩
      have KP6 := Lib.hid (KP5.out.trans k6 (fun _ _ h => h))
      have HK6 : Hid (Keep noneOf w w6) := Lib.hid (HK2.out.trans KP6.out (fun i hi e => by omega))
      have HX6 := Lib.hid (HX2.out.keep KP6.out (by omega))
      have HR6 := Lib.hid r6
      have hz6 : w2.heap.size ≤ w6.heap.size := KP6.out.size
      obtain ⟨m0, hm0⟩ : ∃ m0 : Mg, m0 = ⟨(n0 : Int), (n1 : Int), (n2 : Int), n3, 0, 0, 0, 0, false, .slice none 0 0, [], .slice none 0 0, .slice none 0 0, ⟨[], []⟩, 0, 0, .slice none 0 0, []⟩ := ⟨_, rfl⟩
      have HM0 := Lib.hid hm0
      have HCL : Hid (m0.cells = #[.int .i64 (n0 : Int), .int .i64 (n1 : Int), .int .i64 (n2 : Int), .int .u64 (n3 : Int), .int .u64 0, .int .u64 0, .int .u64 0, .int .u64 0, .bool false, .slice none 0 0, .slice none 0 0, .slice none 0 0, .int .u64 0, .int .u64 0, .slice none 0 0]) := Lib.hid (by rw [hm0]; rfl)
      have HPL : Hid (m0.plain = (hdM body).1) := Lib.hid (by rw [hm0, HHD.out]; rfl)
      have HS4 : Hid ((hdM body).2 = s4) := Lib.hid (by rw [HHD.out])
      have HK0' : Hid ((hdM body).1.k = (n0 : Int)) := Lib.hid (by rw [HHD.out])
      clear hm0 k6 r6 HC3 KP5 HHD HE1 HE2 HE3
      have HK7 := Lib.hid (HK6.out.alloc (.cells #[.int .i64 (n0 : Int), .int .i64 (n1 : Int), .int .i64 (n2 : Int), .int .u64 (n3 : Int), .int .u64 0, .int .u64 0, .int .u64 0, .int .u64 0, .bool false, .slice none 0 0, .slice none 0 0, .slice none 0 0, .int .u64 0, .int .u64 0, .slice none 0 0] 29))
      have HX7 := Lib.hid (HX6.out.alloc (.cells #[.int .i64 (n0 : Int), .int .i64 (n1 : Int), .int .i64 (n2 : Int), .int .u64 (n3 : Int), .int .u64 0, .int .u64 0, .int .u64 0, .int .u64 0, .bool false, .slice none 0 0, .slice none 0 0, .slice none 0 0, .int .u64 0, .int .u64 0, .slice none 0 0] 29))
      have HY7 := Lib.hid (Box.new w6 29 #[.int .i64 (n0 : Int), .int .i64 (n1 : Int), .int .i64 (n2 : Int), .int .u64 (n3 : Int), .int .u64 0, .int .u64 0, .int .u64 0, .int .u64 0, .bool false, .slice none 0 0, .slice none 0 0, .slice none 0 0, .int .u64 0, .int .u64 0, .slice none 0 0])
      have HR7 := Lib.hid (HR6.out.keep ((Keep.refl noneOf w6).alloc (.cells #[.int .i64 (n0 : Int), .int .i64 (n1 : Int), .int .i64 (n2 : Int), .int .u64 (n3 : Int), .int .u64 0, .int .u64 0, .int .u64 0, .int .u64 0, .bool false, .slice none 0 0, .slice none 0 0, .slice none 0 0, .int .u64 0, .int .u64 0, .slice none 0 0] 29)) id (fun _ _ => id))
      have d0 : (w6.alloc (.cells #[.int .i64 (n0 : Int), .int .i64 (n1 : Int), .int .i64 (n2 : Int), .int .u64 (n3 : Int), .int .u64 0, .int .u64 0, .int .u64 0, .int .u64 0, .bool false, .slice none 0 0, .slice none 0 0, .slice none 0 0, .int .u64 0, .int .u64 0, .slice none 0 0] 29)).cell? ⟨w6.heap.size, 0, none⟩ = some (.int .i64 (n0 : Int)) := HY7.out.cell 0
      have HFC := Lib.hid (fieldsOf_any (w6.alloc (.cells #[.int .i64 (n0 : Int), .int .i64 (n1 : Int), .int .i64 (n2 : Int), .int .u64 (n3 : Int), .int .u64 0, .int .u64 0, .int .u64 0, .int .u64 0, .bool false, .slice none 0 0, .slice none 0 0, .slice none 0 0, .int .u64 0, .int .u64 0, .slice none 0 0] 29)) (n0 : Int))
      have hz7 : w6.heap.size < (w6.alloc (.cells #[.int .i64 (n0 : Int), .int .i64 (n1 : Int), .int .i64 (n2 : Int), .int .u64 (n3 : Int), .int .u64 0, .int .u64 0, .int .u64 0, .int .u64 0, .bool false, .slice none 0 0, .slice none 0 0, .slice none 0 0, .int .u64 0, .int .u64 0, .slice none 0 0] 29)).heap.size := by simp
      have HY : Hid (MBox (w6.alloc (.cells #[.int .i64 (n0 : Int), .int .i64 (n1 : Int), .int .i64 (n2 : Int), .int .u64 (n3 : Int), .int .u64 0, .int .u64 0, .int .u64 0, .int .u64 0, .bool false, .slice none 0 0, .slice none 0 0, .slice none 0 0, .int .u64 0, .int .u64 0, .slice none 0 0] 29)) w6.heap.size m0) := Lib.hid (HY7.out.cast HCL.out.symm)
      clear HY7 HK6 HX6 HR6 HCL
      go_wp2_with fail
      generalize w6.alloc (.cells #[.int .i64 (n0 : Int), .int .i64 (n1 : Int), .int .i64 (n2 : Int), .int .u64 (n3 : Int), .int .u64 0, .int .u64 0, .int .u64 0, .int .u64 0, .bool false, .slice none 0 0, .slice none 0 0, .slice none 0 0, .int .u64 0, .int .u64 0, .slice none 0 0] 29) = w7 at *
      generalize w6.heap.size = b at *
      refine HFC.out.mono ?_
      rintro e w8 ⟨rfl, k8⟩
      have HX8 : Hid (RX w7 pr b (fun k => w1.heap.size ≤ k ∧ k < w2.heap.size) (hdM body) w8) := Lib.hid ⟨m0, ⟨⟨⟨u6, by rw [HS4.out]; exact HR7.out.keep k8 id (fun _ _ => id)⟩, HY.out.keep k8 id, by omega, fun k hk => by have := hk.2; omega⟩, k8.mono (fun _ _ h => h.elim),
        by rw [HM0.out]; exact ⟨HZ3.out, z64, z64, z64, z64, z64, z64, Ens.nil _ _, Zs.nil _ _, Zs.nil _ _, Bytes.nil _ _⟩, fun k hk => by have := hk.2; omega, by omega, by omega⟩, HPL.out⟩
      have HK8 := Lib.hid (HK7.out.trans k8 (fun _ _ h => h))
      have HXR8 := Lib.hid (HX7.out.keep k8 id)
      have hw78 : w7.heap.size ≤ w8.heap.size := k8.size
      have HKW := Lib.hid HK7.out
      have HXW := Lib.hid HX7.out
      clear k8 d0 HFC HY HR7 HM0 HPL HS4 HK7 HX7 HZ3
      cases hk : isKind (n0 : Int) with
      | false =>
        have HXA : Hid (RX w7 pr b (fun k => w1.heap.size ≤ k ∧ k < w2.heap.size) (allM body) w8) := Lib.hid (by
          have e : allM body = hdM body := by unfold allM; rw [HK0'.out, hk]; rfl
          rw [e]; exact HX8.out)
        have HNR : Hid (rightP (allM body).1 = false) := Lib.hid (by
          have e : allM body = hdM body := by unfold allM; rw [HK0'.out, hk]; rfl
          rw [e]; unfold rightP bareP; rw [HK0'.out, hk]; simp)
        have HKX := Lib.hid HK8.out
        have HXX := Lib.hid HXR8.out
        clear HX8 HK8 HXR8
        obtain ⟨m, hm, hpm⟩ := HXA.out
        obtain ⟨ux, hux⟩ := hm.rb.rd
        obtain ⟨er', her⟩ : ∃ e, (allM body).2.end_ = e := ⟨_, rfl⟩
        have HER := Lib.hid her
        have HEN := Lib.hid (end_to w8 pr _ ux _ er' hux her)
        have HMB : Hid (MBox w8 b m) := Lib.hid hm.rb.box
        have HML := Lib.hid hm.lies
        have HPM := Lib.hid hpm
        have HRT := Lib.hid (right_any w8 _ m hm.lies)
        rw [HPM.out] at HRT
        clear hm hpm hux her
        go_wp2_with fail
        refine HEN.out.mono ?_
        rintro e w10 ⟨rfl, rfl⟩
        by_cases he : er' = 0
        · subst he
          have c0 : w8.cell? ⟨b, 0, none⟩ = some (.int .i64 m.k) := (HMB.out.cell 0).trans m.at0
          have c1 : w8.cell? ⟨b, 1, none⟩ = some (.int .i64 m.fr) := (HMB.out.cell 1).trans m.at1
          have c2 : w8.cell? ⟨b, 2, none⟩ = some (.int .i64 m.to) := (HMB.out.cell 2).trans m.at2
          have c3 : w8.cell? ⟨b, 3, none⟩ = some (.int .u64 (m.te : Int)) := (HMB.out.cell 3).trans m.at3
          have c4 : w8.cell? ⟨b, 4, none⟩ = some (.int .u64 (m.ix : Int)) := (HMB.out.cell 4).trans m.at4
          have c5 : w8.cell? ⟨b, 5, none⟩ = some (.int .u64 (m.lt : Int)) := (HMB.out.cell 5).trans m.at5
          have c6 : w8.cell? ⟨b, 6, none⟩ = some (.int .u64 (m.cm : Int)) := (HMB.out.cell 6).trans m.at6
          have c7 : w8.cell? ⟨b, 7, none⟩ = some (.int .u64 (m.rd : Int)) := (HMB.out.cell 7).trans m.at7
          have c8 : w8.cell? ⟨b, 8, none⟩ = some (.bool m.gd) := (HMB.out.cell 8).trans m.at8
          have c9 : w8.cell? ⟨b, 9, none⟩ = some (m.ev) := (HMB.out.cell 9).trans m.at9
          have c10 : w8.cell? ⟨b, 10, none⟩ = some (m.va) := (HMB.out.cell 10).trans m.at10
          have c11 : w8.cell? ⟨b, 11, none⟩ = some (m.la) := (HMB.out.cell 11).trans m.at11
          have c12 : w8.cell? ⟨b, 12, none⟩ = some (.int .u64 (m.off : Int)) := (HMB.out.cell 12).trans m.at12
          have c13 : w8.cell? ⟨b, 13, none⟩ = some (.int .u64 (m.wh : Int)) := (HMB.out.cell 13).trans m.at13
          have c14 : w8.cell? ⟨b, 14, none⟩ = some (m.dv) := (HMB.out.cell 14).trans m.at14
          cases hr : rightP (allM body).1 with
          | false =>
            rw [hr] at HRT
            have HNO : Hid (decM bs = none) := Lib.hid (by rw [HE.out]; unfold bodyM; rw [if_neg (fun h => by rw [hr] at h; cases h.2)])
            clear hr HEN
            go_wp2_with fail
            refine HRT.out.mono ?_
            rintro e w11 ⟨rfl, k11⟩
            have HKY := Lib.hid (HKX.out.trans k11 (fun _ _ h => h))
            have HXY := Lib.hid (HXX.out.keep k11 id)
            clear k11 HKX HXX HMB HRT c0 c1 c2 c3 c4 c5 c6 c7 c8 c9 c10 c11 c12 c13 c14
            go_wp2_with (refine wpList_store_row _ rfl 29 _ _ rfl w.heap.size 29 _ #[.int .i64 0, .int .i64 0, .int .i64 0, .int .u64 0, .int .u64 0, .int .u64 0, .int .u64 0, .int .u64 0, .bool false, .slice none 0 0, .slice none 0 0, .slice none 0 0, .int .u64 0, .int .u64 0, .slice none 0 0] rfl rfl HXY.out rfl (by kernel_rfl) (by simp [Value.oneCell']) ?_; intro wf hB hK)
            exact bodyPost_ret (v := .tuple #[.agg #[.int .i64 0, .int .i64 0, .int .i64 0, .int .u64 0, .int .u64 0, .int .u64 0, .int .u64 0, .int .u64 0, .bool false, .slice none 0 0, .slice none 0 0, .slice none 0 0, .int .u64 0, .int .u64 0, .slice none 0 0], .int .i64 160]) (results_row2 rfl _ _ w.heap.size 29 _ _ _ rfl rfl hB Try.underlying29 rfl (by kernel_rfl)) rfl (.inl ⟨HNO.out, rfl, HKY.out.trans hK (fun i hi e => absurd (e ▸ hi) (Nat.lt_irrefl _))⟩)
          | true =>
            exact absurd hr (by rw [HNR.out]; decide)
        · have ge : (er' != 0) = true := by rw [bne_iff_ne]; exact he
          have HNO : Hid (decM bs = none) := Lib.hid (by rw [HE.out]; unfold bodyM; rw [if_neg (fun h => he (HER.out ▸ h.1))])
          clear he HEN HRT
          go_wp2_with (refine wpList_store_row _ rfl 29 _ _ rfl w.heap.size 29 _ #[.int .i64 0, .int .i64 0, .int .i64 0, .int .u64 0, .int .u64 0, .int .u64 0, .int .u64 0, .int .u64 0, .bool false, .slice none 0 0, .slice none 0 0, .slice none 0 0, .int .u64 0, .int .u64 0, .slice none 0 0] rfl rfl HXX.out rfl (by kernel_rfl) (by simp [Value.oneCell']) ?_; intro wf hB hK)
          exact bodyPost_ret (v := .tuple #[.agg #[.int .i64 0, .int .i64 0, .int .i64 0, .int .u64 0, .int .u64 0, .int .u64 0, .int .u64 0, .int .u64 0, .bool false, .slice none 0 0, .slice none 0 0, .slice none 0 0, .int .u64 0, .int .u64 0, .slice none 0 0], .int .i64 160]) (results_row2 rfl _ _ w.heap.size 29 _ _ _ rfl rfl hB Try.underlying29 rfl (by kernel_rfl)) rfl (.inl ⟨HNO.out, rfl, HKX.out.trans hK (fun i hi e => absurd (e ▸ hi) (Nat.lt_irrefl _))⟩)
      | true =>
        obtain ⟨n', hn, hc, hv⟩ := visit_r (hdM body) (by rw [HK0'.out]; exact hk)
        rw [HK0'.out] at hn
        rw [hn]
        have HV := Lib.hid (hv w7 w8 pr b _ HX8.out)
        have eg : ∀ (args : Array Value) (w : World), (callFunc n' args).run Try.prog w = .ok (.enter n' args) w := hc
        have HKK := Lib.hid hk
        clear hn hc hv hk
        go_wp2_with fail
        refine HV.out.mono ?_
        rintro e w9 ⟨rfl, hx9⟩
        have HXA : Hid (RX w7 pr b (fun k => w1.heap.size ≤ k ∧ k < w2.heap.size) (allM body) w9) := Lib.hid (by
          have e : allM body = fieldsR (hdM body) := by unfold allM; rw [HK0'.out, HKK.out]; rfl
          rw [e]; exact hx9)
        obtain ⟨mq, hmq, -⟩ := hx9
        have kq : Keep (fun k => k = pr ∨ k = b) w7 w9 := hmq.kp
        have HKX : Hid (Keep noneOf w w9) := Lib.hid (HKW.out.trans kq (fun i hi e => by rcases e with e | e <;> omega))
        have HXX := Lib.hid (HXW.out.keep kq (by omega))
        have hw79 : w7.heap.size ≤ w9.heap.size := kq.size
        clear hmq kq HV eg HX8 HK8 HXR8 HKK
        obtain ⟨m, hm, hpm⟩ := HXA.out
        obtain ⟨ux, hux⟩ := hm.rb.rd
        obtain ⟨er', her⟩ : ∃ e, (allM body).2.end_ = e := ⟨_, rfl⟩
        have HER := Lib.hid her
        have HEN := Lib.hid (end_to w9 pr _ ux _ er' hux her)
        have HMB : Hid (MBox w9 b m) := Lib.hid hm.rb.box
        have HML := Lib.hid hm.lies
        have HPM := Lib.hid hpm
        have HRT := Lib.hid (right_any w9 _ m hm.lies)
        rw [HPM.out] at HRT
        clear hm hpm hux her
        go_wp2_with fail
        refine HEN.out.mono ?_
        rintro e w10 ⟨rfl, rfl⟩
        by_cases he : er' = 0
        · subst he
          have c0 : w9.cell? ⟨b, 0, none⟩ = some (.int .i64 m.k) := (HMB.out.cell 0).trans m.at0
          have c1 : w9.cell? ⟨b, 1, none⟩ = some (.int .i64 m.fr) := (HMB.out.cell 1).trans m.at1
          have c2 : w9.cell? ⟨b, 2, none⟩ = some (.int .i64 m.to) := (HMB.out.cell 2).trans m.at2
          have c3 : w9.cell? ⟨b, 3, none⟩ = some (.int .u64 (m.te : Int)) := (HMB.out.cell 3).trans m.at3
          have c4 : w9.cell? ⟨b, 4, none⟩ = some (.int .u64 (m.ix : Int)) := (HMB.out.cell 4).trans m.at4
          have c5 : w9.cell? ⟨b, 5, none⟩ = some (.int .u64 (m.lt : Int)) := (HMB.out.cell 5).trans m.at5
          have c6 : w9.cell? ⟨b, 6, none⟩ = some (.int .u64 (m.cm : Int)) := (HMB.out.cell 6).trans m.at6
          have c7 : w9.cell? ⟨b, 7, none⟩ = some (.int .u64 (m.rd : Int)) := (HMB.out.cell 7).trans m.at7
          have c8 : w9.cell? ⟨b, 8, none⟩ = some (.bool m.gd) := (HMB.out.cell 8).trans m.at8
          have c9 : w9.cell? ⟨b, 9, none⟩ = some (m.ev) := (HMB.out.cell 9).trans m.at9
          have c10 : w9.cell? ⟨b, 10, none⟩ = some (m.va) := (HMB.out.cell 10).trans m.at10
          have c11 : w9.cell? ⟨b, 11, none⟩ = some (m.la) := (HMB.out.cell 11).trans m.at11
          have c12 : w9.cell? ⟨b, 12, none⟩ = some (.int .u64 (m.off : Int)) := (HMB.out.cell 12).trans m.at12
          have c13 : w9.cell? ⟨b, 13, none⟩ = some (.int .u64 (m.wh : Int)) := (HMB.out.cell 13).trans m.at13
          have c14 : w9.cell? ⟨b, 14, none⟩ = some (m.dv) := (HMB.out.cell 14).trans m.at14
          cases hr : rightP (allM body).1 with
          | false =>
            rw [hr] at HRT
            have HNO : Hid (decM bs = none) := Lib.hid (by rw [HE.out]; unfold bodyM; rw [if_neg (fun h => by rw [hr] at h; cases h.2)])
            clear hr HEN
            go_wp2_with fail
            refine HRT.out.mono ?_
            rintro e w11 ⟨rfl, k11⟩
            have HKY := Lib.hid (HKX.out.trans k11 (fun _ _ h => h))
            have HXY := Lib.hid (HXX.out.keep k11 id)
            clear k11 HKX HXX HMB HRT c0 c1 c2 c3 c4 c5 c6 c7 c8 c9 c10 c11 c12 c13 c14
            go_wp2_with (refine wpList_store_row _ rfl 29 _ _ rfl w.heap.size 29 _ #[.int .i64 0, .int .i64 0, .int .i64 0, .int .u64 0, .int .u64 0, .int .u64 0, .int .u64 0, .int .u64 0, .bool false, .slice none 0 0, .slice none 0 0, .slice none 0 0, .int .u64 0, .int .u64 0, .slice none 0 0] rfl rfl HXY.out rfl (by kernel_rfl) (by simp [Value.oneCell']) ?_; intro wf hB hK)
            exact bodyPost_ret (v := .tuple #[.agg #[.int .i64 0, .int .i64 0, .int .i64 0, .int .u64 0, .int .u64 0, .int .u64 0, .int .u64 0, .int .u64 0, .bool false, .slice none 0 0, .slice none 0 0, .slice none 0 0, .int .u64 0, .int .u64 0, .slice none 0 0], .int .i64 160]) (results_row2 rfl _ _ w.heap.size 29 _ _ _ rfl rfl hB Try.underlying29 rfl (by kernel_rfl)) rfl (.inl ⟨HNO.out, rfl, HKY.out.trans hK (fun i hi e => absurd (e ▸ hi) (Nat.lt_irrefl _))⟩)
          | true =>
            rw [hr] at HRT
            have HSO : Hid (decM bs = some m.plain) := Lib.hid (by rw [HE.out, HPM.out]; unfold bodyM; rw [if_pos ⟨HER.out, hr⟩])
            clear hr HEN HPM
            go_wp2_with fail
            refine HRT.out.mono ?_
            rintro e w11 ⟨rfl, k11⟩
            have HKY := Lib.hid (HKX.out.trans k11 (fun _ _ h => h))
            have HXY := Lib.hid (HXX.out.keep k11 id)
            have HMY : Hid (MBox w11 b m) := Lib.hid (HMB.out.keep k11 id)
            have HLY := Lib.hid (HML.out.keepN k11)
            clear k11 HKX HXX HMB HML HRT c0 c1 c2 c3 c4 c5 c6 c7 c8 c9 c10 c11 c12 c13 c14
            go_wp2_with (first | (refine wpList_load_row rfl 29 _ rfl b rfl 29 _ _ _ HMY.out Try.underlying29 rfl (by kernel_rfl) ?_) | (refine wpList_store_row _ rfl 29 _ _ rfl w.heap.size 29 _ m.cells rfl rfl HXY.out rfl (by kernel_rfl) HLY.out.cells_one ?_; intro wf hB hK))
            exact bodyPost_ret (v := .tuple #[.agg m.cells, .int .i64 0]) (results_row2 rfl _ _ w.heap.size 29 _ _ _ rfl rfl hB Try.underlying29 rfl (by kernel_rfl)) rfl (.inr ⟨m, HSO.out, rfl, HKY.out.trans hK (fun i hi e => absurd (e ▸ hi) (Nat.lt_irrefl _)), (HLY.out.keep hK (fun i _ hi e => by omega)).mono (fun i _ hi => by omega)⟩)
        · have ge : (er' != 0) = true := by rw [bne_iff_ne]; exact he
          have HNO : Hid (decM bs = none) := Lib.hid (by rw [HE.out]; unfold bodyM; rw [if_neg (fun h => he (HER.out ▸ h.1))])
          clear he HEN HRT
          go_wp2_with (refine wpList_store_row _ rfl 29 _ _ rfl w.heap.size 29 _ #[.int .i64 0, .int .i64 0, .int .i64 0, .int .u64 0, .int .u64 0, .int .u64 0, .int .u64 0, .int .u64 0, .bool false, .slice none 0 0, .slice none 0 0, .slice none 0 0, .int .u64 0, .int .u64 0, .slice none 0 0] rfl rfl HXX.out rfl (by kernel_rfl) (by simp [Value.oneCell']) ?_; intro wf hB hK)
          exact bodyPost_ret (v := .tuple #[.agg #[.int .i64 0, .int .i64 0, .int .i64 0, .int .u64 0, .int .u64 0, .int .u64 0, .int .u64 0, .int .u64 0, .bool false, .slice none 0 0, .slice none 0 0, .slice none 0 0, .int .u64 0, .int .u64 0, .slice none 0 0], .int .i64 160]) (results_row2 rfl _ _ w.heap.size 29 _ _ _ rfl rfl hB Try.underlying29 rfl (by kernel_rfl)) rfl (.inl ⟨HNO.out, rfl, HKX.out.trans hK (fun i hi e => absurd (e ▸ hi) (Nat.lt_irrefl _))⟩)
    · have HN : Hid (decM bs = none) := Lib.hid (by rw [HD.out, if_neg (fun h => by rw [h.2] at hg2; simp at hg2)])
      clear HD HB1 HBL HL
      go_wp2_with (refine wpList_store_row _ rfl 29 _ _ rfl w.heap.size 29 _ #[.int .i64 0, .int .i64 0, .int .i64 0, .int .u64 0, .int .u64 0, .int .u64 0, .int .u64 0, .int .u64 0, .bool false, .slice none 0 0, .slice none 0 0, .slice none 0 0, .int .u64 0, .int .u64 0, .slice none 0 0] rfl rfl HX1.out rfl (by kernel_rfl) (by simp [Value.oneCell']) ?_; intro wf hB hK)
      exact bodyPost_ret (v := .tuple #[.agg #[.int .i64 0, .int .i64 0, .int .i64 0, .int .u64 0, .int .u64 0, .int .u64 0, .int .u64 0, .int .u64 0, .bool false, .slice none 0 0, .slice none 0 0, .slice none 0 0, .int .u64 0, .int .u64 0, .slice none 0 0], .int .i64 160]) (results_row2 rfl _ _ w.heap.size 29 _ _ _ rfl rfl hB Try.underlying29 rfl (by kernel_rfl)) rfl (.inl ⟨HN.out, rfl, HK1.out.trans hK (fun i hi e => absurd (e ▸ hi) (Nat.lt_irrefl _))⟩)
  · have HN : Hid (decM bs = none) := Lib.hid (by rw [HD.out, if_neg (fun h => by rw [h.1] at hg1; cases hg1)])
    clear HD HB1 HBL HL
    go_wp2_with (refine wpList_store_row _ rfl 29 _ _ rfl w.heap.size 29 _ #[.int .i64 0, .int .i64 0, .int .i64 0, .int .u64 0, .int .u64 0, .int .u64 0, .int .u64 0, .int .u64 0, .bool false, .slice none 0 0, .slice none 0 0, .slice none 0 0, .int .u64 0, .int .u64 0, .slice none 0 0] rfl rfl HX1.out rfl (by kernel_rfl) (by simp [Value.oneCell']) ?_; intro wf hB hK)
    exact bodyPost_ret (v := .tuple #[.agg #[.int .i64 0, .int .i64 0, .int .i64 0, .int .u64 0, .int .u64 0, .int .u64 0, .int .u64 0, .int .u64 0, .bool false, .slice none 0 0, .slice none 0 0, .slice none 0 0, .int .u64 0, .int .u64 0, .slice none 0 0], .int .i64 160]) (results_row2 rfl _ _ w.heap.size 29 _ _ _ rfl rfl hB Try.underlying29 rfl (by kernel_rfl)) rfl (.inl ⟨HN.out, rfl, HK1.out.trans hK (fun i hi e => absurd (e ▸ hi) (Nat.lt_irrefl _))⟩)
end Go.Proofs.Ytdikmmdkpfmocaa
