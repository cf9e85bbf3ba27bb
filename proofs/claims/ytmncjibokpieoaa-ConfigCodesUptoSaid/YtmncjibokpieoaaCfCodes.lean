/-
  ConfigCodes: every configuration's bytes are the document's; all bytes are read as their configuration, or refused; back and forth they are the same.
-/
import Derived.Test.YtmncjibokpieoaaCfRDec
import Derived.Test.YtmncjibokpieoaaCfAlive
import Derived.Test.YtmncjibokpieoaaCfBulk
import Derived.Test.YtmncjibokpieoaaCfRap
import Derived.Laws.IdiomStrings
namespace Go.Proofs.Ytmncjibokpieoaa
open Go.RowKit Go.ChangeShapes Go.WideShapes Go.Deep

/-- The string of some bytes. -/
def strOf (bs : List UInt8) : ByteArray := ⟨bs.toArray⟩
theorem strOf_inj {a b : List UInt8} (h : strOf a = strOf b) : a = b := by
  unfold strOf at h
  injection h with h
  exact Array.toList_inj.2 h |> fun h => by simpa using h
theorem strOf_eq (a b : List UInt8) : (strOf a = strOf b) = (a = b) := propext ⟨strOf_inj, fun h => by rw [h]⟩

/-- string(b) of whatever bytes. -/
theorem run_str {w : World} {D : Nat → Prop} {v : Value} {bs : List UInt8} (h : Bytes w D v bs) : (convert 41 9 v).run Try.prog w = .ok (.string (strOf bs)) w := by
  obtain ⟨A, c, rfl, hl, _, hn, hc⟩ := h
  cases A with
  | none =>
    have h0 : bs = [] := List.eq_nil_of_length_eq_zero (by have := hn rfl; omega)
    subst h0
    rw [run_convert_bytes_string w _ _ 5 _ _ c Try.underlying41 Try.underlying5 Try.underlying9]
    simp [Conv.bytesToString]
    rfl
  | some ad =>
    refine run_convert_bytes_back w _ _ 5 ad c bs Try.underlying41 Try.underlying5 Try.underlying9 fun j hj => ?_
    obtain ⟨ad', e, hsp, _, _, hcell⟩ := hc (by omega)
    injection e with e
    subst e
    have := hcell j _ (List.getElem?_eq_getElem hj)
    have ha : ad.add j = ⟨ad.block, ad.off + j, none⟩ := by
      obtain ⟨b, o, sp⟩ := ad
      simp only at hsp
      subst hsp
      unfold Addr.add
      split
      · rename_i h0; subst h0; rfl
      · rfl
    rw [ha, this]
    rfl

set_option maxRecDepth 100000 in
theorem open_bytes {H : Type} {enc : TypeId × Value → H} {w : World} {base : Nat} {held : Bool} {fuel : Nat} {v : Value} {x : DataW H × List MemPlace} (h : DataW.trod enc Try.prog w base (fun _ => true) held fuel 41 [v] = some x) (hw : Light 41 x.1) : ∃ bs, Bytes w (fun _ => True) v bs ∧ bs.length ≤ lim := by
  rcases open_elems Try.underlying41 h hw with rfl | ⟨a, len, cap, rfl, hl, hm, hby, hi⟩
  · exact ⟨[], Bytes.nil _ _, by simp⟩
  · have hc1 : Try.prog.cellsOf 5 = 1 := by kernel_rfl
    have hb1 : Try.prog.bytesOf 5 = 1 := by kernel_rfl
    rw [hb1, reach_is] at hby
    have key : ∀ i, i < len → ∃ b : UInt8, w.cell? (a.add i) = some (bv b) := by
      intro i hil
      obtain ⟨cs, n, y, hlen, hat, htr, _⟩ := hi i hil
      obtain ⟨k, rfl, _, hwf⟩ := DataW.trod_int Try.underlying5 htr
      have := hat 0 (by simp)
      rw [hc1, Nat.mul_one] at this
      have hz : (a.add i).add 0 = a.add i := rfl
      rw [hz] at this
      have hk : 0 ≤ k ∧ k ≤ 255 := by simpa [Lit.wf, IntKind.min, IntKind.max, IntKind.signed, IntKind.bits] using hwf
      refine ⟨UInt8.ofNat k.toNat, ?_⟩
      rw [this]
      unfold bv
      have e : (UInt8.ofNat k.toNat).toNat = k.toNat := by rw [UInt8.toNat_ofNat']; omega
      rw [e, Int.toNat_of_nonneg hk.1]
      rfl
    obtain ⟨bs, hbl, hb⟩ := list_of len (fun i b => w.cell? (a.add i) = some (bv b)) key
    refine ⟨bs, ⟨some a, cap, by rw [hbl], by omega, hm, fun e => (by cases e), fun h0 => ?_⟩, by rw [lim_is]; omega⟩
    have h00 := hb 0 bs[0] (List.getElem?_eq_getElem h0)
    have hz : a.add 0 = a := rfl
    rw [hz] at h00
    have hsp := spot_of_cell h00
    exact ⟨a, rfl, hsp, block_of_cell h00, trivial, fun j b hj => by have := hb j b hj; rwa [add_at a hsp] at this⟩

set_option maxRecDepth 100000 in
theorem open_arg_bytes {H : Type} {enc : TypeId × Value → H} {w : World} {base : Nat} {v : Value} {d : DataW H} {p : List MemPlace} (hv : Value.okWide Try.prog w .any base 41 v) (h : DataW.Trod enc Try.prog w 0 (fun _ => true) true 41 v d p) (hw : Light 41 d) :
    ∃ bs, Bytes w (fun _ => True) v bs ∧ bs.length ≤ lim := by
  obtain ⟨a, len, cap, rfl⟩ := okWide_slice Try.underlying41 hv
  obtain ⟨fuel, hf⟩ := h
  exact open_bytes hf hw
theorem bs_weigh {H : Type} {enc : TypeId × Value → H} {w : World} {held : Bool} {base fuel : Nat} {D : Nat → Prop} {v : Value} {zs : List UInt8} {x : DataW H × List MemPlace} (hf : DataW.trod enc Try.prog w base (fun _ => true) held fuel 41 [v] = some x) (hz : Bytes w D v zs) : zs.length ≤ Rows.uptoBulk x.1 := by
  obtain ⟨A', c', hv', _⟩ := hz
  rcases Go.Deep.open_slice Try.underlying41 hf with ⟨hcs, _⟩ | ⟨a, len, cap, m, n, D, Pl, hcs, _, _, _, _, hx, _⟩
  · have e : v = .slice none 0 0 := by simpa using hcs
    rw [hv'] at e
    injection e with _ e _
    omega
  · have e : v = .slice (some a) len cap := by simpa using hcs
    rw [hv'] at e
    injection e with _ e _
    subst hx
    have := weighs_all ((List.range len).map D)
    simp only [Rows.uptoBulk, List.length_map, List.length_range] at this ⊢
    omega
theorem bs_bulk {H : Type} {enc : TypeId × Value → H} {w : World} {D : Nat → Prop} {v : Value} {zs : List UInt8} {d : DataW H} {p : List MemPlace} (h : DataW.Trod enc Try.prog w 0 (fun _ => true) true 41 v d p) (hv : v.cells = #[v]) (hz : Bytes w D v zs) : zs.length ≤ Rows.uptoBulk d := by
  obtain ⟨fuel, hf⟩ := h
  rw [hv] at hf
  exact bs_weigh (x := (d, p)) hf hz

/-- What a configuration is written as: nothing, where it may not be. -/
def encR (c : Cf) : List UInt8 := if chkP c = 0 then encP c else []
theorem Encd.one {c : Cf} {w w' : World} {e : Ending} (h : Encd c w e w') : ∃ u, e = .returned (.tuple #[u, .int .i64 (chkP c)]) ∧ Bytes w' (fun k => w.heap.size ≤ k) u (encR c) ∧ Keep noneOf w w' := by
  unfold encR
  rcases h with ⟨h0, u, rfl, hb, k⟩ | ⟨h0, rfl, k⟩
  · rw [if_pos h0, h0]
    exact ⟨u, rfl, hb, k⟩
  · rw [if_neg (by rw [h0]; decide), h0]
    exact ⟨_, rfl, Bytes.nil _ _, k⟩
theorem same_refl (c : Cf) : sameP c c = true := same_iff.2 rfl

set_option maxRecDepth 100000 in
set_option maxHeartbeats 4000000 in
set_option linter.unusedSimpArgs false in
theorem codes_walk (w : World) (v vb : Value) (c : Cf) (bs : List UInt8) (h : CfAt w (fun _ => True) v c) (hb : Bytes w (fun _ => True) vb bs) (hl : bs.length ≤ 17592186043904) :
    Calls Try.prog 6 #[v, vb] w (TellsB true w) := by
  have HH := Lib.hid h
  have HB := Lib.hid hb
  have hlim : bs.length ≤ lim := by rw [lim_is]; omega
  obtain ⟨_, _, rfl, h1, h2⟩ := h
  obtain ⟨A, ca, rfl, _⟩ := h1.shape
  obtain ⟨B, cb, rfl, _⟩ := h2.shape
  obtain ⟨Ab, cbb, rfl, _⟩ := hb
  have K0 := (Keep.refl noneOf w).alloc (.cells #[.slice A c.v.length ca, .slice B c.l.length cb] 24)
  have HX0 := Lib.hid (Box.new w 24 #[.slice A c.v.length ca, .slice B c.l.length cb])
  have HK0 := Lib.hid K0
  have HE1 := Lib.hid (encode_any _ _ _ c (HH.out.keepN K0))
  obtain ⟨Z, hZ⟩ : ∃ z, chkP c = z := ⟨_, rfl⟩
  obtain ⟨E, hE⟩ : ∃ x, encR c = x := ⟨_, rfl⟩
  obtain ⟨Q, hQ⟩ : ∃ q, decQ bs = q := ⟨_, rfl⟩
  have HZ := Lib.hid hZ
  have HEE := Lib.hid hE
  have HQ := Lib.hid hQ
  clear K0 h1 h2 hZ hE hQ
  go_enter Try.func6, Try.ntmps6
  go_wp2_with fail
  refine HE1.out.mono ?_
  intro e w1 he
  obtain ⟨u1, rfl, hb1, k1⟩ := he.one
  rw [HZ.out]
  rw [HEE.out] at hb1
  have HK1 := Lib.hid (HK0.out.trans k1 (fun _ _ h => h))
  have HX1 := Lib.hid (HX0.out.keep k1 id)
  have HB1 := Lib.hid (hb1.mono (D' := fun _ => True) (fun _ _ _ => trivial))
  have HE2 := Lib.hid (rencode_any w1 _ _ c (HH.out.keepN HK1.out))
  have x0 : w1.cell? ⟨w.heap.size, 0, none⟩ = some (.slice A c.v.length ca) := HX1.out.cell 0
  have x1 : w1.cell? ⟨w.heap.size, 1, none⟩ = some (.slice B c.l.length cb) := HX1.out.cell 1
  obtain ⟨A1, c1, rfl, _⟩ := hb1
  clear he k1 HE1 HX0 HK0
  go_wp2_with fail
  refine HE2.out.mono ?_
  intro e w2 he
  obtain ⟨u2, rfl, hb2, k2⟩ := he.one
  rw [HZ.out]
  rw [HEE.out] at hb2
  have HK2 := Lib.hid (HK1.out.trans k2 (fun _ _ h => h))
  have HX2 := Lib.hid (HX1.out.keep k2 id)
  have HY1 := Lib.hid (HB1.out.keep k2 (fun _ _ _ => id))
  have HY2 := Lib.hid (hb2.mono (D' := fun _ => True) (fun _ _ _ => trivial))
  have HD3 := Lib.hid (decode_any w2 _ _ bs (HB.out.keep HK2.out (fun _ _ _ => id)) hlim)
  rw [HQ.out] at HD3
  obtain ⟨A2, c2, rfl, _⟩ := hb2
  clear he k2 HE2 HX1 HK1 HB1 x0 x1
  go_wp2_with fail
  refine HD3.out.mono ?_
  rintro e w3 ⟨v3, rfl, hc3, k3⟩
  have HC3 := Lib.hid (hc3.mono (D' := fun _ => True) (fun _ _ _ => trivial))
  obtain ⟨_, _, rfl, zo1, zo2⟩ := hc3
  obtain ⟨O1, oc1, rfl, _⟩ := zo1.shape
  obtain ⟨O2, oc2, rfl, _⟩ := zo2.shape
  have ka : Keep noneOf w3 (w3.alloc (.cells #[.slice O1 Q.1.v.length oc1, .slice O2 Q.1.l.length oc2] 24)) := (Keep.refl noneOf w3).alloc _
  have HK3 := Lib.hid ((HK2.out.trans k3 (fun _ _ h => h)).trans ka (fun _ _ h => h))
  have HX3 := Lib.hid ((HX2.out.keep k3 id).keep ka id)
  have HY3 := Lib.hid ((HY1.out.keep k3 (fun _ _ _ => id)).keep ka (fun _ _ _ => id))
  have HY4 := Lib.hid ((HY2.out.keep k3 (fun _ _ _ => id)).keep ka (fun _ _ _ => id))
  have HO3 := Lib.hid (Box.new w3 24 #[.slice O1 Q.1.v.length oc1, .slice O2 Q.1.l.length oc2])
  have HC4 := Lib.hid (HC3.out.keepN ka)
  have HD4 := Lib.hid (rdecode_any _ _ _ bs (HB.out.keep HK3.out (fun _ _ _ => id)) hl)
  rw [HQ.out] at HD4
  clear k3 ka HD3 HX2 HK2 HY1 HY2 HC3
  go_upto_region 4 with fail
  generalize w3.alloc (.cells #[.slice O1 Q.1.v.length oc1, .slice O2 Q.1.l.length oc2] 24) = w4 at *
  go_wp2_with fail
  refine HD4.out.mono ?_
  rintro e w5 ⟨v5, rfl, hc5, k5⟩
  have HC5 := Lib.hid (hc5.mono (D' := fun _ => True) (fun _ _ _ => trivial))
  obtain ⟨_, _, rfl, zp1, zp2⟩ := hc5
  obtain ⟨P1, pc1, rfl, _⟩ := zp1.shape
  obtain ⟨P2, pc2, rfl, _⟩ := zp2.shape
  have ka : Keep noneOf w5 (w5.alloc (.cells #[.slice P1 Q.1.v.length pc1, .slice P2 Q.1.l.length pc2] 24)) := (Keep.refl noneOf w5).alloc _
  have HK6 := Lib.hid ((HK3.out.trans k5 (fun _ _ h => h)).trans ka (fun _ _ h => h))
  have HX6 := Lib.hid ((HX3.out.keep k5 id).keep ka id)
  have HO6 := Lib.hid ((HO3.out.keep k5 id).keep ka id)
  have HP6 := Lib.hid (Box.new w5 24 #[.slice P1 Q.1.v.length pc1, .slice P2 Q.1.l.length pc2])
  have HY5 := Lib.hid ((HY3.out.keep k5 (fun _ _ _ => id)).keep ka (fun _ _ _ => id))
  have HY6 := Lib.hid ((HY4.out.keep k5 (fun _ _ _ => id)).keep ka (fun _ _ _ => id))
  have HC6 := Lib.hid ((HC4.out.keepN k5).keepN ka)
  have HC7 := Lib.hid (HC5.out.keepN ka)
  clear k5 ka HD4 HX3 HO3 HK3 HY3 HY4 HC4 HC5
  go_upto_region 5 with fail
  generalize w5.alloc (.cells #[.slice P1 Q.1.v.length pc1, .slice P2 Q.1.l.length pc2] 24) = w6 at *
  have HAL := Lib.hid (alive_any w6)
  go_wp2_with fail
  refine HAL.out.mono ?_
  rintro e w7 ⟨rfl, k7⟩
  have HK7 := Lib.hid (HK6.out.trans k7 (fun _ _ h => h))
  have HX7 := Lib.hid (HX6.out.keep k7 id)
  have HO7 := Lib.hid (HO6.out.keep k7 id)
  have HP7 := Lib.hid (HP6.out.keep k7 id)
  have HYa := Lib.hid (HY5.out.keep k7 (fun _ _ _ => id))
  have HC8 := Lib.hid (HC6.out.keepN k7)
  have HSM := Lib.hid (rsame_any w7 _ _ _ _ Q.1 Q.1 HC8.out (HC7.out.keepN k7))
  rw [same_refl] at HSM
  have r1 := run_str HYa.out
  have r2 := run_str (HY6.out.keep k7 (fun _ _ _ => id))
  have y0 := HO7.out.cell 0
  have y1 := HO7.out.cell 1
  have z0 := HP7.out.cell 0
  have z1 := HP7.out.cell 1
  clear k7 HAL HX6 HO6 HP6 HK6 HY5 HY6 HC6 HC7
  go_wp2_with fail
  refine HSM.out.mono ?_
  rintro e w8 ⟨rfl, k8⟩
  have HK8 := Lib.hid (HK7.out.trans k8 (fun _ _ h => h))
  have HX8 := Lib.hid (HX7.out.keep k8 id)
  have HO8 := Lib.hid (HO7.out.keep k8 id)
  have HY8 := Lib.hid (HYa.out.keep k8 (fun _ _ _ => id))
  have HC9 := Lib.hid (HC8.out.keepN k8)
  clear k8 HSM r1 r2 y0 y1 z0 z1 HK7 HX7 HO7 HP7 HYa HC8
  rcases chk_range c with hz | hz
  · obtain rfl : (0 : Int) = Z := by rw [← HZ.out, hz]
    obtain ⟨s1, s2⟩ := chk_short hz
    have hEE : E = encP c := by
      rw [← HEE.out]
      unfold encR
      rw [if_pos hz]
    have hEl : E.length ≤ lim := by
      rw [hEE, lim_is]
      unfold encP
      simp
      omega
    have HD9 := Lib.hid (decode_any w8 _ _ E HY8.out hEl)
    rw [show decQ E = (c, 0) by rw [hEE]; exact dec_enc hz] at HD9
    clear hEE hEl s1 s2 hz
    go_wp2_with fail
    refine HD9.out.mono ?_
    rintro e w9 ⟨v9, rfl, hc9, k9⟩
    have HC10 := Lib.hid (hc9.mono (D' := fun _ => True) (fun _ _ _ => trivial))
    obtain ⟨_, _, rfl, zd1, zd2⟩ := hc9
    obtain ⟨D1, dc1, rfl, _⟩ := zd1.shape
    obtain ⟨D2, dc2, rfl, _⟩ := zd2.shape
    have ka : Keep noneOf w9 (w9.alloc (.cells #[.slice D1 c.v.length dc1, .slice D2 c.l.length dc2] 24)) := (Keep.refl noneOf w9).alloc _
    have HK10 := Lib.hid ((HK8.out.trans k9 (fun _ _ h => h)).trans ka (fun _ _ h => h))
    have HX10 := Lib.hid ((HX8.out.keep k9 id).keep ka id)
    have HO10 := Lib.hid ((HO8.out.keep k9 id).keep ka id)
    have HD10 := Lib.hid (Box.new w9 24 #[.slice D1 c.v.length dc1, .slice D2 c.l.length dc2])
    have HCo := Lib.hid ((HC9.out.keepN k9).keepN ka)
    have HSM := Lib.hid (rsame_any _ _ _ _ _ c c (HH.out.keepN HK10.out) (HC10.out.keepN ka))
    rw [same_refl] at HSM
    clear k9 ka HD9 HK8 HX8 HO8 HY8 HC9 HC10
    go_upto_region 9 with fail
    generalize w9.alloc (.cells #[.slice D1 c.v.length dc1, .slice D2 c.l.length dc2] 24) = w10 at *
    have x0 := HX10.out.cell 0
    have x1 := HX10.out.cell 1
    have d0 := HD10.out.cell 0
    have d1 := HD10.out.cell 1
    go_wp2_with fail
    refine HSM.out.mono ?_
    rintro e w11 ⟨rfl, k11⟩
    have HKe := Lib.hid (HK10.out.trans k11 (fun _ _ h => h))
    have HOe := Lib.hid (HO10.out.keep k11 id)
    have HCe := Lib.hid (HCo.out.keepN k11)
    clear k11 x0 x1 d0 d1 HSM HK10 HX10 HO10 HD10 HCo
    rcases dec_range bs with hq | hq
    · rw [HQ.out] at hq
      obtain ⟨hk, he⟩ := enc_dec (bs := bs) (by rw [HQ.out]; exact hq)
      rw [HQ.out] at hk he
      rw [hq]
      have o0 := HOe.out.cell 0
      have o1 := HOe.out.cell 1
      have HEo := Lib.hid (encode_any w11 _ _ Q.1 HCe.out)
      go_wp2_with fail
      refine HEo.out.mono ?_
      intro e w12 hee
      obtain ⟨u12, rfl, hb12, k12⟩ := hee.one
      unfold encR at hb12
      rw [if_pos hk, he] at hb12
      rw [hk]
      have HKf := Lib.hid (HKe.out.trans k12 (fun _ _ h => h))
      have r1 := run_str hb12
      have r2 := run_str (HB.out.keep HKf.out (fun _ _ _ => id))
      obtain ⟨A12, c12, rfl, _⟩ := hb12
      clear hee k12 o0 o1 hk he hq HEo
      go_wp2
      go_ret
      exact ⟨by simp, HKf.out⟩
    · rw [HQ.out] at hq
      subst hq
      go_wp2
      go_ret
      exact ⟨rfl, HKe.out⟩
  · obtain rfl : (140 : Int) = Z := by rw [← HZ.out, hz]
    clear hz
    have HKe := Lib.hid HK8.out
    have HOe := Lib.hid HO8.out
    have HCe := Lib.hid HC9.out
    clear HK8 HO8 HC9
    rcases dec_range bs with hq | hq
    · rw [HQ.out] at hq
      obtain ⟨hk, he⟩ := enc_dec (bs := bs) (by rw [HQ.out]; exact hq)
      rw [HQ.out] at hk he
      rw [hq]
      have o0 := HOe.out.cell 0
      have o1 := HOe.out.cell 1
      have HEo := Lib.hid (encode_any w8 _ _ Q.1 HCe.out)
      go_wp2_with fail
      refine HEo.out.mono ?_
      intro e w12 hee
      obtain ⟨u12, rfl, hb12, k12⟩ := hee.one
      unfold encR at hb12
      rw [if_pos hk, he] at hb12
      rw [hk]
      have HKf := Lib.hid (HKe.out.trans k12 (fun _ _ h => h))
      have r1 := run_str hb12
      have r2 := run_str (HB.out.keep HKf.out (fun _ _ _ => id))
      obtain ⟨A12, c12, rfl, _⟩ := hb12
      clear hee k12 o0 o1 hk he hq HEo
      go_wp2
      go_ret
      exact ⟨by simp, HKf.out⟩
    · rw [HQ.out] at hq
      subst hq
      go_wp2
      go_ret
      exact ⟨rfl, HKe.out⟩

namespace ConfigCodes
set_option maxRecDepth 100000 in
theorem lifted (os : Os) (started : os.Started) (H : Type) (enc : TypeId × Value → H) (F : Stop.Interp) :
    ReturnsInHanded {} Try.checked os 6 .any ((Rows.OpenSpec.upto Rows.configCodesSpec).pre6 enc Try.prog Try.f6 Rows.configCodesUptoRow.domain false) (((Rows.OpenSpec.upto Rows.configCodesSpec).at F).post enc Try.prog Try.f6 false true false false) := by
  refine returnsInHanded_of_cond_sized (C := Try.checked) (s := Rows.OpenSpec.upto Rows.configCodesSpec) (k := Rows.uptoSmall) rfl own started (by kernel_rfl) Try.func6
    (OpenSpec.witness (enc := enc) (C := Try.checked) (s := Rows.OpenSpec.upto Rows.configCodesSpec) (k := Rows.uptoSmall) rfl false ⟨#[], #[.agg #[.slice none 0 0, .slice none 0 0], .slice none 0 0], []⟩ 8 (by kernel_rfl) (by kernel_rfl) (by kernel_rfl)
      (x := ([.agg [.nil, .nil], .nil], [], [])) (by kernel_rfl) rfl (by kernel_rfl)) ?_
  intro W base args ds gs before hval0 hW _ hk hsz _
  have hval : ∀ (j : Nat) t v, Try.f6.params[j]? = some t → args[j]? = some v → Value.okWide Try.prog W .any base t v := hval0
  have hW' := hW
  obtain ⟨p, q, hA0, hV, rfl, hfz, hnd⟩ := hW
  have hA : DataW.TrodAll enc Try.prog W 0 (fun _ => true) true Try.f6.params.toList args.toList ds p := hA0
  rw [Try.params6] at hA hval
  obtain ⟨v0, vs0, d0, ds0, p0, q0, hargs, rfl, rfl, h0, r0⟩ := trodAll_cons hA
  obtain ⟨v1, vs1, d1, ds1, p1, q1, rfl, rfl, rfl, h1, r1⟩ := trodAll_cons r0
  obtain ⟨rfl, rfl, rfl⟩ := trodAll_nil r1
  obtain rfl : args = #[v0, v1] := by cases args; simp_all
  obtain ⟨rfl, rfl⟩ := trodVars_none hV
  have k0 := h0
  have lt0 : ∀ x ∈ p0, x.block < W.heap.size := by obtain ⟨m, hm⟩ := k0; exact DataW.trod_lt m _ _ _ hm
  obtain ⟨c0, hc0, hv0, hl0⟩ := open_arg_cfg (hval 0 24 v0 rfl rfl) h0 (light_arg hsz (j := 0) rfl rfl)
  have bk0 := cfg_bulk h0 hc0
  have k1 := h1
  have lt1 : ∀ x ∈ p1, x.block < W.heap.size := by obtain ⟨m, hm⟩ := k1; exact DataW.trod_lt m _ _ _ hm
  obtain ⟨z1, hz1, hb1⟩ := open_arg_bytes (hval 1 41 v1 rfl rfl) h1 (light_arg hsz (j := 1) rfl rfl)
  have bk1 := bs_bulk h1 (by obtain ⟨_, _, e, _⟩ := hz1; rw [e]; rfl) hz1
  have hb : Rows.uptoBulkAll [d0, d1] ≤ 1048576 := of_decide_eq_true hk
  simp only [Rows.uptoBulkAll] at hb
  clear hA0 hval0
  refine (codes_walk W v0 v1 c0 z1 hc0 hz1 (by omega)).mono fun e W' ⟨he, bel0⟩ => ?_
  subst he
  have bel := bel0.all
  exact ⟨_, rfl, _, _, _, [], _, [], hW', trodAll_mk1 (shut_bool Try.underlying4 _), (trodAll_cons_mk (Below.trod laidOut (by kernel_rfl) (of_decide_eq_true (by kernel_rfl)) k0 bel lt0) (trodAll_cons_mk (Below.trod laidOut (by kernel_rfl) (of_decide_eq_true (by kernel_rfl)) k1 bel lt1) trodAll_mk0)), rfl, bel.frame _, fun h => by cases h⟩

theorem proved : Rows.ConfigCodesUptoSaid :=
  OpenClaim.holds_of_cond 6 Try.f6 rfl rfl rfl rfl rfl rfl rfl ⟨rfl, rfl, rfl, rfl, rfl⟩ rfl rfl rfl rfl rfl (by kernel_rfl) Try.func6 (by kernel_rfl)
    (of_decide_eq_true (by kernel_rfl)) (by unfold Func.isWrapper; first | (rw [if_pos (by decide +kernel)]; kernel_rfl) | (rw [if_neg (by decide +kernel)]; exact ⟨rfl, rfl⟩))
    (fun os started H enc _ F => lifted os started H enc F)
end ConfigCodes
end Go.Proofs.Ytmncjibokpieoaa
