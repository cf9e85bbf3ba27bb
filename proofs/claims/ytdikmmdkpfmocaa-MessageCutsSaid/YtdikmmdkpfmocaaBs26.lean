import Derived.Test.YtdikmmdkpfmocaaBs02
import Derived.Test.YtdikmmdkpfmocaaBs15
import Derived.Test.YtdikmmdkpfmocaaBs25
namespace Go.Proofs.Ytdikmmdkpfmocaa
open Go.RowKit Go.Shelf
theorem wrap8 {n : Int} (h0 : 0 ≤ n) (h1 : n < 256) : IntKind.u8.wrap n = n := by
  simp only [IntKind.wrap, IntKind.signed, IntKind.bits]
  simp
  omega
def encP (c : Cf) : List UInt8 := (UInt8.ofNat c.v.length :: c.v.map by8) ++ (UInt8.ofNat c.l.length :: c.l.map by8)
theorem var_few {n : Nat} (h : n < 253) : varBytes n = [UInt8.ofNat n] := by
  have h1 : varFirst n = n := by unfold varFirst; rw [if_pos h]
  have h2 : varMore n = 0 := by unfold varMore; rw [if_neg (by omega), if_neg (by omega), if_neg (by omega)]
  unfold varBytes
  rw [h1, h2]
  rfl
theorem Zs.went {w w' : World} {D : Nat → Prop} {v v' : Value} {zs : List Int} {p : Nat} (h : Zs w D v zs) (g : Went w p (.slice none 0 0) w' v') (hp : ∀ i, i < w.heap.size → D i → i ≠ p) : Zs w' D v zs :=
  h.keep g.keep (fun i hi hD e => e.elim (hp i hi hD) (fun e => by cases e))
set_option maxRecDepth 100000 in
set_option maxHeartbeats 1000000 in
theorem putNode_any (w : World) (p : Nat) (v : Value) (bs : List UInt8) (z : Int) (h : Wr w p v bs) (hb : bs.length < lim) (h0 : 0 ≤ z) (h8 : z < 8) :
    Calls Try.prog 87 #[.pointer (some ⟨p, 0, none⟩), .int .i64 z] w fun e w' => e = .returned (.tuple #[]) ∧ ∃ v', Wr w' p v' (bs ++ [by8 z]) ∧ Went w p v w' v' := by
  have HB := Lib.hid (byte_any w p v bs z h hb h0 (by omega))
  have e8 : IntKind.u8.wrap z = z := wrap8 h0 (by omega)
  clear h hb
  go_enter Try.func87, Try.ntmps87
  go_wp2_with fail
  refine HB.out.mono ?_
  rintro e w1 ⟨rfl, hx⟩
  have HX := Lib.hid hx
  clear hx
  go_wp2
  go_end0
  exact ⟨rfl, HX.out⟩
theorem can_putNode : CanCall 87 := enters_of Try.func87 (by kernel_rfl) rfl
set_option maxRecDepth 100000 in
set_option maxHeartbeats 1000000 in
theorem put_any (w0 w : World) (p : Nat) (v : Value) (bs : List UInt8) (D : Nat → Prop) (vl : Value) (l : List Int) (h : Wr w p v bs) (hg : Went w0 p (.slice none 0 0) w v) (hl : Zs w0 D vl l) (hp : ∀ i, i < w0.heap.size → D i → i ≠ p) (h8 : l.length ≤ 8) (hz : ∀ z ∈ l, 0 ≤ z ∧ z < 8) (hb : bs.length ≤ 100) :
    Calls Try.prog 86 #[.pointer (some ⟨p, 0, none⟩), vl, .func (.func 87) #[] #[]] w fun e w' => e = .returned (.tuple #[]) ∧ ∃ v', Wr w' p v' (bs ++ (UInt8.ofNat l.length :: l.map by8)) ∧ Went w0 p (.slice none 0 0) w' v' := by
  obtain ⟨A, c, rfl, hlc, hcm, _⟩ := hl.shape
  unfold maxLen at hcm
  have HL := Lib.hid hl
  have HP := Lib.hid hp
  have HZ := Lib.hid hz
  have HG := Lib.hid hg
  have HV := Lib.hid (var_any w p v bs l.length h (by rw [lim_is]; omega) (by omega))
  rw [var_few (by omega)] at HV
  have e64 : IntKind.u64.wrap (l.length : Int) = (l.length : Int) := by
    simp only [IntKind.wrap, IntKind.signed, IntKind.bits]
    simp
    omega
  clear hl hp hz hg h
  go_enter Try.func86, Try.ntmps86
  go_wp2_with fail
  refine HV.out.mono ?_
  rintro e w1 ⟨rfl, v1, hw1, hg1⟩
  have HW1 := Lib.hid hw1
  have HG1 := Lib.hid (HG.out.trans hg1)
  clear hw1 hg1 HV HG e64
  go_wp2
  go_loopw [15] (fun i wr => ∃ (k : Nat) (vk : Value), k ≤ l.length ∧ i = .int .i64 k ∧ Wr wr p vk (bs ++ (UInt8.ofNat l.length :: (l.take k).map by8)) ∧ Went w0 p (.slice none 0 0) wr vk) (fun i _ => l.length - (intOf i).toNat)
  case atStart => exact ⟨0, v1, Nat.zero_le _, rfl, HW1.out, HG1.out⟩
  case round =>
    obtain ⟨k, vk, hk, rfl, hw, hgk⟩ := hrel
    have HW := Lib.hid hw
    have HGK := Lib.hid hgk
    have HLK := Lib.hid (HL.out.went hgk HP.out)
    clear hw hgk
    by_cases hlt : k < l.length
    · obtain ⟨b, o, rfl, hblk, hD, c0⟩ := HLK.out.cell hlt
      have hz0 := HZ.out l[k] (List.getElem_mem hlt)
      have HPN := Lib.hid (putNode_any wr p vk _ l[k] HW.out (by rw [lim_is]; simp; omega) hz0.1 hz0.2)
      have HS := Lib.hid (show (l.take (k + 1)).map by8 = (l.take k).map by8 ++ [by8 l[k]] by
        rw [List.take_add_one, List.getElem?_eq_getElem hlt]
        simp only [Option.toList_some, List.map_append, List.map_cons, List.map_nil])
      generalize l[k] = z at *
      have q0 : (0 : Int) ≤ (k : Int) := by omega
      have q1 : (k : Int) < (l.length : Int) := by omega
      have eg : ∀ (args : Array Value) (w : World), (callFunc 87 args).run Try.prog w = .ok (.enter 87 args) w := can_putNode
      go_wp2_with fail
      refine HPN.out.mono ?_
      rintro e w2 ⟨rfl, v2, hw2, hg2⟩
      have HW2 := Lib.hid hw2
      have HG2 := Lib.hid (HGK.out.trans hg2)
      clear hw2 hg2 eg
      go_wp2
      go_roundw
      case rel =>
        refine ⟨k + 1, v2, by omega, by go_num, ?_, HG2.out⟩
        rw [HS.out]
        have := HW2.out
        rw [List.append_assoc] at this
        exact this
      case measure => simp [intOf]; omega
    · obtain rfl : k = l.length := by omega
      rw [List.take_length] at HW
      go_wp2
      go_end0
      exact ⟨rfl, vk, HW.out, HGK.out⟩
def Encd (c : Cf) (w : World) (e : Ending) (w' : World) : Prop :=
  (chkP c = 0 ∧ ∃ u, e = .returned (.tuple #[u, .int .i64 0]) ∧ Bytes w' (fun k => w.heap.size ≤ k) u (encP c) ∧ Keep noneOf w w') ∨ (chkP c = 140 ∧ e = .returned (.tuple #[.slice none 0 0, .int .i64 140]) ∧ Keep noneOf w w')
theorem Went.none {w w' : World} {p : Nat} {v' : Value} (g : Went w p (.slice none 0 0) w' v') {w0 : World} (k : Keep noneOf w0 w) (hp : w0.heap.size ≤ p) : Keep noneOf w0 w' :=
  k.trans g.keep (fun i hi e => e.elim (fun e => by omega) (fun e => by cases e))
set_option maxRecDepth 100000 in
set_option maxHeartbeats 1000000 in
theorem cencode_any (w : World) (D : Nat → Prop) (v : Value) (c : Cf) (h : CfAt w D v c) :
    Calls Try.prog 83 #[v] w (Encd c w) := by
  have HH := Lib.hid h
  obtain ⟨a, b, rfl, h1, h2⟩ := h
  obtain ⟨A, ca, rfl, hla, hma, _⟩ := h1.shape
  obtain ⟨B, cb, rfl, hlb, hmb, _⟩ := h2.shape
  have H1 := Lib.hid h1
  have H2 := Lib.hid h2
  unfold maxLen at hma hmb
  have K0 := (Keep.refl noneOf w).alloc (.cells #[.slice A c.v.length ca, .slice B c.l.length cb] 26)
  have X0 := Box.new w 26 #[.slice A c.v.length ca, .slice B c.l.length cb]
  have HX0 := Lib.hid X0
  have HK0 := Lib.hid K0
  have HC := Lib.hid (check_any _ D _ c (HH.out.keepN K0))
  clear h1 h2 X0 K0
  rcases chk_range c with hz | hz
  · have HZ := Lib.hid hz
    have HV := Lib.hid ((chk_iff c).1 hz)
    rw [hz] at HC
    clear hz
    go_enter Try.func83, Try.ntmps83
    go_wp2_with fail
    refine HC.out.mono ?_
    rintro e w1 ⟨rfl, k1⟩
    have HK1 := Lib.hid (HK0.out.trans k1 (fun _ _ h => h))
    have HX1 := Lib.hid (HX0.out.keep k1 id)
    have NW := Lib.hid (new_any w1)
    clear k1 HC HK0 HX0
    go_wp2_with fail
    refine NW.out.mono ?_
    rintro e w2 ⟨rfl, rfl⟩
    have KW : Keep noneOf w (w1.alloc (.cells #[.slice none 0 0] 66)) := HK1.out.alloc _
    have HKW := Lib.hid KW
    have HX2 := Lib.hid (HX1.out.alloc (.cells #[.slice none 0 0] 66))
    have HW2 := Lib.hid (Wr.new w1)
    have x0 : (w1.alloc (.cells #[.slice none 0 0] 66)).cell? ⟨w.heap.size, 0, none⟩ = some (.slice A c.v.length ca) := HX2.out.cell 0
    have x1 : (w1.alloc (.cells #[.slice none 0 0] 66)).cell? ⟨w.heap.size, 1, none⟩ = some (.slice B c.l.length cb) := HX2.out.cell 1
    have hlt : w.heap.size < w1.heap.size := HX1.out.lt
    have hle : w.heap.size ≤ w1.heap.size := by omega
    have HZ1 := Lib.hid (H1.out.keepN KW)
    have HZ2 := Lib.hid (H2.out.keepN KW)
    have hsz : (w1.alloc (.cells #[.slice none 0 0] 66)).heap.size = w1.heap.size + 1 := by simp
    have h8v := eight HV.out.vs HV.out.v8
    have h8l := eight HV.out.ls HV.out.l8
    have HSZ := Lib.hid hsz
    -- the numbers lie below the writer
    have HD1 : Hid (Zs (w1.alloc (.cells #[.slice none 0 0] 66)) (fun i => i < w.heap.size) (.slice A c.v.length ca) c.v) := Lib.hid (by
      obtain ⟨A', c', hv, a1, a2, a3, a4, a5⟩ := H1.out
      refine Zs.keepN ?_ KW
      refine ⟨A', c', hv, a1, a2, a3, a4, fun h0 => ?_⟩
      obtain ⟨ad, e1, e2, e3, e4, e5⟩ := a5 h0
      exact ⟨ad, e1, e2, e3, e3, e5⟩)
    have HD2 : Hid (Zs (w1.alloc (.cells #[.slice none 0 0] 66)) (fun i => i < w.heap.size) (.slice B c.l.length cb) c.l) := Lib.hid (by
      obtain ⟨A', c', hv, a1, a2, a3, a4, a5⟩ := H2.out
      refine Zs.keepN ?_ KW
      refine ⟨A', c', hv, a1, a2, a3, a4, fun h0 => ?_⟩
      obtain ⟨ad, e1, e2, e3, e4, e5⟩ := a5 h0
      exact ⟨ad, e1, e2, e3, e3, e5⟩)
    have P1 := Lib.hid (put_any _ _ w1.heap.size _ [] _ _ c.v HW2.out ⟨Keep.refl _ _, .inl rfl⟩ HD1.out (fun i _ hi e => by omega) h8v HV.out.v8 (by simp))
    rw [List.nil_append] at P1
    clear hsz KW HZ1 HZ2
    generalize w1.alloc (.cells #[.slice none 0 0] 66) = w2 at *
    go_wp2_with fail
    refine P1.out.mono ?_
    rintro e w3 ⟨rfl, v3, hw3, hg3⟩
    have HW3 := Lib.hid hw3
    have HG3 := Lib.hid hg3
    have HX3 := Lib.hid (hg3.box HX2.out (by omega))
    have y1 : w3.cell? ⟨w.heap.size, 1, none⟩ = some (.slice B c.l.length cb) := HX3.out.cell 1
    have P2 := Lib.hid (put_any w2 w3 w1.heap.size v3 _ _ _ c.l hw3 hg3 HD2.out (fun i _ hi e => by omega) h8l HV.out.l8 (by simp; omega))
    clear hw3 hg3 x0 x1 P1
    go_wp2_with fail
    refine P2.out.mono ?_
    rintro e w4 ⟨rfl, v4, hw4, hg4⟩
    have HG4 := Lib.hid hg4
    have BY := Lib.hid (bytes_any w4 w1.heap.size v4 _ hw4)
    clear hw4 hg4 y1 P2
    go_wp2_with fail
    refine BY.out.mono ?_
    rintro e w5 ⟨u5, rfl, hF5⟩
    obtain ⟨A5, c5, rfl⟩ := own_shape hF5.own
    have KE := (HG4.out.none HKW.out (by omega)).trans hF5.keep (fun _ _ h => h)
    have HKE := Lib.hid KE
    have h45 := (HG4.out.none HKW.out (by omega)).size
    have HBF := Lib.hid (show Bytes w5 (fun k => w.heap.size ≤ k) (.slice A5 (encP c).length c5) (encP c) from (Bytes.of_own hF5.own).mono (fun i _ hi => by have := hF5.new i hi.symm; omega))
    have hel : (encP c).length = c.v.length + (c.l.length + 1) + 1 := by unfold encP; simp
    have HB9 : Hid (Bytes w5 (fun k => w.heap.size ≤ k) (.slice A5 (c.v.length + (c.l.length + 1) + 1) c5) (encP c)) := Lib.hid (by have := HBF.out; rwa [hel] at this)
    clear hF5 KE BY hel
    go_wp2
    go_ret2
    exact .inl ⟨HZ.out, _, rfl, HB9.out, HKE.out⟩
  · have HZ := Lib.hid hz
    rw [hz] at HC
    clear hz
    go_enter Try.func83, Try.ntmps83
    go_wp2_with fail
    refine HC.out.mono ?_
    rintro e w1 ⟨rfl, k1⟩
    have HK1 := Lib.hid (HK0.out.trans k1 (fun _ _ h => h))
    clear k1
    go_wp2
    go_ret2
    exact .inr ⟨HZ.out, rfl, HK1.out⟩
end Go.Proofs.Ytdikmmdkpfmocaa
