/-
  MessageTurned: a message with one bit turned is none. No conditions.
-/
import Derived.Test.YtdikmmdkpfmocaaRows
import Derived.Laws.BitsAllLaws
import Derived.StillTailTactics
import Derived.Test.YtdikmmdkpfmocaaBs01
import Derived.Test.YtdikmmdkpfmocaaBs02
import Derived.Test.YtdikmmdkpfmocaaBs03
import Derived.Test.YtdikmmdkpfmocaaBs04
import Derived.Test.YtdikmmdkpfmocaaBs05
import Derived.Test.YtdikmmdkpfmocaaBs06
import Derived.Test.YtdikmmdkpfmocaaBs07
import Derived.Test.YtdikmmdkpfmocaaBs08
import Derived.Test.YtdikmmdkpfmocaaBs09
import Derived.Test.YtdikmmdkpfmocaaBs10
import Derived.Test.YtdikmmdkpfmocaaBs11
import Derived.Test.YtdikmmdkpfmocaaBs12
import Derived.Test.YtdikmmdkpfmocaaBs13
import Derived.Test.YtdikmmdkpfmocaaBs14
import Derived.Test.YtdikmmdkpfmocaaBs15
import Derived.Test.YtdikmmdkpfmocaaBs16
import Derived.Test.YtdikmmdkpfmocaaBs17
import Derived.Test.YtdikmmdkpfmocaaBs18
import Derived.Test.YtdikmmdkpfmocaaBs19
import Derived.Test.YtdikmmdkpfmocaaBs20
import Derived.Test.YtdikmmdkpfmocaaBs21
import Derived.Test.YtdikmmdkpfmocaaBs22
import Derived.Test.YtdikmmdkpfmocaaBs23
import Derived.Test.YtdikmmdkpfmocaaBs24
import Derived.Test.YtdikmmdkpfmocaaBs25
import Derived.Test.YtdikmmdkpfmocaaBs26
import Derived.Test.YtdikmmdkpfmocaaBs27
import Derived.Test.YtdikmmdkpfmocaaBs28
import Derived.Test.YtdikmmdkpfmocaaBs29
import Derived.Test.YtdikmmdkpfmocaaBs30
import Derived.Test.YtdikmmdkpfmocaaBs31
import Derived.Test.YtdikmmdkpfmocaaBs32
import Derived.Test.YtdikmmdkpfmocaaBs33
import Derived.Test.YtdikmmdkpfmocaaBs34
import Derived.Test.YtdikmmdkpfmocaaBs35
import Derived.Test.YtdikmmdkpfmocaaBs36
import Derived.Test.YtdikmmdkpfmocaaBs37
import Derived.Test.YtdikmmdkpfmocaaBs38
import Derived.Test.YtdikmmdkpfmocaaBs39
import Derived.Test.YtdikmmdkpfmocaaBs40
import Derived.Test.YtdikmmdkpfmocaaBs41
import Derived.Test.YtdikmmdkpfmocaaBs42
import Derived.Test.YtdikmmdkpfmocaaBs43
import Derived.Test.YtdikmmdkpfmocaaBs44
import Derived.Test.YtdikmmdkpfmocaaBs45
import Derived.Test.YtdikmmdkpfmocaaBs46
import Derived.Test.YtdikmmdkpfmocaaBs47
import Derived.Test.YtdikmmdkpfmocaaBs48
import Derived.Test.YtdikmmdkpfmocaaBs49
namespace Go.Proofs.Ytdikmmdkpfmocaa
open Go.RowKit
theorem be_inj {n m k : Nat} (hn : n < 256 ^ k) (hm : m < 256 ^ k) (h : be n k = be m k) : n = m := by
  rw [← num_be n k hn, ← num_be m k hm, h]
end Go.Proofs.Ytdikmmdkpfmocaa
namespace Go.Proofs.Ytdikmmdkpfmocaa
open Go.RowKit
theorem xo_eq {a b : Nat} (ha : a < 4294967296) (hb : b < 4294967296) : xo a b = a ^^^ b := by
  have h := xo_bits ha hb
  rw [Go.u32_xor_nat a b ha hb] at h
  exact (Int.ofNat.inj h).symm
theorem xor_cancel {a b c : Nat} (h : a ^^^ c = b ^^^ c) : a = b := by
  have h1 := congrArg (· ^^^ c) h
  simp only [Nat.xor_assoc, Nat.xor_self, Nat.xor_zero] at h1
  exact h1
theorem xor_cancel_left {a b c : Nat} (h : c ^^^ a = c ^^^ b) : a = b := xor_cancel (c := c) (by rw [Nat.xor_comm a, Nat.xor_comm b]; exact h)
theorem high_bit {x : Nat} (h : x < 2147483648) : (x ^^^ 3988292384).testBit 31 = true := by
  rw [Nat.testBit_xor, Nat.testBit_lt_two_pow (by simpa using h)]
  decide
theorem sh1_inj {r s : Nat} (hr : r < 4294967296) (hs : s < 4294967296) (h : sh1 r = sh1 s) : r = s := by
  have h2 : ∀ {x : Nat}, x < 4294967296 → x / 2 < 2147483648 := fun h => by omega
  unfold sh1 at h
  by_cases h1 : r % 2 = 1 <;> by_cases h3 : s % 2 = 1
  · rw [if_pos h1, if_pos h3, xo_eq (by have := h2 hr; omega) (by decide), xo_eq (by have := h2 hs; omega) (by decide)] at h
    have := xor_cancel h
    omega
  · rw [if_pos h1, if_neg h3, xo_eq (by have := h2 hr; omega) (by decide)] at h
    have t1 := high_bit (h2 hr)
    rw [h, Nat.testBit_lt_two_pow (by simpa using h2 hs)] at t1
    cases t1
  · rw [if_neg h1, if_pos h3, xo_eq (by have := h2 hs; omega) (by decide)] at h
    have t1 := high_bit (h2 hs)
    rw [← h, Nat.testBit_lt_two_pow (by simpa using h2 hr)] at t1
    cases t1
  · rw [if_neg h1, if_neg h3] at h
    omega
theorem shN_inj : ∀ (k : Nat) {r s : Nat}, r < 4294967296 → s < 4294967296 → shN k r = shN k s → r = s
  | 0, _, _, _, _, h => h
  | k + 1, _, _, hr, hs, h => sh1_inj hr hs (shN_inj k (sh1_lt hr) (sh1_lt hs) h)
theorem crcB_state {r s : Nat} {b : UInt8} (hr : r < 4294967296) (hs : s < 4294967296) (h : crcB r b = crcB s b) : r = s := by
  unfold crcB at h
  have h1 := shN_inj 8 (xo_lt hr (byte_lt b)) (xo_lt hs (byte_lt b)) h
  rw [xo_eq hr (byte_lt b), xo_eq hs (byte_lt b)] at h1
  exact xor_cancel h1
theorem crcB_byte {r : Nat} {b c : UInt8} (hr : r < 4294967296) (h : crcB r b = crcB r c) : b = c := by
  unfold crcB at h
  have h1 := shN_inj 8 (xo_lt hr (byte_lt b)) (xo_lt hr (byte_lt c)) h
  rw [xo_eq hr (byte_lt b), xo_eq hr (byte_lt c)] at h1
  exact UInt8.toNat_inj.1 (xor_cancel_left h1)
theorem crc_fold : ∀ (l : List UInt8) {r s : Nat}, r < 4294967296 → s < 4294967296 → l.foldl crcB r = l.foldl crcB s → r = s
  | [], _, _, _, _, h => h
  | b :: l, _, _, hr, hs, h => crcB_state hr hs (crc_fold l (crcB_lt hr b) (crcB_lt hs b) h)
theorem crc_from : ∀ (l : List UInt8) {r : Nat}, r < 4294967296 → l.foldl crcB r < 4294967296
  | [], _, h => h
  | b :: l, _, h => crc_from l (crcB_lt h b)
theorem sum_unlike (l r : List UInt8) (x y : UInt8) (h : x ≠ y) : sumOf (l ++ x :: r) ≠ sumOf (l ++ y :: r) := by
  intro e
  unfold sumOf at e
  rw [xo_eq (by decide) (crcL_lt _), xo_eq (by decide) (crcL_lt _)] at e
  have e1 := xor_cancel_left e
  unfold crcL at e1
  rw [List.foldl_append, List.foldl_append, List.foldl_cons, List.foldl_cons] at e1
  have hl : l.foldl crcB 4294967295 < 4294967296 := crc_from l (by decide)
  exact h (crcB_byte hl (crc_fold r (crcB_lt hl x) (crcB_lt hl y) e1))
end Go.Proofs.Ytdikmmdkpfmocaa
namespace Go.Proofs.Ytdikmmdkpfmocaa
open Go.RowKit
theorem fresh_one (w : World) (b : Int) (h0 : 0 ≤ b) (h1 : b < 256) : Fresh w (w.alloc (.cells #[.int .u8 b] 5)) (.slice (some ⟨w.heap.size, 0, none⟩) 1 1) [by8 b] := by
  refine ⟨(Keep.refl _ _).alloc _, ⟨?_, .inr ⟨w.heap.size, 1, #[.int .u8 b], rfl, Nat.zero_le _, Box.new w _ _, Nat.le_refl _, by unfold maxLen; decide, rfl, by simp [bv_by8 h0 h1]⟩⟩, fun k hk => ?_⟩
  · simp
  · have : w.heap.size = k := by simpa [Value.ownBlock] using hk
    omega
end Go.Proofs.Ytdikmmdkpfmocaa
namespace Go.Proofs.Ytdikmmdkpfmocaa
open Go.RowKit
theorem turned (X Y : List UInt8) (i : Nat) (y : UInt8) (hX : X.length ≤ 16777216) (hY : Y.length ≤ 16777216) (hi : i < (frameOf X).length) (hy : (frameOf X)[i]? ≠ some y) : (frameOf X).set i y ≠ frameOf Y := by
  intro e
  have hl := congrArg List.length e
  rw [List.length_set, frame_length, frame_length] at hl
  have hL : X.length = Y.length := by omega
  have hs : ((frameOf X).set i y)[i]? = some y := List.getElem?_set_self hi
  rw [frame_length] at hi
  unfold frameOf at e hs hy
  rw [hL] at e hs hy
  obtain ⟨H, hH⟩ : ∃ H, be Y.length 4 ++ be (sumOf (be Y.length 4)) 4 = H := ⟨_, rfl⟩
  have lH : H.length = 8 := by rw [← hH, List.length_append, be_length, be_length]
  rw [hH] at e hs hy
  rw [List.append_assoc, List.append_assoc] at e
  rw [List.append_assoc] at hs hy
  rcases Nat.lt_or_ge i 8 with h8 | h8
  · rw [e, List.getElem?_append_left (by omega)] at hs
    rw [List.getElem?_append_left (by omega)] at hy
    exact hy hs
  · rw [List.set_append_right _ _ (by omega), lH] at e
    have e1 := List.append_cancel_left e
    rw [List.getElem?_append_right (by omega), lH] at hy
    rcases Nat.lt_or_ge (i - 8) X.length with h9 | h9
    · rw [List.set_append_left _ _ h9] at e1
      rw [List.getElem?_append_left h9] at hy
      obtain ⟨e2, e3⟩ := List.append_inj e1 (by rw [List.length_set]; exact hL)
      have hsum : sumOf X = sumOf Y := be_inj (k := 4) (by rw [pow4]; exact sumOf_lt _) (by rw [pow4]; exact sumOf_lt _) e3
      have hx : X = X.take (i - 8) ++ X[i - 8] :: X.drop (i - 8 + 1) := by
        rw [← List.drop_eq_getElem_cons h9, List.take_append_drop]
      have hyy : Y = X.take (i - 8) ++ y :: X.drop (i - 8 + 1) := by
        rw [← e2, List.set_eq_take_append_cons_drop, if_pos h9]
      have hne : X[i - 8] ≠ y := fun h => hy (by rw [List.getElem?_eq_getElem h9, h])
      rw [hyy] at hsum
      conv at hsum => lhs; rw [hx]
      exact sum_unlike _ _ _ _ hne hsum
    · rw [List.set_append_right _ _ h9] at e1
      obtain ⟨e2, e3⟩ := List.append_inj e1 hL
      subst e2
      rw [List.getElem?_append_right h9] at hy
      have := congrArg (fun l => l[i - 8 - X.length]?) e3
      rw [List.getElem?_set_self (by rw [be_length]; omega)] at this
      exact hy this.symm
end Go.Proofs.Ytdikmmdkpfmocaa
namespace Go.Proofs.Ytdikmmdkpfmocaa
open Go.RowKit Go.Shelf
section
variable (x : Pm × Rs)
end
theorem decM_none {b : List UInt8} (h : ∀ p, rightP p = true → b ≠ frameOf (msgB p)) : decM b = none := by
  cases hd : decM b with
  | none => rfl
  | some p => exact absurd (decM_was b p hd).1.symm (h p (decM_was b p hd).2)
theorem turned_none (m : Pm) (h : rightP m = true) (i : Nat) (y : UInt8) (hi : i < (frameOf (msgB m)).length) (hy : (frameOf (msgB m))[i]? ≠ some y) : decM ((frameOf (msgB m)).set i y) = none :=
  decM_none fun p hp => turned _ _ i y (by have := msg_few (rgt_of h); omega) (by have := msg_few (rgt_of hp); omega) hi hy
theorem frame_front (X : List UInt8) : (frameOf X).take 4 = be X.length 4 := by
  unfold frameOf
  rw [List.append_assoc, List.append_assoc, List.take_left' (be_length _ _)]
theorem frame_same (X Y : List UInt8) (hX : X.length ≤ 16777216) (hY : Y.length ≤ 16777216) (h : (frameOf X).take 4 = (frameOf Y).take 4) : (frameOf X).length = (frameOf Y).length := by
  rw [frame_front, frame_front] at h
  have := be_inj (k := 4) (by rw [pow4]; omega) (by rw [pow4]; omega) h
  rw [frame_length, frame_length, this]
theorem cut_none (m : Pm) (h : rightP m = true) (k : Nat) (hk : k < (frameOf (msgB m)).length) : decM ((frameOf (msgB m)).take k) = none :=
  decM_none fun p hp e => by
    have hl := congrArg List.length e
    rw [List.length_take] at hl
    have h1 := frame_length (msgB p)
    have := frame_same _ _ (by have := msg_few (rgt_of h); omega) (by have := msg_few (rgt_of hp); omega) (show (frameOf (msgB m)).take 4 = (frameOf (msgB p)).take 4 by rw [← e, List.take_take, Nat.min_eq_left (by omega)])
    omega
theorem more_none (m : Pm) (h : rightP m = true) (c : UInt8) : decM (frameOf (msgB m) ++ [c]) = none :=
  decM_none fun p hp e => by
    have hl := congrArg List.length e
    rw [List.length_append, List.length_cons, List.length_nil] at hl
    have h1 := frame_length (msgB m)
    have := frame_same _ _ (by have := msg_few (rgt_of h); omega) (by have := msg_few (rgt_of hp); omega) (show (frameOf (msgB m)).take 4 = (frameOf (msgB p)).take 4 by rw [← e, List.take_append_of_le_length (by omega)])
    omega
end Go.Proofs.Ytdikmmdkpfmocaa
namespace Go.Proofs.Ytdikmmdkpfmocaa
open Go.RowKit Go.Shelf Go.ChangeShapes Go.WideShapes Go.Deep
theorem mdecode_bad (w : World) (D : Nat → Prop) (v : Value) (bs : List UInt8) (h : Bytes w D v bs) (hl : bs.length ≤ lim) (hn : decM bs = none) :
    Calls Try.prog 9 #[v] w fun e w' => e = .returned (.tuple #[.agg #[.int .i64 0, .int .i64 0, .int .i64 0, .int .u64 0, .int .u64 0, .int .u64 0, .int .u64 0, .int .u64 0, .bool false, .slice none 0 0, .slice none 0 0, .slice none 0 0, .int .u64 0, .int .u64 0, .slice none 0 0], .int .i64 160]) ∧ Keep noneOf w w' :=
  (mdecode_any w D v bs h hl).mono fun e w' hp => by
    rcases hp with ⟨_, rfl, k⟩ | ⟨m, hr, _⟩
    · exact ⟨rfl, k⟩
    · rw [hn] at hr
      cases hr
theorem fresh_zero (w : World) : Fresh w (w.alloc (.cells #[] 5)) (.slice (some ⟨w.heap.size, 0, none⟩) 0 0) [] := by
  refine ⟨(Keep.refl _ _).alloc _, ⟨?_, .inr ⟨w.heap.size, 0, #[], rfl, Nat.zero_le _, Box.new w _ _, Nat.le_refl _, Nat.zero_le _, rfl, by simp⟩⟩, fun k hk => ?_⟩
  · simp
  · have : w.heap.size = k := by simpa [Value.ownBlock] using hk
    omega
theorem wrap_u8n (n : Int) : ∃ z : Int, IntKind.u8.wrap n = z ∧ 0 ≤ z ∧ z < 256 := by
  refine ⟨n % 256, ?_, by omega, by omega⟩
  simp only [IntKind.wrap, IntKind.signed, IntKind.bits]
  simp
set_option maxRecDepth 100000 in
set_option maxHeartbeats 4000000 in
theorem cuts_walk (w : World) (m : Mg) (cut : Int) (h : m.lies w (fun _ => True)) :
    Calls Try.prog 6 #[.agg m.cells, .int .i64 cut] w fun e w' => e = .returned (.bool true) ∧ Keep noneOf w w' := by
  have KB := (Keep.refl noneOf w).alloc (.cells m.cells 29)
  have HB : Hid (MBox (w.alloc (.cells m.cells 29)) w.heap.size m) := Lib.hid (Box.new w 29 m.cells)
  have HK := Lib.hid KB
  have HE := Lib.hid (mencode_one _ _ m (h.keepN KB))
  have e0 : (Value.agg m.cells).cells = m.cells := rfl
  have HLIM := Lib.hid lim_is
  clear KB h
  obtain ⟨R, hR⟩ : ∃ R, rightP m.plain = R := ⟨_, rfl⟩
  have HFEW := Lib.hid (encBs_few m.plain)
  have HBS : Hid (R = true → encBs m.plain = frameOf (msgB m.plain)) := Lib.hid (fun e => by unfold encBs; rw [if_pos (hR.trans e)])
  obtain ⟨E, hE⟩ : ∃ E, encN m.plain = E := ⟨_, rfl⟩
  have HEN : Hid (E = if R = true then 0 else 160) := Lib.hid (by rw [← hE]; unfold encN; rw [hR])
  rw [hE] at HE
  obtain ⟨X, hX⟩ : ∃ X, encBs m.plain = X := ⟨_, rfl⟩
  rw [hX] at HE HFEW HBS
  have HRT := Lib.hid hR
  clear hR hE hX
  go_enter Try.func6, Try.ntmps6
  go_wp2_with (refine wpList_load_row rfl 29 _ rfl (w.heap.size) rfl 29 _ _ _ HB.out Try.underlying29 rfl (by kernel_rfl) ?_)
  refine HE.out.mono ?_
  rintro e w1 ⟨u, rfl, F⟩
  have HF := Lib.hid F
  have HK1 := Lib.hid (HK.out.trans F.keep (fun _ _ h => h))
  obtain ⟨A, c, hu⟩ := own_shape F.own
  subst hu
  clear F HE HK HB
  cases R
  · have he : E = 160 := HEN.out
    subst he
    clear HEN HBS
    go_wp2_with fail
    refine (alive_any w1).mono ?_
    rintro e wz ⟨rfl, kz⟩
    have HKZ := Lib.hid (HK1.out.trans kz (fun _ _ h => h))
    clear kz
    go_wp2
    go_ret
    exact ⟨rfl, HKZ.out⟩
  · have he : E = 0 := HEN.out
    subst he
    have HBS := Lib.hid (HBS.out rfl)
    clear HEN
    by_cases h0 : cut < 0
    · clear HBS
      go_wp2_with fail
      refine (alive_any w1).mono ?_
      rintro e wz ⟨rfl, kz⟩
      have HKZ := Lib.hid (HK1.out.trans kz (fun _ _ h => h))
      clear kz
      go_wp2
      go_ret
      exact ⟨rfl, HKZ.out⟩
    by_cases h1 : cut ≥ (X.length : Int)
    · clear HBS
      go_wp2_with fail
      refine (alive_any w1).mono ?_
      rintro e wz ⟨rfl, kz⟩
      have HKZ := Lib.hid (HK1.out.trans kz (fun _ _ h => h))
      clear kz
      go_wp2
      go_ret
      exact ⟨rfl, HKZ.out⟩
    obtain ⟨n, rfl⟩ : ∃ n : Nat, cut = (n : Int) := ⟨cut.toNat, by omega⟩
    have hn : n < X.length := by omega
    have D1 : decM (X.take n) = none := by rw [HBS.out]; exact cut_none _ HRT.out n (by rw [← HBS.out]; exact hn)
    obtain ⟨z, hz, z0, z1⟩ := wrap_u8n (n : Int)
    have D2 : decM (X ++ [by8 z]) = none := by rw [HBS.out]; exact more_none _ HRT.out _
    have hbz := Lib.hid (bv_by8 z0 z1)
    have hB := HF.out.bytes
    have bt := hB.take (n := n) (by omega)
    have HB1 := Lib.hid hB
    have CD := Lib.hid (mdecode_bad w1 _ _ (X.take n) bt (by rw [HLIM.out, List.length_take]; have := HFEW.out; omega) D1)
    have CE := Lib.hid (fun w' v (hb : Bytes w' (fun _ => True) v (X ++ [by8 z])) => mdecode_bad w' _ v _ hb (by rw [HLIM.out, List.length_append, List.length_cons, List.length_nil]; have := HFEW.out; omega) D2)
    have hcc : n ≤ c := by
      obtain ⟨_, _, e, hle, _⟩ := hB
      injection e with _ _ e3
      omega
    have hcI : (n : Int) ≤ (c : Int) := by omega
    have Z0 := Lib.hid z0
    have Z1 := Lib.hid z1
    clear hB bt D1 D2 HBS HRT z0 z1
    go_wp2_with fail
    refine CD.out.mono ?_
    rintro e w2 ⟨rfl, k2⟩
    have ka := (Keep.refl noneOf w2).alloc (.cells #[.int .i64 0, .int .i64 0, .int .i64 0, .int .u64 0, .int .u64 0, .int .u64 0, .int .u64 0, .int .u64 0, .bool false, .slice none 0 0, .slice none 0 0, .slice none 0 0, .int .u64 0, .int .u64 0, .slice none 0 0] 29)
    have HK2 := Lib.hid (HK1.out.trans (k2.trans ka (fun _ _ h => h)) (fun _ _ h => h))
    have HB2 := Lib.hid (HB1.out.keep (k2.trans ka (fun _ _ h => h)) (fun _ _ _ => id))
    clear k2 ka CD HB1 hcc hcI HK1
    have Z3 := fresh_zero (w2.alloc (.cells #[.int .i64 0, .int .i64 0, .int .i64 0, .int .u64 0, .int .u64 0, .int .u64 0, .int .u64 0, .int .u64 0, .bool false, .slice none 0 0, .slice none 0 0, .slice none 0 0, .int .u64 0, .int .u64 0, .slice none 0 0] 29))
    rw [World.size_alloc] at Z3
    obtain ⟨i1, hi1, hz0, hz1, hz2⟩ := info_parts u8info
    have o3 := Z3.own
    have b3 := HB2.out.keep Z3.keep (fun _ _ _ => id)
    have HZ3 := Lib.hid Z3
    clear Z3
    go_wp2_with (at_builtin; refine wpList_append_read _ rfl (.tmp 37) (.tmp 38) 27 rfl 5 i1 _ Try.underlying27 hi1 hz0 hz1 hz2 rfl _ _ [] X _ rfl rfl o3 b3 (by rw [HLIM.out, List.length_nil]; have := HFEW.out; omega) ?_)
    intro v4 w4 o4 gr4 at4 _
    have F4 := HZ3.out.append (cs := X) gr4 (by simpa using at4) (by simpa using o4)
    obtain ⟨A4, c4, hs4⟩ := own_shape F4.own
    subst hs4
    rw [List.nil_append] at F4
    have F5 := F4.later ((Keep.refl noneOf w4).alloc (.cells #[.int .u8 z] 5))
    have o5 := F5.own
    have b5 := (fresh_one w4 z Z0.out Z1.out).any
    have HF5 := Lib.hid F5
    clear o3 b3 o4 gr4 at4 F4 F5 HZ3
    go_wp2_with (at_builtin; refine wpList_append_read _ rfl (.tmp 39) (.tmp 42) 27 rfl 5 i1 _ Try.underlying27 hi1 hz0 hz1 hz2 rfl _ _ X [by8 z] _ rfl rfl o5 b5 (by rw [HLIM.out, List.length_cons, List.length_nil]; have := HFEW.out; omega) ?_)
    intro v6 w6 o6 gr6 at6 _
    have F6 := HF5.out.append (cs := [by8 z]) gr6 (by simpa using at6) (by simpa using o6)
    obtain ⟨A6, c6, hs6⟩ := own_shape F6.own
    subst hs6
    have HK6 := Lib.hid (HK2.out.trans F6.keep (fun _ _ h => h))
    have B6 := F6.any
    rw [show (X ++ [by8 z]).length = X.length + 1 from by simp] at B6
    have HB6 := Lib.hid B6
    clear o5 b5 o6 gr6 at6 HF5 F6 B6 HB2 HK2
    go_wp2_with fail
    refine (CE.out _ _ HB6.out).mono ?_
    rintro e w7 ⟨rfl, k7⟩
    have HK7 := Lib.hid ((HK6.out.trans k7 (fun _ _ h => h)).alloc (.cells #[.int .i64 0, .int .i64 0, .int .i64 0, .int .u64 0, .int .u64 0, .int .u64 0, .int .u64 0, .int .u64 0, .bool false, .slice none 0 0, .slice none 0 0, .slice none 0 0, .int .u64 0, .int .u64 0, .slice none 0 0] 29))
    clear k7 HK6 HB6 CE
    go_wp2_with fail
    refine (alive_any _).mono ?_
    rintro e wz ⟨rfl, kz⟩
    have HKZ := Lib.hid (HK7.out.trans kz (fun _ _ h => h))
    clear kz
    go_wp2
    go_ret
    exact ⟨rfl, HKZ.out⟩
namespace MessageCuts
set_option maxRecDepth 100000 in
theorem lifted (os : Os) (started : os.Started) (H : Type) (enc : TypeId × Value → H) :
    ReturnsInHanded {} Try.checked os 6 .any (Rows.messageCutsSpec.pre6 enc Try.prog Try.f6 Rows.messageCutsRow.domain false) (Rows.messageCutsSpec.post enc Try.prog Try.f6 false true false false) := by
  refine returnsInHanded_of_change_sized (C := Try.checked) own started (by kernel_rfl) Try.func6
    (ChangeSpec.witness6 (enc := enc) (C := Try.checked) false ⟨#[], #[.agg #[.int .i64 0, .int .i64 0, .int .i64 0, .int .u64 0, .int .u64 0, .int .u64 0, .int .u64 0, .int .u64 0, .bool false, .slice none 0 0, .slice none 0 0, .slice none 0 0, .int .u64 0, .int .u64 0, .slice none 0 0], .int .i64 0], []⟩ 8 (by kernel_rfl) (by kernel_rfl) (by kernel_rfl) (by kernel_rfl)) ?_
  intro W base args ds gs before hval0 hW hcnd hsz _
  have hval : ∀ (j : Nat) t v, Try.f6.params[j]? = some t → args[j]? = some v → Value.okWide Try.prog W .any base t v := hval0
  have hW' := hW
  obtain ⟨p, q, hA0, hV, rfl, hfz, hnd⟩ := hW
  have hA : DataW.TrodAll enc Try.prog W 0 (fun _ => true) true Try.f6.params.toList args.toList ds p := hA0
  rw [Try.params6] at hA hval
  obtain ⟨v0, vs0, d0, ds0, p0, q0, hargs, rfl, rfl, h0, r0⟩ := trodAll_cons hA
  obtain ⟨v1, vs1, d1, ds1, p1, q1, rfl, rfl, rfl, h1, r1⟩ := trodAll_cons r0
  obtain ⟨rfl, rfl, rfl⟩ := trodAll_nil r1
  obtain rfl : args = #[v0, v1] := by cases args; simp_all
  obtain ⟨rfl, rfl⟩ := trodVars_none hV
  have k0 := h0
  have lt0 : ∀ x ∈ p0, x.block < W.heap.size := by obtain ⟨m, hm⟩ := k0; exact DataW.trod_lt m _ _ _ hm
  obtain ⟨m0, rfl, hm0⟩ := open_arg_msg (hval 0 29 v0 rfl rfl) h0 (light_arg hsz (j := 0) rfl rfl)
  obtain ⟨a1, rfl, rfl, rfl, w1⟩ := open_int Try.underlying3 (hval 1 3 v1 rfl rfl) h1
  clear hA0 hval0
  refine (cuts_walk W m0 a1 hm0).mono fun e W' ⟨he, bel0⟩ => ?_
  subst he
  have bel := bel0.all
  exact ⟨_, rfl, _, _, _, [], _, [], hW', trodAll_mk1 (shut_bool Try.underlying4 _), (trodAll_cons_mk (Below.trod laidOut (by kernel_rfl) (of_decide_eq_true (by kernel_rfl)) k0 bel lt0) (trodAll_cons_mk (shut_int Try.underlying3 w1) trodAll_mk0)), rfl, bel.frame _, fun h => by cases h⟩
theorem over : Rows.messageCutsRow.holds Try.pinned (OpenSpec.ofChange Rows.messageCutsSpec) :=
  OpenClaim.holds_of_wide 6 Try.f6 rfl rfl rfl rfl rfl rfl rfl ⟨rfl, rfl, rfl, rfl, rfl⟩ rfl rfl rfl rfl rfl (by kernel_rfl) Try.func6 (by kernel_rfl)
    (of_decide_eq_true (by kernel_rfl)) (by unfold Func.isWrapper; first | (rw [if_pos (by decide +kernel)]; kernel_rfl) | (rw [if_neg (by decide +kernel)]; exact ⟨rfl, rfl⟩))
    (fun os started H enc _ => lifted os started H enc)
theorem proved : Rows.MessageCutsSaid := over
end MessageCuts
end Go.Proofs.Ytdikmmdkpfmocaa
namespace Go.Proofs.Ytdikmmdkpfmocaa
open Go.RowKit Go.Shelf Go.ChangeShapes Go.WideShapes Go.Deep
theorem shl_bit (r : Nat) (h : r < 8) : ∃ s : Nat, IntKind.u8.wrap ((2 : Int) ^ min r 8) = (s : Int) ∧ 0 < s ∧ s < 256 := by
  rcases (show r = 0 ∨ r = 1 ∨ r = 2 ∨ r = 3 ∨ r = 4 ∨ r = 5 ∨ r = 6 ∨ r = 7 by omega) with rfl | rfl | rfl | rfl | rfl | rfl | rfl | rfl
  · exact ⟨1, by decide, by decide, by decide⟩
  · exact ⟨2, by decide, by decide, by decide⟩
  · exact ⟨4, by decide, by decide, by decide⟩
  · exact ⟨8, by decide, by decide, by decide⟩
  · exact ⟨16, by decide, by decide, by decide⟩
  · exact ⟨32, by decide, by decide, by decide⟩
  · exact ⟨64, by decide, by decide, by decide⟩
  · exact ⟨128, by decide, by decide, by decide⟩
theorem bit_turned (x : UInt8) (s : Nat) (h0 : 0 < s) (h1 : s < 256) : ∃ y : UInt8, bits .xor .u8 (x.toNat : Int) (s : Int) = (y.toNat : Int) ∧ y ≠ x := by
  have hx := x.toNat_lt
  have hlt : x.toNat ^^^ s < 256 := Nat.xor_lt_two_pow (n := 8) (by omega) h1
  refine ⟨UInt8.ofNat (x.toNat ^^^ s), ?_, fun e => ?_⟩
  · rw [Go.u8_xor_nat _ _ (by omega) h1, UInt8.toNat_ofNat', Nat.mod_eq_of_lt hlt]
  · have := congrArg UInt8.toNat e
    rw [UInt8.toNat_ofNat', Nat.mod_eq_of_lt hlt] at this
    have h2 := xor_cancel_left (c := x.toNat) (a := s) (b := 0) (by rw [Nat.xor_zero]; exact this)
    omega
theorem own_byte {w : World} {v : Value} {X : List UInt8} (h : w.ownsRow 0 5 1 v X.length (X.map bv)) (i : Nat) (x : UInt8) (hx : X[i]? = some x) :
    ∃ g c, v = .slice (some ⟨g, 0, none⟩) X.length c ∧ w.cell? ⟨g, i, none⟩ = some (bv x) ∧ w.frozen? ⟨g, i, none⟩ = false ∧ v.ownBlock = some g ∧ g < w.heap.size ∧
      ∀ y : UInt8, Bytes (w.setCell ⟨g, i, none⟩ (bv y)) (fun k => k = g) v (X.set i y) := by
  have hi := (List.getElem?_eq_some_iff.1 hx).1
  rcases h.2 with ⟨rfl, h0⟩ | ⟨g, cap, cur, rfl, _, hg, hle, hmx, hsz, htk⟩
  · omega
  · have hb : Box w g 5 cur := hg
    have hcell : ∀ (j : Nat) (b : UInt8), X[j]? = some b → cur[j]? = some (bv b) := by
      intro j b hj
      have e : (X.map bv)[j]? = some (bv b) := by simp [hj]
      rw [← htk, List.getElem?_take] at e
      split at e
      · simpa using e
      · cases e
    refine ⟨g, cap, rfl, (hb.cell i).trans (hcell i x hx), hb.free i, rfl, hb.lt, fun y => ?_⟩
    refine ⟨some ⟨g, 0, none⟩, cap, by rw [List.length_set], by rw [List.length_set]; exact hle, hmx, fun e => (by cases e), fun _ => ⟨⟨g, 0, none⟩, rfl, rfl, (hb.put i (bv y)).lt, rfl, fun j b hj => ?_⟩⟩
    have hc := (hb.put i (bv y)).cell j
    show (w.setCell ⟨g, i, none⟩ (bv y)).cell? ⟨g, 0 + j, none⟩ = _
    rw [Nat.zero_add, hc]
    rw [List.getElem?_set] at hj
    have hic : i < cur.size := (Array.getElem?_eq_some_iff.1 (hcell i x hx)).1
    split at hj
    · rename_i e
      subst e
      first
        | (injection hj with hj; subst hj; simp [hic])
        | (split at hj; (injection hj with hj; subst hj; simp [hic]); cases hj)
    · rename_i e
      rw [Array.getElem?_setIfInBounds, if_neg e]
      exact hcell j b hj
set_option maxRecDepth 100000 in
set_option maxHeartbeats 4000000 in
theorem turned_walk (w : World) (m : Mg) (at_ : Int) (h : m.lies w (fun _ => True)) :
    Calls Try.prog 4 #[.agg m.cells, .int .i64 at_] w fun e w' => e = .returned (.bool true) ∧ Keep noneOf w w' := by
  have KB := (Keep.refl noneOf w).alloc (.cells m.cells 29)
  have HB : Hid (MBox (w.alloc (.cells m.cells 29)) w.heap.size m) := Lib.hid (Box.new w 29 m.cells)
  have HK := Lib.hid KB
  have HE := Lib.hid (mencode_one _ _ m (h.keepN KB))
  have e0 : (Value.agg m.cells).cells = m.cells := rfl
  have HLIM := Lib.hid lim_is
  clear KB h
  obtain ⟨R, hR⟩ : ∃ R, rightP m.plain = R := ⟨_, rfl⟩
  have HFEW := Lib.hid (encBs_few m.plain)
  have HBS : Hid (R = true → encBs m.plain = frameOf (msgB m.plain)) := Lib.hid (fun e => by unfold encBs; rw [if_pos (hR.trans e)])
  obtain ⟨E, hE⟩ : ∃ E, encN m.plain = E := ⟨_, rfl⟩
  have HEN : Hid (E = if R = true then 0 else 160) := Lib.hid (by rw [← hE]; unfold encN; rw [hR])
  rw [hE] at HE
  obtain ⟨X, hX⟩ : ∃ X, encBs m.plain = X := ⟨_, rfl⟩
  rw [hX] at HE HFEW HBS
  have HRT := Lib.hid hR
  clear hR hE hX
  go_enter Try.func4, Try.ntmps4
  go_wp2_with (refine wpList_load_row rfl 29 _ rfl (w.heap.size) rfl 29 _ _ _ HB.out Try.underlying29 rfl (by kernel_rfl) ?_)
  refine HE.out.mono ?_
  rintro e w1 ⟨u, rfl, F⟩
  have HF := Lib.hid F
  have HK1 := Lib.hid (HK.out.trans F.keep (fun _ _ h => h))
  obtain ⟨A, c, hu⟩ := own_shape F.own
  subst hu
  have hw1 : w.heap.size < w1.heap.size := (HB.out.keep F.keep id).lt
  clear F HE HK HB
  have hm8 : IntKind.i64.wrap (8 * (X.length : Int)) = 8 * (X.length : Int) := IntWalk.i64_in _ (by have := HFEW.out; omega)
  cases R
  · have he : E = 160 := HEN.out
    subst he
    clear HEN HBS
    go_wp2_with fail
    refine (alive_any w1).mono ?_
    rintro e wz ⟨rfl, kz⟩
    have HKZ := Lib.hid (HK1.out.trans kz (fun _ _ h => h))
    clear kz
    go_wp2
    go_ret
    exact ⟨rfl, HKZ.out⟩
  · have he : E = 0 := HEN.out
    subst he
    have HBS := Lib.hid (HBS.out rfl)
    clear HEN
    by_cases h0 : at_ < 0
    · clear HBS
      go_wp2_with fail
      refine (alive_any w1).mono ?_
      rintro e wz ⟨rfl, kz⟩
      have HKZ := Lib.hid (HK1.out.trans kz (fun _ _ h => h))
      clear kz
      go_wp2
      go_ret
      exact ⟨rfl, HKZ.out⟩
    by_cases h1 : at_ ≥ 8 * (X.length : Int)
    · clear HBS
      go_wp2_with fail
      refine (alive_any w1).mono ?_
      rintro e wz ⟨rfl, kz⟩
      have HKZ := Lib.hid (HK1.out.trans kz (fun _ _ h => h))
      clear kz
      go_wp2
      go_ret
      exact ⟨rfl, HKZ.out⟩
    obtain ⟨a, rfl⟩ : ∃ a : Nat, at_ = (a : Int) := ⟨at_.toNat, by omega⟩
    obtain ⟨i, hi⟩ : ∃ i, a / 8 = i := ⟨_, rfl⟩
    obtain ⟨r, hr⟩ : ∃ r, a % 8 = r := ⟨_, rfl⟩
    have hin : i < X.length := by omega
    have hq : (a : Int).tdiv 8 = (i : Int) := by rw [← hi]; rfl
    have hqe : (a : Int) / 8 = (i : Int) := by omega
    have hme : (a : Int) % 8 = (r : Int) := by omega
    have hmm : (a : Int).tmod 8 = (r : Int) := by rw [← hr]; rfl
    have hr8 : r < 8 := by omega
    have hwi : IntKind.i64.wrap (i : Int) = (i : Int) := IntWalk.i64_in _ (by have := HFEW.out; omega)
    obtain ⟨s, hs, s0, s1⟩ := shl_bit r hr8
    have hx : X[i]? = some X[i] := List.getElem?_eq_getElem hin
    obtain ⟨y, hy, hyx⟩ := bit_turned X[i] s s0 s1
    have D1 : decM (X.set i y) = none := by
      rw [HBS.out]
      exact turned_none _ HRT.out i y (by rw [← HBS.out]; exact hin) (by rw [← HBS.out, hx]; exact fun e => hyx (by injection e with e; exact e.symm))
    have o1 : w1.drew.ownsRow 0 5 1 (.slice A X.length c) X.length (X.map bv) := HF.out.own
    obtain ⟨g, c', hv, c0, f0, hob, hgl, hset⟩ := own_byte o1 i X[i] hx
    obtain ⟨rfl, rfl⟩ : A = some ⟨g, 0, none⟩ ∧ c = c' := by injection hv with a1 a2 a3; exact ⟨a1, a3⟩
    have hgn : (w.alloc (.cells m.cells 29)).heap.size ≤ g := HF.out.new g hob
    have hgn' : w.heap.size < g := by simp at hgn; omega
    have HBY := Lib.hid (hset y)
    have HKS : Hid (Keep noneOf w (w1.drew.setCell ⟨g, i, none⟩ (bv y))) := Lib.hid (HK1.out.drew.setCell (p := ⟨g, i, none⟩) (fun h => by exfalso; exact absurd h (Nat.not_lt.2 (Nat.le_of_lt hgn'))) _)
    have CD := Lib.hid (mdecode_bad _ _ _ _ HBY.out (by rw [HLIM.out, List.length_set]; have := HFEW.out; omega) D1)
    have c00 : w1.cell? ⟨g, i, none⟩ = some (.int .u8 (X[i].toNat : Int)) := c0
    have f00 : w1.frozen? ⟨g, i, none⟩ = false := f0
    generalize X[i] = x at *
    have q0 : (0 : Int) ≤ (i : Int) := by omega
    have q1 : (i : Int) < (X.length : Int) := by omega
    clear hset hv hob hgl hgn o1 D1 hx hyx HBS HRT hi hr hr8 s0 s1 HK1 HF hqe hme
    go_wp2_with fail
    clear h0 h1
    have HF0 := Lib.hid f0
    have HC0 := Lib.hid c0
    clear f0 c0
    go_still_tail 13, (by kernel_rfl)
    change wpList _ _ _ _ _ w1.drew
    clear c00 f00
    generalize w1.drew = w2 at *
    have c0 : w2.cell? ⟨g, i, none⟩ = some (.int .u8 (x.toNat : Int)) := HC0.out
    have f0 := HF0.out
    clear hq hmm hs hy hm8 hwi
    have eb : bv y = .int .u8 (y.toNat : Int) := rfl
    rw [eb] at CD HKS
    clear eb HBY
    go_wp2_with fail
    refine CD.out.mono ?_
    rintro e w3 ⟨rfl, k3⟩
    have HK3 := Lib.hid ((HKS.out.trans k3 (fun _ _ h => h)).alloc (.cells #[.int .i64 0, .int .i64 0, .int .i64 0, .int .u64 0, .int .u64 0, .int .u64 0, .int .u64 0, .int .u64 0, .bool false, .slice none 0 0, .slice none 0 0, .slice none 0 0, .int .u64 0, .int .u64 0, .slice none 0 0] 29))
    clear k3 CD HKS c0 f0
    go_wp2_with fail
    refine (alive_any _).mono ?_
    rintro e wz ⟨rfl, kz⟩
    have HKZ := Lib.hid (HK3.out.trans kz (fun _ _ h => h))
    clear kz
    go_wp2
    go_ret
    exact ⟨rfl, HKZ.out⟩
namespace MessageTurned
set_option maxRecDepth 100000 in
theorem lifted (os : Os) (started : os.Started) (H : Type) (enc : TypeId × Value → H) :
    ReturnsInHanded {} Try.checked os 4 .any (Rows.messageTurnedSpec.pre6 enc Try.prog Try.f4 Rows.messageTurnedRow.domain false) (Rows.messageTurnedSpec.post enc Try.prog Try.f4 false true false false) := by
  refine returnsInHanded_of_change_sized (C := Try.checked) own started (by kernel_rfl) Try.func4
    (ChangeSpec.witness6 (enc := enc) (C := Try.checked) false ⟨#[], #[.agg #[.int .i64 0, .int .i64 0, .int .i64 0, .int .u64 0, .int .u64 0, .int .u64 0, .int .u64 0, .int .u64 0, .bool false, .slice none 0 0, .slice none 0 0, .slice none 0 0, .int .u64 0, .int .u64 0, .slice none 0 0], .int .i64 0], []⟩ 8 (by kernel_rfl) (by kernel_rfl) (by kernel_rfl) (by kernel_rfl)) ?_
  intro W base args ds gs before hval0 hW hcnd hsz _
  have hval : ∀ (j : Nat) t v, Try.f4.params[j]? = some t → args[j]? = some v → Value.okWide Try.prog W .any base t v := hval0
  have hW' := hW
  obtain ⟨p, q, hA0, hV, rfl, hfz, hnd⟩ := hW
  have hA : DataW.TrodAll enc Try.prog W 0 (fun _ => true) true Try.f4.params.toList args.toList ds p := hA0
  rw [Try.params4] at hA hval
  obtain ⟨v0, vs0, d0, ds0, p0, q0, hargs, rfl, rfl, h0, r0⟩ := trodAll_cons hA
  obtain ⟨v1, vs1, d1, ds1, p1, q1, rfl, rfl, rfl, h1, r1⟩ := trodAll_cons r0
  obtain ⟨rfl, rfl, rfl⟩ := trodAll_nil r1
  obtain rfl : args = #[v0, v1] := by cases args; simp_all
  obtain ⟨rfl, rfl⟩ := trodVars_none hV
  have k0 := h0
  have lt0 : ∀ x ∈ p0, x.block < W.heap.size := by obtain ⟨m, hm⟩ := k0; exact DataW.trod_lt m _ _ _ hm
  obtain ⟨m0, rfl, hm0⟩ := open_arg_msg (hval 0 29 v0 rfl rfl) h0 (light_arg hsz (j := 0) rfl rfl)
  obtain ⟨a1, rfl, rfl, rfl, w1⟩ := open_int Try.underlying3 (hval 1 3 v1 rfl rfl) h1
  clear hA0 hval0
  refine (turned_walk W m0 a1 hm0).mono fun e W' ⟨he, bel0⟩ => ?_
  subst he
  have bel := bel0.all
  exact ⟨_, rfl, _, _, _, [], _, [], hW', trodAll_mk1 (shut_bool Try.underlying4 _), (trodAll_cons_mk (Below.trod laidOut (by kernel_rfl) (of_decide_eq_true (by kernel_rfl)) k0 bel lt0) (trodAll_cons_mk (shut_int Try.underlying3 w1) trodAll_mk0)), rfl, bel.frame _, fun h => by cases h⟩
theorem over : Rows.messageTurnedRow.holds Try.pinned (OpenSpec.ofChange Rows.messageTurnedSpec) :=
  OpenClaim.holds_of_wide 4 Try.f4 rfl rfl rfl rfl rfl rfl rfl ⟨rfl, rfl, rfl, rfl, rfl⟩ rfl rfl rfl rfl rfl (by kernel_rfl) Try.func4 (by kernel_rfl)
    (of_decide_eq_true (by kernel_rfl)) (by unfold Func.isWrapper; first | (rw [if_pos (by decide +kernel)]; kernel_rfl) | (rw [if_neg (by decide +kernel)]; exact ⟨rfl, rfl⟩))
    (fun os started H enc _ => lifted os started H enc)
theorem proved : Rows.MessageTurnedSaid := over
end MessageTurned
end Go.Proofs.Ytdikmmdkpfmocaa
