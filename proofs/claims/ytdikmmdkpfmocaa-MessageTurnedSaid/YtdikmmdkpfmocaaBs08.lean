import Derived.Laws.BitsAllLaws
import Derived.Test.YtdikmmdkpfmocaaBs04
import Derived.Test.YtdikmmdkpfmocaaBs07
namespace Go.Proofs.Ytdikmmdkpfmocaa
open Go.RowKit
theorem xor32_is : ∃ f : Nat → Nat → Nat, ∀ a b : Nat, a < 4294967296 → b < 4294967296 → bits BinOp.xor IntKind.u32 (a : Int) (b : Int) = (f a b : Int) ∧ f a b < 4294967296 := by
  refine ⟨fun a b => a ^^^ b, fun a b ha hb => ⟨?_, Nat.xor_lt_two_pow (n := 32) ha hb⟩⟩
  exact Go.u32_xor_nat a b ha hb
noncomputable def xo : Nat → Nat → Nat := Classical.choose xor32_is
theorem xo_bits {a b : Nat} (ha : a < 4294967296) (hb : b < 4294967296) : bits BinOp.xor IntKind.u32 (a : Int) (b : Int) = (xo a b : Int) := (Classical.choose_spec xor32_is a b ha hb).1
theorem xo_lt {a b : Nat} (ha : a < 4294967296) (hb : b < 4294967296) : xo a b < 4294967296 := (Classical.choose_spec xor32_is a b ha hb).2
noncomputable def sh1 (r : Nat) : Nat := if r % 2 = 1 then xo (r / 2) 3988292384 else r / 2
noncomputable def shN : Nat → Nat → Nat
  | 0, r => r
  | k + 1, r => shN k (sh1 r)
theorem sh1_lt {r : Nat} (h : r < 4294967296) : sh1 r < 4294967296 := by
  unfold sh1
  split
  · exact xo_lt (by omega) (by decide)
  · omega
theorem shN_lt {k r : Nat} (h : r < 4294967296) : shN k r < 4294967296 := by
  induction k generalizing r with
  | zero => exact h
  | succ k ih => exact ih (sh1_lt h)
noncomputable def crcB (r : Nat) (b : UInt8) : Nat := shN 8 (xo r b.toNat)
noncomputable def crcL (bs : List UInt8) : Nat := bs.foldl crcB 4294967295
noncomputable def sumOf (bs : List UInt8) : Nat := xo 4294967295 (crcL bs)
theorem byte_lt (b : UInt8) : b.toNat < 4294967296 := by have := b.toNat_lt; omega
theorem crcB_lt {r : Nat} (h : r < 4294967296) (b : UInt8) : crcB r b < 4294967296 := shN_lt (xo_lt h (byte_lt b))
theorem crcL_lt (bs : List UInt8) : crcL bs < 4294967296 := by
  unfold crcL
  suffices h : ∀ r, r < 4294967296 → bs.foldl crcB r < 4294967296 from h _ (by decide)
  induction bs with
  | nil => exact fun r h => h
  | cons b l ih => exact fun r h => ih _ (crcB_lt h b)
theorem crcL_more {bs : List UInt8} {k : Nat} {b : UInt8} (h : bs[k]? = some b) : crcL (bs.take (k + 1)) = crcB (crcL (bs.take k)) b := by
  unfold crcL
  rw [List.take_add_one, h, List.foldl_append]
  rfl
set_option maxRecDepth 100000 in
set_option maxHeartbeats 1000000 in
theorem shiftedOut_any (w : World) (r : Nat) (hr : r < 4294967296) : Calls Try.prog 48 #[.int .u32 r] w fun e w' => e = .returned (.int .u32 (shN 8 r : Nat)) ∧ w = w' := by
  generalize hR : shN 8 r = R
  have HR := Lib.hid hR
  clear hR
  go_enter Try.func48, Try.ntmps48
  go_wp2
  go_loop [0, 4] (fun v i => ∃ (k : Nat) (s : Nat), k ≤ 8 ∧ i = .int .i64 k ∧ v = .int .u32 s ∧ s < 4294967296 ∧ shN (8 - k) s = R) (fun _ i => 8 - (intOf i).toNat)
  case atStart => exact ⟨0, r, by omega, rfl, rfl, hr, HR.out⟩
  case round =>
    obtain ⟨k, s, hk, rfl, rfl, hs, hsh⟩ := hrel
    have HS := Lib.hid hsh
    clear hsh
    by_cases hlt : k < 8
    · have hand : bits BinOp.and IntKind.u32 (s : Int) 1 = ((s % 2 : Nat) : Int) := by
        have := Go.u32_and_nat s 1 hs (by decide)
        rw [Nat.and_one_is_mod] at this
        exact this
      have hx : bits BinOp.xor IntKind.u32 ((s : Int) / 2) 3988292384 = (xo (s / 2) 3988292384 : Int) := by
        have := xo_bits (a := s / 2) (b := 3988292384) (by omega) (by decide)
        simpa using this
      have hst : shN (8 - k) s = shN (8 - (k + 1)) (sh1 s) := by
        rw [show 8 - k = (8 - (k + 1)) + 1 from by omega]
        rfl
      have HS2 := Lib.hid (hst ▸ HS.out)
      have HLT := Lib.hid (sh1_lt hs)
      have HX := Lib.hid hx
      clear hst HS hx
      by_cases h2 : s % 2 = 1
      · have h1 : sh1 s = xo (s / 2) 3988292384 := by unfold sh1; rw [if_pos h2]
        have hb : (bits BinOp.and IntKind.u32 (s : Int) 1 == 1) = true := by rw [hand, h2]; rfl
        rw [h1] at HS2 HLT
        clear hand h1
        go_wp2
        rw [HX.out]
        go_round
        case rel => exact ⟨k + 1, _, by omega, by go_num, rfl, HLT.out, HS2.out⟩
        case measure => simp [intOf]; omega
      · have h1 : sh1 s = s / 2 := by unfold sh1; rw [if_neg h2]
        have hb : (bits BinOp.and IntKind.u32 (s : Int) 1 == 1) = false := by rw [hand]; rw [beq_eq_false_iff_ne]; omega
        rw [h1] at HS2 HLT
        clear hand h1 HX
        go_wp2
        go_round
        case rel => exact ⟨k + 1, s / 2, by omega, by go_num, by simp, HLT.out, HS2.out⟩
        case measure => simp [intOf]; omega
    · have : k = 8 := by omega
      subst this
      have HE := Lib.hid (show s = R from HS.out)
      have q : ¬ (((8 : Nat) : Int) < 8) := by omega
      rw [HE.out]
      go_wp2
      go_ret
      exact ⟨rfl, rfl⟩
set_option maxRecDepth 100000 in
set_option maxHeartbeats 1000000 in
theorem sum_any (w : World) (D : Nat → Prop) (u : Value) (bs : List UInt8) (h : Bytes w D u bs) : Calls Try.prog 38 #[u] w fun e w' => e = .returned (.int .u32 (sumOf bs : Nat)) ∧ w = w' := by
  have hh := h
  obtain ⟨A, c, rfl, hlc, hm, hn, hc⟩ := h
  unfold maxLen at hm
  clear hn
  go_enter Try.func38, Try.ntmps38
  go_wp2
  go_loop [3, 8] (fun v i => ∃ (k : Nat), k ≤ bs.length ∧ i = .int .i64 k ∧ v = .int .u32 (crcL (bs.take k) : Nat)) (fun _ i => bs.length - (intOf i).toNat)
  case atStart => exact ⟨0, by omega, rfl, rfl⟩
  case round =>
    obtain ⟨k, hk, rfl, rfl⟩ := hrel
    by_cases hlt : k < bs.length
    · obtain ⟨ad, rfl, hsp, hblt, hD, hcell⟩ := hc (by omega)
      obtain ⟨b0, o0, sp⟩ := ad
      simp only at hsp hblt hD hcell
      subst hsp
      have hx : bs[k]? = some bs[k] := List.getElem?_eq_getElem hlt
      have d0 := hcell k _ hx
      unfold bv at d0
      have HX := Lib.hid (crcL_more hx)
      have HB := Lib.hid (crcL_lt (bs.take k))
      generalize crcL (bs.take k) = r at *
      have hxx := xo_bits (a := r) (b := (bs[k]).toNat) HB.out (byte_lt _)
      have HS := Lib.hid (shiftedOut_any w (xo r (bs[k]).toNat) (xo_lt HB.out (byte_lt _)))
      have q0 : (0 : Int) ≤ (k : Int) := by omega
      have q1 : (k : Int) < (bs.length : Int) := by omega
      have hb8 := (bs[k]).toNat_lt
      clear hcell hc hh hx hD hblt
      generalize (bs[k]) = b at *
      go_wp2_with fail
      refine HS.out.mono ?_
      rintro e w' ⟨rfl, rfl⟩
      have HX2 := Lib.hid (show shN 8 (xo r b.toNat) = crcL (bs.take (k + 1)) from HX.out.symm)
      generalize shN 8 (xo r b.toNat) = r2 at *
      go_wp2
      go_round
      case rel => exact ⟨k + 1, by omega, by go_num, by rw [HX2.out]⟩
      case measure => simp [intOf]; omega
    · have hk2 : k = bs.length := by omega
      have q1 : ¬ (k : Int) < (bs.length : Int) := by omega
      have HE := Lib.hid (show xo 4294967295 (crcL (bs.take k)) = sumOf bs by unfold sumOf; rw [hk2, List.take_length])
      have HX := Lib.hid (xo_bits (a := 4294967295) (by decide) (crcL_lt (bs.take k)))
      generalize crcL (bs.take k) = r at *
      clear hh hc hk2
      go_wp2
      go_ret
      exact ⟨by rw [← HE.out]; exact congrArg (fun n => Ending.returned (Value.int IntKind.u32 n)) HX.out, rfl⟩
theorem sumOf_lt (bs : List UInt8) : sumOf bs < 4294967296 := xo_lt (by decide) (crcL_lt bs)
end Go.Proofs.Ytdikmmdkpfmocaa
