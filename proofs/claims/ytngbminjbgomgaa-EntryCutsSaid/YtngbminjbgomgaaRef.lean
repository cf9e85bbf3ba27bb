/-
  The document's own answers of layer 1 (dockyardref01), as far as entries and commands need them: what each call does.
-/
import Derived.Test.YtngbminjbgomgaaReader
namespace Go.Proofs.Ytngbminjbgomgaa
open Go.RowKit

theorem div_step (n t : Nat) : ((n / 256 ^ t : Nat) : Int) / 256 = ((n / 256 ^ (t + 1) : Nat) : Int) := by
  rw [Nat.pow_succ, ← Nat.div_div_eq_div_mul]
  exact (Int.natCast_ediv _ _).symm
theorem ref_step (n m size : Nat) (h : m + 1 ≤ size) : (be n size).take (size - m) = (be n size).take (size - (m + 1)) ++ [by8 (((n / 256 ^ m : Nat) : Int) % 256)] := by
  have e : (((n / 256 ^ m : Nat) : Int) % 256) = (n : Int) / 2 ^ (8 * m) % 256 := by
    rw [Int.natCast_ediv, Int.natCast_pow, Int.pow_mul]
    rfl
  rw [number_step n m size h, e]

set_option maxRecDepth 100000 in
set_option maxHeartbeats 1000000 in
theorem refNumber_any (w : World) (n size : Nat) (hs : size ≤ 8) (hn : (n : Int) < 18446744073709551616) :
    Calls Try.prog 28 #[.int .u64 n, .int .i64 size] w fun e w' => ∃ u, e = .returned u ∧ Fresh w w' u (be n size) := by
  obtain ⟨i0, hi0, hz0, hz1, hz2⟩ := info_parts u8info
  have HNN := Lib.hid hn
  clear hn
  go_enter Try.func28, Try.ntmps28
  go_wp2
  go_loopw [5, 6] (fun b i wr => ∃ m : Nat, m ≤ size ∧ i = .int .i64 ((m : Int) - 1) ∧ Fresh w wr b ((be n size).take (size - m))) (fun _ i _ => (intOf i + 1).toNat)
  case atStart => exact ⟨size, Nat.le_refl _, rfl, ⟨Keep.refl _ _, by simpa using World.ownsRow_nil w 0 5 1, by intro k hk; cases hk⟩⟩
  case round =>
    obtain ⟨m, hm, rfl, hF⟩ := hrel
    cases m with
    | succ m =>
      rw [show ((m + 1 : Nat) : Int) - 1 = (m : Int) from by omega]
      go_wp2
      go_loop [7, 8] (fun k j => ∃ t : Nat, t ≤ m ∧ j = .int .i64 t ∧ k = .int .u64 ((n / 256 ^ t : Nat) : Int)) (fun _ j => m - (intOf j).toNat)
      case atStart => exact ⟨0, Nat.zero_le _, rfl, by rw [Nat.pow_zero, Nat.div_one]⟩
      case round =>
        obtain ⟨t, ht, rfl, rfl⟩ := hrel
        by_cases hlt : t < m
        · generalize hq : n / 256 ^ t = q at *
          have HQ := Lib.hid hq
          clear hq
          go_wp2
          go_round
          case rel => exact ⟨t + 1, by omega, by go_num, by rw [← div_step, HQ.out, IntWalk.u64_in _ (by have := HNN.out; have h1 := Nat.div_le_self n (256 ^ t); have h2 := HQ.out; omega)]⟩
          case measure => simp [intOf]; omega
        · have hte : t = m := by omega
          subst hte
          have HN := Lib.hid (ref_step n t size hm)
          have hlen : ((be n size).take (size - (t + 1))).length + 1 ≤ lim := by rw [List.length_take, be_length, lim_is]; omega
          generalize n / 256 ^ t = q at *
          have ho := hF.own
          obtain ⟨A, c, hsh⟩ := own_shape ho
          subst hsh
          generalize hL : (be n size).take (size - (t + 1)) = L at *
          clear hL
          have HF := Lib.hid hF
          clear hF
          go_wp2_with (at_builtin; refine wpList_append_lies _ rfl (.tmp 23) (.tmp 27) 23 rfl 0 5 i0 _ 1 1 Try.underlying23 hi0 hz0 hz1 hz2 rfl (by decide) _ L.length (L.map bv) rfl (ho.alloc _) ⟨wr.heap.size, 0, none⟩ 1 1 [.int .u8 ((q : Int) % 256)] rfl rfl (cell_one_new _ _ _) ?c1 (by decide) ?c2 ?c3 (Nat.zero_le _) (wr.heap.size + 1) ?c4 ?_)
          case c1 => first | rfl | (intro u hu; simp at hu; subst hu; rfl)
          case c2 => rw [lim_is] at hlen; unfold maxLen; omega
          case c3 => rw [lim_is] at hlen; omega
          try (case c4 => simp)
          intro g cap w1 hown hgrow hat hlt'
          have R : Fresh w w1 (.slice (some ⟨g, 0, none⟩) (L.length + 1) cap) ((be n size).take (size - t)) := by
            rw [HN.out]
            refine ⟨HF.out.keep.trans (((Keep.refl noneOf wr).alloc (.cells #[.int .u8 ((q : Int) % 256)] 5)).mono (T := fun k => some k = (Value.slice A L.length c).ownBlock) (fun _ _ h => h.elim) |>.trans (Keep.of_grown hgrow) (fun _ _ h => h)) (fun i hi h => ?_), ?_, fun k hk => ?_⟩
            · have := HF.out.new i h.symm
              omega
            · simpa [bv_by8 (n := (q : Int) % 256) (by omega) (by omega)] using hown
            · have hkg : k = g := by simpa [Value.ownBlock] using hk.symm
              have := HF.out.keep.size
              rcases hat with h | h
              · have := HF.out.new g h
                omega
              · omega
          clear hown hgrow hat hlt' ho
          go_wp2
          go_roundw
          case rel => exact ⟨t, by omega, by go_num, R⟩
          case measure => simp [intOf]
    | zero =>
      have R := hF
      rw [Nat.sub_zero, List.take_of_length_le (by rw [be_length]; exact Nat.le_refl _)] at R
      clear hF
      go_wp2
      go_ret
      exact ⟨_, rfl, R⟩

set_option maxRecDepth 100000 in
set_option maxHeartbeats 1000000 in
theorem refSaid_any (w : World) (D : Nat → Prop) (u : Value) (bs : List UInt8) (hs : Bytes w D u bs) (hl : bs.length ≤ 8) :
    Calls Try.prog 36 #[u] w fun e w' => e = .returned (.int .u64 (num bs)) ∧ w = w' := by
  obtain ⟨A, c, rfl, hlc, hcm, hn, hc⟩ := hs
  unfold maxLen at hcm
  have HC := Lib.hid hc
  clear hc hn
  go_enter Try.func36, Try.ntmps36
  go_wp2
  go_loop [3, 4] (fun n i => ∃ k : Nat, k ≤ bs.length ∧ i = .int .i64 k ∧ n = .int .u64 (num (bs.take k))) (fun _ i => bs.length - (intOf i).toNat)
  case atStart => exact ⟨0, Nat.zero_le _, rfl, rfl⟩
  case round =>
    obtain ⟨k, hk, rfl, rfl⟩ := hrel
    by_cases hlt : k < bs.length
    · obtain ⟨ad, rfl, hsp, hblk, _, hcell⟩ := HC.out (by omega)
      obtain ⟨b, o, sp⟩ := ad
      simp only at hsp hblk hcell
      subst hsp
      have q : w.cell? ⟨b, o + k, none⟩ = some (.int .u8 (bs[k].toNat : Int)) := hcell k _ (List.getElem?_eq_getElem hlt)
      have HS : Hid (num (bs.take (k + 1)) = num (bs.take k) * 256 + bs[k].toNat) := by rw [List.take_succ_eq_append_getElem hlt]; exact num_snoc _ _
      have HL : Hid (num (bs.take (k + 1)) < 256 ^ 8) := Nat.lt_of_lt_of_le (num_lt _) (Nat.pow_le_pow_right (by decide) (by rw [List.length_take]; omega))
      have h8 : bs[k].toNat < 256 := bs[k].toNat_lt
      clear hcell
      generalize bs[k].toNat = x at *
      generalize num (bs.take k) = m0 at *
      have HB : Hid (m0 * 256 + x < 18446744073709551616) := by have h1 := HL.out; have h2 := HS.out; rw [h2] at h1; exact h1
      go_wp2
      go_round
      case rel =>
        refine ⟨k + 1, by omega, by go_num, ?_⟩
        rw [HS.out, IntWalk.u64_in (256 * (m0 : Int)) (by have := HB.out; omega), IntWalk.u64_in _ (by have := HB.out; omega)]
        exact congrArg (Value.int .u64) (by omega)
      case measure => simp [intOf]; omega
    · go_wp2
      go_ret
      have e : bs.take k = bs := List.take_of_length_le (by omega)
      rw [e]
      exact ⟨rfl, rfl⟩

/-- append onto what is one's own of what a call has made. -/
theorem Fresh.append {w w1 w2 : World} {v v' : Value} {bs cs : List UInt8} (h : Fresh w w1 v bs) (hg : w1.grownBy w2 v.ownBlock) (hat : v'.ownBlock = v.ownBlock ∨ v'.ownBlock = some w1.heap.size) (ho : w2.ownsRow 0 5 1 v' (bs ++ cs).length ((bs ++ cs).map bv)) : Fresh w w2 v' (bs ++ cs) := by
  refine ⟨h.keep.trans (Keep.of_grown hg) (fun i hi he => ?_), ho, fun k hk => ?_⟩
  · have := h.new i he.symm
    omega
  · rcases hat with e | e
    · exact h.new k (e.symm.trans hk)
    · have := h.keep.size
      rw [e] at hk
      injection hk with hk
      omega
theorem Fresh.later {w w1 w2 : World} {v : Value} {bs : List UInt8} (h : Fresh w w1 v bs) (k : Keep noneOf w1 w2) : Fresh w w2 v bs := ⟨h.keep.trans k (fun _ _ h => h), own_keep h.own k (fun _ _ => id), h.new⟩
theorem Fresh.after {w w1 w2 : World} {v : Value} {bs : List UInt8} (k : Keep noneOf w w1) (h : Fresh w1 w2 v bs) : Fresh w w2 v bs := ⟨k.trans h.keep (fun _ _ h => h), h.own, fun j hj => Nat.le_trans k.size (h.new j hj)⟩
theorem Fresh.any {w w1 : World} {v : Value} {bs : List UInt8} (h : Fresh w w1 v bs) : Bytes w1 (fun _ => True) v bs := h.bytes.mono (fun _ _ _ => trivial)

/-- A slice of one byte, new. -/
theorem fresh_one (w : World) (b : Int) (h0 : 0 ≤ b) (h1 : b < 256) : Fresh w (w.alloc (.cells #[.int .u8 b] 5)) (.slice (some ⟨w.heap.size, 0, none⟩) 1 1) [by8 b] := by
  refine ⟨(Keep.refl _ _).alloc _, ⟨?_, .inr ⟨w.heap.size, 1, #[.int .u8 b], rfl, Nat.zero_le _, Box.new w _ _, Nat.le_refl _, by unfold maxLen; decide, rfl, by simp [bv_by8 h0 h1]⟩⟩, fun k hk => ?_⟩
  · simp
  · have : w.heap.size = k := by simpa [Value.ownBlock] using hk
    omega

/-- The bytes of a Var, as the document's Var makes them. -/
def RefVar (w : World) (n : Nat) (e : Ending) (w' : World) : Prop := ∃ A c, e = .returned (.slice A (varBytes n).length c) ∧ Fresh w w' (.slice A (varBytes n).length c) (varBytes n)

set_option maxRecDepth 100000 in
set_option maxHeartbeats 1000000 in
theorem refVar_long (w : World) (n : Nat) (f m : Nat) (hn : (n : Int) < 18446744073709551616) (hf : varFirst n = f) (hm : varMore f = m)
    (g1 : decide ((n : Int) < 253) = false) (h : (f = 253 ∧ m = 2 ∧ decide ((65536 : Int) ≤ n) = false ∧ decide ((4294967296 : Int) ≤ n) = false) ∨ (f = 254 ∧ m = 4 ∧ decide ((65536 : Int) ≤ n) = true ∧ decide ((4294967296 : Int) ≤ n) = false) ∨ (f = 255 ∧ m = 8 ∧ decide ((65536 : Int) ≤ n) = true ∧ decide ((4294967296 : Int) ≤ n) = true)) :
    Calls Try.prog 53 #[.int .u64 n] w (RefVar w n) := by
  obtain ⟨i0, hi0, hz0, hz1, hz2⟩ := info_parts u8info
  have HE : Hid (varBytes n = [by8 (f : Int)] ++ be n m) := by unfold varBytes; rw [hf, hm]; rfl
  have HN := Lib.hid hn
  have hlim := Lib.hid lim_is
  have hm8 : m ≤ 8 := by omega
  have hf0 : f < 256 := by omega
  have HV : Hid (∀ w' A c k, Fresh w w' (.slice A k c) ([by8 (f : Int)] ++ be n m) → RefVar w n (.returned (.slice A k c)) w') := fun w' A c k h => by
    have hk : k = (varBytes n).length := by
      obtain ⟨_, _, e, _⟩ := h.bytes
      injection e with _ e
      rw [e, HE.out]
    subst hk
    exact ⟨A, c, rfl, by rw [HE.out] at h ⊢; exact h⟩
  clear hn hf hm HE
  rcases h with ⟨rfl, rfl, g2, g3⟩ | ⟨rfl, rfl, g2, g3⟩ | ⟨rfl, rfl, g2, g3⟩
  all_goals
    go_enter Try.func53, Try.ntmps53
    go_wp2_with fail
    refine (refNumber_any _ n _ (by decide) HN.out).mono ?_
    rintro e w1 ⟨u1, rfl, F1⟩
    have F0 := (fresh_one w _ (by decide) (by decide)).later F1.keep
    have o0 := F0.own
    have b1 := F1.bytes
    obtain ⟨A1, c1, hs1⟩ := own_shape F1.own
    subst hs1
    have HF0 := Lib.hid F0
    clear F0 F1
    go_wp2_with (at_builtin; refine wpList_append_read w1 rfl (.tmp 17) (.tmp 20) 23 rfl 5 i0 _ Try.underlying23 hi0 hz0 hz1 hz2 rfl _ _ _ _ _ rfl rfl o0 b1 ?c1 ?_)
    case c1 => rw [hlim.out]; simp [be_length]
    intro v2 w2 o2 gr2 at2 _
    have R := HF0.out.append gr2 at2 o2
    obtain ⟨A2, c2, hs2⟩ := own_shape o2
    subst hs2
    clear o2 gr2 at2
    go_wp2
    go_ret
    exact HV.out _ _ _ _ R
set_option maxRecDepth 100000 in
set_option maxHeartbeats 1000000 in
theorem refVar_short (w : World) (n : Nat) (h1 : n < 253) : Calls Try.prog 53 #[.int .u64 n] w (RefVar w n) := by
  have g1 : decide ((n : Int) < 253) = true := by simp; omega
  have hb : (n : Int) < 256 := by omega
  have e : varBytes n = [by8 (n : Int)] := by
    have ef : varFirst n = n := by unfold varFirst; rw [if_pos h1]
    have em : varMore n = 0 := by unfold varMore; rw [if_neg (by omega), if_neg (by omega), if_neg (by omega)]
    unfold varBytes
    rw [ef, em]
    rfl
  have R : Hid (RefVar w n (.returned (.slice (some ⟨w.heap.size, 0, none⟩) 1 1)) (w.alloc (.cells #[.int .u8 (n : Int)] 5))) := ⟨some ⟨w.heap.size, 0, none⟩, 1, by rw [e]; rfl, by rw [e]; exact fresh_one w n (by omega) (by omega)⟩
  clear e h1
  go_enter Try.func53, Try.ntmps53
  go_wp2
  go_ret
  exact R.out
theorem refVar_any (w : World) (n : Nat) (hn : (n : Int) < 18446744073709551616) : Calls Try.prog 53 #[.int .u64 n] w (RefVar w n) := by
  rcases (show n < 253 ∨ (253 ≤ n ∧ n < 65536) ∨ (65536 ≤ n ∧ n < 4294967296) ∨ 4294967296 ≤ n from by omega) with h1 | h1 | h1 | h1
  · exact refVar_short w n h1
  · exact refVar_long w n 253 2 hn (by unfold varFirst; rw [if_neg (by omega), if_pos (by omega)]) rfl (by simp; omega) (.inl ⟨rfl, rfl, by simp; omega, by simp; omega⟩)
  · exact refVar_long w n 254 4 hn (by unfold varFirst; rw [if_neg (by omega), if_neg (by omega), if_pos (by omega)]) rfl (by simp; omega) (.inr (.inl ⟨rfl, rfl, by simp; omega, by simp; omega⟩))
  · exact refVar_long w n 255 8 hn (by unfold varFirst; rw [if_neg (by omega), if_neg (by omega), if_neg (by omega)]) rfl (by simp; omega) (.inr (.inr ⟨rfl, rfl, by simp; omega, by simp; omega⟩))

set_option maxRecDepth 100000 in
set_option maxHeartbeats 1000000 in
theorem refText_any (w : World) (D : Nat → Prop) (u : Value) (cs : List UInt8) (hs : Bytes w D u cs) (hl : cs.length + 9 ≤ lim) :
    Calls Try.prog 29 #[u] w fun e w' => ∃ u', e = .returned u' ∧ Fresh w w' u' (textBytes cs) := by
  obtain ⟨i0, hi0, hz0, hz1, hz2⟩ := info_parts u8info
  have hs' := hs
  obtain ⟨A, c, rfl, hlc, hcm, _, _⟩ := hs
  have hlim := Lib.hid lim_is
  have hc2 : ((cs.length : Nat) : Int) < 18446744073709551616 := by rw [lim_is] at hl; omega
  have RV := Lib.hid (refVar_any w cs.length hc2)
  have HL : Hid ((varBytes cs.length).length + cs.length ≤ lim) := by have h1 := varMore_le (varFirst cs.length); have h2 := varBytes_length cs.length; show _ ≤ _; omega
  have hs1 : (cs.length : Int) ≤ 9223372036854775807 := by rw [lim_is] at hl; omega
  unfold maxLen at hcm
  clear hc2 hl
  go_enter Try.func29, Try.ntmps29
  go_wp2_with fail
  refine RV.out.mono ?_
  rintro e w1 ⟨A1, c1, rfl, F1⟩
  have b1 := hs'.keep F1.keep (fun _ _ _ => id)
  have o1 := F1.own
  have HF := Lib.hid F1
  clear F1
  go_wp2_with (at_builtin; refine wpList_append_read w1 rfl (.tmp 8) (.tmp 9) 23 rfl 5 i0 _ Try.underlying23 hi0 hz0 hz1 hz2 rfl _ _ _ _ _ rfl rfl o1 b1 ?c1 ?_)
  case c1 => exact HL.out
  intro v2 w2 o2 gr2 at2 _
  have R := HF.out.append (cs := cs) gr2 at2 (by simpa using o2)
  obtain ⟨A2, c2, hs2⟩ := own_shape o2
  subst hs2
  clear o2 gr2 at2
  go_wp2
  go_ret
  exact ⟨_, rfl, R⟩
end Go.Proofs.Ytngbminjbgomgaa
