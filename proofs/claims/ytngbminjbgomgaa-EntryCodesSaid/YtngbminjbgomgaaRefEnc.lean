/-
  The document's entries: dockyardref04.Encode.
-/
import Derived.Test.YtngbminjbgomgaaEntry
import Derived.Test.YtngbminjbgomgaaRefRead
namespace Go.Proofs.Ytngbminjbgomgaa
open Go.RowKit

theorem textBytes_len (bs : List UInt8) : (textBytes bs).length ≤ bs.length + 9 := by
  have h1 := varMore_le (varFirst bs.length)
  have h2 := varBytes_length bs.length
  unfold textBytes
  rw [List.length_append]
  omega

set_option maxRecDepth 100000 in
set_option maxHeartbeats 1000000 in
theorem refEncode_no (w : World) (i t : Nat) (k : Int) (A : Option Addr) (c n : Nat) (hn : n ≤ 9223372036854775807)
    (h : i = 0 ∨ (i ≠ 0 ∧ t = 0) ∨ (i ≠ 0 ∧ t ≠ 0 ∧ k < 0) ∨ (i ≠ 0 ∧ t ≠ 0 ∧ 2 < k) ∨ (i ≠ 0 ∧ t ≠ 0 ∧ 0 ≤ k ∧ k ≤ 2 ∧ 65536 < n) ∨ (i ≠ 0 ∧ t ≠ 0 ∧ k = 0 ∧ n ≤ 65536 ∧ 0 < n)) :
    Calls Try.prog 10 #[.agg #[.int .u64 (i : Int), .int .u64 (t : Int), .int .i64 k, .slice A n c]] w fun e w' => e = .returned (.tuple #[.slice none 0 0, .int .i64 40]) ∧ Keep noneOf w w' := by
  rcases h with h | ⟨h0, h⟩ | ⟨h0, h1, h⟩ | ⟨h0, h1, h⟩ | ⟨h0, h1, h2, h3, h⟩ | ⟨h0, h1, h2, h3, h⟩
  · subst h
    go_enter Try.func10, Try.ntmps10
    go_wp2
    go_ret2
    exact ⟨rfl, (Keep.refl _ _).alloc _⟩
  · subst h
    have g0 : ((i : Int) == 0) = false := beq_eq_false_iff_ne.2 (by omega)
    clear h0
    go_enter Try.func10, Try.ntmps10
    go_wp2
    go_ret2
    exact ⟨rfl, (Keep.refl _ _).alloc _⟩
  · have g0 : ((i : Int) == 0) = false := beq_eq_false_iff_ne.2 (by omega)
    have g1 : ((t : Int) == 0) = false := beq_eq_false_iff_ne.2 (by omega)
    have g2 : decide (k < 0) = true := decide_eq_true h
    clear h0 h1 h
    go_enter Try.func10, Try.ntmps10
    go_wp2
    go_ret2
    exact ⟨rfl, (Keep.refl _ _).alloc _⟩
  · have g0 : ((i : Int) == 0) = false := beq_eq_false_iff_ne.2 (by omega)
    have g1 : ((t : Int) == 0) = false := beq_eq_false_iff_ne.2 (by omega)
    have g2 : decide (k < 0) = false := decide_eq_false (by omega)
    have g3 : decide (2 < k) = true := decide_eq_true h
    clear h0 h1 h
    go_enter Try.func10, Try.ntmps10
    go_wp2
    go_ret2
    exact ⟨rfl, (Keep.refl _ _).alloc _⟩
  · have g0 : ((i : Int) == 0) = false := beq_eq_false_iff_ne.2 (by omega)
    have g1 : ((t : Int) == 0) = false := beq_eq_false_iff_ne.2 (by omega)
    have g2 : decide (k < 0) = false := decide_eq_false (by omega)
    have g3 : decide (2 < k) = false := decide_eq_false (by omega)
    have g4 : decide ((65536 : Int) < (n : Int)) = true := decide_eq_true (by omega)
    clear h0 h1 h2 h3 h
    go_enter Try.func10, Try.ntmps10
    go_wp2
    go_ret2
    exact ⟨rfl, (Keep.refl _ _).alloc _⟩
  · subst h2
    have g0 : ((i : Int) == 0) = false := beq_eq_false_iff_ne.2 (by omega)
    have g1 : ((t : Int) == 0) = false := beq_eq_false_iff_ne.2 (by omega)
    have g4 : decide ((65536 : Int) < (n : Int)) = false := decide_eq_false (by omega)
    have g5 : decide ((0 : Int) < (n : Int)) = true := decide_eq_true (by omega)
    clear h0 h1 h3
    go_enter Try.func10, Try.ntmps10
    go_wp2
    go_ret2
    exact ⟨rfl, (Keep.refl _ _).alloc _⟩

set_option maxRecDepth 100000 in
set_option maxHeartbeats 1000000 in
theorem refEncode_yes (w : World) (D : Nat → Prop) (i t : Nat) (k : Int) (A : Option Addr) (c : Nat) (cs : List UInt8) (hi : (i : Int) < 18446744073709551616) (ht : (t : Int) < 18446744073709551616) (hs : Bytes w D (.slice A cs.length c) cs)
    (hi0 : i ≠ 0) (ht0 : t ≠ 0) (hk0 : 0 ≤ k) (hk2 : k ≤ 2) (hn : cs.length ≤ 65536) (hk : k = 0 → cs.length = 0) :
    Calls Try.prog 10 #[.agg #[.int .u64 (i : Int), .int .u64 (t : Int), .int .i64 k, .slice A cs.length c]] w fun e w' => ∃ u, e = .returned (.tuple #[u, .int .i64 0]) ∧ Fresh w w' u (entBytes i t k.toNat cs) := by
  obtain ⟨i1, hi1, hz0, hz1, hz2⟩ := info_parts u8info
  have g0 : ((i : Int) == 0) = false := beq_eq_false_iff_ne.2 (by omega)
  have g1 : ((t : Int) == 0) = false := beq_eq_false_iff_ne.2 (by omega)
  have g2 : decide (k < 0) = false := decide_eq_false (by omega)
  have g3 : decide (2 < k) = false := decide_eq_false (by omega)
  have g4 : decide ((65536 : Int) < (cs.length : Int)) = false := decide_eq_false (by omega)
  have HI := Lib.hid hi
  have HT := Lib.hid ht
  have HS := Lib.hid hs
  have hlim := Lib.hid lim_is
  have K0 := (Keep.refl noneOf w).alloc (.cells #[.int .u64 (i : Int), .int .u64 (t : Int), .int .i64 k, .slice A cs.length c] 25)
  have X0 := Box.new w 25 #[.int .u64 (i : Int), .int .u64 (t : Int), .int .i64 k, .slice A cs.length c]
  have HK0 := Lib.hid K0
  have HX0 := Lib.hid X0
  have HEB : Hid (entBytes i t k.toNat cs = (be i 8 ++ be t 8) ++ [by8 k] ++ textBytes cs) := by show _ = _; unfold entBytes; rfl
  have HTL : Hid ((be i 8 ++ be t 8 ++ [by8 k]).length + (textBytes cs).length ≤ lim) := by
    have h1 := textBytes_len cs
    show _ ≤ _
    rw [lim_is]
    simp only [List.length_append, be_length, List.length_cons, List.length_nil]
    omega
  have hk256 : k < 256 := by omega
  have gk : (k == 0) = false ∨ (k = 0 ∧ cs.length = 0) := by
    by_cases h : k = 0
    · exact .inr ⟨h, hk h⟩
    · exact .inl (beq_eq_false_iff_ne.2 h)
  clear hi ht hs hi0 ht0 K0 X0 hk
  generalize entBytes i t k.toNat cs = eb at *
  rcases gk with gk | ⟨rfl, hc0⟩
  · go_enter Try.func10, Try.ntmps10
    go_wp2_with fail
    refine (refNumber_any _ i 8 (by decide) HI.out).mono ?_
    rintro e w1 ⟨u1, rfl, F1⟩
    obtain ⟨A1, c1, hs1⟩ := own_shape F1.own
    subst hs1
    have X1 := HX0.out.keep F1.keep id
    have F1 := Fresh.after HK0.out F1
    have q1 : w1.cell? ⟨w.heap.size, 1, none⟩ = some (.int .u64 (t : Int)) := X1.cell 1
    have HF1 := Lib.hid F1
    clear F1
    go_wp2_with fail
    refine (refNumber_any _ t 8 (by decide) HT.out).mono ?_
    rintro e w2 ⟨u2, rfl, F2⟩
    obtain ⟨A2, c2, hs2⟩ := own_shape F2.own
    subst hs2
    have X2 := X1.keep F2.keep id
    have b2 := F2.any
    have F12 := HF1.out.later F2.keep
    have o12 := F12.own
    have HF12 := Lib.hid F12
    have HX2 := Lib.hid X2
    clear F2 X1 q1 F12 X2 HF1
    go_wp2_with (at_builtin; refine wpList_append_read w2 rfl (.tmp 43) (.tmp 46) 23 rfl 5 i1 _ Try.underlying23 hi1 hz0 hz1 hz2 rfl _ _ _ _ _ rfl rfl o12 b2 (by rw [hlim.out]; simp [be_length]) ?_)
    intro v3 w3 o3 gr3 at3 _
    have F3 := HF12.out.append (cs := be t 8) gr3 at3 (by simpa using o3)
    obtain ⟨A3, c3, hs3⟩ := own_shape o3
    subst hs3
    have hne : ¬ (some w.heap.size = (Value.slice A1 (be i 8).length c1).ownBlock) := fun h => by
      rcases HF12.out.own.2 with ⟨e, _⟩ | ⟨g, cap, cur, e, _, hg, _⟩
      · rw [e] at h; cases h
      · rw [e] at h
        have : w.heap.size = g := by injection h
        exact Box.ne (t := 5) (cs := cur) hg HX2.out (by decide) this.symm
    have X3 := HX2.out.keep (Keep.of_grown gr3) hne
    have q2 : w3.cell? ⟨w.heap.size, 2, none⟩ = some (.int .i64 k) := X3.cell 2
    have K34 := (Keep.refl noneOf w3).alloc (.cells #[.int .u8 k] 5)
    have F34 := F3.later K34
    have o34 := F34.own
    have b34 := (fresh_one w3 k hk0 hk256).any
    have HF34 := Lib.hid F34
    have HX3 := Lib.hid (X3.keep K34 id)
    clear o3 gr3 at3 F3 X3 hne HF12 HX2 o12 b2 F34 K34
    go_wp2_with (at_builtin; refine wpList_append_read _ rfl (.tmp 48) (.tmp 52) 23 rfl 5 i1 _ Try.underlying23 hi1 hz0 hz1 hz2 rfl _ _ (be i 8 ++ be t 8) [by8 k] _ rfl rfl o34 b34 (by rw [hlim.out]; simp [be_length]) ?_)
    intro v4 w4 o4 gr4 at4 _
    have F4 := HF34.out.append (cs := [by8 k]) gr4 (by simpa using at4) (by simpa [Nat.add_assoc] using o4)
    obtain ⟨A4, c4, hs4⟩ := own_shape F4.own
    subst hs4
    have hne : ¬ (some w.heap.size = (Value.slice A3 ((be i 8).length + (be t 8).length) c3).ownBlock) := fun h => by
      rcases HF34.out.own.2 with ⟨e, _⟩ | ⟨g, cap, cur, e, _, hg, _⟩
      · rw [e] at h; cases h
      · rw [e] at h
        have : w.heap.size = g := by injection h
        exact Box.ne (t := 5) (cs := cur) hg HX3.out (by decide) this.symm
    have X4 := HX3.out.keep (Keep.of_grown gr4) hne
    have q3 : w4.cell? ⟨w.heap.size, 3, none⟩ = some (.slice A cs.length c) := X4.cell 3
    have RT := Lib.hid (refText_any w4 D _ cs (HS.out.keep F4.keep (fun _ _ _ => id)) (by rw [hlim.out]; omega))
    have HF4 := Lib.hid F4
    clear o4 gr4 at4 F4 X4 hne HF34 HX3 o34 b34 q2
    go_wp2_with fail
    refine RT.out.mono ?_
    rintro e w5 ⟨u5, rfl, F5⟩
    obtain ⟨A5, c5, hs5⟩ := own_shape F5.own
    subst hs5
    have b5 := F5.any
    have F45 := HF4.out.later F5.keep
    have o45 := F45.own
    have HF45 := Lib.hid F45
    clear F5 F45 RT HF4 q3
    go_wp2_with (at_builtin; refine wpList_append_read w5 rfl (.tmp 54) (.tmp 57) 23 rfl 5 i1 _ Try.underlying23 hi1 hz0 hz1 hz2 rfl _ _ (be i 8 ++ be t 8 ++ [by8 k]) (textBytes cs) _ rfl rfl o45 b5 HTL.out ?_)
    intro v6 w6 o6 gr6 at6 _
    have F6 := HF45.out.append (cs := textBytes cs) gr6 at6 (by simpa [Nat.add_assoc] using o6)
    rw [← HEB.out] at F6
    obtain ⟨A6, c6, hs6⟩ := own_shape F6.own
    subst hs6
    have HF6 := Lib.hid F6
    clear o6 gr6 at6 F6 HF45 o45 b5
    go_wp2
    go_ret2
    exact ⟨_, rfl, HF6.out⟩
  · have g9 : decide ((0 : Int) < (cs.length : Int)) = false := decide_eq_false (by omega)
    have g10 : decide (0 < cs.length) = false := decide_eq_false (by omega)
    have g11 : ¬ (0 < cs.length) := by omega
    clear hc0 g2 g3 hk0 hk2 hk256
    go_enter Try.func10, Try.ntmps10
    go_wp2_with fail
    refine (refNumber_any _ i 8 (by decide) HI.out).mono ?_
    rintro e w1 ⟨u1, rfl, F1⟩
    obtain ⟨A1, c1, hs1⟩ := own_shape F1.own
    subst hs1
    have X1 := HX0.out.keep F1.keep id
    have F1 := Fresh.after HK0.out F1
    have q1 : w1.cell? ⟨w.heap.size, 1, none⟩ = some (.int .u64 (t : Int)) := X1.cell 1
    have HF1 := Lib.hid F1
    clear F1
    go_wp2_with fail
    refine (refNumber_any _ t 8 (by decide) HT.out).mono ?_
    rintro e w2 ⟨u2, rfl, F2⟩
    obtain ⟨A2, c2, hs2⟩ := own_shape F2.own
    subst hs2
    have X2 := X1.keep F2.keep id
    have b2 := F2.any
    have F12 := HF1.out.later F2.keep
    have o12 := F12.own
    have HF12 := Lib.hid F12
    have HX2 := Lib.hid X2
    clear F2 X1 q1 F12 X2 HF1
    go_wp2_with (at_builtin; refine wpList_append_read w2 rfl (.tmp 43) (.tmp 46) 23 rfl 5 i1 _ Try.underlying23 hi1 hz0 hz1 hz2 rfl _ _ _ _ _ rfl rfl o12 b2 (by rw [hlim.out]; simp [be_length]) ?_)
    intro v3 w3 o3 gr3 at3 _
    have F3 := HF12.out.append (cs := be t 8) gr3 at3 (by simpa using o3)
    obtain ⟨A3, c3, hs3⟩ := own_shape o3
    subst hs3
    have hne : ¬ (some w.heap.size = (Value.slice A1 (be i 8).length c1).ownBlock) := fun h => by
      rcases HF12.out.own.2 with ⟨e, _⟩ | ⟨g, cap, cur, e, _, hg, _⟩
      · rw [e] at h; cases h
      · rw [e] at h
        have : w.heap.size = g := by injection h
        exact Box.ne (t := 5) (cs := cur) hg HX2.out (by decide) this.symm
    have X3 := HX2.out.keep (Keep.of_grown gr3) hne
    have q2 : w3.cell? ⟨w.heap.size, 2, none⟩ = some (.int .i64 0) := X3.cell 2
    have K34 := (Keep.refl noneOf w3).alloc (.cells #[.int .u8 0] 5)
    have F34 := F3.later K34
    have o34 := F34.own
    have b34 := (fresh_one w3 0 (by decide) (by decide)).any
    have HF34 := Lib.hid F34
    have HX3 := Lib.hid (X3.keep K34 id)
    clear o3 gr3 at3 F3 X3 hne HF12 HX2 o12 b2 F34 K34
    go_wp2_with (at_builtin; refine wpList_append_read _ rfl (.tmp 48) (.tmp 52) 23 rfl 5 i1 _ Try.underlying23 hi1 hz0 hz1 hz2 rfl _ _ (be i 8 ++ be t 8) [by8 0] _ rfl rfl o34 b34 (by rw [hlim.out]; simp [be_length]) ?_)
    intro v4 w4 o4 gr4 at4 _
    have F4 := HF34.out.append (cs := [by8 0]) gr4 (by simpa using at4) (by simpa [Nat.add_assoc] using o4)
    obtain ⟨A4, c4, hs4⟩ := own_shape F4.own
    subst hs4
    have hne : ¬ (some w.heap.size = (Value.slice A3 ((be i 8).length + (be t 8).length) c3).ownBlock) := fun h => by
      rcases HF34.out.own.2 with ⟨e, _⟩ | ⟨g, cap, cur, e, _, hg, _⟩
      · rw [e] at h; cases h
      · rw [e] at h
        have : w.heap.size = g := by injection h
        exact Box.ne (t := 5) (cs := cur) hg HX3.out (by decide) this.symm
    have X4 := HX3.out.keep (Keep.of_grown gr4) hne
    have q3 : w4.cell? ⟨w.heap.size, 3, none⟩ = some (.slice A cs.length c) := X4.cell 3
    have RT := Lib.hid (refText_any w4 D _ cs (HS.out.keep F4.keep (fun _ _ _ => id)) (by rw [hlim.out]; omega))
    have HF4 := Lib.hid F4
    clear o4 gr4 at4 F4 X4 hne HF34 HX3 o34 b34 q2
    go_wp2_with fail
    refine RT.out.mono ?_
    rintro e w5 ⟨u5, rfl, F5⟩
    obtain ⟨A5, c5, hs5⟩ := own_shape F5.own
    subst hs5
    have b5 := F5.any
    have F45 := HF4.out.later F5.keep
    have o45 := F45.own
    have HF45 := Lib.hid F45
    clear F5 F45 RT HF4 q3
    go_wp2_with (at_builtin; refine wpList_append_read w5 rfl (.tmp 54) (.tmp 57) 23 rfl 5 i1 _ Try.underlying23 hi1 hz0 hz1 hz2 rfl _ _ (be i 8 ++ be t 8 ++ [by8 0]) (textBytes cs) _ rfl rfl o45 b5 HTL.out ?_)
    intro v6 w6 o6 gr6 at6 _
    have F6 := HF45.out.append (cs := textBytes cs) gr6 at6 (by simpa [Nat.add_assoc] using o6)
    rw [← HEB.out] at F6
    obtain ⟨A6, c6, hs6⟩ := own_shape F6.own
    subst hs6
    have HF6 := Lib.hid F6
    clear o6 gr6 at6 F6 HF45 o45 b5
    go_wp2
    go_ret2
    exact ⟨_, rfl, HF6.out⟩

theorem refEncode_any (w : World) (D : Nat → Prop) (i t : Nat) (k : Int) (u : Value) (cs : List UInt8) (hi : (i : Int) < 18446744073709551616) (ht : (t : Int) < 18446744073709551616) (hs : Bytes w D u cs) :
    Calls Try.prog 10 #[.agg #[.int .u64 (i : Int), .int .u64 (t : Int), .int .i64 k, u]] w (Encoded w i t k cs) := by
  have hs' := hs
  obtain ⟨A, c, rfl, hlc, hcm, _⟩ := hs
  cases hr : entRight i t k cs.length with
  | true =>
    obtain ⟨h0, h1, h2, h3⟩ := (entRight_iff _ _ _ _).1 hr
    refine (refEncode_yes w D i t k A c cs hi ht hs' h0 h1 (by omega) (by omega) h2 (by omega)).mono ?_
    rintro e w' ⟨u, rfl, F⟩
    exact ⟨F.keep, .inr ⟨hr, u, rfl, F.own, F.new⟩⟩
  | false =>
    have hn : ¬ (i ≠ 0 ∧ t ≠ 0 ∧ cs.length ≤ 65536 ∧ ((k = 0 ∧ cs.length = 0) ∨ k = 1 ∨ k = 2)) := fun h => by
      rw [(entRight_iff _ _ _ _).2 h] at hr
      cases hr
    refine (refEncode_no w i t k A c cs.length (by unfold maxLen at hcm; omega) (by omega)).mono ?_
    rintro e w' ⟨rfl, K⟩
    exact ⟨K, .inl ⟨hr, rfl⟩⟩
end Go.Proofs.Ytngbminjbgomgaa
