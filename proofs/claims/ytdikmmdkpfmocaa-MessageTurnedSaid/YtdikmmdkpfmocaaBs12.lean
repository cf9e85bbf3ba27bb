import Derived.BigQuiet
import Derived.Deep.QuietTactic
import Derived.Test.YtdikmmdkpfmocaaBs11
namespace Go.Proofs.Ytdikmmdkpfmocaa
open Go.RowKit
noncomputable def unfr (bs : List UInt8) : List UInt8 × Nat × Int :=
  if bs.length < 8 then ([], 0, 10)
  else if num ((bs.drop 4).take 4) ≠ sumOf (bs.take 4) then ([], 0, 14)
  else if 16777216 < num (bs.take 4) then ([], 0, 12)
  else if bs.length - 8 < num (bs.take 4) + 4 then ([], 0, 10)
  else if num ((bs.drop (8 + num (bs.take 4))).take 4) ≠ sumOf ((bs.drop 8).take (num (bs.take 4))) then ([], 0, 14)
  else ((bs.drop 8).take (num (bs.take 4)), num (bs.take 4) + 12, 0)
theorem Bytes.part {w : World} {D : Nat → Prop} {b o c : Nat} {bs : List UInt8} (h : Bytes w D (.slice (some ⟨b, o, none⟩) bs.length c) bs) {i k : Nat} (hik : i + k ≤ bs.length) (hi : i < bs.length) :
    Bytes w D (.slice (some ⟨b, o + i, none⟩) k (c - i)) ((bs.drop i).take k) := by
  have hlc : bs.length ≤ c := by
    obtain ⟨A', c', e, hl, _⟩ := h
    injection e with _ _ e3
    omega
  have h1 := h.drop (n := i) (by omega)
  rw [if_neg (by omega)] at h1
  have e : (some (⟨b, o, none⟩ : Addr)).map (·.add i) = some ⟨b, o + i, none⟩ := by
    rw [Option.map_some, add_at _ rfl]
  rw [e] at h1
  have hl : (bs.drop i).length = bs.length - i := List.length_drop ..
  rw [← hl] at h1
  exact h1.take (by rw [hl]; omega)
theorem Bytes.at_ {w : World} {D : Nat → Prop} {A : Option Addr} {c : Nat} {bs : List UInt8} (h : Bytes w D (.slice A bs.length c) bs) (h0 : 0 < bs.length) : ∃ b o, A = some ⟨b, o, none⟩ ∧ bs.length ≤ c ∧ c ≤ maxLen := by
  obtain ⟨A', c', e, hl, hm, _, hc⟩ := h
  injection e with e1 e2 e3
  obtain ⟨ad, hA, hsp, _⟩ := hc h0
  obtain ⟨b, o, sp⟩ := ad
  simp only at hsp
  subst hsp
  exact ⟨b, o, e1.trans hA, by omega, by omega⟩
set_option maxRecDepth 100000 in
set_option maxHeartbeats 1000000 in
theorem sumFollows_any (w : World) (D : Nat → Prop) (fr bb : List UInt8) (A B : Option Addr) (c e : Nat) (h : Bytes w D (.slice A fr.length c) fr) (h' : Bytes w D (.slice B bb.length e) bb) (hl : fr.length + 4 ≤ bb.length) :
    Calls Try.prog 41 #[.slice A fr.length c, .slice B bb.length e] w (fun e w' => e = .returned (.bool (decide (num ((bb.drop fr.length).take 4) = sumOf fr))) ∧ w = w') := by
  obtain ⟨b, o, rfl, hle, hme⟩ := h'.at_ (by omega)
  have H2 := Lib.hid (h'.part (i := fr.length) (k := 4) hl (by omega))
  have HN := Lib.hid (cnumber_any w D _ _ H2.out (by rw [List.length_take]; omega))
  have HS := Lib.hid (sum_any w D _ fr h)
  have hlI : ((fr.length : Nat) : Int) + 4 ≤ (e : Nat) := by omega
  have hlI2 : ((fr.length : Nat) : Int) ≤ (e : Nat) := by omega
  have h0I : (0 : Int) ≤ (fr.length : Int) := by omega
  unfold maxLen at hme
  clear h h' hl
  go_enter Try.func41, Try.ntmps41
  have HLT := Lib.hid (sumOf_lt fr)
  generalize num ((bb.drop fr.length).take 4) = N at *
  generalize sumOf fr = S at *
  go_wp2_with fail
  refine HN.out.mono ?_
  rintro e1 w1 ⟨rfl, rfl⟩
  go_wp2_with fail
  refine HS.out.mono ?_
  rintro e1 w1 ⟨rfl, rfl⟩
  have q0 : (0 : Int) ≤ (S : Int) := by omega
  have q1 : (S : Int) < 4294967296 := by have := HLT.out; omega
  go_wp2
  go_ret
  refine ⟨ret_bool ?_, rfl⟩
  rw [Bool.eq_iff_iff, beq_iff_eq, decide_eq_true_eq]
  omega
set_option maxRecDepth 100000 in
set_option maxHeartbeats 1000000 in
theorem unframe_any (w : World) (D : Nat → Prop) (u : Value) (bs : List UInt8) (h : Bytes w D u bs) (hl : bs.length ≤ lim) :
    Calls Try.prog 19 #[u] w fun e w' => ∃ u', e = .returned (.tuple #[u', .int .i64 ((unfr bs).2.1 : Nat), .int .i64 (unfr bs).2.2]) ∧ Fresh w w' u' (unfr bs).1 := by
  obtain ⟨A, c, rfl, hm⟩ := h.shape'
  unfold maxLen at hm
  have HN0 : Fresh w w (.slice none 0 0) [] := ⟨Keep.refl _ _, World.ownsRow_nil _ _ _ _, by intro k hk; cases hk⟩
  unfold unfr
  by_cases h8 : bs.length < 8
  · rw [if_pos h8]
    have g : (bs.length : Int) < 8 := by omega
    go_enter Try.func19, Try.ntmps19
    go_wp2
    exact bodyPost_ret (v := .tuple #[.slice none 0 0, .int .i64 0, .int .i64 10]) (by simp [results, Try.results19, go_sem]) rfl ⟨_, rfl, HN0⟩
  rw [if_neg h8]
  have g : ¬ (bs.length : Int) < 8 := by omega
  obtain ⟨b, o, rfl, hle, hme⟩ := h.at_ (by omega)
  unfold maxLen at hme
  have hc8 : (8 : Int) ≤ (c : Int) := by omega
  have hc4 : (4 : Int) ≤ (c : Int) := by omega
  have h4 := h.take (n := 4) (by omega)
  have h88 := h.take (n := 8) (by omega)
  have hd8 := h.drop (n := 8) (by omega)
  have e8 : (if c = 8 then some (⟨b, o, none⟩ : Addr) else (some (⟨b, o, none⟩ : Addr)).map (·.add 8)) = if c = 8 then some ⟨b, o, none⟩ else some ⟨b, o + 8, none⟩ := by rw [Option.map_some, add_at _ rfl]
  rw [e8] at hd8
  have l4 : (bs.take 4).length = 4 := by rw [List.length_take]; omega
  have l88 : (bs.take 8).length = 8 := by rw [List.length_take]; omega
  have ld8 : (bs.drop 8).length = bs.length - 8 := List.length_drop ..
  have et : ((bs.take 8).drop 4).take 4 = (bs.drop 4).take 4 := by rw [List.drop_take, List.take_take]; rfl
  have H4 := Lib.hid h4
  have H8 := Lib.hid h88
  have HD8 := Lib.hid hd8
  have HL4 := Lib.hid l4
  have HLD8 := Lib.hid ld8
  have SF := Lib.hid (fun w1 (k : Keep noneOf w w1) => show Calls Try.prog 41 #[.slice (some ⟨b, o, none⟩) 4 c, .slice (some ⟨b, o, none⟩) 8 c] w1 (fun e w' => e = .returned (.bool (decide (num ((bs.drop 4).take 4) = sumOf (bs.take 4)))) ∧ w1 = w') from by
    have := sumFollows_any w1 D (bs.take 4) (bs.take 8) (some ⟨b, o, none⟩) (some ⟨b, o, none⟩) c c (by rw [l4]; exact h4.keep k (fun _ _ _ => id)) (by rw [l88]; exact h88.keep k (fun _ _ _ => id)) (by rw [l4, l88]; decide)
    rw [l4, l88, et] at this
    exact this)
  have CN := Lib.hid (fun w1 (k : Keep noneOf w w1) => cnumber_any w1 D _ _ (h4.keep k (fun _ _ _ => id)) (by rw [l4]; decide))
  clear h4 h88 hd8 e8 l4 l88 ld8 et h
  have KW := Lib.hid (fun n => (Keep.refl noneOf w).drewN n)
  have hmI : (bs.length : Int) ≤ 140737488351232 := by rw [lim_is] at hl; omega
  by_cases hs : num ((bs.drop 4).take 4) = sumOf (bs.take 4)
  · rw [if_neg (fun h => h hs)]
    rw [decide_eq_true hs] at SF
    have HNL := Lib.hid (num_lt (bs.take 4))
    rw [HL4.out] at HNL
    clear hs
    have hNL : num (bs.take 4) < 4294967296 := HNL.out
    clear HNL
    have SF2 := Lib.hid (fun (hN : num (bs.take 4) + 4 ≤ bs.length - 8) w1 (k : Keep noneOf w w1) => show Calls Try.prog 41 #[.slice (if c = 8 then some (⟨b, o, none⟩ : Addr) else some ⟨b, o + 8, none⟩) (num (bs.take 4)) (c - 8), .slice (if c = 8 then some (⟨b, o, none⟩ : Addr) else some ⟨b, o + 8, none⟩) (bs.length - 8) (c - 8)] w1
        (fun e w' => e = .returned (.bool (decide (num ((bs.drop (8 + num (bs.take 4))).take 4) = sumOf ((bs.drop 8).take (num (bs.take 4)))))) ∧ w1 = w') from by
      have hd := HD8.out
      have ld := HLD8.out
      rw [← ld] at hd
      have hfr := hd.take (n := num (bs.take 4)) (by rw [ld]; omega)
      have lfr : ((bs.drop 8).take (num (bs.take 4))).length = num (bs.take 4) := by rw [List.length_take, ld]; omega
      have := sumFollows_any w1 D ((bs.drop 8).take (num (bs.take 4))) (bs.drop 8) _ _ (c - 8) (c - 8) (by rw [lfr]; exact hfr.keep k (fun _ _ _ => id)) (hd.keep k (fun _ _ _ => id)) (by rw [lfr, ld]; exact hN)
      rw [lfr, ld, List.drop_drop] at this
      exact this)
    have CL := Lib.hid (fun (hN : num (bs.take 4) + 4 ≤ bs.length - 8) w1 (k : Keep noneOf w w1) => show Calls Try.prog 40 #[.slice (if c = 8 then some (⟨b, o, none⟩ : Addr) else some ⟨b, o + 8, none⟩) (num (bs.take 4)) (c - 8)] w1 (fun e w' => ∃ u', e = .returned u' ∧ Fresh w1 w' u' ((bs.drop 8).take (num (bs.take 4)))) from by
      have hd := HD8.out
      have ld := HLD8.out
      rw [← ld] at hd
      have hfr := hd.take (n := num (bs.take 4)) (by rw [ld]; omega)
      exact clone_any w1 _ _ D (hfr.keep k (fun _ _ _ => id)) (by rw [List.length_take, ld]; rw [lim_is] at hl ⊢; omega))
    generalize num (bs.take 4) = N at *
    by_cases hbig : 16777216 < N
    · rw [if_pos hbig]
      have gI : ((N : Int) > 16777216) := by omega
      have q0 : (0 : Int) ≤ (N : Int) := by omega
      clear hbig
      go_enter Try.func19, Try.ntmps19
      go_wp2_with fail
      go_quiet (fail)
      generalize (if c = 8 then some (⟨b, o, none⟩ : Addr) else some ⟨b, o + 8, none⟩) = B8 at *
      generalize bs.length - 8 = L8 at *
      generalize c - 8 = C8 at *
      have K1 := KW.out nq
      generalize w.drewN nq = w1 at *
      go_wp2_with fail
      refine (SF.out w1 K1).mono ?_
      rintro e w1' ⟨rfl, rfl⟩
      go_wp2_with fail
      refine (CN.out w1 K1).mono ?_
      rintro e w1' ⟨rfl, rfl⟩
      go_wp2
      exact bodyPost_ret (v := .tuple #[.slice none 0 0, .int .i64 0, .int .i64 12]) (by simp [results, Try.results19, go_sem]) rfl ⟨_, rfl, ⟨K1, World.ownsRow_nil _ _ _ _, by intro k hk; cases hk⟩⟩
    rw [if_neg hbig]
    have gI : ¬ ((N : Int) > 16777216) := by omega
    have q0 : (0 : Int) ≤ (N : Int) := by omega
    have e8I : ((bs.length - 8 : Nat) : Int) = (bs.length : Int) - 8 := by omega
    by_cases hsh : bs.length - 8 < N + 4
    · rw [if_pos hsh]
      have gJ : ((bs.length - 8 : Nat) : Int) < (N : Int) + 4 := by omega
      clear hsh hbig e8I
      go_enter Try.func19, Try.ntmps19
      go_wp2_with fail
      go_quiet (fail)
      generalize (if c = 8 then some (⟨b, o, none⟩ : Addr) else some ⟨b, o + 8, none⟩) = B8 at *
      generalize bs.length - 8 = L8 at *
      generalize c - 8 = C8 at *
      have K1 := KW.out nq
      generalize w.drewN nq = w1 at *
      go_wp2_with fail
      refine (SF.out w1 K1).mono ?_
      rintro e w1' ⟨rfl, rfl⟩
      go_wp2_with fail
      refine (CN.out w1 K1).mono ?_
      rintro e w1' ⟨rfl, rfl⟩
      go_wp2
      exact bodyPost_ret (v := .tuple #[.slice none 0 0, .int .i64 0, .int .i64 10]) (by simp [results, Try.results19, go_sem]) rfl ⟨_, rfl, ⟨K1, World.ownsRow_nil _ _ _ _, by intro k hk; cases hk⟩⟩
    rw [if_neg hsh]
    have gJ : ¬ ((bs.length - 8 : Nat) : Int) < (N : Int) + 4 := by omega
    have gK : (N : Int) ≤ ((c - 8 : Nat) : Int) := by omega
    have SF3 := Lib.hid (SF2.out (by omega))
    have CL3 := Lib.hid (CL.out (by omega))
    have hcn : ¬ c = 8 := by omega
    simp only [if_neg hcn] at SF3 CL3
    clear hcn
    clear SF2 CL hsh hbig e8I
    by_cases hs2 : num ((bs.drop (8 + N)).take 4) = sumOf ((bs.drop 8).take N)
    · rw [if_neg (fun h => h hs2)]
      rw [decide_eq_true hs2] at SF3
      clear hs2
      go_enter Try.func19, Try.ntmps19
      go_wp2_with fail
      go_quiet (fail)
      generalize (if c = 8 then some (⟨b, o, none⟩ : Addr) else some ⟨b, o + 8, none⟩) = B8 at *
      generalize bs.length - 8 = L8 at *
      generalize c - 8 = C8 at *
      have K1 := KW.out nq
      generalize w.drewN nq = w1 at *
      go_wp2_with fail
      refine (SF.out w1 K1).mono ?_
      rintro e w1' ⟨rfl, rfl⟩
      go_wp2_with fail
      refine (CN.out w1 K1).mono ?_
      rintro e w1' ⟨rfl, rfl⟩
      go_wp2_with fail
      refine (SF3.out w1 K1).mono ?_
      rintro e w1' ⟨rfl, rfl⟩
      go_wp2_with fail
      refine (CL3.out w1 K1).mono ?_
      rintro e w2 ⟨u2, rfl, F2⟩
      have HF := Lib.hid (F2.after K1)
      clear F2
      go_wp2
      have e12 : (8 + (N : Int) + 4) = ((N + 12 : Nat) : Int) := by omega
      exact bodyPost_ret (v := .tuple #[u2, .int .i64 (8 + (N : Int) + 4), .int .i64 0]) (by simp [results, Try.results19, go_sem]) rfl ⟨u2, by rw [e12], HF.out⟩
    · rw [if_pos hs2]
      rw [decide_eq_false hs2] at SF3
      clear hs2
      go_enter Try.func19, Try.ntmps19
      go_wp2_with fail
      go_quiet (fail)
      generalize (if c = 8 then some (⟨b, o, none⟩ : Addr) else some ⟨b, o + 8, none⟩) = B8 at *
      generalize bs.length - 8 = L8 at *
      generalize c - 8 = C8 at *
      have K1 := KW.out nq
      generalize w.drewN nq = w1 at *
      go_wp2_with fail
      refine (SF.out w1 K1).mono ?_
      rintro e w1' ⟨rfl, rfl⟩
      go_wp2_with fail
      refine (CN.out w1 K1).mono ?_
      rintro e w1' ⟨rfl, rfl⟩
      go_wp2_with fail
      refine (SF3.out w1 K1).mono ?_
      rintro e w1' ⟨rfl, rfl⟩
      go_wp2
      exact bodyPost_ret (v := .tuple #[.slice none 0 0, .int .i64 0, .int .i64 14]) (by simp [results, Try.results19, go_sem]) rfl ⟨_, rfl, ⟨K1, World.ownsRow_nil _ _ _ _, by intro k hk; cases hk⟩⟩
  · rw [if_pos hs]
    rw [decide_eq_false hs] at SF
    clear hs
    go_enter Try.func19, Try.ntmps19
    go_wp2_with fail
    go_quiet (fail)
    generalize (if c = 8 then some (⟨b, o, none⟩ : Addr) else some ⟨b, o + 8, none⟩) = B8 at *
    generalize bs.length - 8 = L8 at *
    generalize c - 8 = C8 at *
    have K1 := KW.out nq
    generalize w.drewN nq = w1 at *
    go_wp2_with fail
    refine (SF.out w1 K1).mono ?_
    rintro e w1' ⟨rfl, rfl⟩
    go_wp2
    exact bodyPost_ret (v := .tuple #[.slice none 0 0, .int .i64 0, .int .i64 14]) (by simp [results, Try.results19, go_sem]) rfl ⟨_, rfl, ⟨K1, World.ownsRow_nil _ _ _ _, by intro k hk; cases hk⟩⟩
end Go.Proofs.Ytdikmmdkpfmocaa
