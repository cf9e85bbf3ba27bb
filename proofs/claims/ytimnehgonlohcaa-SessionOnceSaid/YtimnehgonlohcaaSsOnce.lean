/-
  Proved: dockyardlaw11.SessionOnce answers true for every input that can be read, and leaves its arguments as they were. No conditions.
-/
import Derived.Test.YtimnehgonlohcaaSsAlive
namespace Go.Proofs.Ytimnehgonlohcaa
open Go.ChangeShapes Go.WideShapes Go.ChangeAt Go.RowKit

theorem put_row {l : List Ro} {x s : Int} {a : An} (s' : Int) : (lookA (putR l ⟨x, s, a⟩) x s' = if s' = s ∧ s' ≠ 0 then a else .zero) ∧ (lookB (putR l ⟨x, s, a⟩) x s' = decide (s' = s ∧ s' ≠ 0)) ∧ (lookE (putR l ⟨x, s, a⟩) x s' = if s' < s ∨ s' = 0 then 111 else 0) :=
  look_at (find_put l ⟨x, s, a⟩)
theorem op_cells (b o k : Nat) (w : World) (c : Cl) (h : ∀ j, j < 9 → w.cell? ⟨b, o + (k * 9 + j), none⟩ = (Cl.cells c)[j]?) :
    w.cell? ⟨b, o + k * 9, none⟩ = some (.int .i64 c.kind) ∧ w.cell? ⟨b, o + k * 9 + 1, none⟩ = some (.int .u64 c.id) ∧ w.cell? ⟨b, o + k * 9 + 2, none⟩ = some (.int .u64 c.seq) ∧ w.cell? ⟨b, o + k * 9 + 3, none⟩ = some (.int .i64 c.ans.code) ∧ w.cell? ⟨b, o + k * 9 + 4, none⟩ = some (.int .u64 c.ans.id) ∧ w.cell? ⟨b, o + k * 9 + 5, none⟩ = some (.int .u64 c.ans.tok) ∧ w.cell? ⟨b, o + k * 9 + 6, none⟩ = some (.int .u64 c.ans.unt) ∧ w.cell? ⟨b, o + k * 9 + 7, none⟩ = some (.string c.ans.tgt) ∧ w.cell? ⟨b, o + k * 9 + 8, none⟩ = some (.string c.ans.cmd) :=
  ⟨h 0 (by decide), h 1 (by decide), h 2 (by decide), h 3 (by decide), h 4 (by decide), h 5 (by decide), h 6 (by decide), h 7 (by decide), h 8 (by decide)⟩

set_option maxRecDepth 100000 in
set_option maxHeartbeats 4000000 in
theorem once_walk (w : World) (A : Option Addr) (c : Nat) (cs : List Cl) (x s : Int) (hc : Cls w (fun _ => True) (.slice A cs.length c) cs) (h0 : 0 ≤ x) (h1 : x ≤ top) (h2 : 0 ≤ s) (h3 : s ≤ top) :
    Calls Try.prog 5 #[.slice A cs.length c, .int .u64 x, .int .u64 s] w (TellsB true w) := by
  have NW := Lib.hid (new_any w)
  have HC := Lib.hid hc
  have HX : Hid (0 ≤ x ∧ x ≤ top) := Lib.hid ⟨h0, h1⟩
  have HS : Hid (0 ≤ s ∧ s ≤ top) := Lib.hid ⟨h2, h3⟩
  have hlm := hc.1.few
  unfold maxLen at hlm
  clear hc h0 h1 h2 h3
  go_enter Try.func5, Try.ntmps5
  go_wp2_with fail
  refine NW.out.mono ?_
  rintro e w1 ⟨rfl, T1, k1⟩
  have HM0 : Hid (w.heap.size ≤ w.heap.size) := Lib.hid (Nat.le_refl _)
  have HK1 := Lib.hid k1
  have HT1 := Lib.hid T1
  clear NW T1 k1
  generalize w.heap.size + 1 = p at *
  obtain ⟨m, hm⟩ : ∃ m, w.heap.size = m := ⟨_, rfl⟩
  have HM : Hid (w.heap.size ≤ m) := Lib.hid (Nat.le_of_eq hm)
  rw [hm] at HT1
  clear HM0 hm
  go_wp2_with fail
  refine (alive_any _).mono ?_
  rintro e w2 ⟨rfl, k2⟩
  have HT2 := Lib.hid (HT1.out.stay k2)
  have HK2 := Lib.hid (HK1.out.trans k2 (fun _ _ h => h))
  clear HT1 HK1 k2
  go_wp2
  go_loopw [31] (fun i wr => ∃ (k : Nat) (l : List Ro), k ≤ cs.length ∧ i = .int .i64 k ∧ Keep noneOf w wr ∧ TabAt wr p m l ∧ l.length ≤ 16) (fun i _ => cs.length - (intOf i).toNat)
  case atStart => exact ⟨0, [], Nat.zero_le _, rfl, HK2.out, HT2.out, Nat.zero_le _⟩
  case round =>
    obtain ⟨k, l, hk, rfl, hkeep, htab, hfew⟩ := hrel
    have HKP := Lib.hid hkeep
    have HTB := Lib.hid htab
    have HFW := Lib.hid hfew
    by_cases hlt : k < cs.length
    · have hx : cs[k]? = some cs[k] := List.getElem?_eq_getElem hlt
      obtain ⟨b, o, rfl, hblk, _, hcell⟩ := (HC.out.1.keep hkeep (fun _ _ _ => id)).cell (fun _ => rfl) hx
      have hin := HC.out.2 _ (List.mem_of_getElem? hx)
      generalize cs[k] = cl at *
      obtain ⟨ck, ci, cq, ⟨ac, ai, at_, au, ag, am⟩⟩ := cl
      obtain ⟨c0, c1, c2, c3, c4, c5, c6, c7, c8⟩ := op_cells b o k _ _ hcell
      dsimp only at c0 c1 c2 c3 c4 c5 c6 c7 c8 hin
      have q0 : (0 : Int) ≤ (k : Int) := by omega
      have q1 : (k : Int) < (cs.length : Int) := by omega
      have HB := Lib.hid (Box.new wr 34 #[.int .i64 ck, .int .u64 ci, .int .u64 cq, .int .i64 ac, .int .u64 ai, .int .u64 at_, .int .u64 au, .string ag, .string am])
      have ka := (Keep.refl noneOf wr).alloc (.cells #[.int .i64 ck, .int .u64 ci, .int .u64 cq, .int .i64 ac, .int .u64 ai, .int .u64 at_, .int .u64 au, .string ag, .string am] 34)
      have HT3 := Lib.hid (htab.stay ka)
      have HK3 := Lib.hid (hkeep.trans ka (fun _ _ h => h))
      have HO := Lib.hid (fun w' (T : TabAt w' p m l) => open_any w' p m l ci T hin.1.1 hin.1.2)
      have HE := Lib.hid (fun w' (T : TabAt w' p m l) => keep_any w' p m l ci cq ⟨ac, ai, at_, au, ag, am⟩ T hin.1.1 hin.1.2 hfew)
      unfold An.agg at HE
      dsimp only at HE
      clear hx hcell hin hkeep htab hfew ka HKP HTB
      by_cases e0 : ck = 0
      · subst e0
        go_wp2_with fail
        refine (HO.out _ HT3.out).mono ?_
        rintro e w4 ⟨rfl, T4, k4⟩
        have HT4 := Lib.hid T4
        have HK4 := Lib.hid (HK3.out.newer k4 HM.out)
        clear T4 k4 HT3 HK3 HO HE HB
        generalize openE l ci = oe
        go_wp2
        go_roundw
        case rel => exact ⟨k + 1, openL l ci, by omega, by go_num, HK4.out, HT4.out, open_few HFW.out⟩
        case measure => simp [intOf]; omega
      · have g0 : (ck == 0) = false := beq_eq_false_iff_ne.2 e0
        by_cases e2 : ck = 2
        · subst e2
          go_wp2_with fail
          refine (HE.out _ HT3.out).mono ?_
          rintro e w4 ⟨rfl, T4, k4⟩
          have HT4 := Lib.hid T4
          have HK4 := Lib.hid (HK3.out.newer k4 HM.out)
          clear T4 k4 HT3 HK3 HO HE HB
          generalize keepE l ci cq = oe
          go_wp2
          go_roundw
          case rel => exact ⟨k + 1, keepL l ci cq ⟨ac, ai, at_, au, ag, am⟩, by omega, by go_num, HK4.out, HT4.out, keep_few HFW.out⟩
          case measure => simp [intOf]; omega
        · have g2 : (ck == 2) = false := beq_eq_false_iff_ne.2 e2
          clear HO HE
          go_wp2
          go_roundw
          case rel => exact ⟨k + 1, l, by omega, by go_num, HK3.out, HT3.out, HFW.out⟩
          case measure => simp [intOf]; omega
    · have hkn : ¬ ((k : Int) < (cs.length : Int)) := by omega
      have ka := (Keep.refl noneOf wr).alloc (.cells #[.int .i64 0, .int .u64 99, .int .u64 0, .int .u64 0, .string ⟨#[]⟩, .string ⟨#[]⟩] 32)
      have htm := Lib.hid htab.lt.2
      have HB := Lib.hid (Box.new wr 32 #[.int .i64 0, .int .u64 99, .int .u64 0, .int .u64 0, .string ⟨#[]⟩, .string ⟨#[]⟩])
      have HT3 := Lib.hid (htab.stay ka)
      have HK3 := Lib.hid (hkeep.trans ka (fun _ _ h => h))
      have HE := Lib.hid (keep_any _ p m l x s ⟨0, 99, 0, 0, ⟨#[]⟩, ⟨#[]⟩⟩ HT3.out HX.out.1 HX.out.2 hfew)
      unfold An.agg at HE
      dsimp only at HE
      clear hlt hkeep htab hfew ka HKP HTB
      have HQ : Hid (¬ wr.heap.size = m) := Lib.hid (by have h2 := htm.out; omega)
      go_upto_region 14 with fail
      generalize wr.heap.size = q at *
      generalize (wr.alloc (.cells #[.int .i64 0, .int .u64 99, .int .u64 0, .int .u64 0, .string ⟨#[]⟩, .string ⟨#[]⟩] 32)) = w3 at *
      have d0 := HB.out.cell 0
      have d1 := HB.out.cell 1
      have d2 := HB.out.cell 2
      have d3 := HB.out.cell 3
      have d4 := HB.out.cell 4
      have d5 := HB.out.cell 5
      go_wp2_with fail
      refine HE.out.mono ?_
      rintro e w4 ⟨rfl, T4, k4⟩
      clear d0 d1 d2 d3 d4 d5
      have HK4 := Lib.hid (HK3.out.newer k4 HM.out)
      have HB4 := Lib.hid (HB.out.keep k4 HQ.out)
      clear HT3 HK3 HB HE k4
      by_cases hke : keepE l x s = 0
      · have e2 : keepL l x s ⟨0, 99, 0, 0, ⟨#[]⟩, ⟨#[]⟩⟩ = putR l ⟨x, s, ⟨0, 99, 0, 0, ⟨#[]⟩, ⟨#[]⟩⟩⟩ := by unfold keepL; rw [if_pos hke]
        obtain ⟨_, _, _, hs0⟩ := keep_ok hke
        have hs1 : 1 ≤ s := by have := HS.out.1; omega
        have hst : s ≤ 18446744073709551615 := HS.out.2
        rw [e2] at T4
        have hf4 : (putR l ⟨x, s, ⟨0, 99, 0, 0, ⟨#[]⟩, ⟨#[]⟩⟩⟩).length ≤ 16 := by rw [← e2]; exact keep_few HFW.out
        rw [hke]
        obtain ⟨a1, b1, c1⟩ := put_row (l := l) (x := x) (s := s) (a := ⟨0, 99, 0, 0, ⟨#[]⟩, ⟨#[]⟩⟩) s
        obtain ⟨a2, b2, c2⟩ := put_row (l := l) (x := x) (s := s) (a := ⟨0, 99, 0, 0, ⟨#[]⟩, ⟨#[]⟩⟩) (s - 1)
        obtain ⟨a3, b3, c3⟩ := put_row (l := l) (x := x) (s := s) (a := ⟨0, 99, 0, 0, ⟨#[]⟩, ⟨#[]⟩⟩) (s + 1)
        rw [if_pos ⟨rfl, hs0⟩] at a1
        rw [decide_eq_true ⟨rfl, hs0⟩] at b1
        rw [if_neg (by omega)] at c1
        rw [if_neg (by omega)] at a2
        rw [decide_eq_false (by omega)] at b2
        rw [if_pos (by omega)] at c2
        rw [if_neg (by omega)] at a3
        rw [decide_eq_false (by omega)] at b3
        rw [if_neg (by omega)] at c3
        clear e2 hke
        generalize putR l ⟨x, s, ⟨0, 99, 0, 0, ⟨#[]⟩, ⟨#[]⟩⟩⟩ = l4 at *
        have HL1 : Hid (∀ w', TabAt w' p m l4 → Calls Try.prog 17 #[.pointer (some ⟨p, 0, none⟩), .int .u64 x, .int .u64 s] w' fun e w'' => e = .returned (.tuple #[.agg #[.int .i64 0, .int .u64 99, .int .u64 0, .int .u64 0, .string ⟨#[]⟩, .string ⟨#[]⟩], .bool true, .int .i64 0]) ∧ Keep noneOf w' w'') := Lib.hid fun w' T => by
          have := look_any w' p m l4 x s T HX.out.1 HX.out.2
          rw [a1, b1, c1] at this
          exact this
        have k1e : keepE l4 x s = 111 := by unfold keepE; rw [c1, b1]; rfl
        have k1l : keepL l4 x s .zero = l4 := by unfold keepL; rw [k1e]; rfl
        have HE1 : Hid (∀ w', TabAt w' p m l4 → Calls Try.prog 16 #[.pointer (some ⟨p, 0, none⟩), .int .u64 x, .int .u64 s, .agg #[.int .i64 0, .int .u64 0, .int .u64 0, .int .u64 0, .string ⟨#[]⟩, .string ⟨#[]⟩]] w' fun e w'' => e = .returned (.int .i64 111) ∧ TabAt w'' p m l4 ∧ Keep (fun i => i = m) w' w'') := Lib.hid fun w' T => by
          have := keep_any w' p m l4 x s .zero T HX.out.1 HX.out.2 hf4
          rw [k1e, k1l] at this
          exact this
        have HL2 : Hid (∀ w', TabAt w' p m l4 → Calls Try.prog 17 #[.pointer (some ⟨p, 0, none⟩), .int .u64 x, .int .u64 (s - 1)] w' fun e w'' => e = .returned (.tuple #[.agg #[.int .i64 0, .int .u64 0, .int .u64 0, .int .u64 0, .string ⟨#[]⟩, .string ⟨#[]⟩], .bool false, .int .i64 111]) ∧ Keep noneOf w' w'') := Lib.hid fun w' T => by
          have := look_any w' p m l4 x (s - 1) T HX.out.1 HX.out.2
          rw [a2, b2, c2] at this
          exact this
        have k3e : keepE l4 x (s + 1) = 0 := by unfold keepE; rw [c3, b3]; rfl
        have k3l : keepL l4 x (s + 1) .zero = putR l4 ⟨x, s + 1, .zero⟩ := by unfold keepL; rw [if_pos k3e]
        have HE3 : Hid (∀ w', TabAt w' p m l4 → Calls Try.prog 16 #[.pointer (some ⟨p, 0, none⟩), .int .u64 x, .int .u64 (s + 1), .agg #[.int .i64 0, .int .u64 0, .int .u64 0, .int .u64 0, .string ⟨#[]⟩, .string ⟨#[]⟩]] w' fun e w'' => e = .returned (.int .i64 0) ∧ TabAt w'' p m (putR l4 ⟨x, s + 1, .zero⟩) ∧ Keep (fun i => i = m) w' w'') := Lib.hid fun w' T => by
          have := keep_any w' p m l4 x (s + 1) .zero T HX.out.1 HX.out.2 hf4
          rw [k3e, k3l] at this
          exact this
        have HL3 : Hid (∀ w', TabAt w' p m (putR l4 ⟨x, s + 1, .zero⟩) → Calls Try.prog 17 #[.pointer (some ⟨p, 0, none⟩), .int .u64 x, .int .u64 s] w' fun e w'' => e = .returned (.tuple #[.agg #[.int .i64 0, .int .u64 0, .int .u64 0, .int .u64 0, .string ⟨#[]⟩, .string ⟨#[]⟩], .bool false, .int .i64 111]) ∧ Keep noneOf w' w'') := Lib.hid fun w' T => by
          have := look_any w' p m (putR l4 ⟨x, s + 1, .zero⟩) x s T HX.out.1 HX.out.2
          obtain ⟨a5, b5, c5⟩ := put_row (l := l4) (x := x) (s := s + 1) (a := .zero) s
          rw [if_neg (by omega)] at a5
          rw [decide_eq_false (by omega)] at b5
          rw [if_pos (by omega)] at c5
          rw [a5, b5, c5] at this
          exact this
        have HT4 := Lib.hid T4
        have ws : IntKind.u64.wrap (s - 1) = s - 1 := by
          show (s - 1) % 18446744073709551616 = _
          omega
        clear a1 b1 c1 a2 b2 c2 a3 b3 c3 k1e k1l k3e k3l T4 hf4 hs0
        go_wp2_with fail
        refine (HL1.out _ HT4.out).mono ?_
        rintro e w5 ⟨rfl, k5⟩
        have HT5 := Lib.hid (HT4.out.stay k5)
        have HK5 := Lib.hid (HK4.out.trans k5 (fun _ _ h => h))
        have HB5 := Lib.hid (HB4.out.keep k5 id)
        clear HT4 HK4 HB4 k5 HL1
        have ka := (Keep.refl noneOf w5).alloc (.cells #[.int .i64 0, .int .u64 99, .int .u64 0, .int .u64 0, .string ⟨#[]⟩, .string ⟨#[]⟩] 32)
        have HG6 := Lib.hid (Box.new w5 32 #[.int .i64 0, .int .u64 99, .int .u64 0, .int .u64 0, .string ⟨#[]⟩, .string ⟨#[]⟩])
        have HT6 := Lib.hid (HT5.out.stay ka)
        have HK6 := Lib.hid (HK5.out.trans ka (fun _ _ h => h))
        have HB6 := Lib.hid (HB5.out.keep ka id)
        have HGM : Hid (¬ w5.heap.size = m) := Lib.hid (by have := HT5.out.lt.2; omega)
        clear HT5 HK5 HB5 ka
        go_upto_region 17 with fail
        generalize w5.heap.size = g at *
        generalize (w5.alloc (.cells #[.int .i64 0, .int .u64 99, .int .u64 0, .int .u64 0, .string ⟨#[]⟩, .string ⟨#[]⟩] 32)) = w6 at *
        have hz := zeroA
        unfold An.agg An.zero at hz
        go_wp2_with fail
        refine (HE1.out _ HT6.out).mono ?_
        rintro e w7 ⟨rfl, T7, k7⟩
        have HT7 := Lib.hid T7
        have HK7 := Lib.hid (HK6.out.newer k7 HM.out)
        have HB7 := Lib.hid (HB6.out.keep k7 HQ.out)
        have HG7 := Lib.hid (HG6.out.keep k7 HGM.out)
        clear HT6 HK6 HB6 HG6 T7 k7 HE1
        go_wp2_with fail
        refine (HL2.out _ HT7.out).mono ?_
        rintro e w8 ⟨rfl, k8⟩
        have ka := k8.alloc (.cells #[.int .i64 0, .int .u64 0, .int .u64 0, .int .u64 0, .string ⟨#[]⟩, .string ⟨#[]⟩] 32)
        have HT8 := Lib.hid (HT7.out.stay ka)
        have HK8 := Lib.hid (HK7.out.trans ka (fun _ _ h => h))
        have HB8 := Lib.hid (HB7.out.keep ka id)
        have HG8 := Lib.hid (HG7.out.keep ka id)
        clear HT7 HK7 HB7 HG7 k8 ka HL2
        go_upto_region 19 with fail
        generalize (w8.alloc (.cells #[.int .i64 0, .int .u64 0, .int .u64 0, .int .u64 0, .string ⟨#[]⟩, .string ⟨#[]⟩] 32)) = w9 at *
        have d0 := HB8.out.cell 0
        have d1 := HB8.out.cell 1
        have d2 := HB8.out.cell 2
        have d3 := HB8.out.cell 3
        have d4 := HB8.out.cell 4
        have d5 := HB8.out.cell 5
        have f0 := HG8.out.cell 0
        have f1 := HG8.out.cell 1
        have f2 := HG8.out.cell 2
        have f3 := HG8.out.cell 3
        have f4 := HG8.out.cell 4
        have f5 := HG8.out.cell 5
        have hneq := run_neqA w9 ⟨0, 99, 0, 0, ⟨#[]⟩, ⟨#[]⟩⟩ ⟨0, 99, 0, 0, ⟨#[]⟩, ⟨#[]⟩⟩
        unfold An.agg at hneq
        simp only [decide_true, Bool.not_true] at hneq
        by_cases hlast : s = 18446744073709551615
        · subst hlast
          go_wp2
          go_ret
          exact ⟨rfl, HK8.out⟩
        · have gl : (s == 18446744073709551615) = false := beq_eq_false_iff_ne.2 hlast
          have wp : IntKind.u64.wrap (s + 1) = s + 1 := by
            show (s + 1) % 18446744073709551616 = _
            omega
          go_wp2_with fail
          refine (HE3.out _ HT8.out).mono ?_
          rintro e w10 ⟨rfl, T10, k10⟩
          have HT10 := Lib.hid T10
          have HK10 := Lib.hid (HK8.out.newer k10 HM.out)
          clear HT8 HK8 HB8 HG8 T10 k10 HE3 d0 d1 d2 d3 d4 d5 f0 f1 f2 f3 f4 f5 hneq
          go_wp2_with fail
          refine (HL3.out _ HT10.out).mono ?_
          rintro e w11 ⟨rfl, k11⟩
          have HK11 := Lib.hid (HK10.out.trans k11 (fun _ _ h => h))
          clear HT10 HK10 k11 HL3
          go_wp2
          go_ret
          exact ⟨rfl, HK11.out.alloc _⟩
      · have g : (keepE l x s != 0) = true := bne_iff_ne.2 hke
        clear hke T4
        generalize keepE l x s = E at *
        go_wp2
        go_ret
        exact ⟨rfl, HK4.out⟩

namespace SessionOnce
set_option maxRecDepth 100000 in
theorem lifted (os : Os) (started : os.Started) (H : Type) (enc : TypeId × Value → H) :
    ReturnsInHanded {} Try.checked os 5 .any (Rows.sessionOnceSpec.pre6 enc Try.prog Try.f5 Rows.sessionOnceRow.domain false) (Rows.sessionOnceSpec.post enc Try.prog Try.f5 false true false false) := by
  refine returnsInHanded_of_change_sized (C := Try.checked) own started (by kernel_rfl) Try.func5
    (ChangeSpec.witness6 (enc := enc) (C := Try.checked) false ⟨#[], #[.slice none 0 0, .int .u64 0, .int .u64 0], []⟩ 8 (by kernel_rfl) (by kernel_rfl) (by kernel_rfl) (by kernel_rfl)) ?_
  intro W base args ds gs before hval0 hW hcnd hsz _
  have hval : ∀ (j : Nat) t v, Try.f5.params[j]? = some t → args[j]? = some v → Value.okWide Try.prog W .any base t v := hval0
  have hW' := hW
  obtain ⟨p, q, hA0, hV, rfl, hfz, hnd⟩ := hW
  have hA : DataW.TrodAll enc Try.prog W 0 (fun _ => true) true Try.f5.params.toList args.toList ds p := hA0
  rw [Try.params5] at hA hval
  obtain ⟨v0, vs0, d0, ds0, p0, q0, hargs, rfl, rfl, h0, r0⟩ := trodAll_cons hA
  obtain ⟨v1, vs1, d1, ds1, p1, q1, rfl, rfl, rfl, h1, r1⟩ := trodAll_cons r0
  obtain ⟨v2, vs2, d2, ds2, p2, q2, rfl, rfl, rfl, h2, r2⟩ := trodAll_cons r1
  obtain ⟨rfl, rfl, rfl⟩ := trodAll_nil r2
  obtain rfl : args = #[v0, v1, v2] := by cases args; simp_all
  obtain ⟨rfl, rfl⟩ := trodVars_none hV
  have k0 := h0
  have lt0 : ∀ x ∈ p0, x.block < W.heap.size := by obtain ⟨m, hm⟩ := k0; exact DataW.trod_lt m _ _ _ hm
  obtain ⟨A0, c0, l0, rfl, hl0⟩ := open_arg_cls (hval 0 22 v0 rfl rfl) h0 (light_arg hsz (j := 0) rfl rfl)
  obtain ⟨a1, rfl, rfl, rfl, w1⟩ := open_int Try.underlying29 (hval 1 29 v1 rfl rfl) h1
  obtain ⟨a2, rfl, rfl, rfl, w2⟩ := open_int Try.underlying29 (hval 2 29 v2 rfl rfl) h2
  clear hA0 hval0
  refine (once_walk W A0 c0 l0 a1 a2 hl0 (u64_in w1).1 (u64_in w1).2 (u64_in w2).1 (u64_in w2).2).mono fun e W' ⟨he, bel0⟩ => ?_
  subst he
  have bel := bel0.all
  exact ⟨_, rfl, _, _, _, [], _, [], hW', trodAll_mk1 (shut_bool Try.underlying4 _), (trodAll_cons_mk (Below.trod laidOut (by kernel_rfl) (of_decide_eq_true (by kernel_rfl)) k0 bel lt0) (trodAll_cons_mk (shut_int Try.underlying29 w1) (trodAll_cons_mk (shut_int Try.underlying29 w2) trodAll_mk0))), rfl, bel.frame _, fun h => by cases h⟩

theorem over : Rows.sessionOnceRow.holds Try.pinned (OpenSpec.ofChange Rows.sessionOnceSpec) :=
  OpenClaim.holds_of_wide 5 Try.f5 rfl rfl rfl rfl rfl rfl rfl ⟨rfl, rfl, rfl, rfl, rfl⟩ rfl rfl rfl rfl rfl (by kernel_rfl) Try.func5 (by kernel_rfl)
    (of_decide_eq_true (by kernel_rfl)) (by unfold Func.isWrapper; first | (rw [if_pos (by decide +kernel)]; kernel_rfl) | (rw [if_neg (by decide +kernel)]; exact ⟨rfl, rfl⟩))
    (fun os started H enc _ => lifted os started H enc)

theorem proved : Rows.SessionOnceSaid := over
end SessionOnce
end Go.Proofs.Ytimnehgonlohcaa
