/-
  The document's answers for configurations: Check, Majority, least, All.
-/
import Derived.Test.YtmncjibokpieoaaCfFn
import Derived.Test.YtmncjibokpieoaaCfPlain
import Derived.Maps.AppendAt
import Derived.Deep.RegionHeld3
namespace Go.Proofs.Ytmncjibokpieoaa
open Go.RowKit

set_option maxRecDepth 100000 in
set_option maxHeartbeats 1000000 in
theorem rmajority_any (w : World) (D D' : Nat → Prop) (v vn : Value) (c : Cf) (ns : List Int) (h : CfAt w D v c) (hn : Zs w D' vn ns) (hfew : c.v.length ≤ 140737488355328) :
    Calls Try.prog 19 #[v, vn] w (TellsB (majP c ns) w) := by
  have HH := Lib.hid h
  obtain ⟨a, b, rfl, h1, h2⟩ := h
  obtain ⟨A, ca, rfl, hla, hma, _⟩ := h1.shape
  obtain ⟨B, cb, rfl, hlb, hmb, _⟩ := h2.shape
  have H1 := Lib.hid h1
  have H2 := Lib.hid h2
  unfold maxLen at hma hmb
  have K0 := (Keep.refl noneOf w).alloc (.cells #[.slice A c.v.length ca, .slice B c.l.length cb] 24)
  have X0 := Box.new w 24 #[.slice A c.v.length ca, .slice B c.l.length cb]
  obtain ⟨N, cn, rfl, hln, hmn, _⟩ := hn.shape
  have HN := Lib.hid (hn.keepN K0)
  have c0 : (w.alloc (.cells #[.slice A c.v.length ca, .slice B c.l.length cb] 24)).cell? ⟨w.heap.size, 0, none⟩ = some (.slice A c.v.length ca) := X0.cell 0
  have HV := Lib.hid (h1.keepN K0)
  have HK0 := Lib.hid K0
  generalize hR : majP c ns = R
  have HR := Lib.hid hR
  unfold majP at HR
  clear h1 h2 X0 K0 hn hR
  go_enter Try.func19, Try.ntmps19
  go_wp2
  generalize w.alloc (.cells #[.slice A c.v.length ca, .slice B c.l.length cb] 24) = w0 at *
  go_loopw [5, 6] (fun x i wr => ∃ k : Nat, k ≤ c.v.length ∧ i = .int .i64 k ∧ x = .int .i64 ((c.v.take k).filter (fun x => inP ns x)).length ∧ Keep noneOf w0 wr) (fun _ i _ => c.v.length - (intOf i).toNat)
  case atStart => exact ⟨0, Nat.zero_le _, rfl, rfl, Keep.refl _ _⟩
  case round =>
    obtain ⟨k, hk, rfl, rfl, hkw⟩ := hrel
    have hfl : ((c.v.take k).filter (fun x => inP ns x)).length ≤ k := Nat.le_trans (List.length_filter_le _ _) (List.length_take_le _ _)
    have hz0 : w.heap.size < w0.heap.size := World.block_lt_of_cell? w0 _ c0
    have x0 : wr.cell? ⟨w.heap.size, 0, none⟩ = some (.slice A c.v.length ca) := (hkw.cell (p := ⟨w.heap.size, 0, none⟩) hz0 id).trans c0
    have HKW := Lib.hid hkw
    by_cases hlt : k < c.v.length
    · obtain ⟨g, o, rfl, hblk, hD, hc0⟩ := HV.out.cell hlt
      have hc : wr.cell? ⟨g, o + k, none⟩ = some (.int .i64 c.v[k]) := (hkw.cell (p := ⟨g, o + k, none⟩) hblk id).trans hc0
      have HM := Lib.hid (many_step (ns := ns) hlt)
      have HC := Lib.hid (inZ_any wr D' _ ns c.v[k] (HN.out.keepN hkw))
      generalize c.v[k] = z at *
      generalize ((c.v.take k).filter (fun x => inP ns x)).length = m at *
      clear hkw hc0
      have q0 : (0 : Int) ≤ (k : Int) := by omega
      have q1 : (k : Int) < (c.v.length : Int) := by omega
      cases hq : inP ns z with
      | true =>
        rw [hq] at HC HM
        clear hq
        go_wp2_with fail
        refine HC.out.mono ?_
        rintro e w1 ⟨rfl, rfl⟩
        go_wp2
        go_roundw
        case rel => exact ⟨k + 1, by omega, by go_num, by rw [HM.out]; go_num, HKW.out⟩
        case measure => simp [intOf]; omega
      | false =>
        rw [hq] at HC HM
        clear hq
        go_wp2_with fail
        refine HC.out.mono ?_
        rintro e w1 ⟨rfl, rfl⟩
        go_wp2
        go_roundw
        case rel => exact ⟨k + 1, by omega, by go_num, by rw [HM.out]; go_num, HKW.out⟩
        case measure => simp [intOf]; omega
    · obtain rfl : k = c.v.length := by omega
      have q1 : ¬ (c.v.length : Int) < (c.v.length : Int) := by omega
      rw [List.take_length]
      have hmm := many_le c ns
      have e1 : (c.v.filter (fun x => inP ns x)).length = manyP c ns := rfl
      rw [e1]
      have HR2 := Lib.hid (show R = decide (c.v.length / 2 < manyP c ns) from HR.out.symm)
      generalize manyP c ns = m at *
      clear hkw hfl e1
      go_wp2
      go_ret
      refine ⟨ret_bool ?_, HK0.out.trans HKW.out (fun _ _ h => h)⟩
      rw [HR2.out]
      apply Bool.eq_iff_iff.2
      simp only [decide_eq_true_eq]
      omega

set_option maxRecDepth 100000 in
set_option maxHeartbeats 1000000 in
theorem rcheck_any (w : World) (D : Nat → Prop) (v : Value) (c : Cf) (h : CfAt w D v c) :
    Calls Try.prog 13 #[v] w (TellsN (chkP c) w) := by
  obtain ⟨R, hR⟩ : ∃ R, chkP c = R := ⟨_, rfl⟩
  rw [hR]
  unfold chkP at hR
  have HR := Lib.hid hR
  have HH := Lib.hid h
  obtain ⟨a, b, rfl, h1, h2⟩ := h
  obtain ⟨A, ca, rfl, hla, hma, _⟩ := h1.shape
  obtain ⟨B, cb, rfl, hlb, hmb, _⟩ := h2.shape
  unfold maxLen at hma hmb
  have K0 := (Keep.refl noneOf w).alloc (.cells #[.slice A c.v.length ca, .slice B c.l.length cb] 24)
  have X0 := Box.new w 24 #[.slice A c.v.length ca, .slice B c.l.length cb]
  have HK0 := Lib.hid K0
  have HX0 := Lib.hid X0
  have C1 := Lib.hid (fun (w' : World) (k : Keep noneOf w w') => rises_any w' D _ c.v (h1.keepN k))
  have C2 := Lib.hid (fun (w' : World) (k : Keep noneOf w w') => rises_any w' D _ c.l (h2.keepN k))
  have HB := Lib.hid h2
  clear h1 h2 X0 hR K0
  go_enter Try.func13, Try.ntmps13
  cases hq1 : ascP c.v with
  | false =>
    rw [hq1] at C1 HR
    clear hq1
    go_wp2_with fail
    refine (C1.out _ HK0.out).mono ?_
    rintro e w1 ⟨rfl, k1⟩
    have K1 := HK0.out.trans k1 (fun _ _ h => h)
    have X1 := HX0.out.keep k1 id
    have x0 : w1.cell? ⟨w.heap.size, 0, none⟩ = some (.slice A c.v.length ca) := X1.cell 0
    have x1 : w1.cell? ⟨w.heap.size, 1, none⟩ = some (.slice B c.l.length cb) := X1.cell 1
    have HK1 := Lib.hid K1
    have HX1 := Lib.hid X1
    clear K1 X1 k1
    cases hq2 : ascP c.l with
    | false =>
      rw [hq2] at C2 HR
      clear hq2
      go_wp2_with fail
      refine (C2.out _ HK1.out).mono ?_
      rintro e w2 ⟨rfl, k2⟩
      have HK2 := Lib.hid (HK1.out.trans k2 (fun _ _ h => h))
      have X2 := HX1.out.keep k2 id
      have HX2 := Lib.hid X2
      have y0 : w2.cell? ⟨w.heap.size, 0, none⟩ = some (.slice A c.v.length ca) := X2.cell 0
      have y1 : w2.cell? ⟨w.heap.size, 1, none⟩ = some (.slice B c.l.length cb) := X2.cell 1
      clear x0 x1 k2 X2
      by_cases hn : c.v.length = 0
      · have g1 : ((c.v.length : Int) == 0) = true := by rw [beq_iff_eq]; omega
        obtain rfl : R = 140 := by rw [← HR.out]; split; · rfl
                                   · simp
        clear hn
        go_wp2
        go_ret
        exact ⟨rfl, HK2.out⟩
      · have g1 : ((c.v.length : Int) == 0) = false := by rw [beq_eq_false_iff_ne]; omega
        obtain rfl : R = 140 := by rw [← HR.out]; split; · rfl
                                   · simp
        clear hn
        go_wp2
        go_ret
        exact ⟨rfl, HK2.out⟩
    | true =>
      rw [hq2] at C2 HR
      clear hq2
      go_wp2_with fail
      refine (C2.out _ HK1.out).mono ?_
      rintro e w2 ⟨rfl, k2⟩
      have HK2 := Lib.hid (HK1.out.trans k2 (fun _ _ h => h))
      have X2 := HX1.out.keep k2 id
      have HX2 := Lib.hid X2
      have y0 : w2.cell? ⟨w.heap.size, 0, none⟩ = some (.slice A c.v.length ca) := X2.cell 0
      have y1 : w2.cell? ⟨w.heap.size, 1, none⟩ = some (.slice B c.l.length cb) := X2.cell 1
      clear x0 x1 k2 X2
      by_cases hn : c.v.length = 0
      · have g1 : ((c.v.length : Int) == 0) = true := by rw [beq_iff_eq]; omega
        obtain rfl : R = 140 := by rw [← HR.out]; split; · rfl
                                   · simp
        clear hn
        go_wp2
        go_ret
        exact ⟨rfl, HK2.out⟩
      · have g1 : ((c.v.length : Int) == 0) = false := by rw [beq_eq_false_iff_ne]; omega
        obtain rfl : R = 140 := by rw [← HR.out]; split; · rfl
                                   · simp
        clear hn
        go_wp2
        go_ret
        exact ⟨rfl, HK2.out⟩
  | true =>
    rw [hq1] at C1 HR
    clear hq1
    go_wp2_with fail
    refine (C1.out _ HK0.out).mono ?_
    rintro e w1 ⟨rfl, k1⟩
    have K1 := HK0.out.trans k1 (fun _ _ h => h)
    have X1 := HX0.out.keep k1 id
    have x0 : w1.cell? ⟨w.heap.size, 0, none⟩ = some (.slice A c.v.length ca) := X1.cell 0
    have x1 : w1.cell? ⟨w.heap.size, 1, none⟩ = some (.slice B c.l.length cb) := X1.cell 1
    have HK1 := Lib.hid K1
    have HX1 := Lib.hid X1
    clear K1 X1 k1
    cases hq2 : ascP c.l with
    | false =>
      rw [hq2] at C2 HR
      clear hq2
      go_wp2_with fail
      refine (C2.out _ HK1.out).mono ?_
      rintro e w2 ⟨rfl, k2⟩
      have HK2 := Lib.hid (HK1.out.trans k2 (fun _ _ h => h))
      have X2 := HX1.out.keep k2 id
      have HX2 := Lib.hid X2
      have y0 : w2.cell? ⟨w.heap.size, 0, none⟩ = some (.slice A c.v.length ca) := X2.cell 0
      have y1 : w2.cell? ⟨w.heap.size, 1, none⟩ = some (.slice B c.l.length cb) := X2.cell 1
      clear x0 x1 k2 X2
      by_cases hn : c.v.length = 0
      · have g1 : ((c.v.length : Int) == 0) = true := by rw [beq_iff_eq]; omega
        obtain rfl : R = 140 := by rw [← HR.out]; split; · rfl
                                   · simp
        clear hn
        go_wp2
        go_ret
        exact ⟨rfl, HK2.out⟩
      · have g1 : ((c.v.length : Int) == 0) = false := by rw [beq_eq_false_iff_ne]; omega
        obtain rfl : R = 140 := by rw [← HR.out]; split; · rfl
                                   · simp
        clear hn
        go_wp2
        go_ret
        exact ⟨rfl, HK2.out⟩
    | true =>
      rw [hq2] at C2 HR
      clear hq2
      go_wp2_with fail
      refine (C2.out _ HK1.out).mono ?_
      rintro e w2 ⟨rfl, k2⟩
      have HK2 := Lib.hid (HK1.out.trans k2 (fun _ _ h => h))
      have X2 := HX1.out.keep k2 id
      have HX2 := Lib.hid X2
      have y0 : w2.cell? ⟨w.heap.size, 0, none⟩ = some (.slice A c.v.length ca) := X2.cell 0
      have y1 : w2.cell? ⟨w.heap.size, 1, none⟩ = some (.slice B c.l.length cb) := X2.cell 1
      clear x0 x1 k2 X2
      by_cases hn : c.v.length = 0
      · have g1 : ((c.v.length : Int) == 0) = true := by rw [beq_iff_eq]; omega
        obtain rfl : R = 140 := by rw [← HR.out, if_pos hn]
        clear hn
        go_wp2
        go_ret
        exact ⟨rfl, HK2.out⟩
      · have g1 : ((c.v.length : Int) == 0) = false := by rw [beq_eq_false_iff_ne]; omega
        rw [if_neg hn, if_neg (by decide), if_neg (by decide)] at HR
        clear hn
        go_wp2
        go_loopw [5] (fun i wr => ∃ k : Nat, k ≤ c.l.length ∧ i = .int .i64 k ∧ (∀ j x, j < k → c.l[j]? = some x → inP c.v x = false) ∧ Keep noneOf w2 wr) (fun i _ => c.l.length - (intOf i).toNat)
        case atStart => exact ⟨0, Nat.zero_le _, rfl, fun j _ hj => absurd hj (by omega), Keep.refl _ _⟩
        case round =>
          obtain ⟨k, hk, rfl, hall, hkw⟩ := hrel
          have HA := Lib.hid hall
          have HKW := Lib.hid hkw
          have X3 := HX2.out.keep hkw id
          have x0 : wr.cell? ⟨w.heap.size, 0, none⟩ = some (.slice A c.v.length ca) := X3.cell 0
          have x1 : wr.cell? ⟨w.heap.size, 1, none⟩ = some (.slice B c.l.length cb) := X3.cell 1
          have HX3 := Lib.hid X3
          clear hall X3
          have K3 := HK2.out.trans hkw (fun _ _ h => h)
          have HK3 := Lib.hid K3
          by_cases hlt : k < c.l.length
          · obtain ⟨g, o, rfl, hblk, hD, hc0⟩ := (HB.out.keepN K3).cell hlt
            have HS := Lib.hid (List.getElem?_eq_getElem hlt)
            generalize hzz : c.l[k] = z at *
            have HC := Lib.hid (fun (w' : World) (kk : Keep noneOf wr w') => rvotes_any w' D _ c z (HH.out.keepN (HK3.out.trans kk (fun _ _ h => h))))
            have q0 : (0 : Int) ≤ (k : Int) := by omega
            have q1 : (k : Int) < (c.l.length : Int) := by omega
            have K00 := Keep.refl noneOf wr
            have MK : Hid (∀ w', Keep noneOf wr w' → w'.cell? ⟨w.heap.size, 0, none⟩ = some (.slice A c.v.length ca) ∧ w'.cell? ⟨w.heap.size, 1, none⟩ = some (.slice (some ⟨g, o, none⟩) c.l.length cb) ∧ w'.cell? ⟨g, o + k, none⟩ = some (.int .i64 z)) := fun w' kk =>
              ⟨(HX3.out.keep kk id).cell 0, (HX3.out.keep kk id).cell 1, (kk.cell (p := ⟨g, o + k, none⟩) hblk id).trans hc0⟩
            clear hkw K3 hzz hc0
            cases hq : inP c.v z with
            | true =>
              rw [hq] at HC
              have HQ := Lib.hid hq
              clear hq
              go_wp2
              refine wp_region_in (fun w' => Keep noneOf wr w' ∧ w'.cell? ⟨w.heap.size, 0, none⟩ = some (.slice A c.v.length ca) ∧ w'.cell? ⟨w.heap.size, 1, none⟩ = some (.slice (some ⟨g, o, none⟩) c.l.length cb) ∧ w'.cell? ⟨g, o + k, none⟩ = some (.int .i64 z)) (by kernel_rfl) (by kernel_rfl) ⟨K00.drew, MK.out _ K00.drew⟩ ?_
              repeat
                first
                | go_big_quiet_skip
                | go_big_quiet_want
                  go_big_quiet_op
                  go_big_quiet_on
                | go_big_quiet_want
                  apply quiet_calls
                  case he => intro w'; go_simp; exact ⟨rfl, rfl⟩
                  case h =>
                    intro w' hw'
                    have kw := And.left hw'
                    first
                    | go_at_call 15
                      refine (HC.out w' kw).mono ?_
                      rintro e w'' ⟨rfl, k''⟩
                      have KK := Keep.trans kw k'' (fun _ _ h => h)
                      exact ⟨rfl, KK, MK.out _ KK⟩
                  simp only [Act.put, List.setIfInBounds_toArray, List.set_cons_zero, List.set_cons_succ]
                  go_big_quiet_on
                | go_big_quiet_want
                  apply quiet_reads
                  case h =>
                    intro w' hw'
                    try dsimp only at hw'
                    go_split_ands
                    go_simp
                    rfl
                  simp only [Act.put, List.setIfInBounds_toArray, List.set_cons_zero, List.set_cons_succ]
                  go_big_quiet_on
              refine wpQuiet_nil ?_
              intro w9 hw9
              obtain rfl : R = 140 := by
                rw [← HR.out, if_pos]
                unfold overP
                exact List.any_eq_true.2 ⟨z, List.mem_of_getElem? HS.out, HQ.out⟩
              have HKE := Lib.hid (HK3.out.trans hw9.1 (fun _ _ h => h))
              clear hw9 K00
              go_wp2
              go_ret
              exact ⟨rfl, HKE.out⟩
            | false =>
              rw [hq] at HC
              have HQ := Lib.hid hq
              clear hq
              go_wp2
              refine wp_region_in (fun w' => Keep noneOf wr w' ∧ w'.cell? ⟨w.heap.size, 0, none⟩ = some (.slice A c.v.length ca) ∧ w'.cell? ⟨w.heap.size, 1, none⟩ = some (.slice (some ⟨g, o, none⟩) c.l.length cb) ∧ w'.cell? ⟨g, o + k, none⟩ = some (.int .i64 z)) (by kernel_rfl) (by kernel_rfl) ⟨K00.drew, MK.out _ K00.drew⟩ ?_
              repeat
                first
                | go_big_quiet_skip
                | go_big_quiet_want
                  go_big_quiet_op
                  go_big_quiet_on
                | go_big_quiet_want
                  apply quiet_calls
                  case he => intro w'; go_simp; exact ⟨rfl, rfl⟩
                  case h =>
                    intro w' hw'
                    have kw := And.left hw'
                    first
                    | go_at_call 15
                      refine (HC.out w' kw).mono ?_
                      rintro e w'' ⟨rfl, k''⟩
                      have KK := Keep.trans kw k'' (fun _ _ h => h)
                      exact ⟨rfl, KK, MK.out _ KK⟩
                  simp only [Act.put, List.setIfInBounds_toArray, List.set_cons_zero, List.set_cons_succ]
                  go_big_quiet_on
                | go_big_quiet_want
                  apply quiet_reads
                  case h =>
                    intro w' hw'
                    try dsimp only at hw'
                    go_split_ands
                    go_simp
                    rfl
                  simp only [Act.put, List.setIfInBounds_toArray, List.set_cons_zero, List.set_cons_succ]
                  go_big_quiet_on
              refine wpQuiet_nil ?_
              intro w9 hw9
              have HKE := Lib.hid (HKW.out.trans hw9.1 (fun _ _ h => h))
              clear hw9 K00
              go_wp2
              go_roundw
              case rel =>
                refine ⟨k + 1, by omega, by go_num, fun j t hj e => ?_, HKE.out⟩
                rcases Nat.lt_or_ge j k with h | h
                · exact HA.out j t h e
                · have : j = k := by omega
                  subst this
                  rw [HS.out] at e
                  injection e with e
                  rw [← e]
                  exact HQ.out
              case measure => simp [intOf]; omega
          · obtain rfl : R = 0 := by
              rw [← HR.out, if_neg]
              intro e
              unfold overP at e
              obtain ⟨x, hx, hv⟩ := List.any_eq_true.1 e
              obtain ⟨j, hj⟩ := List.getElem?_of_mem hx
              rw [HA.out j x (by have := (List.getElem?_eq_some_iff.1 hj).1; omega) hj] at hv
              cases hv
            clear hkw K3
            go_wp2
            go_ret
            exact ⟨rfl, HK3.out⟩
end Go.Proofs.Ytmncjibokpieoaa
