/-
  Proved: dockyardlaw09.ReadyGoesOn answers true for every input that can be read, and leaves its arguments as they were. No conditions.
-/
import Derived.Test.YtjfneckflddeeaaRyOnM
import Derived.Test.YtjfneckflddeeaaGrRCheck
namespace Go.Proofs.Ytjfneckflddeeaa
open Go.ChangeShapes Go.WideShapes Go.ChangeAt Go.RowKit

theorem order_pos {ps : List Pt} (h : grCheck ps = 0) : 0 < ps.length := by
  have := (check_fits h).2.1
  unfold grFormed at this
  rw [Bool.and_eq_true, decide_eq_true_eq] at this
  exact List.length_pos_iff.2 this.1
/-- What a loop's round stands on: the states that are, and where they lie. -/
def Stands (ps : List Pt) (good : Bool) (B : Nat) (k : Nat) (v : Value) (w : World) : Prop :=
  ∃ L, (if grCheck ps = 0 then Going ps good k L else L = []) ∧ ((v = .slice none 0 0 ∧ L = []) ∨ ∃ g, v = .slice (some ⟨g, 0, none⟩) L.length L.length ∧ B ≤ g ∧ L.length ≤ maxLen ∧ Box w g 32 (svs L))
/-- What is behind the loop. -/
def Ended (ps : List Pt) (good : Bool) (v : Value) (w : World) : Prop :=
  ∃ L, Sts w (fun _ => True) v L ∧ (∀ (i : Nat) (x : Pst), L[i]? = some x → finB x.s = true ∧ (good = true → x.s = 3)) ∧ L.length ≤ 32 ∧ ((grCheck ps == 0) = decide (0 < L.length))
theorem ended_of {ps : List Pt} {good : Bool} {k : Nat} {v : Value} {w : World} {L : List Pst} (hs : Sts w (fun _ => True) v L) (h : if grCheck ps = 0 then Going ps good k L else L = []) (hf : grCheck ps = 0 → ∀ (i : Nat) (x : Pst), L[i]? = some x → finB x.s = true) : Ended ps good v w := by
  refine ⟨L, hs, ?_⟩
  by_cases hq : grCheck ps = 0
  · rw [if_pos hq] at h
    refine ⟨fun i x hx => ⟨hf hq i x hx, fun hg => ?_⟩, ?_, ?_⟩
    · subst hg
      exact good_three (h.ok i x hx) (hf hq i x hx)
    · rw [h.len, ← order_len hq]
      exact order_32 ps
    · rw [h.len, decide_eq_true (order_pos hq), hq]
      rfl
  · rw [if_neg hq] at h
    subst h
    exact ⟨fun i x hx => by simp at hx, by simp, by rw [beq_eq_false_iff_ne.2 hq]; rfl⟩

set_option maxRecDepth 100000 in
set_option maxHeartbeats 4000000 in
theorem goesOn_walk (w : World) (A : Option Addr) (c : Nat) (ts : List Tg) (h : Tgs w (fun _ => True) (.slice A ts.length c) ts) (h56 : ts.length * 56 ≤ reachBytes) (good : Bool) :
    Calls Try.prog 6 #[.agg #[.slice A ts.length c], .bool good] w (TellsB true w) := by
  have HH := Lib.hid h
  have H56 := Lib.hid h56
  have hb56 : ts.length * 56 ≤ 140737488351232 := h56
  have ka := (Keep.refl noneOf w).alloc (.cells #[.slice A ts.length c] 24)
  have HX0 := Lib.hid (Box.new w 24 #[.slice A ts.length c])
  have HK0 := Lib.hid ka
  have ST := Lib.hid (start_any _ _ (fun _ => True) _ _ ts [] (HH.out.keep ka (fun _ _ _ => id)) (Bls.nil _ _) h56)
  have hS0 : if grCheck (ts.map Tg.plain) = 0 then Going (ts.map Tg.plain) good 0 (grStart (ts.map Tg.plain) []) else grStart (ts.map Tg.plain) [] = [] := by
    split
    · rename_i hq
      exact going_start good hq
    · rename_i hq
      exact grSettle_none hq
  have HS0 := Lib.hid hS0
  have hs0 : (w.alloc (.cells #[.slice A ts.length c] 24)).heap.size = w.heap.size + 1 := by simp
  generalize grStart (ts.map Tg.plain) [] = L0 at *
  clear h h56 ka hS0
  go_enter Try.func6, Try.ntmps6
  go_wp2_with fail
  refine ST.out.mono ?_
  rintro e w1 ⟨v1, rfl, k1, hv1⟩
  rw [hs0] at hv1
  have HK1 := Lib.hid (HK0.out.trans k1 (fun _ _ h => h))
  have HX1 := Lib.hid (HX0.out.keep k1 id)
  have HST1 := Lib.hid (show Stands (ts.map Tg.plain) good (w.heap.size + 1) 0 v1 w1 from ⟨L0, HS0.out, hv1⟩)
  have x1 : w1.cell? ⟨w.heap.size, 0, none⟩ = some (.slice A ts.length c) := HX1.out.cell 0
  clear ST HK0 HX0 HS0 hs0 k1 hv1
  go_wp2
  clear x1
  go_loopw [5, 14] (fun v i wr => ∃ k : Nat, k ≤ ts.length ∧ i = .int .i64 k ∧ Keep noneOf w wr ∧ Box wr w.heap.size 24 #[.slice A ts.length c] ∧ Stands (ts.map Tg.plain) good (w.heap.size + 1) k v wr) (fun _ i _ => ts.length - (intOf i).toNat)
  case atStart => exact ⟨0, Nat.zero_le _, rfl, HK1.out, HX1.out, HST1.out⟩
  case round =>
    obtain ⟨k, hk, rfl, hkeep, hX, L, hL, hv⟩ := hrel
    have HKP := Lib.hid hkeep
    have HX := Lib.hid hX
    have HLL := Lib.hid hL
    have hs := Sts.mono (D' := fun _ => True) (told_sts hv) (fun _ _ _ => trivial)
    obtain ⟨Av, cv, hvs⟩ := hs.shape
    subst hvs
    have HS := Lib.hid hs
    have HV := Lib.hid hv
    clear hkeep hX hL hs hv HK1 HX1 HST1
    by_cases hlt : k < ts.length
    · have NX := Lib.hid (rnext_any wr _ _ L HS.out)
      have q1 : (k : Int) < (ts.length : Int) := by omega
      go_wp2_with fail
      refine NX.out.mono ?_
      rintro e w2 ⟨rfl, k2⟩
      have HK2 := Lib.hid (HKP.out.trans k2 (fun _ _ h => h))
      have HX2 := Lib.hid (HX.out.keep k2 id)
      have HK22 := Lib.hid k2
      clear NX k2 HKP HX
      cases hnx : nextIx L with
      | none =>
        have HE := Lib.hid (show Ended (ts.map Tg.plain) good (.slice Av L.length cv) w2 from ended_of (HS.out.keep HK22.out (fun _ _ _ => id)) HLL.out (fun hq => by
          have h := HLL.out
          rw [if_pos hq] at h
          exact fin_none hq h hnx))
        clear hnx HLL HS HV HK22
        simp only [Option.isSome_none, Option.getD_none]
        obtain ⟨L2, hsts, hall, hl32, hck⟩ := HE.out
        have hl2 := hsts.lim.1
        rw [hl2] at hsts ⊢
        have HS2 := Lib.hid hsts
        have HAL := Lib.hid hall
        have HCK := Lib.hid hck
        have HOVB := Lib.hid (show overB L2 = true by
          unfold overB
          rw [List.all_eq_true]
          intro x hx
          obtain ⟨i, hi⟩ := List.getElem?_of_mem hx
          exact (hall i x hi).1)
        clear HE hsts hall hck hl2
        go_wp2
        go_loop [38] (fun i => ∃ k2 : Nat, k2 ≤ L2.length ∧ i = .int .i64 k2) (fun i => L2.length - (intOf i).toNat)
        case atStart => exact ⟨0, Nat.zero_le _, rfl⟩
        case round =>
          obtain ⟨k2, hk2, rfl⟩ := hrel
          by_cases hlt2 : k2 < L2.length
          · have hx2 := getS_at hlt2
            obtain ⟨b, o, rfl, hblk, _, d0, d1, d2⟩ := HS2.out.cell hx2
            have hal2 := HAL.out k2 _ hx2
            generalize L2.getD k2 Pst.zero = y at *
            obtain ⟨ys, yt, yu⟩ := y
            simp only at d0 d1 d2 hal2
            have r0 : (0 : Int) ≤ (k2 : Int) := by omega
            have r1 : (k2 : Int) < (L2.length : Int) := by omega
            clear hx2
            cases good with
            | true =>
              have h3 := hal2.2 rfl
              subst h3
              clear hal2
              go_wp2
              go_round
              case rel => exact ⟨k2 + 1, by omega, by go_num⟩
              case measure => simp [intOf]; omega
            | false =>
              clear hal2
              go_wp2
              go_round
              case rel => exact ⟨k2 + 1, by omega, by go_num⟩
              case measure => simp [intOf]; omega
          · have hkn : ¬ ((k2 : Int) < (L2.length : Int)) := by omega
            clear hlt2
            go_wp2_with fail
            refine (alive_any w2).mono ?_
            rintro e w5 ⟨rfl, k5⟩
            have HK5 := Lib.hid (HK2.out.trans k5 (fun _ _ h => h))
            have HX5 := Lib.hid (HX2.out.keep k5 id)
            have OV := over_any w5 _ _ L2 (HS2.out.keep k5 (fun _ _ _ => id))
            rw [HOVB.out] at OV
            have HOV := Lib.hid OV
            clear k5 OV HK2 HX2
            go_wp2_with fail
            refine HOV.out.mono ?_
            rintro e w6 ⟨rfl, k6⟩
            have K6 := HK5.out.trans k6 (fun _ _ h => h)
            have HK6 := Lib.hid K6
            have x6 := (HX5.out.keep k6 id).cell 0
            simp only [List.getElem?_toArray, List.getElem?_cons_zero] at x6
            have CK := Lib.hid (refCheck_any w6 _ _ ts (HH.out.keep K6 (fun _ _ _ => id)))
            clear HOV k6 K6 HK5 HX5
            generalize grCheck (ts.map Tg.plain) = chk at *
            by_cases hp : 0 < L2.length
            · have gq : (chk == 0) = true := by rw [HCK.out]; exact decide_eq_true hp
              have gp : (0 : Int) < (L2.length : Int) := by omega
              have HP := Lib.hid hp
              clear hp
              go_wp2_with fail
              refine CK.out.mono ?_
              rintro e w7 ⟨rfl, k7⟩
              have HK7 := Lib.hid (HK6.out.trans k7 (fun _ _ h => h))
              clear CK k7 HK6 x6
              go_wp2
              go_ret
              refine ⟨ret_bool ?_, HK7.out⟩
              exact decide_eq_true HP.out
            · have gq : (chk == 0) = false := by rw [HCK.out]; exact decide_eq_false hp
              have gp : ¬ (0 : Int) < (L2.length : Int) := by omega
              have HP := Lib.hid hp
              clear hp
              go_wp2_with fail
              refine CK.out.mono ?_
              rintro e w7 ⟨rfl, k7⟩
              have HK7 := Lib.hid (HK6.out.trans k7 (fun _ _ h => h))
              clear CK k7 HK6 x6
              go_wp2
              go_ret
              refine ⟨ret_bool ?_, HK7.out⟩
              show (!decide (0 < L2.length)) = true
              rw [decide_eq_false HP.out]
              rfl
      | some p =>
        obtain ⟨x, hx, hx1⟩ := next_some hnx
        have hpl := (List.getElem?_eq_some_iff.1 hx).1
        have hq : grCheck (ts.map Tg.plain) = 0 := Classical.byContradiction fun hq => by
          have h := HLL.out
          rw [if_neg hq] at h
          rw [h] at hx
          simp at hx
        have hgo := HLL.out
        rw [if_pos hq] at hgo
        have hLn : L.length = ts.length := by rw [hgo.len, List.length_map]
        obtain ⟨g, hg0, hgB, hml, hbx⟩ : ∃ g, Value.slice Av L.length cv = .slice (some ⟨g, 0, none⟩) L.length L.length ∧ w.heap.size + 1 ≤ g ∧ L.length ≤ maxLen ∧ Box wr g 32 (svs L) := by
          rcases HV.out with ⟨_, h⟩ | h
          · rw [h] at hpl
            simp at hpl
          · exact h
        obtain ⟨rfl, rfl⟩ : Av = some ⟨g, 0, none⟩ ∧ cv = L.length := by simpa using hg0
        have hb2 := hbx.keep HK22.out id
        have HB2 := Lib.hid hb2
        have kp := keep_put3 w2 g p (.int .i64 4) (.int .u64 0) (.int .u64 0)
        have hb3 := hb2.put3 p ⟨4, 0, 0⟩ hpl
        have HB3 := Lib.hid hb3
        have HK3 := Lib.hid (HK2.out.own kp (by omega))
        have HX3 := Lib.hid (HX2.out.keep kp (by omega))
        obtain ⟨c0, c1, c2⟩ := hb2.state hx
        have f0 := hb2.free (p * 3)
        have f1 := hb2.free (p * 3 + 1)
        have f2 := hb2.free (p * 3 + 2)
        have HMO := Lib.hid (going_more hq hgo hnx)
        have HQ := Lib.hid hq
        have HLN := Lib.hid hLn
        have HML := Lib.hid hml
        have p0 : (0 : Int) ≤ (p : Int) := by omega
        have p1 : (p : Int) < (L.length : Int) := by omega
        clear hg0 hbx hb2 hgo hLn hx hx1 hnx HLL HS HV HK22 HK2 HX2 kp hb3 hq
        simp only [Option.isSome_some, Option.getD_some]
        cases good with
        | false =>
          have hset := settle_any _ _ (fun _ => True) _ _ ts (L.set p ⟨4, 0, 0⟩) (HH.out.keep HK3.out (fun _ _ _ => id)) (Sts.of_box HB3.out (Nat.le_refl _) (by rw [List.length_set]; exact HML.out) trivial) (by rw [List.length_set, HLN.out, reach_is]; omega)
          rw [List.length_set] at hset
          have HSET := Lib.hid hset
          have x3 := HX3.out.cell 0
          simp only [List.getElem?_toArray, List.getElem?_cons_zero] at x3
          clear hset hml
          go_wp2_with fail
          refine HSET.out.mono ?_
          rintro e w4 ⟨v4, rfl, k4, hv4⟩
          have hsz := HK3.out.size
          have HK4 := Lib.hid (HK3.out.trans k4 (fun _ _ h => h))
          have HX4 := Lib.hid (HX3.out.keep k4 id)
          have HST4 := Lib.hid (show Stands (ts.map Tg.plain) false (w.heap.size + 1) (k + 1) v4 w4 from ⟨_, by rw [if_pos HQ.out]; exact HMO.out, by
            rcases hv4 with h | ⟨g', h1, h2, h3, h4⟩
            · exact .inl h
            · have := HX3.out.lt
              exact .inr ⟨g', h1, by omega, h3, h4⟩⟩)
          clear HSET k4 hv4 x3 HK3 HX3 c0 c1 c2 f0 f1 f2 HB2 HB3 HMO
          go_wp2
          go_roundw
          case rel => exact ⟨k + 1, by omega, by go_num, HK4.out, HX4.out, HST4.out⟩
          case measure => simp [intOf]; omega
        | true =>
          have hb30 := HB3.out
          obtain ⟨e0, e1, e2⟩ := hb30.state (k := p) (x := ⟨4, 0, 0⟩) (by rw [List.getElem?_set_self hpl])
          have ff0 := hb30.free (p * 3)
          have ff1 := hb30.free (p * 3 + 1)
          have ff2 := hb30.free (p * 3 + 2)
          have kp2 := keep_put3 (((w2.setCell ⟨g, p * 3, none⟩ (.int .i64 4)).setCell ⟨g, p * 3 + 1, none⟩ (.int .u64 0)).setCell ⟨g, p * 3 + 2, none⟩ (.int .u64 0)) g p (.int .i64 3) (.int .u64 0) (.int .u64 0)
          have hb5 := hb30.put3 p ⟨3, 0, 0⟩ (by rw [List.length_set]; exact hpl)
          rw [List.set_set] at hb5
          have HB5 := Lib.hid hb5
          have HK5 := Lib.hid (HK3.out.own kp2 (by omega))
          have HX5 := Lib.hid (HX3.out.keep kp2 (by omega))
          have hset := settle_any _ _ (fun _ => True) _ _ ts (L.set p ⟨3, 0, 0⟩) (HH.out.keep HK5.out (fun _ _ _ => id)) (Sts.of_box HB5.out (Nat.le_refl _) (by rw [List.length_set]; exact HML.out) trivial) (by rw [List.length_set, HLN.out, reach_is]; omega)
          rw [List.length_set] at hset
          have HSET := Lib.hid hset
          have x3 := HX5.out.cell 0
          simp only [List.getElem?_toArray, List.getElem?_cons_zero] at x3
          clear hset hml hb5 kp2 hb30 HK3 HX3 HB3
          go_wp2_with fail
          refine HSET.out.mono ?_
          rintro e w4 ⟨v4, rfl, k4, hv4⟩
          have hsz := HK5.out.size
          have HK4 := Lib.hid (HK5.out.trans k4 (fun _ _ h => h))
          have HX4 := Lib.hid (HX5.out.keep k4 id)
          have HST4 := Lib.hid (show Stands (ts.map Tg.plain) true (w.heap.size + 1) (k + 1) v4 w4 from ⟨_, by rw [if_pos HQ.out]; exact HMO.out, by
            rcases hv4 with h | ⟨g', h1, h2, h3, h4⟩
            · exact .inl h
            · have := HX5.out.lt
              exact .inr ⟨g', h1, by omega, h3, h4⟩⟩)
          clear HSET k4 hv4 x3 HK5 HX5 c0 c1 c2 f0 f1 f2 HB2 HB5 HMO e0 e1 e2 ff0 ff1 ff2
          go_wp2
          go_roundw
          case rel => exact ⟨k + 1, by omega, by go_num, HK4.out, HX4.out, HST4.out⟩
          case measure => simp [intOf]; omega
    · have HE := Lib.hid (show Ended (ts.map Tg.plain) good (.slice Av L.length cv) wr from ended_of HS.out HLL.out (fun hq => by
          have h := HLL.out
          rw [if_pos hq] at h
          exact fin_all h (by rw [List.length_map]; omega)))
      have q1 : ¬ ((k : Int) < (ts.length : Int)) := by omega
      have HK2 := HKP
      have HX2 := HX
      clear HLL HS HV hlt HKP HX
      obtain ⟨L2, hsts, hall, hl32, hck⟩ := HE.out
      have hl2 := hsts.lim.1
      rw [hl2] at hsts ⊢
      have HS2 := Lib.hid hsts
      have HAL := Lib.hid hall
      have HCK := Lib.hid hck
      have HOVB := Lib.hid (show overB L2 = true by
        unfold overB
        rw [List.all_eq_true]
        intro x hx
        obtain ⟨i, hi⟩ := List.getElem?_of_mem hx
        exact (hall i x hi).1)
      clear HE hsts hall hck hl2
      go_wp2
      go_loop [38] (fun i => ∃ k2 : Nat, k2 ≤ L2.length ∧ i = .int .i64 k2) (fun i => L2.length - (intOf i).toNat)
      case atStart => exact ⟨0, Nat.zero_le _, rfl⟩
      case round =>
        obtain ⟨k2, hk2, rfl⟩ := hrel
        by_cases hlt2 : k2 < L2.length
        · have hx2 := getS_at hlt2
          obtain ⟨b, o, rfl, hblk, _, d0, d1, d2⟩ := HS2.out.cell hx2
          have hal2 := HAL.out k2 _ hx2
          generalize L2.getD k2 Pst.zero = y at *
          obtain ⟨ys, yt, yu⟩ := y
          simp only at d0 d1 d2 hal2
          have r0 : (0 : Int) ≤ (k2 : Int) := by omega
          have r1 : (k2 : Int) < (L2.length : Int) := by omega
          clear hx2
          cases good with
          | true =>
            have h3 := hal2.2 rfl
            subst h3
            clear hal2
            go_wp2
            go_round
            case rel => exact ⟨k2 + 1, by omega, by go_num⟩
            case measure => simp [intOf]; omega
          | false =>
            clear hal2
            go_wp2
            go_round
            case rel => exact ⟨k2 + 1, by omega, by go_num⟩
            case measure => simp [intOf]; omega
        · have hkn : ¬ ((k2 : Int) < (L2.length : Int)) := by omega
          clear hlt2
          go_wp2_with fail
          refine (alive_any wr).mono ?_
          rintro e w5 ⟨rfl, k5⟩
          have HK5 := Lib.hid (HK2.out.trans k5 (fun _ _ h => h))
          have HX5 := Lib.hid (HX2.out.keep k5 id)
          have OV := over_any w5 _ _ L2 (HS2.out.keep k5 (fun _ _ _ => id))
          rw [HOVB.out] at OV
          have HOV := Lib.hid OV
          clear k5 OV HK2 HX2
          go_wp2_with fail
          refine HOV.out.mono ?_
          rintro e w6 ⟨rfl, k6⟩
          have K6 := HK5.out.trans k6 (fun _ _ h => h)
          have HK6 := Lib.hid K6
          have x6 := (HX5.out.keep k6 id).cell 0
          simp only [List.getElem?_toArray, List.getElem?_cons_zero] at x6
          have CK := Lib.hid (refCheck_any w6 _ _ ts (HH.out.keep K6 (fun _ _ _ => id)))
          clear HOV k6 K6 HK5 HX5
          generalize grCheck (ts.map Tg.plain) = chk at *
          by_cases hp : 0 < L2.length
          · have gq : (chk == 0) = true := by rw [HCK.out]; exact decide_eq_true hp
            have gp : (0 : Int) < (L2.length : Int) := by omega
            have HP := Lib.hid hp
            clear hp
            go_wp2_with fail
            refine CK.out.mono ?_
            rintro e w7 ⟨rfl, k7⟩
            have HK7 := Lib.hid (HK6.out.trans k7 (fun _ _ h => h))
            clear CK k7 HK6 x6
            go_wp2
            go_ret
            refine ⟨ret_bool ?_, HK7.out⟩
            exact decide_eq_true HP.out
          · have gq : (chk == 0) = false := by rw [HCK.out]; exact decide_eq_false hp
            have gp : ¬ (0 : Int) < (L2.length : Int) := by omega
            have HP := Lib.hid hp
            clear hp
            go_wp2_with fail
            refine CK.out.mono ?_
            rintro e w7 ⟨rfl, k7⟩
            have HK7 := Lib.hid (HK6.out.trans k7 (fun _ _ h => h))
            clear CK k7 HK6 x6
            go_wp2
            go_ret
            refine ⟨ret_bool ?_, HK7.out⟩
            show (!decide (0 < L2.length)) = true
            rw [decide_eq_false HP.out]
            rfl

namespace ReadyGoesOn
set_option maxRecDepth 100000 in
theorem lifted (os : Os) (started : os.Started) (H : Type) (enc : TypeId × Value → H) :
    ReturnsInHanded {} Try.checked os 6 .any (Rows.readyGoesOnSpec.pre6 enc Try.prog Try.f6 Rows.readyGoesOnRow.domain false) (Rows.readyGoesOnSpec.post enc Try.prog Try.f6 false true false false) := by
  refine returnsInHanded_of_change_sized (C := Try.checked) own started (by kernel_rfl) Try.func6
    (ChangeSpec.witness6 (enc := enc) (C := Try.checked) false ⟨#[], #[.agg #[.slice none 0 0], .bool false], []⟩ 8 (by kernel_rfl) (by kernel_rfl) (by kernel_rfl) (by kernel_rfl)) ?_
  intro W base args ds gs before hval0 hW hcnd hsz _
  have hval : ∀ (j : Nat) t v, Try.f6.params[j]? = some t → args[j]? = some v → Value.okWide Try.prog W .any base t v := hval0
  have hW' := hW
  obtain ⟨p, q, hA0, hV, rfl, hfz, hnd⟩ := hW
  have hA : DataW.TrodAll enc Try.prog W 0 (fun _ => true) true Try.f6.params.toList args.toList ds p := hA0
  rw [Try.params6] at hA hval
  obtain ⟨v0, vs0, d0, ds0, p0, q0, hargs, rfl, rfl, h0, r0⟩ := trodAll_cons hA
  obtain ⟨v1, vs1, d1, ds1, p1, q1, rfl, rfl, rfl, h1, r1⟩ := trodAll_cons r0
  obtain ⟨rfl, rfl, rfl⟩ := trodAll_nil r1
  obtain rfl : args = #[v0, v1] := by cases args; simp_all
  obtain ⟨rfl, rfl⟩ := trodVars_none hV
  have k0 := h0
  have lt0 : ∀ x ∈ p0, x.block < W.heap.size := by obtain ⟨m, hm⟩ := k0; exact DataW.trod_lt m _ _ _ hm
  obtain ⟨A0, c0, ts0, rfl, hts0, h560, h160⟩ := open_graph (hval 0 24 v0 rfl rfl) h0 (light_arg hsz (j := 0) rfl rfl)
  obtain ⟨a1, rfl, rfl, rfl⟩ := open_bool Try.underlying4 (hval 1 4 v1 rfl rfl) h1
  clear hA0 hval0
  refine (goesOn_walk W A0 c0 ts0 hts0 h560 a1).mono fun e W' ⟨he, bel0⟩ => ?_
  subst he
  have bel := bel0.all
  exact ⟨_, rfl, _, _, _, [], _, [], hW', trodAll_mk1 (shut_bool Try.underlying4 _), (trodAll_cons_mk (Below.trod laidOut (by kernel_rfl) (of_decide_eq_true (by kernel_rfl)) k0 bel lt0) (trodAll_cons_mk (shut_bool Try.underlying4 _) trodAll_mk0)), rfl, bel.frame _, fun h => by cases h⟩

theorem over : Rows.readyGoesOnRow.holds Try.pinned (OpenSpec.ofChange Rows.readyGoesOnSpec) :=
  OpenClaim.holds_of_wide 6 Try.f6 rfl rfl rfl rfl rfl rfl rfl ⟨rfl, rfl, rfl, rfl, rfl⟩ rfl rfl rfl rfl rfl (by kernel_rfl) Try.func6 (by kernel_rfl)
    (of_decide_eq_true (by kernel_rfl)) (by unfold Func.isWrapper; first | (rw [if_pos (by decide +kernel)]; kernel_rfl) | (rw [if_neg (by decide +kernel)]; exact ⟨rfl, rfl⟩))
    (fun os started H enc _ => lifted os started H enc)

theorem proved : Rows.ReadyGoesOnSaid := over
end ReadyGoesOn
end Go.Proofs.Ytjfneckflddeeaa
