/-
  Proved: dockyardlaw09.ReadyTwice answers true for every input that can be read, and leaves its arguments as they were. No conditions.
-/
import Derived.Test.YtjfneckflddeeaaRyLaw
namespace Go.Proofs.Ytjfneckflddeeaa
open Go.ChangeShapes Go.WideShapes Go.ChangeAt Go.RowKit

theorem grSettle_nil (ps : List Pt) : grSettle ps [] = [] := by
  unfold grSettle
  split
  · have := runOf_length (settleAt ps []) [] (grOrder ps)
    exact List.eq_nil_of_length_eq_zero this
  · rfl
theorem grSettle_cases (ps : List Pt) (l : List Pst) : grSettle ps l = [] ∨ (grCheck ps = 0 ∧ l.length = ps.length ∧ (grSettle ps l).length = ps.length) := by
  by_cases hq : grCheck ps = 0
  · by_cases hl : l.length = ps.length
    · right
      refine ⟨hq, hl, ?_⟩
      rw [grSettle_length (by rw [order_len hq, hl]), hl]
    · exact .inl (grSettle_other hl)
  · exact .inl (grSettle_none hq)
/-- To settle twice is to settle once. -/
theorem grSettle_twice (ps : List Pt) (l : List Pst) : grSettle ps (grSettle ps l) = grSettle ps l := by
  rcases grSettle_cases ps l with h | ⟨hq, hl, hR⟩
  · rw [h, grSettle_nil]
  · refine (grSettle_only hq hR hR (fun p hp => ?_)).symm
    have hs := grSettle_sol hq hl p hp
    rw [hs]
    congr 1
    have hg : (grSettle ps l).getD p Pst.zero = settleAt ps l (grSettle ps l) p := by
      rw [List.getD_eq_getElem?_getD, hs]
      rfl
    generalize grSettle ps l = R at *
    show _ = if (R.getD p Pst.zero).s = 0 ∧ outc (needSt ps R p) ≠ 0 then _ else R.getD p Pst.zero
    rw [hg, if_neg]
    rintro ⟨h1, h2⟩
    unfold settleAt at h1
    split at h1
    · exact h2 h1
    · rename_i hn
      exact hn ⟨h1, h2⟩
/-- What waits for needs that are told: none is lost, and one is not done. -/
theorem settled_waits {ps : List Pt} {l : List Pst} {i : Nat} {x : Pst} (h : (grSettle ps l)[i]? = some x) (hx : x.s = 0) : outc (needSt ps (grSettle ps l) i) = 0 := by
  rcases grSettle_cases ps l with hn | ⟨hq, hl, hR⟩
  · rw [hn] at h
    simp at h
  · have hi : i < ps.length := by rw [← hR]; exact (List.getElem?_eq_some_iff.1 h).1
    rw [grSettle_sol hq hl i hi] at h
    injection h with h
    generalize grSettle ps l = R at *
    refine Classical.byContradiction fun hne => ?_
    rw [← h] at hx
    unfold settleAt at hx
    split at hx
    · exact hne hx
    · rename_i hn
      exact hn ⟨hx, hne⟩
theorem outc_zero {ss : List Int} (h : outc ss = 0) : (∀ s ∈ ss, lostS s = false) ∧ ss.all (fun s => s == 3) = false := by
  unfold outc at h
  split at h
  · exact absurd h (by decide)
  · rename_i h1
    split at h
    · exact absurd h (by decide)
    · rename_i h2
      refine ⟨fun s hs => ?_, by simpa using h2⟩
      cases hl : lostS s with
      | false => rfl
      | true => exact absurd (List.any_eq_true.2 ⟨s, hs, hl⟩) h1

set_option maxRecDepth 100000 in
set_option maxHeartbeats 4000000 in
theorem twice_walk (w : World) (A : Option Addr) (c : Nat) (ts : List Tg) (h : Tgs w (fun _ => True) (.slice A ts.length c) ts) (Al : Option Addr) (cl : Nat) (l : List Pst) (hl : Sts w (fun _ => True) (.slice Al l.length cl) l) (h24 : l.length * 24 ≤ reachBytes) :
    Calls Try.prog 5 #[.agg #[.slice A ts.length c], .slice Al l.length cl] w (TellsB true w) := by
  have HH := Lib.hid h
  have ka := (Keep.refl noneOf w).alloc (.cells #[.slice A ts.length c] 24)
  have HX0 := Lib.hid (Box.new w 24 #[.slice A ts.length c])
  have HK0 := Lib.hid ka
  have SE := Lib.hid (settle_any _ _ _ _ _ ts l (HH.out.keep ka (fun _ _ _ => id)) (hl.keep ka (fun _ _ _ => id)) h24)
  have hle := grSettle_le (ts.map Tg.plain) l
  have HRB : Hid ((grSettle (ts.map Tg.plain) l).length * 24 ≤ reachBytes) := Lib.hid (Nat.le_trans (Nat.mul_le_mul_right _ hle) h24)
  have HTW := Lib.hid (grSettle_twice (ts.map Tg.plain) l)
  have HWT : Hid (∀ (i : Nat) (x : Pst), (grSettle (ts.map Tg.plain) l)[i]? = some x → x.s = 0 → outc (needSt (ts.map Tg.plain) (grSettle (ts.map Tg.plain) l) i) = 0) := Lib.hid fun i x h hx => settled_waits h hx
  have HVA : Hid (∀ (i : Nat) (x : Pst), (grSettle (ts.map Tg.plain) l)[i]? = some x → grCheck (ts.map Tg.plain) = 0 ∧ (grSettle (ts.map Tg.plain) l).length = ts.length) := Lib.hid fun i x h => by
    rcases grSettle_cases (ts.map Tg.plain) l with hn | ⟨hq, _, hR⟩
    · rw [hn] at h
      simp at h
    · exact ⟨hq, by rw [hR, List.length_map]⟩
  generalize grSettle (ts.map Tg.plain) l = R at *
  clear h hl h24 ka hle
  go_enter Try.func5, Try.ntmps5
  go_wp2_with fail
  refine SE.out.mono ?_
  rintro e w1 ⟨v1, rfl, k1, hv1⟩
  have HT1 := Lib.hid (told_sts hv1)
  obtain ⟨A1, c1, hv1s⟩ := HT1.out.shape
  subst hv1s
  have HK1 := Lib.hid (HK0.out.trans k1 (fun _ _ h => h))
  have HX1 := Lib.hid (HX0.out.keep k1 id)
  clear SE hv1 k1 HK0 HX0
  go_wp2_with fail
  refine (alive_any w1).mono ?_
  rintro e w2 ⟨rfl, k2⟩
  have K2 := HK1.out.trans k2 (fun _ _ h => h)
  have HK2 := Lib.hid K2
  have HX2 := Lib.hid (HX1.out.keep k2 id)
  have HT2 := Lib.hid (HT1.out.keep k2 (fun _ _ _ => id))
  have x2 : w2.cell? ⟨w.heap.size, 0, none⟩ = some (.slice A ts.length c) := HX2.out.cell 0
  have S2 := settle_any w2 _ _ _ _ ts R (HH.out.keep K2 (fun _ _ _ => id)) HT2.out HRB.out
  rw [HTW.out] at S2
  have SE2 := Lib.hid S2
  clear k2 K2 HK1 HX1 HT1 S2 HTW HRB
  go_wp2_with fail
  refine SE2.out.mono ?_
  rintro e w3 ⟨v3, rfl, k3, hv3⟩
  have hs3 := told_sts hv3
  obtain ⟨A3, c3, hv3s⟩ := hs3.shape
  subst hv3s
  have HK3 := Lib.hid (HK2.out.trans k3 (fun _ _ h => h))
  have HX3 := Lib.hid (HX2.out.keep k3 id)
  have HT3 := Lib.hid (HT2.out.keep k3 (fun _ _ _ => id))
  have SM := same_any w3 _ _ _ _ R R hs3 HT3.out
  rw [decide_eq_true rfl] at SM
  have HSM := Lib.hid SM
  clear SE2 k3 hv3 hs3 HK2 HX2 HT2 SM x2
  go_wp2_with fail
  refine HSM.out.mono ?_
  rintro e w4 ⟨rfl, k4⟩
  have HK4 := Lib.hid (HK3.out.trans k4 (fun _ _ h => h))
  have HX4 := Lib.hid (HX3.out.keep k4 id)
  have HT4 := Lib.hid (HT3.out.keep k4 (fun _ _ _ => id))
  obtain ⟨_, hRc, hcm1⟩ := HT4.out.lim
  unfold maxLen at hcm1
  clear HSM k4 HK3 HX3 HT3
  go_wp2
  go_loopw [25] (fun i wr => ∃ k : Nat, k ≤ R.length ∧ i = .int .i64 k ∧ Keep noneOf w4 wr) (fun i _ => R.length - (intOf i).toNat)
  case atStart => exact ⟨0, Nat.zero_le _, rfl, Keep.refl _ _⟩
  case round =>
    obtain ⟨k, hk, rfl, hkeep⟩ := hrel
    have HKP := Lib.hid hkeep
    by_cases hlt : k < R.length
    · have hx := getS_at hlt
      obtain ⟨hq, hRl⟩ := HVA.out k _ hx
      have HRL := Lib.hid hRl
      obtain ⟨b, o, rfl, hblk, _, c0, _, _⟩ := (HT4.out.keep hkeep (fun _ _ _ => id)).cell hx
      have HW := HWT.out k _ hx
      generalize R.getD k Pst.zero = x at *
      have q0 : (0 : Int) ≤ (k : Int) := by omega
      have q1 : (k : Int) < (R.length : Int) := by omega
      by_cases hs : x.s = 0
      · have g : (x.s != 0) = false := by rw [hs]; rfl
        obtain ⟨hnl, hna⟩ := outc_zero (HW hs)
        have HNL := Lib.hid hnl
        have HNA := Lib.hid hna
        have NE := Lib.hid (refNeeds_any wr _ _ ts (k : Int) (HH.out.keep (HK4.out.trans hkeep (fun _ _ h => h)) (fun _ _ _ => id)) (fits_few (check_fits hq).1).2)
        have hn16 : (needsAt (ts.map Tg.plain) (k : Int)).length ≤ 16 := needsAt_16 hq
        have HLT : Hid (∀ n ∈ needsAt (ts.map Tg.plain) (k : Int), n < R.length) := Lib.hid fun n hn => by
          have := needsAt_lt hn
          rw [List.length_map] at this
          rw [HRL.out]
          exact this
        unfold needSt at HNL HNA
        generalize needsAt (ts.map Tg.plain) (k : Int) = ns at *
        have HSS : Hid (∀ (j n : Nat), ns[j]? = some n → (ns.map (fun n => (R.getD n Pst.zero).s))[j]? = some (R.getD n Pst.zero).s) := Lib.hid fun j n e => by rw [List.getElem?_map, e]; rfl
        have HSL : Hid ((ns.map (fun n => (R.getD n Pst.zero).s)).length = ns.length) := Lib.hid (List.length_map _)
        generalize ns.map (fun n => (R.getD n Pst.zero).s) = ss at *
        have x0 : wr.cell? ⟨w.heap.size, 0, none⟩ = some (.slice A ts.length c) := (HX4.out.keep hkeep id).cell 0
        clear hx hnl hna HW hs hkeep hRl hq
        go_wp2_with fail
        refine NE.out.mono ?_
        rintro e w5 ⟨v5, rfl, o5, k5⟩
        obtain ⟨A6, c6, hv6⟩ := o5.shape
        subst hv6
        have HN5 := Lib.hid o5
        have HKP5 := Lib.hid (HKP.out.trans k5 (fun _ _ h => h))
        clear NE o5 k5 x0 c0 HKP
        go_wp2
        go_loopw [7, 38] (fun op i wx => ∃ j : Nat, j ≤ ns.length ∧ i = .int .i64 j ∧ op = .bool (!(ss.take j).all (fun s => s == 3)) ∧ Keep noneOf w5 wx) (fun _ i _ => ns.length - (intOf i).toNat)
        case atStart => exact ⟨0, Nat.zero_le _, rfl, by rw [List.take_zero, List.all_nil]; rfl, Keep.refl _ _⟩
        case round =>
          obtain ⟨j, hj, rfl, rfl, hkx⟩ := hrel
          have HKX := Lib.hid hkx
          by_cases hjl : j < ns.length
          · obtain ⟨b6, o6, rfl, hblk6, _, hc6⟩ := Ints.cell (Row.keep HN5.out hkx (fun _ _ _ => id)) (List.getElem?_eq_getElem hjl)
            have hnl := HLT.out ns[j] (List.getElem_mem hjl)
            have hsj := HSS.out j ns[j] (List.getElem?_eq_getElem hjl)
            have hns := HNL.out _ (List.mem_of_getElem? hsj)
            generalize ns[j] = n at *
            obtain ⟨b7, o7, e7, hblk7, _, d0, d1, d2⟩ := (HT4.out.keep ((HKP5.out).trans hkx (fun _ _ h => h)) (fun _ _ _ => id)).cell (getS_at hnl)
            obtain ⟨rfl, rfl⟩ : b = b7 ∧ o = o7 := by simpa using e7
            have HFN := Lib.hid (final_any wr (R.getD n Pst.zero))
            generalize R.getD n Pst.zero = y at *
            obtain ⟨ys, yt, yu⟩ := y
            simp only at d0 d1 d2 hsj hns HFN
            have HSTEP : Hid ((ss.take (j + 1)).all (fun s => s == 3) = ((ss.take j).all (fun s => s == 3) && (ys == 3))) := Lib.hid (by rw [List.take_add_one, hsj, List.all_append]; simp)
            have r0 : (0 : Int) ≤ (n : Int) := by omega
            have r1 : (n : Int) < (R.length : Int) := by omega
            by_cases hy : ys = 3
            · subst hy
              generalize (ss.take j).all (fun s => s == 3) = av at *
              have hav : (!(av && ((3 : Int) == 3))) = !av := by simp
              have HAV := Lib.hid hav
              clear hsj hns hkx hav e7
              cases av with
              | true =>
                go_wp2
                go_roundw
                case rel => exact ⟨j + 1, by omega, by go_num, by rw [HSTEP.out, HAV.out]; rfl, HKX.out⟩
                case measure => simp [intOf]; omega
              | false =>
                go_wp2
                go_roundw
                case rel => exact ⟨j + 1, by omega, by go_num, by rw [HSTEP.out, HAV.out]; rfl, HKX.out⟩
                case measure => simp [intOf]; omega
            · have hf : finB ys = false := by
                unfold lostS at hns
                unfold finB
                simp only [Bool.and_eq_false_iff, decide_eq_false_iff_not] at hns ⊢
                omega
              rw [hf] at HFN
              have g3 : (ys != 3) = true := by rw [bne_iff_ne]; exact hy
              have g4 : (ys == 3) = false := by rw [beq_eq_false_iff_ne]; exact hy
              rw [g4, Bool.and_false] at HSTEP
              generalize (ss.take j).all (fun s => s == 3) = av at *
              clear hsj hns hkx hf hy g4 e7
              go_wp2_with fail
              refine HFN.out.mono ?_
              rintro e w6 ⟨rfl, k6⟩
              have HK6 := Lib.hid (HKX.out.trans k6 (fun _ _ h => h))
              have y0 : w6.cell? ⟨b, o + n * 3, none⟩ = some (.int .i64 ys) := (k6.cell (p := ⟨b, o + n * 3, none⟩) hblk7 id).trans d0
              clear HFN k6 d0 d1 d2 HKX hc6
              cases av with
              | true =>
                go_wp2
                go_roundw
                case rel => exact ⟨j + 1, by omega, by go_num, by rw [HSTEP.out]; rfl, HK6.out⟩
                case measure => simp [intOf]; omega
              | false =>
                go_wp2
                go_roundw
                case rel => exact ⟨j + 1, by omega, by go_num, by rw [HSTEP.out]; rfl, HK6.out⟩
                case measure => simp [intOf]; omega
          · have hjn : ¬ ((j : Int) < (ns.length : Int)) := by omega
            have htk : ss.take j = ss := List.take_of_length_le (by rw [HSL.out]; omega)
            rw [htk, HNA.out]
            clear hjl hkx htk
            go_wp2
            go_roundw
            case rel => exact ⟨k + 1, by omega, by go_num, HKP5.out.trans HKX.out (fun _ _ h => h)⟩
            case measure => simp [intOf]; omega
      · have g : (x.s != 0) = true := by rw [bne_iff_ne]; exact hs
        clear hx hs hkeep HW hRl hq
        go_wp2
        go_roundw
        case rel => exact ⟨k + 1, by omega, by go_num, HKP.out⟩
        case measure => simp [intOf]; omega
    · have hkn : ¬ ((k : Int) < (R.length : Int)) := by omega
      clear hlt hkeep
      go_wp2
      go_ret
      exact ⟨rfl, HK4.out.trans HKP.out (fun _ _ h => h)⟩

namespace ReadyTwice
set_option maxRecDepth 100000 in
theorem lifted (os : Os) (started : os.Started) (H : Type) (enc : TypeId × Value → H) :
    ReturnsInHanded {} Try.checked os 5 .any (Rows.readyTwiceSpec.pre6 enc Try.prog Try.f5 Rows.readyTwiceRow.domain false) (Rows.readyTwiceSpec.post enc Try.prog Try.f5 false true false false) := by
  refine returnsInHanded_of_change_sized (C := Try.checked) own started (by kernel_rfl) Try.func5
    (ChangeSpec.witness6 (enc := enc) (C := Try.checked) false ⟨#[], #[.agg #[.slice none 0 0], .slice none 0 0], []⟩ 8 (by kernel_rfl) (by kernel_rfl) (by kernel_rfl) (by kernel_rfl)) ?_
  intro W base args ds gs before hval0 hW hcnd hsz _
  have hval : ∀ (j : Nat) t v, Try.f5.params[j]? = some t → args[j]? = some v → Value.okWide Try.prog W .any base t v := hval0
  have hW' := hW
  obtain ⟨p, q, hA0, hV, rfl, hfz, hnd⟩ := hW
  have hA : DataW.TrodAll enc Try.prog W 0 (fun _ => true) true Try.f5.params.toList args.toList ds p := hA0
  rw [Try.params5] at hA hval
  obtain ⟨v0, vs0, d0, ds0, p0, q0, hargs, rfl, rfl, h0, r0⟩ := trodAll_cons hA
  obtain ⟨v1, vs1, d1, ds1, p1, q1, rfl, rfl, rfl, h1, r1⟩ := trodAll_cons r0
  obtain ⟨rfl, rfl, rfl⟩ := trodAll_nil r1
  obtain rfl : args = #[v0, v1] := by cases args; simp_all
  obtain ⟨rfl, rfl⟩ := trodVars_none hV
  have k0 := h0
  have lt0 : ∀ x ∈ p0, x.block < W.heap.size := by obtain ⟨m, hm⟩ := k0; exact DataW.trod_lt m _ _ _ hm
  have k1 := h1
  have lt1 : ∀ x ∈ p1, x.block < W.heap.size := by obtain ⟨m, hm⟩ := k1; exact DataW.trod_lt m _ _ _ hm
  obtain ⟨A0, c0, ts0, rfl, hts0, h560, h160⟩ := open_graph (hval 0 24 v0 rfl rfl) h0 (light_arg hsz (j := 0) rfl rfl)
  obtain ⟨A1, c1, l1, rfl, hl1, h241⟩ := open_arg_sts (hval 1 25 v1 rfl rfl) h1 (light_arg hsz (j := 1) rfl rfl)
  clear hA0 hval0
  refine (twice_walk W A0 c0 ts0 hts0 A1 c1 l1 hl1 h241).mono fun e W' ⟨he, bel0⟩ => ?_
  subst he
  have bel := bel0.all
  exact ⟨_, rfl, _, _, _, [], _, [], hW', trodAll_mk1 (shut_bool Try.underlying4 _), (trodAll_cons_mk (Below.trod laidOut (by kernel_rfl) (of_decide_eq_true (by kernel_rfl)) k0 bel lt0) (trodAll_cons_mk (Below.trod laidOut (by kernel_rfl) (of_decide_eq_true (by kernel_rfl)) k1 bel lt1) trodAll_mk0)), rfl, bel.frame _, fun h => by cases h⟩

theorem over : Rows.readyTwiceRow.holds Try.pinned (OpenSpec.ofChange Rows.readyTwiceSpec) :=
  OpenClaim.holds_of_wide 5 Try.f5 rfl rfl rfl rfl rfl rfl rfl ⟨rfl, rfl, rfl, rfl, rfl⟩ rfl rfl rfl rfl rfl (by kernel_rfl) Try.func5 (by kernel_rfl)
    (of_decide_eq_true (by kernel_rfl)) (by unfold Func.isWrapper; first | (rw [if_pos (by decide +kernel)]; kernel_rfl) | (rw [if_neg (by decide +kernel)]; exact ⟨rfl, rfl⟩))
    (fun os started H enc _ => lifted os started H enc)

theorem proved : Rows.ReadyTwiceSaid := over
end ReadyTwice
end Go.Proofs.Ytjfneckflddeeaa
