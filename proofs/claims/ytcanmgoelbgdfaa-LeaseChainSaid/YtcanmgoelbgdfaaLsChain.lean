/-
  Proved: dockyardlaw10.LeaseChain answers true for every input that can be read, and leaves its arguments as they were. No conditions.
-/
import Derived.Test.YtcanmgoelbgdfaaLsAlive
import Derived.Test.YtcanmgoelbgdfaaLsOwn
namespace Go.Proofs.Ytcanmgoelbgdfaa
open Go.ChangeShapes Go.WideShapes Go.ChangeAt Go.RowKit

theorem nums_at {ns : List Int} {k : Nat} (h : k < ns.length) : ns[k]? = some (ns.getD k 0) := by
  rw [List.getD_eq_getElem?_getD, List.getElem?_eq_getElem h]
  rfl
set_option maxRecDepth 100000 in
set_option maxHeartbeats 4000000 in
theorem chain_walk (w : World) (a b : Int) (ha0 : 0 ≤ a) (ha1 : a ≤ top) (hb : 0 ≤ b) (hb1 : b ≤ top) (A : Option Addr) (c : Nat) (ns : List Int) (hn : Nums w (fun _ => True) (.slice A ns.length c) ns) : Calls Try.prog 7 #[.int .u64 a, .int .u64 b, .slice A ns.length c] w (TellsB true w) := by
  have ho1 : 1 ≤ max a 1 := by omega
  have ho2 : max a 1 ≤ top := by unfold top at *; omega
  have NW := Lib.hid (new_any w a)
  have GR : Hid (∀ w', Calls Try.prog 10 #[.agg #[.int .u64 (max a 1)], .int .u64 b] w' (TellsV (.tuple #[.agg #[.int .u64 (granted (max a 1) b).1], (granted (max a 1) b).2.1.agg, .int .i64 (granted (max a 1) b).2.2]) w')) := Lib.hid fun w' => grant_any w' _ b ho1 ho2 hb
  clear ha0 ha1
  have HN := Lib.hid hn
  have hlm := hn.few
  unfold maxLen at hlm
  clear hn
  generalize hgo : max a 1 = o at *
  by_cases hbad : o = top ∨ late < b
  · have hG : granted o b = (o, Pst.zero, 101) := by unfold granted; rw [if_pos hbad]
    rw [hG] at GR
    unfold Pst.agg Pst.zero at GR
    simp only at GR
    clear hG hbad ho1 ho2 hgo hb
    go_enter Try.func7, Try.ntmps7
    go_wp2_with fail
    refine NW.out.mono ?_
    rintro e w1 ⟨rfl, k1⟩
    have HK1 := Lib.hid k1
    clear NW k1
    go_wp2_with fail
    refine (GR.out _).mono ?_
    rintro e w2 ⟨rfl, k2⟩
    obtain ⟨K3, -, -⟩ := two_boxes w2 #[.int .u64 o] #[.int .i64 0, .int .u64 0, .int .u64 0] 24 27
    have HK3 := Lib.hid ((HK1.out.trans k2 (fun _ _ h => h)).trans K3 (fun _ _ h => h))
    clear GR HK1 k2 K3
    go_wp2_with fail
    refine (alive_any _).mono ?_
    rintro e w4 ⟨rfl, k4⟩
    have HK4 := Lib.hid (HK3.out.trans k4 (fun _ _ h => h))
    clear HK3 k4
    go_wp2
    go_ret
    exact ⟨rfl, HK4.out⟩
  · have hG : granted o b = (o + 1, ⟨2, o, b + 8⟩, 0) := by unfold granted; rw [if_neg hbad]
    rw [hG] at GR
    unfold Pst.agg at GR
    simp only at GR
    have ho3 : o < top := by
      have : o ≠ top := fun h => hbad (.inl h)
      omega
    have hb8 : ¬ late < b := fun h => hbad (.inr h)
    clear hG hbad ho2
    have HO1 := Lib.hid ho1
    have HO3 := Lib.hid ho3
    have H0 := Lib.hid hb
    have H1 := Lib.hid hb1
    clear hb hb1 hb8 hgo ho1 ho3
    go_enter Try.func7, Try.ntmps7
    go_wp2_with fail
    refine NW.out.mono ?_
    rintro e w1 ⟨rfl, k1⟩
    have HK1 := Lib.hid k1
    clear NW k1
    go_wp2_with fail
    refine (GR.out _).mono ?_
    rintro e w2 ⟨rfl, k2⟩
    obtain ⟨K3, Y3, Z3⟩ := two_boxes w2 #[.int .u64 (o + 1)] #[.int .i64 2, .int .u64 o, .int .u64 (b + 8)] 24 27
    have HK3 := Lib.hid ((HK1.out.trans k2 (fun _ _ h => h)).trans K3 (fun _ _ h => h))
    have HY3 := Lib.hid Y3
    have HZ3 := Lib.hid Z3
    have HBW : Hid (w.heap.size ≤ w2.heap.size) := Lib.hid (HK1.out.trans k2 (fun _ _ h => h)).size
    clear GR HK1 k2 K3 Y3 Z3
    go_upto_region 2 with fail
    generalize ((w2.alloc (.cells #[.int .u64 (o + 1)] 24)).alloc (.cells #[.int .i64 2, .int .u64 o, .int .u64 (b + 8)] 27)) = w3 at *
    obtain ⟨c0, c1, c2⟩ := HZ3.out.three
    have HB : Hid (w.heap.size ≤ w2.heap.size + 1) := Lib.hid (Nat.le_succ_of_le HBW.out)
    clear HY3
    generalize w2.heap.size + 1 = B at *
    go_upto_region 5 with fail
    clear c0 c1 c2
    go_wp2
    go_loopw [1, 30] (fun l i wr => ∃ (k : Nat) (n u : Int), k ≤ ns.length ∧ i = .int .i64 k ∧ l = .int .u64 n ∧ 0 ≤ n ∧ n ≤ top ∧ Keep noneOf w wr ∧ Box wr B 27 #[.int .i64 2, .int .u64 o, .int .u64 u]) (fun l i _ => ns.length - (intOf i).toNat)
    case atStart => exact ⟨0, b, b + 8, Nat.zero_le _, rfl, rfl, H0.out, H1.out, HK3.out, HZ3.out⟩
    case round =>
      obtain ⟨k, n, u, hk, rfl, rfl, hn0, hn1, hkeep, hbox⟩ := hrel
      have HKP := Lib.hid hkeep
      have HBX := Lib.hid hbox
      by_cases hlt : k < ns.length
      · have hx := nums_at hlt
        obtain ⟨p, off, rfl, hblk, _, c0⟩ := (HN.out.keep hkeep (fun _ _ _ => id)).cell hx
        have hin := HN.out.2 _ (List.mem_of_getElem? hx)
        generalize ns.getD k 0 = v at *
        have q0 : (0 : Int) ≤ (k : Int) := by omega
        have q1 : (k : Int) < (ns.length : Int) := by omega
        by_cases hov : n + v ≤ top
        · obtain ⟨m, hm⟩ : ∃ m, n + v = m := ⟨_, rfl⟩
          have wm : IntKind.u64.wrap (n + v) = m := (u64_plus hn0 hin.1 hov).trans hm
          rw [hm] at hov
          have gw : ¬ (m < n) := by have := hin.1; omega
          have h0m : 0 ≤ m := by have := hin.1; omega
          have H0M := Lib.hid h0m
          have H1M := Lib.hid hov
          obtain ⟨d0, d1, d2⟩ := hbox.three
          have ho1 := HO1.out
          by_cases hu : m < u
          · by_cases hlate : late < m
            · have RR : Hid (∀ w', Calls Try.prog 14 #[.agg #[.int .i64 2, .int .u64 o, .int .u64 u], .int .u64 o, .int .u64 m] w' (TellsV (.tuple #[.agg #[.int .i64 0, .int .u64 0, .int .u64 0], .int .i64 101]) w')) := Lib.hid fun w' => by
                have h := renew_any w' ⟨2, o, u⟩ o m (by omega) (by omega)
                rw [show renewed ⟨2, o, u⟩ o m = (⟨0, 0, 0⟩, 101) from (by unfold renewed; rw [if_neg (by rw [show holdsB ⟨2, o, u⟩ o m = true from (by unfold holdsB; simp only [beq_self_eq_true, bne_iff_ne, ne_eq, Bool.and_eq_true, decide_eq_true_eq, true_and]; omega)]; decide), if_pos hlate]; rfl)] at h
                exact h
              have gu : ¬ (m ≥ u) := by omega
              clear ho1 hn0 hn1 hin hov h0m hm hkeep hbox hx
              go_wp2_with fail
              refine (RR.out _).mono ?_
              rintro e w4 ⟨rfl, k4⟩
              have ka := (Keep.refl noneOf w4).alloc (.cells #[.int .i64 0, .int .u64 0, .int .u64 0] 27)
              have k5 := k4.trans ka (fun _ _ h => h)
              have HK5 := Lib.hid (HKP.out.trans k5 (fun _ _ h => h))
              have HB5 := Lib.hid (HBX.out.keep k5 id)
              have HU5 := Lib.hid (Box.new w4 27 #[.int .i64 0, .int .u64 0, .int .u64 0])
              clear RR k4 ka k5 c0 d0 d1 d2 HKP HBX
              obtain ⟨d0, d1, d2⟩ := HB5.out.three
              go_wp2_with fail
              refine (alive_any _).mono ?_
              rintro e w6 ⟨rfl, k6⟩
              have HK6 := Lib.hid (HK5.out.trans k6 (fun _ _ h => h))
              clear k6 d0 d1 d2 HK5 HB5 HU5
              go_wp2
              go_ret
              exact ⟨rfl, HK6.out⟩
            · obtain ⟨M, hM⟩ : ∃ M, max u (m + 8) = M := ⟨_, rfl⟩
              have w8 := wrap8 h0m hlate
              have gM1 : decide (M < u) = false := decide_eq_false (by omega)
              have gM2 : decide (M < m + 8) = false := decide_eq_false (by omega)
              have gM3 : (o != o) = false := by rw [bne_self_eq_false]
              have RR : Hid (∀ w', Calls Try.prog 14 #[.agg #[.int .i64 2, .int .u64 o, .int .u64 u], .int .u64 o, .int .u64 m] w' (TellsV (.tuple #[.agg #[.int .i64 2, .int .u64 o, .int .u64 M], .int .i64 0]) w')) := Lib.hid fun w' => by
                have h := renew_any w' ⟨2, o, u⟩ o m (by omega) (by omega)
                rw [show renewed ⟨2, o, u⟩ o m = (⟨2, o, M⟩, 0) from (by unfold renewed; rw [if_neg (by rw [show holdsB ⟨2, o, u⟩ o m = true from (by unfold holdsB; simp only [beq_self_eq_true, bne_iff_ne, ne_eq, Bool.and_eq_true, decide_eq_true_eq, true_and]; omega)]; decide), if_neg hlate]; simp only [hM])] at h
                exact h
              have HT : Hid (∀ w', Calls Try.prog 16 #[.agg #[.int .i64 2, .int .u64 o, .int .u64 M], .int .u64 o, .int .u64 m] w' (TellsB true w')) := Lib.hid fun w' => by
                have h := holds_any w' ⟨2, o, M⟩ o m (by omega)
                rw [show holdsB ⟨2, o, M⟩ o m = true from (by unfold holdsB; simp only [beq_self_eq_true, bne_iff_ne, ne_eq, Bool.and_eq_true, decide_eq_true_eq, true_and]; omega)] at h
                exact h
              clear hM hlate
              have gu : ¬ (m ≥ u) := by omega
              clear ho1 hn0 hn1 hin hov h0m hm hkeep hbox hx
              go_wp2_with fail
              refine (RR.out _).mono ?_
              rintro e w4 ⟨rfl, k4⟩
              have ka := (Keep.refl noneOf w4).alloc (.cells #[.int .i64 2, .int .u64 o, .int .u64 M] 27)
              have k5 := k4.trans ka (fun _ _ h => h)
              have HK5 := Lib.hid (HKP.out.trans k5 (fun _ _ h => h))
              have HB5 := Lib.hid (HBX.out.keep k5 id)
              have HU5 := Lib.hid (Box.new w4 27 #[.int .i64 2, .int .u64 o, .int .u64 M])
              clear RR k4 ka k5 c0 d0 d1 d2 HKP HBX
              obtain ⟨d0, d1, d2⟩ := HB5.out.three
              go_upto_region 12 with fail
              generalize w4.alloc (.cells #[.int .i64 2, .int .u64 o, .int .u64 M] 27) = w5 at *
              clear d0 d1 d2
              have MK : Hid (∀ w', Keep noneOf w5 w' → w'.cell? ⟨B, 0, none⟩ = some (.int .i64 2) ∧ w'.cell? ⟨B, 1, none⟩ = some (.int .u64 o) ∧ w'.cell? ⟨B, 2, none⟩ = some (.int .u64 u) ∧ w'.cell? ⟨w4.heap.size, 0, none⟩ = some (.int .i64 2) ∧ w'.cell? ⟨w4.heap.size, 1, none⟩ = some (.int .u64 o) ∧ w'.cell? ⟨w4.heap.size, 2, none⟩ = some (.int .u64 M)) := Lib.hid fun w' k' => ⟨(HB5.out.keep k' id).cell 0, (HB5.out.keep k' id).cell 1, (HB5.out.keep k' id).cell 2, (HU5.out.keep k' id).cell 0, (HU5.out.keep k' id).cell 1, (HU5.out.keep k' id).cell 2⟩
              have KQ5 : Keep noneOf w5 w5 := Keep.refl _ _
              obtain ⟨d0, d1, d2, e0, e1, e2⟩ := MK.out _ KQ5
              have HKQ5 := Lib.hid KQ5
              clear KQ5
              go_wp2_with fail
              refine (HT.out _).mono ?_
              rintro e w6 ⟨rfl, k6⟩
              have KQ6 := HKQ5.out.trans k6 (fun _ _ h => h)
              clear HKQ5 k6 d0 d1 d2 e0 e1 e2
              obtain ⟨d0, d1, d2, e0, e1, e2⟩ := MK.out _ KQ6
              have HKQ := Lib.hid KQ6
              clear KQ6
              have HK7 := HK5.out.trans HKQ.out (fun _ _ h => h)
              have hB7 := HB5.out.keep HKQ.out id
              have f0 := hB7.free 0
              have f1 := hB7.free 1
              have f2 := hB7.free 2
              have HKA := Lib.hid (HK7.put3 HB.out (.int .i64 2) (.int .u64 o) (.int .u64 M))
              have HBA := Lib.hid (hB7.put3 (.int .i64 2) (.int .u64 o) (.int .u64 M))
              clear HK7 hB7 HKQ HK5 HB5 HU5 MK HT
              go_wp2
              go_roundw
              case rel => exact ⟨k + 1, m, M, by omega, by go_num, rfl, H0M.out, H1M.out, HKA.out, HBA.out⟩
              case measure => simp [intOf]; omega
          · have gu : m ≥ u := by omega
            have RR : Hid (∀ w', Calls Try.prog 14 #[.agg #[.int .i64 2, .int .u64 o, .int .u64 u], .int .u64 o, .int .u64 m] w' (TellsV (.tuple #[.agg #[.int .i64 0, .int .u64 0, .int .u64 0], .int .i64 100]) w')) := Lib.hid fun w' => by
              have h := renew_any w' ⟨2, o, u⟩ o m (by omega) (by omega)
              rw [show renewed ⟨2, o, u⟩ o m = (⟨0, 0, 0⟩, 100) from (by unfold renewed; rw [if_pos (by unfold holdsB; simp only [Bool.and_eq_false_iff, beq_eq_false_iff_ne, bne_eq_false_iff_eq, decide_eq_false_iff_not]; omega)]; rfl)] at h
              exact h
            have HH : Hid (∀ w', Calls Try.prog 16 #[.agg #[.int .i64 2, .int .u64 o, .int .u64 u], .int .u64 o, .int .u64 m] w' (TellsB false w')) := Lib.hid fun w' => by
              have h := holds_any w' ⟨2, o, u⟩ o m (by omega)
              rw [show holdsB ⟨2, o, u⟩ o m = false from (by unfold holdsB; simp only [Bool.and_eq_false_iff, beq_eq_false_iff_ne, bne_eq_false_iff_eq, decide_eq_false_iff_not]; omega)] at h
              exact h
            clear ho1 hn0 hn1 hin hov h0m hm hkeep hbox hx
            go_wp2_with fail
            refine (RR.out _).mono ?_
            rintro e w4 ⟨rfl, k4⟩
            have ka := (Keep.refl noneOf w4).alloc (.cells #[.int .i64 0, .int .u64 0, .int .u64 0] 27)
            have k5 := k4.trans ka (fun _ _ h => h)
            have HK5 := Lib.hid (HKP.out.trans k5 (fun _ _ h => h))
            have HB5 := Lib.hid (HBX.out.keep k5 id)
            have HU5 := Lib.hid (Box.new w4 27 #[.int .i64 0, .int .u64 0, .int .u64 0])
            clear RR k4 ka k5 c0 d0 d1 d2 HKP HBX
            obtain ⟨d0, d1, d2⟩ := HB5.out.three
            go_upto_region 12 with fail
            generalize w4.alloc (.cells #[.int .i64 0, .int .u64 0, .int .u64 0] 27) = w5 at *
            clear d0 d1 d2
            have MK : Hid (∀ w', Keep noneOf w5 w' → w'.cell? ⟨B, 0, none⟩ = some (.int .i64 2) ∧ w'.cell? ⟨B, 1, none⟩ = some (.int .u64 o) ∧ w'.cell? ⟨B, 2, none⟩ = some (.int .u64 u)) := Lib.hid fun w' k' => ⟨(HB5.out.keep k' id).cell 0, (HB5.out.keep k' id).cell 1, (HB5.out.keep k' id).cell 2⟩
            have KQ5 : Keep noneOf w5 w5 := Keep.refl _ _
            obtain ⟨d0, d1, d2⟩ := MK.out _ KQ5
            have HKQ5 := Lib.hid KQ5
            clear KQ5
            go_wp2_with fail
            refine (alive_any _).mono ?_
            rintro e w6 ⟨rfl, k6⟩
            have KQ6 := HKQ5.out.trans k6 (fun _ _ h => h)
            clear HKQ5 k6 d0 d1 d2
            obtain ⟨d0, d1, d2⟩ := MK.out _ KQ6
            have HKQ6 := Lib.hid KQ6
            clear KQ6
            go_wp2_with fail
            refine (HH.out _).mono ?_
            rintro e w7 ⟨rfl, k7⟩
            have KQ7 := HKQ6.out.trans k7 (fun _ _ h => h)
            clear HKQ6 k7 d0 d1 d2
            obtain ⟨d0, d1, d2⟩ := MK.out _ KQ7
            have HKQ := Lib.hid KQ7
            clear KQ7
            go_wp2
            go_ret
            exact ⟨rfl, HK5.out.trans HKQ.out (fun _ _ h => h)⟩
        · have hin1 := hin.2
          have wm : IntKind.u64.wrap (n + v) = n + v - 18446744073709551616 := by
            unfold top at *
            show (n + v) % 18446744073709551616 = _
            omega
          have gw : n + v - 18446744073709551616 < n := by unfold top at *; omega
          clear hn0 hn1 hin hin1 hov hkeep hbox hx
          generalize n + v - 18446744073709551616 = m at *
          go_wp2_with fail
          refine (alive_any _).mono ?_
          rintro e w6 ⟨rfl, k6⟩
          have HK6 := Lib.hid (HKP.out.trans k6 (fun _ _ h => h))
          clear k6 c0
          go_wp2
          go_ret
          exact ⟨rfl, HK6.out⟩
      · have hkn : ¬ ((k : Int) < (ns.length : Int)) := by omega
        clear hlt hkeep hbox hn0 hn1
        go_wp2_with fail
        refine (alive_any wr).mono ?_
        rintro e w5 ⟨rfl, k5⟩
        have K5 := Lib.hid (HKP.out.trans k5 (fun _ _ h => h))
        clear k5
        go_wp2
        go_ret
        exact ⟨rfl, K5.out⟩


namespace LeaseChain
set_option maxRecDepth 100000 in
theorem lifted (os : Os) (started : os.Started) (H : Type) (enc : TypeId × Value → H) :
    ReturnsInHanded {} Try.checked os 7 .any (Rows.leaseChainSpec.pre6 enc Try.prog Try.f7 Rows.leaseChainRow.domain false) (Rows.leaseChainSpec.post enc Try.prog Try.f7 false true false false) := by
  refine returnsInHanded_of_change_sized (C := Try.checked) own started (by kernel_rfl) Try.func7
    (ChangeSpec.witness6 (enc := enc) (C := Try.checked) false ⟨#[], #[.int .u64 0, .int .u64 0, .slice none 0 0], []⟩ 8 (by kernel_rfl) (by kernel_rfl) (by kernel_rfl) (by kernel_rfl)) ?_
  intro W base args ds gs before hval0 hW hcnd hsz _
  have hval : ∀ (j : Nat) t v, Try.f7.params[j]? = some t → args[j]? = some v → Value.okWide Try.prog W .any base t v := hval0
  have hW' := hW
  obtain ⟨p, q, hA0, hV, rfl, hfz, hnd⟩ := hW
  have hA : DataW.TrodAll enc Try.prog W 0 (fun _ => true) true Try.f7.params.toList args.toList ds p := hA0
  rw [Try.params7] at hA hval
  obtain ⟨v0, vs0, d0, ds0, p0, q0, hargs, rfl, rfl, h0, r0⟩ := trodAll_cons hA
  obtain ⟨v1, vs1, d1, ds1, p1, q1, rfl, rfl, rfl, h1, r1⟩ := trodAll_cons r0
  obtain ⟨v2, vs2, d2, ds2, p2, q2, rfl, rfl, rfl, h2, r2⟩ := trodAll_cons r1
  obtain ⟨rfl, rfl, rfl⟩ := trodAll_nil r2
  obtain rfl : args = #[v0, v1, v2] := by cases args; simp_all
  obtain ⟨rfl, rfl⟩ := trodVars_none hV
  have k2 := h2
  have lt2 : ∀ x ∈ p2, x.block < W.heap.size := by obtain ⟨m, hm⟩ := k2; exact DataW.trod_lt m _ _ _ hm
  obtain ⟨a0, rfl, rfl, rfl, w0⟩ := open_int Try.underlying22 (hval 0 22 v0 rfl rfl) h0
  obtain ⟨a1, rfl, rfl, rfl, w1⟩ := open_int Try.underlying22 (hval 1 22 v1 rfl rfl) h1
  obtain ⟨A2, c2, l2, rfl, hl2⟩ := open_arg_nums (hval 2 39 v2 rfl rfl) h2 (light_arg hsz (j := 2) rfl rfl)
  clear hA0 hval0
  refine (chain_walk W a0 a1 (u64_in w0).1 (u64_in w0).2 (u64_in w1).1 (u64_in w1).2 A2 c2 l2 hl2).mono fun e W' ⟨he, bel0⟩ => ?_
  subst he
  have bel := bel0.all
  exact ⟨_, rfl, _, _, _, [], _, [], hW', trodAll_mk1 (shut_bool Try.underlying4 _), (trodAll_cons_mk (shut_int Try.underlying22 w0) (trodAll_cons_mk (shut_int Try.underlying22 w1) (trodAll_cons_mk (Below.trod laidOut (by kernel_rfl) (of_decide_eq_true (by kernel_rfl)) k2 bel lt2) trodAll_mk0))), rfl, bel.frame _, fun h => by cases h⟩

theorem over : Rows.leaseChainRow.holds Try.pinned (OpenSpec.ofChange Rows.leaseChainSpec) :=
  OpenClaim.holds_of_wide 7 Try.f7 rfl rfl rfl rfl rfl rfl rfl ⟨rfl, rfl, rfl, rfl, rfl⟩ rfl rfl rfl rfl rfl (by kernel_rfl) Try.func7 (by kernel_rfl)
    (of_decide_eq_true (by kernel_rfl)) (by unfold Func.isWrapper; first | (rw [if_pos (by decide +kernel)]; kernel_rfl) | (rw [if_neg (by decide +kernel)]; exact ⟨rfl, rfl⟩))
    (fun os started H enc _ => lifted os started H enc)

theorem proved : Rows.LeaseChainSaid := over
end LeaseChain
end Go.Proofs.Ytcanmgoelbgdfaa
