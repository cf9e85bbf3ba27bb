/-
  Proved: dockyardlaw07.GraphOrders answers true for every input that can be read, and leaves its arguments as they were. No conditions.
-/
import Derived.Test.YtbcedkcopikcfaaGrAlive
import Derived.Test.YtbcedkcopikcfaaGrRCheck
import Derived.Test.YtbcedkcopikcfaaGrOpen
import Derived.Test.YtbcedkcopikcfaaGrOrd
namespace Go.Proofs.Ytbcedkcopikcfaa
open Go.ChangeShapes Go.WideShapes Go.ChangeAt Go.RowKit

theorem Ints.take {w : World} {D : Nat → Prop} {A : Option Addr} {n c : Nat} {ns : List Nat} (h : Ints w D (.slice A n c) ns) (k : Nat) (hk : k ≤ ns.length) : Ints w D (.slice A k c) (ns.take k) := by
  obtain ⟨A', c', hv, hlc, hcm, hn, hxl, hc⟩ := h
  obtain ⟨rfl, _, rfl⟩ : A = A' ∧ n = ns.length ∧ c = c' := by simpa using hv
  have hl : (ns.take k).length = k := by rw [List.length_take]; omega
  refine ⟨A, c, by rw [hl], by omega, hcm, hn, by simp, fun h0 => ?_⟩
  rw [hl] at h0
  obtain ⟨ad, rfl, hsp, hblk, hD, hcell⟩ := hc (by omega)
  refine ⟨ad, rfl, hsp, hblk, hD, fun j x hx => hcell j x ?_⟩
  rw [List.getElem?_map] at hx ⊢
  rw [List.getElem?_take] at hx
  split at hx
  · exact hx
  · cases hx

theorem order_at {ps : List Pt} {i p : Nat} (h : (grOrder ps)[i]? = some p) : grCheck ps = 0 ∧ p ∉ (grOrder ps).take i ∧ ∀ n ∈ needsAt ps (p : Int), n ∈ (grOrder ps).take i := by
  unfold grOrder at h ⊢
  by_cases hq : grCheck ps = 0
  · rw [if_pos hq] at h ⊢
    exact ⟨hq, (places_at h).2⟩
  · rw [if_neg hq] at h
    simp at h
theorem order_full {ps : List Pt} (h : grCheck ps = 0) : (grOrder ps).length = ps.length := by
  unfold grOrder
  rw [if_pos h]
  have h1 := (check_fits h).2.2.2
  have h2 := places_le ps
  omega

set_option maxRecDepth 100000 in
set_option maxHeartbeats 4000000 in
theorem orders_walk (w : World) (A : Option Addr) (c : Nat) (ts : List Tg) (h : Tgs w (fun _ => True) (.slice A ts.length c) ts) :
    Calls Try.prog 5 #[.agg #[.slice A ts.length c]] w fun e w' => e = .returned (.bool true) ∧ Keep noneOf w w' := by
  have HH := Lib.hid h
  have hcm : ts.length ≤ c ∧ c ≤ maxLen := by
    obtain ⟨A', c', hv, h1, h2, _⟩ := h.1
    obtain ⟨_, rfl⟩ : A = A' ∧ c = c' := by simpa using hv
    exact ⟨h1, h2⟩
  obtain ⟨hlc, hcm⟩ := hcm
  unfold maxLen at hcm
  have ka := (Keep.refl noneOf w).alloc (.cells #[.slice A ts.length c] 24)
  have HK0 := Lib.hid ka
  have HX0 := Lib.hid (Box.new w 24 #[.slice A ts.length c])
  have HO := Lib.hid (order_any _ _ _ ts (h.keep ka (fun _ _ _ => id)))
  have HAT : Hid (∀ (i p : Nat), (grOrder (ts.map Tg.plain))[i]? = some p → _) := fun i p hp => order_at hp
  have HFULL := Lib.hid (show grCheck (ts.map Tg.plain) = 0 → (grOrder (ts.map Tg.plain)).length = ts.length from fun hq => by rw [order_full hq, List.length_map])
  have HFEW := Lib.hid (show grCheck (ts.map Tg.plain) = 0 → fewNeeds ts from fun hq => (fits_few (check_fits hq).1).2)
  clear h ka
  go_enter Try.func5, Try.ntmps5
  go_wp2_with fail
  refine HO.out.mono ?_
  rintro e w1 ⟨v1, rfl, i1, k1⟩
  have K1 := HK0.out.trans k1 (fun _ _ h => h)
  have X1 := HX0.out.keep k1 id
  obtain ⟨A1, c1, hv1⟩ := i1.shape
  subst hv1
  clear HO HK0 HX0 k1
  have HX1 := Lib.hid X1
  have HK1 := Lib.hid K1
  have HI1 := Lib.hid i1
  clear X1 K1 i1
  go_wp2_with fail
  refine (alive_any w1).mono ?_
  rintro e w2 ⟨rfl, k2⟩
  have X2 := HX1.out.keep k2 id
  have K2 := HK1.out.trans k2 (fun _ _ h => h)
  have x2 : w2.cell? ⟨w.heap.size, 0, none⟩ = some (.slice A ts.length c) := X2.cell 0
  have RO := Lib.hid (refOrder_any w2 _ _ ts (HH.out.keep K2 (fun _ _ _ => id)))
  have HI2 := Lib.hid (HI1.out.keep k2 (fun _ _ _ => id))
  have HX2 := Lib.hid X2
  have HK2 := Lib.hid K2
  clear k2 X2 K2 HX1 HK1 HI1
  go_wp2_with fail
  refine RO.out.mono ?_
  rintro e w3 ⟨v3, rfl, i3, k3⟩
  obtain ⟨A3, c3, hv3⟩ := i3.shape
  subst hv3
  have HI3 := Lib.hid (HI2.out.keep k3 (fun _ _ _ => id))
  have HX3 := Lib.hid (HX2.out.keep k3 id)
  have HK3 := Lib.hid (HK2.out.trans k3 (fun _ _ h => h))
  have IT := ints_any w3 _ _ _ _ _ _ HI3.out i3
  rw [show decide (grOrder (ts.map Tg.plain) = grOrder (ts.map Tg.plain)) = true from decide_eq_true rfl] at IT
  have HIT := Lib.hid IT
  clear IT i3 k3 RO x2 HX2 HK2 HI2
  go_wp2_with fail
  refine HIT.out.mono ?_
  rintro e w4 ⟨rfl, k4⟩
  have HI4 := Lib.hid (HI3.out.keep k4 (fun _ _ _ => id))
  have HX4 := Lib.hid (HX3.out.keep k4 id)
  have HK4 := Lib.hid (HK3.out.trans k4 (fun _ _ h => h))
  have hmx := HI4.out.choose_spec.choose_spec.2.1
  have hln : (grOrder (ts.map Tg.plain)).length ≤ maxLen := by
    obtain ⟨_, c9, _, h1, h2, _⟩ := HI4.out
    exact Nat.le_trans h1 h2
  unfold maxLen at hln
  clear k4 HI3 HX3 HK3 HIT hmx
  have NE : Hid (∀ (w' : World) (p : Nat), Keep noneOf w w' → grCheck (ts.map Tg.plain) = 0 → Calls Try.prog 14 #[.agg #[.slice A ts.length c], .int .i64 (p : Int)] w' (ToldInts (needsAt (ts.map Tg.plain) (p : Int)) w')) := fun w' p k' hq => needs_any w' _ _ ts (p : Int) (HH.out.keep k' (fun _ _ _ => id)) (HFEW.out hq)
  have CK : Hid (∀ (w' : World), Keep noneOf w w' → Calls Try.prog 9 #[.agg #[.slice A ts.length c]] w' fun e w'' => e = .returned (.int .i64 (grCheck (ts.map Tg.plain))) ∧ Keep noneOf w' w'') := fun w' k' => check_any w' _ _ ts (HH.out.keep k' (fun _ _ _ => id))
  generalize grOrder (ts.map Tg.plain) = ord at *
  generalize grCheck (ts.map Tg.plain) = chk at *
  generalize needsAt (ts.map Tg.plain) = na at *
  clear HH HFEW
  go_wp2
  generalize w4 = W4 at *
  go_loopw [20] (fun i wx => ∃ k : Nat, k ≤ ord.length ∧ i = .int .i64 k ∧ Keep noneOf W4 wx) (fun i _ => ord.length - (intOf i).toNat)
  case atStart => exact ⟨0, Nat.zero_le _, rfl, Keep.refl _ _⟩
  case round =>
    obtain ⟨k, hk, rfl, hkw⟩ := hrel
    have HKW := Lib.hid hkw
    have HKW0 := Lib.hid (HK4.out.trans hkw (fun _ _ h => h))
    have X5 := HX4.out.keep hkw id
    have I5 := HI4.out.keep hkw (fun _ _ _ => id)
    clear hkw
    by_cases hlt : k < ord.length
    · obtain ⟨A5, c5, hv5, hl5, hm5, _, _, hrow5⟩ := id I5
      obtain ⟨rfl, rfl⟩ : A1 = A5 ∧ c1 = c5 := by simpa using hv5
      obtain ⟨ad, rfl, hsp, hblk, _, hcell⟩ := hrow5 (by omega)
      obtain ⟨b1, o1, sp⟩ := ad
      simp only at hsp hblk hcell
      subst hsp
      unfold maxLen at hm5
      have hck : wr.cell? ⟨b1, o1 + k, none⟩ = some (.int .i64 (ord[k] : Int)) := hcell k _ (by rw [List.getElem?_map, List.getElem?_eq_getElem hlt]; rfl)
      obtain ⟨hq0, hnew, hneeds⟩ := HAT.out k ord[k] (List.getElem?_eq_getElem hlt)
      generalize ord[k] = p at *
      have MK : Hid (∀ w', Keep noneOf wr w' → w'.cell? ⟨w.heap.size, 0, none⟩ = some (.slice A ts.length c) ∧ w'.cell? ⟨b1, o1 + k, none⟩ = some (.int .i64 (p : Int))) := fun w' k' => ⟨(X5.keep k' id).cell 0, (k'.cell (p := ⟨b1, o1 + k, none⟩) hblk id).trans hck⟩
      have NP : Hid (∀ w', Keep noneOf wr w' → Calls Try.prog 14 #[.agg #[.slice A ts.length c], .int .i64 (p : Int)] w' (ToldInts (na (p : Int)) w')) := fun w' k' => NE.out w' p (HKW0.out.trans k' (fun _ _ h => h)) hq0
      have HNEW := Lib.hid hnew
      have HNEEDS := Lib.hid hneeds
      have HI5 := Lib.hid I5
      generalize na (p : Int) = ns at *
      have K00 := Keep.refl noneOf wr
      clear hrow5 hcell hck hnew hneeds I5 X5 hq0 hv5
      have g1 : (0 : Int) ≤ (k : Int) := by omega
      have g2 : (k : Int) < (ord.length : Int) := by omega
      go_wp2
      go_region_held3 (fun w' => Keep noneOf wr w' ∧ w'.cell? ⟨w.heap.size, 0, none⟩ = some (.slice A ts.length c) ∧ w'.cell? ⟨b1, o1 + k, none⟩ = some (.int .i64 (p : Int))) (first | exact ⟨K00.drew, MK.out _ K00.drew⟩ | (refine (fun k => ⟨k, MK.out _ k⟩) ?_; exact Keep.trans (And.left (by assumption)) (by assumption) (fun _ _ h => h)))
        (first | (go_at_call 14; refine (NP.out _ (And.left (by assumption))).mono ?_; rintro e w' ⟨v', rfl, hi', k'⟩; obtain ⟨A', c', hv'⟩ := hi'.shape; subst hv'))
      have k5 : Keep noneOf wr w' := K00.drew.trans k' (fun _ _ h => h)
      have HK6 := Lib.hid (HKW.out.trans k5 (fun _ _ h => h))
      have HI6 := Lib.hid (HI5.out.keep k5 (fun _ _ _ => id))
      have c6 := (MK.out _ k5).2
      have HC6 := Lib.hid c6
      have hblk6 : b1 < w'.heap.size := Nat.lt_of_lt_of_le hblk k5.size
      obtain ⟨A7, c7, hv7, hl7, hm7, _, _, hrow7⟩ := hi'
      obtain ⟨rfl, rfl⟩ : A' = A7 ∧ c' = c7 := by simpa using hv7
      unfold maxLen at hm7
      have HROW7 := Lib.hid hrow7
      clear k5 k' NP MK K00 HKW HI5 hv7 hrow7 c6
      go_wp2
      generalize w' = W6 at *
      go_loopw [30] (fun i wx => ∃ j : Nat, j ≤ ns.length ∧ i = .int .i64 j ∧ W6 = wx) (fun i _ => ns.length - (intOf i).toNat)
      case atStart => exact ⟨0, Nat.zero_le _, rfl, rfl⟩
      case round =>
        obtain ⟨j, hj, rfl, rfl⟩ := hrel
        by_cases hjl : j < ns.length
        · obtain ⟨ad7, rfl, hsp7, hblk7, _, hcell7⟩ := HROW7.out (by omega)
          obtain ⟨b7, o7, sp7⟩ := ad7
          simp only at hsp7 hblk7 hcell7
          subst hsp7
          have hc7 : W6.cell? ⟨b7, o7 + j, none⟩ = some (.int .i64 (ns[j] : Int)) := hcell7 j _ (by rw [List.getElem?_map, List.getElem?_eq_getElem hjl]; rfl)
          have hmem := HNEEDS.out ns[j] (List.getElem_mem hjl)
          generalize ns[j] = m at *
          have IN := in_any W6 _ _ (ord.take k) m (HI6.out.take k hk)
          rw [List.contains_iff_mem.2 hmem] at IN
          have HIN := Lib.hid IN
          clear IN hmem hcell7
          go_wp2_with fail
          refine HIN.out.mono ?_
          rintro e w8 ⟨rfl, rfl⟩
          go_wp2
          go_roundw
          case rel => exact ⟨j + 1, by omega, by go_num, by first | rfl | trivial⟩
          case measure => simp [intOf]; omega
        · have hjn : ¬ ((j : Int) < (ns.length : Int)) := by omega
          have hno : (ord.take k).contains p = false := by
            cases hb : (ord.take k).contains p with
            | false => rfl
            | true => exact absurd (List.contains_iff_mem.1 hb) HNEW.out
          have IN : Hid (∀ w', Keep noneOf W6 w' → Calls Try.prog 18 #[.slice (some ⟨b1, o1, none⟩) k c1, .int .i64 (p : Int)] w' fun e w'' => e = .returned (.bool false) ∧ w' = w'') := fun w' k' => by
            have := in_any w' _ _ (ord.take k) p ((HI6.out.keep k' (fun _ _ _ => id)).take k hk)
            rwa [hno] at this
          have MK : Hid (∀ w', Keep noneOf W6 w' → w'.cell? ⟨b1, o1 + k, none⟩ = some (.int .i64 (p : Int))) := fun w' k' => (k'.cell (p := ⟨b1, o1 + k, none⟩) hblk6 id).trans HC6.out
          have K66 := Keep.refl noneOf W6
          clear hno hjl
          have g5 : (k : Int) ≤ (c1 : Int) := by omega
          have g6 : k ≤ c1 := by omega
          go_wp2
          refine wp_region_in (fun w' => Keep noneOf W6 w' ∧ w'.cell? ⟨b1, o1 + k, none⟩ = some (.int .i64 (p : Int))) (by kernel_rfl) (by kernel_rfl) ⟨K66.drew, MK.out _ K66.drew⟩ ?_
          repeat
            first
            | go_big_quiet_skip
            | go_big_quiet_want
              go_big_quiet_op
              go_big_quiet_on
            | go_big_quiet_want
              apply quiet_calls
              case he => intro w'; go_simp; exact ⟨rfl, rfl⟩
              case h =>
                intro w' hw'
                go_at_call 18
                refine (IN.out _ hw'.1).mono ?_
                rintro e w'' ⟨rfl, rfl⟩
                exact ⟨rfl, hw'⟩
              simp only [Act.put, List.setIfInBounds_toArray, List.set_cons_zero, List.set_cons_succ]
              go_big_quiet_on
            | go_big_quiet_want
              apply quiet_reads
              case h =>
                intro w' hw'
                try dsimp only at hw'
                go_split_ands
                go_simp
                rfl
              simp only [Act.put, List.setIfInBounds_toArray, List.set_cons_zero, List.set_cons_succ]
              go_big_quiet_on
          refine wpQuiet_nil ?_
          intro w9 hw9
          have HK9 := Lib.hid (HK6.out.trans hw9.1 (fun _ _ h => h))
          clear hw9 K66 MK IN
          go_wp2
          go_roundw
          case rel => exact ⟨k + 1, by omega, by go_num, HK9.out⟩
          case measure => simp [intOf]; omega
    · have hkn : ¬ ((k : Int) < (ord.length : Int)) := by omega
      have x5 : wr.cell? ⟨w.heap.size, 0, none⟩ = some (.slice A ts.length c) := X5.cell 0
      have HCK := Lib.hid (CK.out wr HKW0.out)
      have HX5 := Lib.hid X5
      clear hlt X5 I5
      go_wp2_with fail
      refine HCK.out.mono ?_
      rintro e w8 ⟨rfl, k8⟩
      have x8 : w8.cell? ⟨w.heap.size, 0, none⟩ = some (.slice A ts.length c) := (HX5.out.keep k8 id).cell 0
      have HK8 := Lib.hid (HKW0.out.trans k8 (fun _ _ h => h))
      clear k8 HCK
      by_cases hq : chk = 0
      · subst hq
        have HL := Lib.hid (HFULL.out rfl)
        go_wp2
        go_ret
        refine ⟨ret_bool ?_, HK8.out⟩
        rw [HL.out]
        simp
      · have g : (chk != 0) = true := by rw [bne_iff_ne]; exact hq
        have g' : (chk == 0) = false := by rw [beq_eq_false_iff_ne]; exact hq
        clear hq
        go_wp2
        go_ret
        exact ⟨rfl, HK8.out⟩

namespace GraphOrders
set_option maxRecDepth 100000 in
theorem lifted (os : Os) (started : os.Started) (H : Type) (enc : TypeId × Value → H) :
    ReturnsInHanded {} Try.checked os 5 .any (Rows.graphOrdersSpec.pre6 enc Try.prog Try.f5 Rows.graphOrdersRow.domain false) (Rows.graphOrdersSpec.post enc Try.prog Try.f5 false true false false) := by
  refine returnsInHanded_of_change_sized (C := Try.checked) own started (by kernel_rfl) Try.func5
    (ChangeSpec.witness6 (enc := enc) (C := Try.checked) false ⟨#[], #[.agg #[.slice none 0 0]], []⟩ 8 (by kernel_rfl) (by kernel_rfl) (by kernel_rfl) (by kernel_rfl)) ?_
  intro W base args ds gs before hval0 hW hcnd hsz _
  have hval : ∀ (j : Nat) t v, Try.f5.params[j]? = some t → args[j]? = some v → Value.okWide Try.prog W .any base t v := hval0
  have hW' := hW
  obtain ⟨p, q, hA0, hV, rfl, hfz, hnd⟩ := hW
  have hA : DataW.TrodAll enc Try.prog W 0 (fun _ => true) true Try.f5.params.toList args.toList ds p := hA0
  rw [Try.params5] at hA hval
  obtain ⟨v0, vs0, d0, ds0, p0, q0, hargs, rfl, rfl, h0, r0⟩ := trodAll_cons hA
  obtain ⟨rfl, rfl, rfl⟩ := trodAll_nil r0
  obtain rfl : args = #[v0] := by cases args; simp_all
  obtain ⟨rfl, rfl⟩ := trodVars_none hV
  have k0 := h0
  have lt0 : ∀ x ∈ p0, x.block < W.heap.size := by obtain ⟨m, hm⟩ := k0; exact DataW.trod_lt m _ _ _ hm
  obtain ⟨A0, c0, ts0, rfl, hts0, _, _⟩ := open_graph (hval 0 24 v0 rfl rfl) h0 (light_arg hsz (j := 0) rfl rfl)
  clear hA0 hval0
  refine (orders_walk W A0 c0 ts0 hts0).mono fun e W' ⟨he, bel0⟩ => ?_
  subst he
  have bel := bel0.all
  exact ⟨_, rfl, _, _, _, [], _, [], hW', trodAll_mk1 (shut_bool Try.underlying4 _), (trodAll_cons_mk (Below.trod laidOut (by kernel_rfl) (of_decide_eq_true (by kernel_rfl)) k0 bel lt0) trodAll_mk0), rfl, bel.frame _, fun h => by cases h⟩

theorem over : Rows.graphOrdersRow.holds Try.pinned (OpenSpec.ofChange Rows.graphOrdersSpec) :=
  OpenClaim.holds_of_wide 5 Try.f5 rfl rfl rfl rfl rfl rfl rfl ⟨rfl, rfl, rfl, rfl, rfl⟩ rfl rfl rfl rfl rfl (by kernel_rfl) Try.func5 (by kernel_rfl)
    (of_decide_eq_true (by kernel_rfl)) (by unfold Func.isWrapper; first | (rw [if_pos (by decide +kernel)]; kernel_rfl) | (rw [if_neg (by decide +kernel)]; exact ⟨rfl, rfl⟩))
    (fun os started H enc _ => lifted os started H enc)

theorem proved : Rows.GraphOrdersSaid := over
end GraphOrders
end Go.Proofs.Ytbcedkcopikcfaa
