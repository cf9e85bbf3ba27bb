/-
  ConfigBack: a learner that is added and removed again leaves what was; one that is promoted is a voter, and nobody else changes.
-/
import Derived.Test.YtmncjibokpieoaaCfApply
import Derived.Test.YtmncjibokpieoaaCfAlive
import Derived.Test.YtmncjibokpieoaaCfMath
import Derived.Test.YtmncjibokpieoaaCfOpen
namespace Go.Proofs.Ytmncjibokpieoaa
open Go.RowKit Go.ChangeShapes Go.WideShapes Go.Deep

set_option maxRecDepth 100000 in
set_option maxHeartbeats 16000000 in
theorem back_walk (w : World) (v : Value) (c : Cf) (node : Int) (h : CfAt w (fun _ => True) v c) (hfv : c.v.length ≤ 17592186043904) :
    Calls Try.prog 7 #[v, .int .i64 node] w (TellsB true w) := by
  have HH := Lib.hid h
  obtain ⟨_, _, rfl, h1, h2⟩ := h
  obtain ⟨A, ca, rfl, _⟩ := h1.shape
  obtain ⟨B, cb, rfl, _⟩ := h2.shape
  have K0 := (Keep.refl noneOf w).alloc (.cells #[.slice A c.v.length ca, .slice B c.l.length cb] 24)
  have HX0 := Lib.hid (Box.new w 24 #[.slice A c.v.length ca, .slice B c.l.length cb])
  have HK0 := Lib.hid K0
  have HAP := Lib.hid (apply_any _ _ _ c 1 node (HH.out.keepN K0))
  clear h1 h2 K0
  go_enter Try.func7, Try.ntmps7
  by_cases hz : (apP c 1 node).2 = 0
  · obtain ⟨hv, hnv, hnl, ea, eb, eu⟩ := add_parts hz
    have HVA := Lib.hid hv
    have HNV := Lib.hid hnv
    have HNL := Lib.hid hnl
    rw [ea] at HAP
    clear hz ea hv hnv hnl
    go_wp2_with fail
    refine HAP.out.mono ?_
    rintro e w1 ⟨vd, rfl, ⟨_, _, rfl, hd0, hd1⟩, k1⟩
    obtain ⟨D0, cd0, rfl, _⟩ := hd0.shape
    obtain ⟨D1, cd1, rfl, _⟩ := hd1.shape
    obtain ⟨nl, hnl⟩ : ∃ nl, withP c.l node = nl := ⟨_, rfl⟩
    simp only [hnl] at hd0 hd1 eb eu ⊢
    have ka : Keep noneOf w1 (w1.alloc (.cells #[.slice D0 c.v.length cd0, .slice D1 nl.length cd1] 24)) := (Keep.refl noneOf w1).alloc _
    have HK2 := Lib.hid ((HK0.out.trans k1 (fun _ _ h => h)).trans ka (fun _ _ h => h))
    have HY0 := Lib.hid ((HX0.out.keep k1 id).keep ka id)
    have HYD := Lib.hid (Box.new w1 24 #[.slice D0 c.v.length cd0, .slice D1 nl.length cd1])
    have HCD : Hid (CfAt (w1.alloc (.cells #[.slice D0 c.v.length cd0, .slice D1 nl.length cd1] 24)) (fun _ => True) (.agg #[.slice D0 c.v.length cd0, .slice D1 nl.length cd1]) ⟨c.v, nl⟩) := ⟨_, _, rfl, hd0.keepN ka, hd1.keepN ka⟩
    have HNLE := Lib.hid hnl
    have HAB := Lib.hid (fun (w' : World) (k : Keep noneOf (w1.alloc (.cells #[.slice D0 c.v.length cd0, .slice D1 nl.length cd1] 24)) w') => apply_any w' _ _ ⟨c.v, nl⟩ 3 node (HCD.out.keepN k))
    have HAU := Lib.hid (fun (w' : World) (k : Keep noneOf (w1.alloc (.cells #[.slice D0 c.v.length cd0, .slice D1 nl.length cd1] 24)) w') => apply_any w' _ _ ⟨c.v, nl⟩ 2 node (HCD.out.keepN k))
    rw [eb] at HAB
    rw [eu] at HAU
    have y0 : (w1.alloc (.cells #[.slice D0 c.v.length cd0, .slice D1 nl.length cd1] 24)).cell? ⟨w1.heap.size, 0, none⟩ = some (.slice D0 c.v.length cd0) := HYD.out.cell 0
    have y1 : (w1.alloc (.cells #[.slice D0 c.v.length cd0, .slice D1 nl.length cd1] 24)).cell? ⟨w1.heap.size, 1, none⟩ = some (.slice D1 nl.length cd1) := HYD.out.cell 1
    have HAB1 := Lib.hid (HAB.out _ (Keep.refl _ _))
    have hl1 := HYD.out.lt
    clear hnl hd0 hd1 k1 ka HAP HX0 eb eu HAB
    go_upto_region 4 with fail
    generalize w1.alloc (.cells #[.slice D0 c.v.length cd0, .slice D1 nl.length cd1] 24) = w2 at *
    generalize w1.heap.size = pd at *
    go_wp2_with fail
    refine HAB1.out.mono ?_
    rintro e w3 ⟨vb, rfl, ⟨_, _, rfl, hb0, hb1⟩, k3⟩
    obtain ⟨B0, cb0, rfl, _⟩ := hb0.shape
    obtain ⟨B1, cb1, rfl, _⟩ := hb1.shape
    have kb : Keep noneOf w3 (w3.alloc (.cells #[.slice B0 c.v.length cb0, .slice B1 c.l.length cb1] 24)) := (Keep.refl noneOf w3).alloc _
    have HK24 := Lib.hid (k3.trans kb (fun _ _ h => h))
    have HYB := Lib.hid (Box.new w3 24 #[.slice B0 c.v.length cb0, .slice B1 c.l.length cb1])
    have HCB : Hid (CfAt (w3.alloc (.cells #[.slice B0 c.v.length cb0, .slice B1 c.l.length cb1] 24)) (fun _ => True) (.agg #[.slice B0 c.v.length cb0, .slice B1 c.l.length cb1]) c) := ⟨_, _, rfl, hb0.keepN kb, hb1.keepN kb⟩
    have HAU1 := Lib.hid (HAU.out _ HK24.out)
    have hl3 := HYB.out.lt
    have Y4 := HYD.out.keep HK24.out id
    clear y0 y1 hb0 hb1 k3 kb HAB1 HAU
    have y0 : (w3.alloc (.cells #[.slice B0 c.v.length cb0, .slice B1 c.l.length cb1] 24)).cell? ⟨pd, 0, none⟩ = some (.slice D0 c.v.length cd0) := Y4.cell 0
    have y1 : (w3.alloc (.cells #[.slice B0 c.v.length cb0, .slice B1 c.l.length cb1] 24)).cell? ⟨pd, 1, none⟩ = some (.slice D1 nl.length cd1) := Y4.cell 1
    clear Y4
    go_upto_region 5 with fail
    generalize w3.alloc (.cells #[.slice B0 c.v.length cb0, .slice B1 c.l.length cb1] 24) = w4 at *
    generalize w3.heap.size = pb at *
    go_wp2_with fail
    refine HAU1.out.mono ?_
    rintro e w5 ⟨vu, rfl, ⟨_, _, rfl, hu0, hu1⟩, k5⟩
    obtain ⟨U0, cu0, rfl, _⟩ := hu0.shape
    obtain ⟨U1, cu1, rfl, _⟩ := hu1.shape
    obtain ⟨nv, hnv⟩ : ∃ nv, withP c.v node = nv := ⟨_, rfl⟩
    simp only [hnv] at hu0 hu1 ⊢
    have ku : Keep noneOf w5 (w5.alloc (.cells #[.slice U0 nv.length cu0, .slice U1 c.l.length cu1] 24)) := (Keep.refl noneOf w5).alloc _
    have HK46 := Lib.hid (k5.trans ku (fun _ _ h => h))
    have HK26 := Lib.hid (HK24.out.trans HK46.out (fun _ _ h => h))
    have HK6 := Lib.hid (HK2.out.trans HK26.out (fun _ _ h => h))
    have HYU := Lib.hid (Box.new w5 24 #[.slice U0 nv.length cu0, .slice U1 c.l.length cu1])
    have HCU : Hid (CfAt (w5.alloc (.cells #[.slice U0 nv.length cu0, .slice U1 c.l.length cu1] 24)) (fun _ => True) (.agg #[.slice U0 nv.length cu0, .slice U1 c.l.length cu1]) ⟨nv, c.l⟩) := ⟨_, _, rfl, hu0.keepN ku, hu1.keepN ku⟩
    have HNVE := Lib.hid hnv
    have HVL := Lib.hid (show nv.length = c.v.length + 1 by rw [← hnv]; exact with_len HVA.out.vs HNV.out)
    clear y0 y1 hu0 hu1 k5 ku HAU1 hnv
    go_upto_region 6 with fail
    generalize w5.alloc (.cells #[.slice U0 nv.length cu0, .slice U1 c.l.length cu1] 24) = w6 at *
    generalize w5.heap.size = pu at *
    have MC : Hid (∀ w', Keep noneOf w6 w' → w'.cell? ⟨w.heap.size, 0, none⟩ = some (.slice A c.v.length ca) ∧ w'.cell? ⟨w.heap.size, 1, none⟩ = some (.slice B c.l.length cb) ∧ w'.cell? ⟨pd, 0, none⟩ = some (.slice D0 c.v.length cd0) ∧ w'.cell? ⟨pd, 1, none⟩ = some (.slice D1 nl.length cd1) ∧ w'.cell? ⟨pb, 0, none⟩ = some (.slice B0 c.v.length cb0) ∧ w'.cell? ⟨pb, 1, none⟩ = some (.slice B1 c.l.length cb1) ∧ w'.cell? ⟨pu, 0, none⟩ = some (.slice U0 nv.length cu0) ∧ w'.cell? ⟨pu, 1, none⟩ = some (.slice U1 c.l.length cu1)) := fun w' k => by
      have a := HY0.out.keep (HK26.out.trans k (fun _ _ h => h)) id
      have b := HYD.out.keep (HK26.out.trans k (fun _ _ h => h)) id
      have d := HYB.out.keep (HK46.out.trans k (fun _ _ h => h)) id
      have f := HYU.out.keep k id
      exact ⟨a.cell 0, a.cell 1, b.cell 0, b.cell 1, d.cell 0, d.cell 1, f.cell 0, f.cell 1⟩
    have HC6 := Lib.hid (HH.out.keepN HK6.out)
    have HB6 := Lib.hid (HCB.out.keepN HK46.out)
    have HD6 := Lib.hid (HCD.out.keepN HK26.out)
    have S1 := Lib.hid (rsame_any w6 _ _ _ _ c c HB6.out HC6.out)
    have S2 := Lib.hid (fun (w' : World) (k : Keep noneOf w6 w') => votes_any w' _ _ ⟨nv, c.l⟩ node (HCU.out.keepN k))
    have S3 := Lib.hid (fun (w' : World) (k : Keep noneOf w6 w') => votes_any w' _ _ ⟨c.v, nl⟩ node (HD6.out.keepN k))
    have S4 := Lib.hid (fun (w' : World) (k : Keep noneOf w6 w') => has_any w' _ _ ⟨c.v, nl⟩ node (HD6.out.keepN k))
    rw [same_iff.2 rfl] at S1
    have p2 : inP (Cf.mk nv c.l).v node = true := inP_true.2 (by show node ∈ nv; rw [← HNVE.out]; exact withP_mem.2 (.inr rfl))
    have p3 : inP (Cf.mk c.v nl).v node = false := inP_false.2 HNV.out
    have p4 : hasP ⟨c.v, nl⟩ node = true := has_iff.2 (.inr (by show node ∈ nl; rw [← HNLE.out]; exact withP_mem.2 (.inr rfl)))
    rw [p2] at S2
    rw [p3] at S3
    rw [p4] at S4
    clear p2 p3 p4
    obtain ⟨x0, x1, y0, y1, z0, z1, u0, u1⟩ := MC.out _ (Keep.refl _ _)
    go_wp2_with fail
    refine S1.out.mono ?_
    rintro e w7 ⟨rfl, k7⟩
    have HK7 := Lib.hid k7
    clear x0 x1 y0 y1 z0 z1 u0 u1 k7
    obtain ⟨x0, x1, y0, y1, z0, z1, u0, u1⟩ := MC.out _ HK7.out
    go_wp2_with fail
    refine (S2.out _ HK7.out).mono ?_
    rintro e w8 ⟨rfl, k8⟩
    have HK8 := Lib.hid (HK7.out.trans k8 (fun _ _ h => h))
    clear x0 x1 y0 y1 z0 z1 u0 u1 k8
    obtain ⟨x0, x1, y0, y1, z0, z1, u0, u1⟩ := MC.out _ HK8.out
    go_wp2_with fail
    refine (S3.out _ HK8.out).mono ?_
    rintro e w9 ⟨rfl, k9⟩
    have HK9 := Lib.hid (HK8.out.trans k9 (fun _ _ h => h))
    clear x0 x1 y0 y1 z0 z1 u0 u1 k9
    obtain ⟨x0, x1, y0, y1, z0, z1, u0, u1⟩ := MC.out _ HK9.out
    go_wp2_with fail
    refine (S4.out _ HK9.out).mono ?_
    rintro e w10 ⟨rfl, k10⟩
    have HK10 := Lib.hid (HK9.out.trans k10 (fun _ _ h => h))
    clear x0 x1 y0 y1 z0 z1 u0 u1 k10 S1 S2 S3 S4
    go_wp2
    go_loopw [65] (fun i wr => ∃ k : Nat, k ≤ 8 ∧ i = .int .i64 k ∧ Keep noneOf w6 wr) (fun i _ => 8 - (intOf i).toNat)
    case atStart => exact ⟨0, by omega, rfl, HK10.out⟩
    case round =>
      obtain ⟨k, hk, rfl, hkw⟩ := hrel
      have HKW := Lib.hid hkw
      by_cases hlt : k < 8
      · have q1 : (k : Int) < 8 := by omega
        have K00 := Keep.refl noneOf wr
        have MK : Hid (∀ w', Keep noneOf wr w' → w'.cell? ⟨w.heap.size, 0, none⟩ = some (.slice A c.v.length ca) ∧ w'.cell? ⟨w.heap.size, 1, none⟩ = some (.slice B c.l.length cb) ∧ w'.cell? ⟨pu, 0, none⟩ = some (.slice U0 nv.length cu0) ∧ w'.cell? ⟨pu, 1, none⟩ = some (.slice U1 c.l.length cu1)) := fun w' k => by
          obtain ⟨a, b, _, _, _, _, e, f⟩ := MC.out _ (HKW.out.trans k (fun _ _ h => h))
          exact ⟨a, b, e, f⟩
        have V1 := Lib.hid (fun (w' : World) (kk : Keep noneOf wr w') => votes_any w' _ _ ⟨nv, c.l⟩ (k : Int) (HCU.out.keepN (HKW.out.trans kk (fun _ _ h => h))))
        have V2 := Lib.hid (fun (w' : World) (kk : Keep noneOf wr w') => votes_any w' _ _ c (k : Int) (HC6.out.keepN (HKW.out.trans kk (fun _ _ h => h))))
        have V3 := Lib.hid (fun (w' : World) (kk : Keep noneOf wr w') => has_any w' _ _ ⟨nv, c.l⟩ (k : Int) (HCU.out.keepN (HKW.out.trans kk (fun _ _ h => h))))
        have V4 := Lib.hid (fun (w' : World) (kk : Keep noneOf wr w') => has_any w' _ _ c (k : Int) (HC6.out.keepN (HKW.out.trans kk (fun _ _ h => h))))
        clear hkw
        by_cases hne : (k : Int) = node
        · have g : ((k : Int) != node) = false := by simp [hne]
          clear hne V1 V2 V3 V4
          go_wp2
          refine wp_region_in (fun w' => Keep noneOf wr w' ∧ w'.cell? ⟨w.heap.size, 0, none⟩ = some (.slice A c.v.length ca) ∧ w'.cell? ⟨w.heap.size, 1, none⟩ = some (.slice B c.l.length cb) ∧ w'.cell? ⟨pu, 0, none⟩ = some (.slice U0 nv.length cu0) ∧ w'.cell? ⟨pu, 1, none⟩ = some (.slice U1 c.l.length cu1)) (by kernel_rfl) (by kernel_rfl) ⟨K00.drew, MK.out _ K00.drew⟩ ?_
          repeat
            first
            | go_big_quiet_skip
            | go_big_quiet_want
              go_big_quiet_op
              go_big_quiet_on
            | go_big_quiet_want
              apply quiet_reads
              case h =>
                intro w' hw'
                try dsimp only at hw'
                go_split_ands
                go_simp
                rfl
              simp only [Act.put, List.setIfInBounds_toArray, List.set_cons_zero, List.set_cons_succ]
              go_big_quiet_on
          refine wpQuiet_nil ?_
          intro wq hwq
          have HKE := Lib.hid (HKW.out.trans hwq.1 (fun _ _ h => h))
          clear hwq K00
          go_wp2
          go_roundw
          case rel => exact ⟨k + 1, by omega, by go_num, HKE.out⟩
          case measure => simp [intOf]; omega
        · have g : ((k : Int) != node) = true := by simp [hne]
          have a1 : inP (Cf.mk nv c.l).v (k : Int) = inP c.v (k : Int) := by show inP nv _ = _; rw [← HNVE.out]; exact up_votes hne
          have a2 : hasP ⟨nv, c.l⟩ (k : Int) = hasP c (k : Int) := by rw [← HNVE.out]; exact up_has hne
          rw [a1] at V1
          rw [a2] at V3
          clear hne a1 a2
          have gb1 : (inP c.v (k : Int) != inP c.v (k : Int)) = false := by simp
          have gb2 : (hasP c (k : Int) != hasP c (k : Int)) = false := by simp
          generalize inP c.v (k : Int) = b1 at *
          generalize hasP c (k : Int) = b2 at *
          have KZ := (Keep.refl noneOf wr).drew
          go_wp2
          refine wp_region_held_drew (S := fun w' => Keep noneOf wr w') (by kernel_rfl) (KZ) (fun hHeld => ?_)
          refine' wpAnyH_take (i := 0) (v := _) rfl (by kernel_rfl) (by kernel_rfl) (by kernel_rfl) (fun _ _ _ h => h) (Or.inl ⟨by kernel_rfl, ?hy0⟩) (by assumption) ?_
          case hy0 => intro w' hSw; obtain ⟨_, _, _, _⟩ := MK.out w' hSw; go_simp; try with_reducible rfl
          simp only [Act.put, List.getElem_toArray, List.getElem_cons_zero, List.setIfInBounds_toArray, List.set_cons_zero, List.set_cons_succ]
          refine' wpAnyH_take (i := 1) (v := _) rfl (by kernel_rfl) (by kernel_rfl) (by kernel_rfl) (fun _ _ _ h => h) (Or.inl ⟨by kernel_rfl, ?hy1⟩) (by assumption) ?_
          case hy1 => intro w' hSw; obtain ⟨_, _, _, _⟩ := MK.out w' hSw; go_simp; try with_reducible rfl
          simp only [Act.put, List.getElem_toArray, List.getElem_cons_zero, List.getElem_cons_succ, List.setIfInBounds_toArray, List.set_cons_zero, List.set_cons_succ]
          refine' wpAnyH_take (i := 2) (v := .bool true) rfl (by kernel_rfl) (by kernel_rfl) (by kernel_rfl) (fun _ _ _ h => h) (Or.inl ⟨by kernel_rfl, ?hy2⟩) (by assumption) ?_
          case hy2 => intro w' hSw; obtain ⟨_, _, _, _⟩ := MK.out w' hSw; first | rfl | (go_simp; try simp only [List.getElem?_cons_zero, Option.getD_some]; try go_simp)
          simp only [Act.put, List.getElem_toArray, List.getElem_cons_zero, List.getElem_cons_succ, List.setIfInBounds_toArray, List.set_cons_zero, List.set_cons_succ]
          refine' wpAnyH_take (i := 3) (v := .bool true) rfl (by kernel_rfl) (by kernel_rfl) (by kernel_rfl) (fun _ _ _ h => h) (Or.inl ⟨by kernel_rfl, ?hy3⟩) (by assumption) ?_
          case hy3 => intro w' hSw; obtain ⟨_, _, _, _⟩ := MK.out w' hSw; first | rfl | (go_simp; try simp only [List.getElem?_cons_zero, Option.getD_some]; try go_simp)
          simp only [Act.put, List.getElem_toArray, List.getElem_cons_zero, List.getElem_cons_succ, List.setIfInBounds_toArray, List.set_cons_zero, List.set_cons_succ]
          refine' wpAnyH_take (i := 4) (v := _) rfl (by kernel_rfl) (by kernel_rfl) (by kernel_rfl) (fun _ _ _ h => h) (Or.inl ⟨by kernel_rfl, ?hy4⟩) (by assumption) ?_
          case hy4 => intro w' hSw; obtain ⟨_, _, _, _⟩ := MK.out w' hSw; go_simp; try with_reducible rfl
          simp only [Act.put, List.getElem_toArray, List.getElem_cons_zero, List.getElem_cons_succ, List.setIfInBounds_toArray, List.set_cons_zero, List.set_cons_succ]
          refine' wpAnyH_take (i := 5) (v := _) rfl (by kernel_rfl) (by kernel_rfl) (by kernel_rfl) (fun _ _ _ h => h) (Or.inl ⟨by kernel_rfl, ?hy5⟩) (by assumption) ?_
          case hy5 => intro w' hSw; obtain ⟨_, _, _, _⟩ := MK.out w' hSw; go_simp; try with_reducible rfl
          simp only [Act.put, List.getElem_toArray, List.getElem_cons_zero, List.getElem_cons_succ, List.setIfInBounds_toArray, List.set_cons_zero, List.set_cons_succ]
          refine' wpAnyH_take (i := 7) (v := _) rfl (by kernel_rfl) (by kernel_rfl) (by kernel_rfl) (fun _ _ _ h => h) (Or.inl ⟨by kernel_rfl, ?hy7⟩) (by assumption) ?_
          case hy7 => intro w' hSw; obtain ⟨_, _, _, _⟩ := MK.out w' hSw; go_simp; try with_reducible rfl
          simp only [Act.put, List.getElem_toArray, List.getElem_cons_zero, List.getElem_cons_succ, List.setIfInBounds_toArray, List.set_cons_zero, List.set_cons_succ]
          refine' wpAnyH_take (i := 8) (v := _) rfl (by kernel_rfl) (by kernel_rfl) (by kernel_rfl) (fun _ _ _ h => h) (Or.inl ⟨by kernel_rfl, ?hy8⟩) (by assumption) ?_
          case hy8 => intro w' hSw; obtain ⟨_, _, _, _⟩ := MK.out w' hSw; go_simp; try with_reducible rfl
          simp only [Act.put, List.getElem_toArray, List.getElem_cons_zero, List.getElem_cons_succ, List.setIfInBounds_toArray, List.set_cons_zero, List.set_cons_succ]
          refine wpAnyH_ready (rs := [6]) (by kernel_rfl) (by simp) (AllReadyH.cons rfl (fun K hK => ?_) AllReadyH.nil)
          go_simp
          go_at_call 14
          refine (V1.out _ KZ).mono ?_
          rintro e u0w ⟨rfl, kk0⟩
          go_wp2_with fail
          have KU0 := KZ.trans kk0 (fun _ _ h => h)
          refine hK.out _ _ (KU0) (fun hHeld => ?_)
          clear hK K
          try simp only [Act.put, List.getElem_toArray, List.getElem_cons_zero, List.getElem_cons_succ, List.setIfInBounds_toArray, List.set_cons_zero, List.set_cons_succ]
          refine wpAnyH_ready (rs := [9]) (by kernel_rfl) (by simp) (AllReadyH.cons rfl (fun K hK => ?_) AllReadyH.nil)
          go_simp
          go_at_call 14
          refine (V2.out _ KU0).mono ?_
          rintro e u1w ⟨rfl, kk1⟩
          go_wp2_with fail
          have KU1 := KU0.trans kk1 (fun _ _ h => h)
          refine hK.out _ _ (KU1) (fun hHeld => ?_)
          clear hK K
          try simp only [Act.put, List.getElem_toArray, List.getElem_cons_zero, List.getElem_cons_succ, List.setIfInBounds_toArray, List.set_cons_zero, List.set_cons_succ]
          refine' wpAnyH_take (i := 10) (v := .bool false) rfl (by kernel_rfl) (by kernel_rfl) (by kernel_rfl) (fun _ _ _ h => h) (Or.inl ⟨by kernel_rfl, ?hy10⟩) (by assumption) ?_
          case hy10 => intro w' hSw; obtain ⟨_, _, _, _⟩ := MK.out w' hSw; first | rfl | (go_simp; try simp only [List.getElem?_cons_zero, Option.getD_some]; try go_simp)
          simp only [Act.put, List.getElem_toArray, List.getElem_cons_zero, List.getElem_cons_succ, List.setIfInBounds_toArray, List.set_cons_zero, List.set_cons_succ]
          refine' wpAnyH_take (i := 11) (v := .bool false) rfl (by kernel_rfl) (by kernel_rfl) (by kernel_rfl) (fun _ _ _ h => h) (Or.inl ⟨by kernel_rfl, ?hy11⟩) (by assumption) ?_
          case hy11 => intro w' hSw; obtain ⟨_, _, _, _⟩ := MK.out w' hSw; first | rfl | (go_simp; try simp only [List.getElem?_cons_zero, Option.getD_some]; try go_simp)
          simp only [Act.put, List.getElem_toArray, List.getElem_cons_zero, List.getElem_cons_succ, List.setIfInBounds_toArray, List.set_cons_zero, List.set_cons_succ]
          refine' wpAnyH_take (i := 12) (v := _) rfl (by kernel_rfl) (by kernel_rfl) (by kernel_rfl) (fun _ _ _ h => h) (Or.inl ⟨by kernel_rfl, ?hy12⟩) (by assumption) ?_
          case hy12 => intro w' hSw; obtain ⟨_, _, _, _⟩ := MK.out w' hSw; go_simp; try with_reducible rfl
          simp only [Act.put, List.getElem_toArray, List.getElem_cons_zero, List.getElem_cons_succ, List.setIfInBounds_toArray, List.set_cons_zero, List.set_cons_succ]
          refine' wpAnyH_take (i := 13) (v := _) rfl (by kernel_rfl) (by kernel_rfl) (by kernel_rfl) (fun _ _ _ h => h) (Or.inl ⟨by kernel_rfl, ?hy13⟩) (by assumption) ?_
          case hy13 => intro w' hSw; obtain ⟨_, _, _, _⟩ := MK.out w' hSw; go_simp; try with_reducible rfl
          simp only [Act.put, List.getElem_toArray, List.getElem_cons_zero, List.getElem_cons_succ, List.setIfInBounds_toArray, List.set_cons_zero, List.set_cons_succ]
          refine' wpAnyH_take (i := 15) (v := _) rfl (by kernel_rfl) (by kernel_rfl) (by kernel_rfl) (fun _ _ _ h => h) (Or.inl ⟨by kernel_rfl, ?hy15⟩) (by assumption) ?_
          case hy15 => intro w' hSw; obtain ⟨_, _, _, _⟩ := MK.out w' hSw; go_simp; try with_reducible rfl
          simp only [Act.put, List.getElem_toArray, List.getElem_cons_zero, List.getElem_cons_succ, List.setIfInBounds_toArray, List.set_cons_zero, List.set_cons_succ]
          refine' wpAnyH_take (i := 16) (v := _) rfl (by kernel_rfl) (by kernel_rfl) (by kernel_rfl) (fun _ _ _ h => h) (Or.inl ⟨by kernel_rfl, ?hy16⟩) (by assumption) ?_
          case hy16 => intro w' hSw; obtain ⟨_, _, _, _⟩ := MK.out w' hSw; go_simp; try with_reducible rfl
          simp only [Act.put, List.getElem_toArray, List.getElem_cons_zero, List.getElem_cons_succ, List.setIfInBounds_toArray, List.set_cons_zero, List.set_cons_succ]
          refine wpAnyH_ready (rs := [14]) (by kernel_rfl) (by simp) (AllReadyH.cons rfl (fun K hK => ?_) AllReadyH.nil)
          go_simp
          go_at_call 16
          refine (V3.out _ KU1).mono ?_
          rintro e u2w ⟨rfl, kk2⟩
          go_wp2_with fail
          have KU2 := KU1.trans kk2 (fun _ _ h => h)
          refine hK.out _ _ (KU2) (fun hHeld => ?_)
          clear hK K
          try simp only [Act.put, List.getElem_toArray, List.getElem_cons_zero, List.getElem_cons_succ, List.setIfInBounds_toArray, List.set_cons_zero, List.set_cons_succ]
          refine wpAnyH_ready (rs := [17]) (by kernel_rfl) (by simp) (AllReadyH.cons rfl (fun K hK => ?_) AllReadyH.nil)
          go_simp
          go_at_call 16
          refine (V4.out _ KU2).mono ?_
          rintro e u3w ⟨rfl, kk3⟩
          go_wp2_with fail
          have KU3 := KU2.trans kk3 (fun _ _ h => h)
          refine hK.out _ _ (KU3) (fun hHeld => ?_)
          clear hK K
          try simp only [Act.put, List.getElem_toArray, List.getElem_cons_zero, List.getElem_cons_succ, List.setIfInBounds_toArray, List.set_cons_zero, List.set_cons_succ]
          refine' wpAnyH_take (i := 18) (v := .bool false) rfl (by kernel_rfl) (by kernel_rfl) (by kernel_rfl) (fun _ _ _ h => h) (Or.inl ⟨by kernel_rfl, ?hy18⟩) (by assumption) ?_
          case hy18 => intro w' hSw; obtain ⟨_, _, _, _⟩ := MK.out w' hSw; first | rfl | (go_simp; try simp only [List.getElem?_cons_zero, Option.getD_some]; try go_simp)
          simp only [Act.put, List.getElem_toArray, List.getElem_cons_zero, List.getElem_cons_succ, List.setIfInBounds_toArray, List.set_cons_zero, List.set_cons_succ]
          refine' wpAnyH_take (i := 19) (v := .bool false) rfl (by kernel_rfl) (by kernel_rfl) (by kernel_rfl) (fun _ _ _ h => h) (Or.inl ⟨by kernel_rfl, ?hy19⟩) (by assumption) ?_
          case hy19 => intro w' hSw; obtain ⟨_, _, _, _⟩ := MK.out w' hSw; first | rfl | (go_simp; try simp only [List.getElem?_cons_zero, Option.getD_some]; try go_simp)
          simp only [Act.put, List.getElem_toArray, List.getElem_cons_zero, List.getElem_cons_succ, List.setIfInBounds_toArray, List.set_cons_zero, List.set_cons_succ]
          refine' wpAnyH_take (i := 20) (v := .bool false) rfl (by kernel_rfl) (by kernel_rfl) (by kernel_rfl) (fun _ _ _ h => h) (Or.inl ⟨by kernel_rfl, ?hy20⟩) (by assumption) ?_
          case hy20 => intro w' hSw; obtain ⟨_, _, _, _⟩ := MK.out w' hSw; first | rfl | (go_simp; try simp only [List.getElem?_cons_zero, Option.getD_some]; try go_simp)
          simp only [Act.put, List.getElem_toArray, List.getElem_cons_zero, List.getElem_cons_succ, List.setIfInBounds_toArray, List.set_cons_zero, List.set_cons_succ]
          refine wpAnyH_done (by kernel_rfl) ?_ _
          have hwq : Keep noneOf wr u3w ∧ True := ⟨KU3, trivial⟩
          clear KU0 KU1 KU2 KU3 kk0 kk1 kk2 kk3 KZ hHeld V1 V2 V3 V4
          have HKE := Lib.hid (HKW.out.trans hwq.1 (fun _ _ h => h))
          clear hwq K00
          go_wp2
          go_roundw
          case rel => exact ⟨k + 1, by omega, by go_num, HKE.out⟩
          case measure => simp [intOf]; omega
      · obtain rfl : k = 8 := by omega
        have HKE := Lib.hid (HK6.out.trans hkw (fun _ _ h => h))
        clear hkw
        go_wp2_with fail
        refine (alive_any _).mono ?_
        rintro e wz ⟨rfl, kz⟩
        have HKF := Lib.hid (HKE.out.trans kz (fun _ _ h => h))
        obtain ⟨x0, x1, y0, y1, z0, z1, u0, u1⟩ := MC.out _ (HKW.out.trans kz (fun _ _ h => h))
        have hvl := HVL.out
        clear kz
        have hvs : IntKind.i64.wrap ((c.v.length : Int) + 1) = (c.v.length : Int) + 1 := IntWalk.i64_in _ (by omega)
        have hve : ((nv.length : Int) == (c.v.length : Int) + 1) = true := by rw [beq_iff_eq]; omega
        clear hvl
        go_wp2
        go_ret
        exact ⟨rfl, HKF.out⟩
  · obtain ⟨⟨rv, re⟩, hr⟩ : ∃ r, apP c 1 node = r := ⟨_, rfl⟩
    rw [hr] at hz HAP
    clear hr
    go_wp2_with fail
    refine HAP.out.mono ?_
    rintro e w1 ⟨vd, rfl, ⟨_, _, rfl, hd0, hd1⟩, k1⟩
    obtain ⟨D0, cd0, rfl, _⟩ := hd0.shape
    obtain ⟨D1, cd1, rfl, _⟩ := hd1.shape
    have g : (re != 0) = true := bne_iff_ne.2 hz
    have HK2 := Lib.hid ((HK0.out.trans k1 (fun _ _ h => h)).alloc (.cells #[.slice D0 rv.v.length cd0, .slice D1 rv.l.length cd1] 24))
    clear hz k1 hd0 hd1
    go_wp2_with fail
    refine (alive_any _).mono ?_
    rintro e wz ⟨rfl, kz⟩
    have HKE := Lib.hid (HK2.out.trans kz (fun _ _ h => h))
    clear kz
    go_wp2
    go_ret
    exact ⟨rfl, HKE.out⟩

namespace ConfigBack
set_option maxRecDepth 100000 in
theorem lifted (os : Os) (started : os.Started) (H : Type) (enc : TypeId × Value → H) :
    ReturnsInHanded {} Try.checked os 7 .any (Rows.configBackSpec.pre6 enc Try.prog Try.f7 Rows.configBackRow.domain false) (Rows.configBackSpec.post enc Try.prog Try.f7 false true false false) := by
  refine returnsInHanded_of_change_sized (C := Try.checked) own started (by kernel_rfl) Try.func7
    (ChangeSpec.witness6 (enc := enc) (C := Try.checked) false ⟨#[], #[.agg #[.slice none 0 0, .slice none 0 0], .int .i64 0], []⟩ 8 (by kernel_rfl) (by kernel_rfl) (by kernel_rfl) (by kernel_rfl)) ?_
  intro W base args ds gs before hval0 hW hcnd hsz _
  have hval : ∀ (j : Nat) t v, Try.f7.params[j]? = some t → args[j]? = some v → Value.okWide Try.prog W .any base t v := hval0
  have hW' := hW
  obtain ⟨p, q, hA0, hV, rfl, hfz, hnd⟩ := hW
  have hA : DataW.TrodAll enc Try.prog W 0 (fun _ => true) true Try.f7.params.toList args.toList ds p := hA0
  rw [Try.params7] at hA hval
  obtain ⟨v0, vs0, d0, ds0, p0, q0, hargs, rfl, rfl, h0, r0⟩ := trodAll_cons hA
  obtain ⟨v1, vs1, d1, ds1, p1, q1, rfl, rfl, rfl, h1, r1⟩ := trodAll_cons r0
  obtain ⟨rfl, rfl, rfl⟩ := trodAll_nil r1
  obtain rfl : args = #[v0, v1] := by cases args; simp_all
  obtain ⟨rfl, rfl⟩ := trodVars_none hV
  have k0 := h0
  have lt0 : ∀ x ∈ p0, x.block < W.heap.size := by obtain ⟨m, hm⟩ := k0; exact DataW.trod_lt m _ _ _ hm
  obtain ⟨c0, hc0, hv0, hl0⟩ := open_arg_cfg (hval 0 24 v0 rfl rfl) h0 (light_arg hsz (j := 0) rfl rfl)
  obtain ⟨a1, rfl, rfl, rfl, w1⟩ := open_int Try.underlying3 (hval 1 3 v1 rfl rfl) h1
  clear hA0 hval0
  refine (back_walk W v0 c0 a1 hc0 hv0).mono fun e W' ⟨he, bel0⟩ => ?_
  subst he
  have bel := bel0.all
  exact ⟨_, rfl, _, _, _, [], _, [], hW', trodAll_mk1 (shut_bool Try.underlying4 _), (trodAll_cons_mk (Below.trod laidOut (by kernel_rfl) (of_decide_eq_true (by kernel_rfl)) k0 bel lt0) (trodAll_cons_mk (shut_int Try.underlying3 w1) trodAll_mk0)), rfl, bel.frame _, fun h => by cases h⟩

theorem over : Rows.configBackRow.holds Try.pinned (OpenSpec.ofChange Rows.configBackSpec) :=
  OpenClaim.holds_of_wide 7 Try.f7 rfl rfl rfl rfl rfl rfl rfl ⟨rfl, rfl, rfl, rfl, rfl⟩ rfl rfl rfl rfl rfl (by kernel_rfl) Try.func7 (by kernel_rfl)
    (of_decide_eq_true (by kernel_rfl)) (by unfold Func.isWrapper; first | (rw [if_pos (by decide +kernel)]; kernel_rfl) | (rw [if_neg (by decide +kernel)]; exact ⟨rfl, rfl⟩))
    (fun os started H enc _ => lifted os started H enc)

theorem proved : Rows.ConfigBackSaid := over
end ConfigBack
end Go.Proofs.Ytmncjibokpieoaa
