/-
  Proved: dockyardlaw09.ReadyFails answers true for every input that can be read, and leaves its arguments as they were. No conditions.
-/
import Derived.Test.YtjfneckflddeeaaRyFailM
namespace Go.Proofs.Ytjfneckflddeeaa
open Go.ChangeShapes Go.WideShapes Go.ChangeAt Go.RowKit

set_option maxRecDepth 100000 in
set_option maxHeartbeats 4000000 in
theorem fails_walk (w : World) (A : Option Addr) (c : Nat) (ts : List Tg) (h : Tgs w (fun _ => True) (.slice A ts.length c) ts) (h56 : ts.length * 56 ≤ reachBytes) (place : Int) :
    Calls Try.prog 7 #[.agg #[.slice A ts.length c], .int .i64 place] w (TellsB true w) := by
  have HH := Lib.hid h
  have ka := (Keep.refl noneOf w).alloc (.cells #[.slice A ts.length c] 24)
  have HX0 := Lib.hid (Box.new w 24 #[.slice A ts.length c])
  have HK0 := Lib.hid ka
  have ST := Lib.hid (start_any _ _ (fun _ => True) _ _ ts [] (HH.out.keep ka (fun _ _ _ => id)) (Bls.nil _ _) h56)
  have hs0 : (w.alloc (.cells #[.slice A ts.length c] 24)).heap.size = w.heap.size + 1 := by simp
  have hvalid : ∀ i x, (grStart (ts.map Tg.plain) [])[i]? = some x → grCheck (ts.map Tg.plain) = 0 := fun i x hx => Classical.byContradiction fun hq => by
    have : grStart (ts.map Tg.plain) [] = [] := grSettle_none hq
    rw [this, List.getElem?_nil] at hx
    cases hx
  have HVD := Lib.hid hvalid
  have HLE := Lib.hid (show grCheck (ts.map Tg.plain) = 0 → (grStart (ts.map Tg.plain) []).length = (ts.map Tg.plain).length from fun hq => start_len hq)
  have HF5 : Hid (∀ (p : Nat), grCheck (ts.map Tg.plain) = 0 → p < (ts.map Tg.plain).length → ∀ d i, i < (ts.map Tg.plain).length → i ≠ p → reachB (ts.map Tg.plain) p d i = true → (grSettle (ts.map Tg.plain) ((grStart (ts.map Tg.plain) []).set p ⟨4, 0, 0⟩))[i]? = some ⟨5, 0, 0⟩) := Lib.hid fun p hq hp d i hi hne hr => fail_lost hq p hp d i hi hne hr
  have HFS : Hid (∀ (p : Nat), grCheck (ts.map Tg.plain) = 0 → ∀ d, (ts.map Tg.plain).length ≤ d + 1 → ∀ i, i < (ts.map Tg.plain).length → i ≠ p → reachB (ts.map Tg.plain) p d i = false → (grSettle (ts.map Tg.plain) ((grStart (ts.map Tg.plain) []).set p ⟨4, 0, 0⟩))[i]? = (grStart (ts.map Tg.plain) [])[i]?) := Lib.hid fun p hq d hd i hi hne hr => fail_stays hq p d hd i hi hne hr
  have HFL : Hid (∀ (p : Nat), grCheck (ts.map Tg.plain) = 0 → (grSettle (ts.map Tg.plain) ((grStart (ts.map Tg.plain) []).set p ⟨4, 0, 0⟩)).length = (ts.map Tg.plain).length) := Lib.hid fun p hq => failed_len hq p
  generalize grStart (ts.map Tg.plain) [] = L0 at *
  clear h h56 ka hvalid
  go_enter Try.func7, Try.ntmps7
  go_wp2_with fail
  refine ST.out.mono ?_
  rintro e w1 ⟨v1, rfl, k1, hv1⟩
  rw [hs0] at hv1
  have HK1 := Lib.hid (HK0.out.trans k1 (fun _ _ h => h))
  have HX1 := Lib.hid (HX0.out.keep k1 id)
  have hs := told_sts hv1
  obtain ⟨Av, cv, hvs⟩ := hs.shape
  subst hvs
  have HS1 := Lib.hid hs
  have HV1 := Lib.hid hv1
  clear ST HK0 HX0 hs0 k1 hv1 hs
  by_cases hp0 : place < 0
  · go_wp2_with fail
    refine (alive_any w1).mono ?_
    rintro e w2 ⟨rfl, k2⟩
    have HK2 := Lib.hid (HK1.out.trans k2 (fun _ _ h => h))
    clear k2 HK1 hp0
    go_wp2
    go_ret
    exact ⟨rfl, HK2.out⟩
  · by_cases hp1 : (L0.length : Int) ≤ place
    · go_wp2_with fail
      refine (alive_any w1).mono ?_
      rintro e w2 ⟨rfl, k2⟩
      have HK2 := Lib.hid (HK1.out.trans k2 (fun _ _ h => h))
      clear k2 HK1 hp0 hp1
      go_wp2
      go_ret
      exact ⟨rfl, HK2.out⟩
    · by_cases hp8 : (8 : Int) < (L0.length : Int)
      · go_wp2_with fail
        refine (alive_any w1).mono ?_
        rintro e w2 ⟨rfl, k2⟩
        have HK2 := Lib.hid (HK1.out.trans k2 (fun _ _ h => h))
        clear k2 HK1 hp0 hp1 hp8
        go_wp2
        go_ret
        exact ⟨rfl, HK2.out⟩
      · obtain ⟨p, rfl⟩ : ∃ p : Nat, place = (p : Int) := ⟨place.toNat, by omega⟩
        have hpl : p < L0.length := by omega
        have hl8 : L0.length ≤ 8 := by omega
        have hx := getS_at hpl
        have hq := HVD.out p _ hx
        have hLn := HLE.out hq
        generalize L0.getD p Pst.zero = x at *
        obtain ⟨g, hg0, hgB, hml, hbx⟩ : ∃ g, Value.slice Av L0.length cv = .slice (some ⟨g, 0, none⟩) L0.length L0.length ∧ w.heap.size + 1 ≤ g ∧ L0.length ≤ maxLen ∧ Box w1 g 32 (svs L0) := by
          rcases HV1.out with ⟨_, h⟩ | h
          · rw [h] at hpl
            simp at hpl
          · exact h
        obtain ⟨rfl, rfl⟩ : Av = some ⟨g, 0, none⟩ ∧ cv = L0.length := by simpa using hg0
        have kb : Keep noneOf w1 (w1.alloc (.cells #[] 32)) := (Keep.refl _ _).alloc _
        have HKB := Lib.hid kb
        have hown : (w1.alloc (.cells #[] 32)).ownsRow w1.heap.size 32 3 (.slice (some ⟨w1.heap.size, 0, none⟩) 0 0) ([] : List Pst).length (([] : List Pst).flatMap Pst.cells) := World.ownsRow_lit w1 #[] 0 (Nat.le_refl _) (Nat.zero_le _) rfl
        have HOE := Lib.hid hown
        have HSE := Lib.hid (HS1.out.keep kb (fun _ _ _ => id))
        have HB1 := Lib.hid hbx
        have hgl := hbx.lt
        have HX9 := Lib.hid hx
        have HQ := Lib.hid hq
        have HLN := Lib.hid hLn
        have hp2 : (0 : Int) ≤ (p : Int) := by omega
        have hp3 : (p : Int) < (L0.length : Int) := by omega
        have hp4 : ¬ (8 : Int) < (L0.length : Int) := by omega
        clear hg0 hbx kb hown hx hq hLn hp0 hp1 hp8 HV1 HVD HLE
        go_wp2_with (at_builtin; refine wpList_append_sts _ rfl _ _ rfl w1.heap.size _ _ [] L0 _ rfl rfl HOE.out HSE.out (by rw [List.length_nil]; omega) (by simp) ?_; intro v2 w2 hown2 hg2' _; have hg2 : World.grownBy (w1.alloc (.cells #[] 32)) w2 (some w1.heap.size) := hg2'; clear hg2'; rw [List.nil_append] at hown2; obtain ⟨A2, c2, hv2⟩ := (Sts.of_own hown2).shape; subst hv2; have kk2 : Keep noneOf w1 w2 := HKB.out.trans (Keep.of_grown hg2) (fun i hi e => by have : i = w1.heap.size := (by simpa using e); omega); obtain ⟨c0, d1, d2⟩ := (HB1.out.keep kk2 id).state HX9.out; have f0 := (HB1.out.keep kk2 id).free (p * 3); have f1 := (HB1.out.keep kk2 id).free (p * 3 + 1); have f2 := (HB1.out.keep kk2 id).free (p * 3 + 2); have z0 : w2.cell? ⟨w.heap.size, 0, none⟩ = some (.slice A ts.length c) := (HX1.out.keep kk2 id).cell 0)
        have kk2 : Keep noneOf w1 w2 := HKB.out.trans (Keep.of_grown hg2) (fun i hi e => by
          have : i = w1.heap.size := by simpa using e
          omega)
        have hb2 := HB1.out.keep kk2 id
        have kp := keep_put3 w2 g p (.int .i64 4) (.int .u64 0) (.int .u64 0)
        have hb3 := hb2.put3 p ⟨4, 0, 0⟩ hpl
        have HB3 := Lib.hid hb3
        have HK3 := Lib.hid ((HK1.out.trans kk2 (fun _ _ h => h)).own kp (by omega))
        have HX3 := Lib.hid ((HX1.out.keep kk2 id).keep kp (by omega))
        have HW3 := Lib.hid ((Sts.of_own hown2).keep kp (fun i _ h e => by omega))
        generalize (((w2.setCell ⟨g, p * 3, none⟩ (.int .i64 4)).setCell ⟨g, p * 3 + 1, none⟩ (.int .u64 0)).setCell ⟨g, p * 3 + 2, none⟩ (.int .u64 0)) = w3 at *
        have hset := settle_any w3 _ (fun _ => True) _ _ ts (L0.set p ⟨4, 0, 0⟩) (HH.out.keep HK3.out (fun _ _ _ => id)) (Sts.of_box HB3.out (Nat.le_refl _) (by rw [List.length_set]; exact hml) trivial) (by rw [List.length_set, reach_is]; omega)
        rw [List.length_set] at hset
        have HSET := Lib.hid hset
        have HL5 : Hid (∀ d i, i < (ts.map Tg.plain).length → i ≠ p → reachB (ts.map Tg.plain) p d i = true → (grSettle (ts.map Tg.plain) (L0.set p ⟨4, 0, 0⟩))[i]? = some ⟨5, 0, 0⟩) := Lib.hid (HF5.out p HQ.out (by rw [← HLN.out]; exact hpl))
        have HLS : Hid (∀ d, (ts.map Tg.plain).length ≤ d + 1 → ∀ i, i < (ts.map Tg.plain).length → i ≠ p → reachB (ts.map Tg.plain) p d i = false → (grSettle (ts.map Tg.plain) (L0.set p ⟨4, 0, 0⟩))[i]? = L0[i]?) := Lib.hid (HFS.out p HQ.out)
        have HLL : Hid ((grSettle (ts.map Tg.plain) (L0.set p ⟨4, 0, 0⟩)).length = L0.length) := Lib.hid (by rw [HFL.out p HQ.out, HLN.out])
        generalize grSettle (ts.map Tg.plain) (L0.set p ⟨4, 0, 0⟩) = L1 at *
        clear hset hown2 hg2 HOE HSE HKB HB1 HS1 HK1 HX1 HF5 HFS HFL hml hb2 hb3 kp kk2 HB3 c0 d1 d2 f0 f1 f2 z0
        refine HSET.out.mono ?_
        rintro e w4 ⟨v4, rfl, k4, hv4⟩
        have hs4 := told_sts hv4
        obtain ⟨A4, c4, hv4s⟩ := hs4.shape
        subst hv4s
        have HS4 := Lib.hid hs4
        have HK4 := Lib.hid (HK3.out.trans k4 (fun _ _ h => h))
        have HX4 := Lib.hid (HX3.out.keep k4 id)
        have HW4 := Lib.hid (HW3.out.keep k4 (fun _ _ _ => id))
        have RE : Hid (∀ (w' : World) (i : Nat), Keep noneOf w w' → Calls Try.prog 27 #[.agg #[.slice A ts.length c], .int .i64 (i : Int), .int .i64 (p : Int), .int .i64 (L0.length : Int)] w' (TellsB (reachB (ts.map Tg.plain) p L0.length i) w')) := Lib.hid fun w' i k' => reach_any ts (fits_few (check_fits HQ.out).1).2 (fun i => needsAt_16 HQ.out) p L0.length w' _ _ i (by omega) (HH.out.keep k' (fun _ _ _ => id))
        rw [HLL.out]
        clear HSET k4 hv4 hs4 HK3 HX3 HW3
        go_wp2
        go_loopw [37] (fun i wr => ∃ k : Nat, k ≤ L0.length ∧ i = .int .i64 k ∧ Keep noneOf w4 wr) (fun i _ => L0.length - (intOf i).toNat)
        case atStart => exact ⟨0, Nat.zero_le _, rfl, Keep.refl _ _⟩
        case round =>
          obtain ⟨k, hk, rfl, hkeep⟩ := hrel
          have HKP := Lib.hid hkeep
          by_cases hlt : k < L0.length
          · have hx0 := getS_at hlt
            have hx1 := getS_at (l := L1) (n := k) (by rw [HLL.out]; exact hlt)
            obtain ⟨b, o, rfl, hblk, _, c0, c1, c2⟩ := (HS4.out.keep hkeep (fun _ _ _ => id)).cell hx1
            obtain ⟨b', o', rfl, hblk', _, d0, d1, d2⟩ := (HW4.out.keep hkeep (fun _ _ _ => id)).cell hx0
            have z0 : wr.cell? ⟨w.heap.size, 0, none⟩ = some (.slice A ts.length c) := (HX4.out.keep hkeep id).cell 0
            have hkn : k < (ts.map Tg.plain).length := by rw [← HLN.out]; exact hlt
            have q0 : (0 : Int) ≤ (k : Int) := by omega
            have q1 : (k : Int) < (L0.length : Int) := by omega
            have hl5 := HL5.out L0.length k hkn
            have hls := HLS.out L0.length (by rw [← HLN.out]; omega) k hkn
            rw [hx1] at hl5 hls
            rw [hx0] at hls
            generalize L1.getD k Pst.zero = x at *
            generalize L0.getD k Pst.zero = y at *
            obtain ⟨xs, xt, xu⟩ := x
            obtain ⟨ys, yt, yu⟩ := y
            simp only at c0 c1 c2 d0 d1 d2
            by_cases hkp : k = p
            · subst hkp
              have g0 : ((k : Int) != (k : Int)) = false := by rw [bne_self_eq_false]
              have MK : Hid (∀ w', Keep noneOf wr w' → w'.cell? ⟨b, o + k * 3, none⟩ = some (.int .i64 xs) ∧ w'.cell? ⟨b, o + k * 3 + 1, none⟩ = some (.int .u64 xt) ∧ w'.cell? ⟨b, o + k * 3 + 2, none⟩ = some (.int .u64 xu) ∧ w'.cell? ⟨b', o' + k * 3, none⟩ = some (.int .i64 ys) ∧ w'.cell? ⟨b', o' + k * 3 + 1, none⟩ = some (.int .u64 yt) ∧ w'.cell? ⟨b', o' + k * 3 + 2, none⟩ = some (.int .u64 yu)) := Lib.hid fun w' k' => ⟨(k'.cell (p := ⟨b, o + k * 3, none⟩) hblk id).trans c0, (k'.cell (p := ⟨b, o + k * 3 + 1, none⟩) hblk id).trans c1, (k'.cell (p := ⟨b, o + k * 3 + 2, none⟩) hblk id).trans c2, (k'.cell (p := ⟨b', o' + k * 3, none⟩) hblk' id).trans d0, (k'.cell (p := ⟨b', o' + k * 3 + 1, none⟩) hblk' id).trans d1, (k'.cell (p := ⟨b', o' + k * 3 + 2, none⟩) hblk' id).trans d2⟩
              have HKZ := HKP
              clear hl5 hls hx0 hx1 hkeep hblk hblk'
              go_wp2
              refine wp_region_in (fun w' => Keep noneOf wr w' ∧ w'.cell? ⟨b, o + k * 3, none⟩ = some (.int .i64 xs) ∧ w'.cell? ⟨b, o + k * 3 + 1, none⟩ = some (.int .u64 xt) ∧ w'.cell? ⟨b, o + k * 3 + 2, none⟩ = some (.int .u64 xu) ∧ w'.cell? ⟨b', o' + k * 3, none⟩ = some (.int .i64 ys) ∧ w'.cell? ⟨b', o' + k * 3 + 1, none⟩ = some (.int .u64 yt) ∧ w'.cell? ⟨b', o' + k * 3 + 2, none⟩ = some (.int .u64 yu)) (by kernel_rfl) (by kernel_rfl) ⟨(Keep.refl noneOf _).drew, MK.out _ (Keep.refl noneOf _).drew⟩ ?_
              repeat
                first
                | go_big_quiet_skip
                | go_big_quiet_want
                  go_big_quiet_op
                  go_big_quiet_on
                | go_big_quiet_want
                  apply quiet_reads
                  case h =>
                    intro w' hw'
                    try dsimp only at hw'
                    go_split_ands
                    go_simp
                    rfl
                  simp only [Act.put, List.setIfInBounds_toArray, List.set_cons_zero, List.set_cons_succ]
                  go_big_quiet_on
              refine wpQuiet_nil ?_
              intro w9 hw9
              have HK9 := Lib.hid (HKZ.out.trans hw9.1 (fun _ _ h => h))
              clear hw9 MK HKZ
              go_wp2
              go_roundw
              case rel => exact ⟨k + 1, by omega, by go_num, HK9.out⟩
              case measure => simp [intOf]; omega
            · have g0 : ((k : Int) != (p : Int)) = true := by rw [bne_iff_ne]; omega
              have RC := Lib.hid (RE.out wr k (HK4.out.trans hkeep (fun _ _ h => h)))
              have hl5 := hl5 hkp
              have hls := hls hkp
              generalize reachB (ts.map Tg.plain) p L0.length k = rb at *
              have HK5 := Lib.hid hl5
              have HK6 := Lib.hid hls
              clear hl5 hls hx0 hx1
              go_wp2_with fail
              refine RC.out.mono ?_
              rintro e w5 ⟨rfl, k5⟩
              have HKZ := Lib.hid (HKP.out.trans k5 (fun _ _ h => h))
              have hb5 := Nat.lt_of_lt_of_le hblk k5.size
              have hb5' := Nat.lt_of_lt_of_le hblk' k5.size
              have e0 := (k5.cell (p := ⟨b, o + k * 3, none⟩) hblk id).trans c0
              have e1 := (k5.cell (p := ⟨b, o + k * 3 + 1, none⟩) hblk id).trans c1
              have e2 := (k5.cell (p := ⟨b, o + k * 3 + 2, none⟩) hblk id).trans c2
              have e3 := (k5.cell (p := ⟨b', o' + k * 3, none⟩) hblk' id).trans d0
              have e4 := (k5.cell (p := ⟨b', o' + k * 3 + 1, none⟩) hblk' id).trans d1
              have e5 := (k5.cell (p := ⟨b', o' + k * 3 + 2, none⟩) hblk' id).trans d2
              clear RC k5 hkeep c0 c1 c2 d0 d1 d2 z0 HKP
              cases rb with
              | true =>
                obtain ⟨rfl, rfl, rfl⟩ : xs = 5 ∧ xt = 0 ∧ xu = 0 := by
                  have := HK5.out rfl
                  injection this with this
                  simpa using this
                clear HK5 HK6
                by_cases hy0 : ys = 0
                · subst hy0
                  have MK : Hid (∀ w', Keep noneOf w5 w' → w'.cell? ⟨b, o + k * 3, none⟩ = some (.int .i64 5) ∧ w'.cell? ⟨b, o + k * 3 + 1, none⟩ = some (.int .u64 0) ∧ w'.cell? ⟨b, o + k * 3 + 2, none⟩ = some (.int .u64 0) ∧ w'.cell? ⟨b', o' + k * 3, none⟩ = some (.int .i64 0) ∧ w'.cell? ⟨b', o' + k * 3 + 1, none⟩ = some (.int .u64 yt) ∧ w'.cell? ⟨b', o' + k * 3 + 2, none⟩ = some (.int .u64 yu)) := Lib.hid fun w' k' => ⟨(k'.cell (p := ⟨b, o + k * 3, none⟩) hb5 id).trans e0, (k'.cell (p := ⟨b, o + k * 3 + 1, none⟩) hb5 id).trans e1, (k'.cell (p := ⟨b, o + k * 3 + 2, none⟩) hb5 id).trans e2, (k'.cell (p := ⟨b', o' + k * 3, none⟩) hb5' id).trans e3, (k'.cell (p := ⟨b', o' + k * 3 + 1, none⟩) hb5' id).trans e4, (k'.cell (p := ⟨b', o' + k * 3 + 2, none⟩) hb5' id).trans e5⟩
                  go_wp2
                  refine wp_region_in (fun w' => Keep noneOf w5 w' ∧ w'.cell? ⟨b, o + k * 3, none⟩ = some (.int .i64 5) ∧ w'.cell? ⟨b, o + k * 3 + 1, none⟩ = some (.int .u64 0) ∧ w'.cell? ⟨b, o + k * 3 + 2, none⟩ = some (.int .u64 0) ∧ w'.cell? ⟨b', o' + k * 3, none⟩ = some (.int .i64 0) ∧ w'.cell? ⟨b', o' + k * 3 + 1, none⟩ = some (.int .u64 yt) ∧ w'.cell? ⟨b', o' + k * 3 + 2, none⟩ = some (.int .u64 yu)) (by kernel_rfl) (by kernel_rfl) ⟨(Keep.refl noneOf _).drew, MK.out _ (Keep.refl noneOf _).drew⟩ ?_
                  repeat
                    first
                    | go_big_quiet_skip
                    | go_big_quiet_want
                      go_big_quiet_op
                      go_big_quiet_on
                    | go_big_quiet_want
                      apply quiet_reads
                      case h =>
                        intro w' hw'
                        try dsimp only at hw'
                        go_split_ands
                        go_simp
                        rfl
                      simp only [Act.put, List.setIfInBounds_toArray, List.set_cons_zero, List.set_cons_succ]
                      go_big_quiet_on
                  refine wpQuiet_nil ?_
                  intro w9 hw9
                  have HK9 := Lib.hid (HKZ.out.trans hw9.1 (fun _ _ h => h))
                  clear hw9 MK HKZ
                  go_wp2
                  go_roundw
                  case rel => exact ⟨k + 1, by omega, by go_num, HK9.out⟩
                  case measure => simp [intOf]; omega
                · have gy : (ys == 0) = false := by rw [beq_eq_false_iff_ne]; exact hy0
                  have MK : Hid (∀ w', Keep noneOf w5 w' → w'.cell? ⟨b, o + k * 3, none⟩ = some (.int .i64 5) ∧ w'.cell? ⟨b, o + k * 3 + 1, none⟩ = some (.int .u64 0) ∧ w'.cell? ⟨b, o + k * 3 + 2, none⟩ = some (.int .u64 0) ∧ w'.cell? ⟨b', o' + k * 3, none⟩ = some (.int .i64 ys) ∧ w'.cell? ⟨b', o' + k * 3 + 1, none⟩ = some (.int .u64 yt) ∧ w'.cell? ⟨b', o' + k * 3 + 2, none⟩ = some (.int .u64 yu)) := Lib.hid fun w' k' => ⟨(k'.cell (p := ⟨b, o + k * 3, none⟩) hb5 id).trans e0, (k'.cell (p := ⟨b, o + k * 3 + 1, none⟩) hb5 id).trans e1, (k'.cell (p := ⟨b, o + k * 3 + 2, none⟩) hb5 id).trans e2, (k'.cell (p := ⟨b', o' + k * 3, none⟩) hb5' id).trans e3, (k'.cell (p := ⟨b', o' + k * 3 + 1, none⟩) hb5' id).trans e4, (k'.cell (p := ⟨b', o' + k * 3 + 2, none⟩) hb5' id).trans e5⟩
                  clear hy0
                  go_wp2
                  refine wp_region_in (fun w' => Keep noneOf w5 w' ∧ w'.cell? ⟨b, o + k * 3, none⟩ = some (.int .i64 5) ∧ w'.cell? ⟨b, o + k * 3 + 1, none⟩ = some (.int .u64 0) ∧ w'.cell? ⟨b, o + k * 3 + 2, none⟩ = some (.int .u64 0) ∧ w'.cell? ⟨b', o' + k * 3, none⟩ = some (.int .i64 ys) ∧ w'.cell? ⟨b', o' + k * 3 + 1, none⟩ = some (.int .u64 yt) ∧ w'.cell? ⟨b', o' + k * 3 + 2, none⟩ = some (.int .u64 yu)) (by kernel_rfl) (by kernel_rfl) ⟨(Keep.refl noneOf _).drew, MK.out _ (Keep.refl noneOf _).drew⟩ ?_
                  repeat
                    first
                    | go_big_quiet_skip
                    | go_big_quiet_want
                      go_big_quiet_op
                      go_big_quiet_on
                    | go_big_quiet_want
                      apply quiet_reads
                      case h =>
                        intro w' hw'
                        try dsimp only at hw'
                        go_split_ands
                        go_simp
                        rfl
                      simp only [Act.put, List.setIfInBounds_toArray, List.set_cons_zero, List.set_cons_succ]
                      go_big_quiet_on
                  refine wpQuiet_nil ?_
                  intro w9 hw9
                  have HK9 := Lib.hid (HKZ.out.trans hw9.1 (fun _ _ h => h))
                  clear hw9 MK HKZ
                  go_wp2
                  go_roundw
                  case rel => exact ⟨k + 1, by omega, by go_num, HK9.out⟩
                  case measure => simp [intOf]; omega
              | false =>
                obtain ⟨rfl, rfl, rfl⟩ : xs = ys ∧ xt = yt ∧ xu = yu := by
                  have := HK6.out rfl
                  injection this with this
                  simpa using this
                clear HK5 HK6
                have EQ : ∀ w', (binOp .neq 32 (.agg #[.int .i64 xs, .int .u64 xt, .int .u64 xu]) (.agg #[.int .i64 xs, .int .u64 xt, .int .u64 xu])).run Try.prog w' = .ok (.bool false) w' := fun w' => by rw [run_neq3 w' ⟨xs, xt, xu⟩ ⟨xs, xt, xu⟩, decide_eq_true rfl]; rfl
                have EG := fun w' o1 o2 (xs ys : Array Value) => run_eqGuard_agg (P := Try.prog) w' .neq 32 o1 o2 xs ys st_guard
                have MK : Hid (∀ w', Keep noneOf w5 w' → w'.cell? ⟨b, o + k * 3, none⟩ = some (.int .i64 xs) ∧ w'.cell? ⟨b, o + k * 3 + 1, none⟩ = some (.int .u64 xt) ∧ w'.cell? ⟨b, o + k * 3 + 2, none⟩ = some (.int .u64 xu) ∧ w'.cell? ⟨b', o' + k * 3, none⟩ = some (.int .i64 xs) ∧ w'.cell? ⟨b', o' + k * 3 + 1, none⟩ = some (.int .u64 xt) ∧ w'.cell? ⟨b', o' + k * 3 + 2, none⟩ = some (.int .u64 xu)) := Lib.hid fun w' k' => ⟨(k'.cell (p := ⟨b, o + k * 3, none⟩) hb5 id).trans e0, (k'.cell (p := ⟨b, o + k * 3 + 1, none⟩) hb5 id).trans e1, (k'.cell (p := ⟨b, o + k * 3 + 2, none⟩) hb5 id).trans e2, (k'.cell (p := ⟨b', o' + k * 3, none⟩) hb5' id).trans e3, (k'.cell (p := ⟨b', o' + k * 3 + 1, none⟩) hb5' id).trans e4, (k'.cell (p := ⟨b', o' + k * 3 + 2, none⟩) hb5' id).trans e5⟩
                go_wp2
                refine wp_region_in (fun w' => Keep noneOf w5 w' ∧ w'.cell? ⟨b, o + k * 3, none⟩ = some (.int .i64 xs) ∧ w'.cell? ⟨b, o + k * 3 + 1, none⟩ = some (.int .u64 xt) ∧ w'.cell? ⟨b, o + k * 3 + 2, none⟩ = some (.int .u64 xu) ∧ w'.cell? ⟨b', o' + k * 3, none⟩ = some (.int .i64 xs) ∧ w'.cell? ⟨b', o' + k * 3 + 1, none⟩ = some (.int .u64 xt) ∧ w'.cell? ⟨b', o' + k * 3 + 2, none⟩ = some (.int .u64 xu)) (by kernel_rfl) (by kernel_rfl) ⟨(Keep.refl noneOf _).drew, MK.out _ (Keep.refl noneOf _).drew⟩ ?_
                repeat
                  first
                  | go_big_quiet_skip
                  | go_big_quiet_want
                    go_big_quiet_op
                    go_big_quiet_on
                  | go_big_quiet_want
                    apply quiet_reads
                    case h =>
                      intro w' hw'
                      try dsimp only at hw'
                      go_split_ands
                      go_simp
                      rfl
                    simp only [Act.put, List.setIfInBounds_toArray, List.set_cons_zero, List.set_cons_succ]
                    go_big_quiet_on
                refine wpQuiet_nil ?_
                intro w9 hw9
                have HK9 := Lib.hid (HKZ.out.trans hw9.1 (fun _ _ h => h))
                clear hw9 MK HKZ
                go_wp2
                go_roundw
                case rel => exact ⟨k + 1, by omega, by go_num, HK9.out⟩
                case measure => simp [intOf]; omega
          · have hkn : ¬ ((k : Int) < (L0.length : Int)) := by omega
            have HK9 := Lib.hid (HK4.out.trans hkeep (fun _ _ h => h))
            clear hlt hkeep HKP
            go_wp2_with fail
            refine (alive_any wr).mono ?_
            rintro e w6 ⟨rfl, k6⟩
            have HK6 := Lib.hid (HK9.out.trans k6 (fun _ _ h => h))
            clear k6 HK9
            go_wp2
            go_ret
            exact ⟨rfl, HK6.out⟩

namespace ReadyFails
set_option maxRecDepth 100000 in
theorem lifted (os : Os) (started : os.Started) (H : Type) (enc : TypeId × Value → H) :
    ReturnsInHanded {} Try.checked os 7 .any (Rows.readyFailsSpec.pre6 enc Try.prog Try.f7 Rows.readyFailsRow.domain false) (Rows.readyFailsSpec.post enc Try.prog Try.f7 false true false false) := by
  refine returnsInHanded_of_change_sized (C := Try.checked) own started (by kernel_rfl) Try.func7
    (ChangeSpec.witness6 (enc := enc) (C := Try.checked) false ⟨#[], #[.agg #[.slice none 0 0], .int .i64 0], []⟩ 8 (by kernel_rfl) (by kernel_rfl) (by kernel_rfl) (by kernel_rfl)) ?_
  intro W base args ds gs before hval0 hW hcnd hsz _
  have hval : ∀ (j : Nat) t v, Try.f7.params[j]? = some t → args[j]? = some v → Value.okWide Try.prog W .any base t v := hval0
  have hW' := hW
  obtain ⟨p, q, hA0, hV, rfl, hfz, hnd⟩ := hW
  have hA : DataW.TrodAll enc Try.prog W 0 (fun _ => true) true Try.f7.params.toList args.toList ds p := hA0
  rw [Try.params7] at hA hval
  obtain ⟨v0, vs0, d0, ds0, p0, q0, hargs, rfl, rfl, h0, r0⟩ := trodAll_cons hA
  obtain ⟨v1, vs1, d1, ds1, p1, q1, rfl, rfl, rfl, h1, r1⟩ := trodAll_cons r0
  obtain ⟨rfl, rfl, rfl⟩ := trodAll_nil r1
  obtain rfl : args = #[v0, v1] := by cases args; simp_all
  obtain ⟨rfl, rfl⟩ := trodVars_none hV
  have k0 := h0
  have lt0 : ∀ x ∈ p0, x.block < W.heap.size := by obtain ⟨m, hm⟩ := k0; exact DataW.trod_lt m _ _ _ hm
  obtain ⟨A0, c0, ts0, rfl, hts0, h560, h160⟩ := open_graph (hval 0 24 v0 rfl rfl) h0 (light_arg hsz (j := 0) rfl rfl)
  obtain ⟨a1, rfl, rfl, rfl, w1⟩ := open_int Try.underlying3 (hval 1 3 v1 rfl rfl) h1
  clear hA0 hval0
  refine (fails_walk W A0 c0 ts0 hts0 h560 a1).mono fun e W' ⟨he, bel0⟩ => ?_
  subst he
  have bel := bel0.all
  exact ⟨_, rfl, _, _, _, [], _, [], hW', trodAll_mk1 (shut_bool Try.underlying4 _), (trodAll_cons_mk (Below.trod laidOut (by kernel_rfl) (of_decide_eq_true (by kernel_rfl)) k0 bel lt0) (trodAll_cons_mk (shut_int Try.underlying3 w1) trodAll_mk0)), rfl, bel.frame _, fun h => by cases h⟩

theorem over : Rows.readyFailsRow.holds Try.pinned (OpenSpec.ofChange Rows.readyFailsSpec) :=
  OpenClaim.holds_of_wide 7 Try.f7 rfl rfl rfl rfl rfl rfl rfl ⟨rfl, rfl, rfl, rfl, rfl⟩ rfl rfl rfl rfl rfl (by kernel_rfl) Try.func7 (by kernel_rfl)
    (of_decide_eq_true (by kernel_rfl)) (by unfold Func.isWrapper; first | (rw [if_pos (by decide +kernel)]; kernel_rfl) | (rw [if_neg (by decide +kernel)]; exact ⟨rfl, rfl⟩))
    (fun os started H enc _ => lifted os started H enc)

theorem proved : Rows.ReadyFailsSaid := over
end ReadyFails
end Go.Proofs.Ytjfneckflddeeaa
