/-
  The document's answers for configurations: Decode.
-/
import Derived.Test.YtmncjibokpieoaaCfDec
import Derived.Test.YtmncjibokpieoaaCfREnc
namespace Go.Proofs.Ytmncjibokpieoaa
open Go.RowKit

/-- The numbers from one place of bytes up to another. -/
def seg (bs : List UInt8) (s j : Nat) : List Int := toZ ((bs.take j).drop s)
theorem seg_length {bs : List UInt8} {s j : Nat} (hj : j ≤ bs.length) : (seg bs s j).length = j - s := by
  unfold seg
  rw [toZ_length, List.length_drop, List.length_take]
  omega
theorem seg_nil (bs : List UInt8) (s : Nat) : seg bs s s = [] := by
  unfold seg
  rw [List.drop_eq_nil_of_le (List.length_take_le _ _)]
  rfl
theorem seg_succ {bs : List UInt8} {s j : Nat} (hs : s ≤ j) (hj : j < bs.length) : seg bs s (j + 1) = seg bs s j ++ [(bs[j].toNat : Int)] := by
  unfold seg
  rw [List.take_succ_eq_append_getElem hj, List.drop_append_of_le_length (by rw [List.length_take]; omega)]
  unfold toZ
  rw [List.map_append]
  rfl
/-- Bytes as a configuration, as one reads them place by place. -/
theorem dec_seg {bs : List UInt8} (h0 : 0 < bs.length) : decQ bs = if bs.length < 2 + bs[0].toNat then (⟨[], []⟩, 140) else
    if ((bs[bs[0].toNat + 1]?.getD 0).toNat : Int) = (((seg bs (bs[0].toNat + 2) bs.length).length : Nat) : Int) ∧ chkP ⟨seg bs 1 (bs[0].toNat + 1), seg bs (bs[0].toNat + 2) bs.length⟩ = 0 then (⟨seg bs 1 (bs[0].toNat + 1), seg bs (bs[0].toNat + 2) bs.length⟩, 0) else (⟨[], []⟩, 140) := by
  cases bs with
  | nil => cases h0
  | cons f r =>
    rw [decQ_cons]
    simp only [List.getElem_cons_zero]
    cases hd : r.drop f.toNat with
    | nil =>
      have : r.length ≤ f.toNat := List.drop_eq_nil_iff.1 hd
      rw [if_pos (by rw [List.length_cons]; omega)]
    | cons g q =>
      have hlt : f.toNat < r.length := by
        rcases Nat.lt_or_ge f.toNat r.length with h | h
        · exact h
        · rw [List.drop_eq_nil_of_le h] at hd
          cases hd
      rw [if_neg (by rw [List.length_cons]; omega)]
      have e1 : seg (f :: r) 1 (f.toNat + 1) = toZ (r.take f.toNat) := by unfold seg; rw [List.take_succ_cons, List.drop_succ_cons, List.drop_zero]
      have e2 : seg (f :: r) (f.toNat + 2) (f :: r).length = toZ q := by
        unfold seg
        rw [List.take_length, List.drop_succ_cons]
        rw [show f.toNat + 1 = f.toNat + 1 from rfl, ← List.drop_drop, hd]
        rfl
      have e3 : (f :: r)[f.toNat + 1]?.getD 0 = g := by
        rw [List.getElem?_cons_succ]
        have : (r.drop f.toNat)[0]? = some g := by rw [hd]; rfl
        rw [List.getElem?_drop, Nat.add_zero] at this
        rw [this]
        rfl
      rw [e1, e2, e3, toZ_length]
      simp only [Int.ofNat_inj]

set_option maxRecDepth 100000 in
set_option maxHeartbeats 1000000 in
set_option linter.unusedSimpArgs false in
theorem rdecode_any (w : World) (D : Nat → Prop) (v : Value) (bs : List UInt8) (hs : Bytes w D v bs) (hl : bs.length ≤ 17592186043904) :
    Calls Try.prog 27 #[v] w (Decd (decQ bs) w) := by
  obtain ⟨R, hR⟩ : ∃ R, decQ bs = R := ⟨_, rfl⟩
  rw [hR]
  obtain ⟨A, c, rfl, hlc, hcm, _, hcell⟩ := hs
  have K1 := ((Keep.refl noneOf w).alloc (.cells #[.slice none 0 0, .slice none 0 0] 24)).alloc (.cells #[.slice none 0 0, .slice none 0 0] 24)
  have X1 := (Box.new w 24 #[.slice none 0 0, .slice none 0 0]).alloc (.cells #[.slice none 0 0, .slice none 0 0] 24)
  have Y1 := Box.new (w.alloc (.cells #[.slice none 0 0, .slice none 0 0] 24)) 24 #[.slice none 0 0, .slice none 0 0]
  rw [show (w.alloc (.cells #[.slice none 0 0, .slice none 0 0] 24)).heap.size = w.heap.size + 1 from by simp] at Y1
  have hsz1 : ((w.alloc (.cells #[.slice none 0 0, .slice none 0 0] 24)).alloc (.cells #[.slice none 0 0, .slice none 0 0] 24)).heap.size = w.heap.size + 2 := by simp
  have HK1 := Lib.hid K1
  have HX1 := Lib.hid X1
  have HY1 := Lib.hid Y1
  unfold maxLen at hcm
  clear K1 X1 Y1
  by_cases h0 : bs.length = 0
  · have hb : bs = [] := List.eq_nil_of_length_eq_zero h0
    subst hb
    obtain rfl : (⟨[], []⟩, 140) = R := hR
    clear hcell h0
    go_enter Try.func27, Try.ntmps27
    go_upto_region 3 with fail
    generalize (w.alloc (.cells #[.slice none 0 0, .slice none 0 0] 24)).alloc (.cells #[.slice none 0 0, .slice none 0 0] 24) = w1 at *
    have y0 := HY1.out.cell 0
    have y1 := HY1.out.cell 1
    have x0 := HX1.out.cell 0
    have x1 := HX1.out.cell 1
    have f0 := HX1.out.free 0
    have f1 := HX1.out.free 1
    have HBX := Lib.hid ((HX1.out.put 0 (.slice none 0 0)).put 1 (.slice none 0 0))
    have HKE := Lib.hid ((HK1.out.setCell (p := ⟨w.heap.size, 0, none⟩) (fun hh => absurd hh (by show ¬ w.heap.size < w.heap.size; omega)) (.slice none 0 0)).setCell (p := ⟨w.heap.size, 1, none⟩) (fun hh => absurd hh (by show ¬ w.heap.size < w.heap.size; omega)) (.slice none 0 0))
    have HKX := Lib.hid (((Keep.refl (fun i => i = w.heap.size) w1).setCell (p := ⟨w.heap.size, 0, none⟩) (fun _ => rfl) (.slice none 0 0)).setCell (p := ⟨w.heap.size, 1, none⟩) (fun _ => rfl) (.slice none 0 0))
    go_wp2
    have r0 := HBX.out.cell 0
    have r1 := HBX.out.cell 1
    generalize (w1.setCell ⟨w.heap.size, 0, none⟩ (.slice none 0 0)).setCell ⟨w.heap.size, 1, none⟩ (.slice none 0 0) = we at *
    exact bodyPost_ret (v := .tuple #[.agg #[.slice none 0 0, .slice none 0 0], .int .i64 140]) (by simp [results, Try.results27, go_sem, r0, r1]) rfl ⟨_, rfl, CfAt.nil _ _, HKE.out⟩
  · have h1 : 0 < bs.length := by omega
    obtain ⟨ad, rfl, hsp, hblk, _, hce⟩ := hcell h1
    obtain ⟨bb, o, sp⟩ := ad
    simp only at hsp hblk hce
    subst hsp
    rw [dec_seg h1] at hR
    have hc0 := hce 0 _ (List.getElem?_eq_getElem h1)
    have HCE := Lib.hid hce
    have hb0 := (bs[0]).toNat_lt
    obtain ⟨n, hn⟩ : ∃ n, (bs[0]).toNat = n := ⟨_, rfl⟩
    unfold bv at hc0
    rw [hn] at hR hc0 hb0
    have HR := Lib.hid hR
    rw [Nat.add_zero] at hc0
    have c0 : ((w.alloc (.cells #[.slice none 0 0, .slice none 0 0] 24)).alloc (.cells #[.slice none 0 0, .slice none 0 0] 24)).cell? ⟨bb, o, none⟩ = some (.int .u8 (n : Int)) := (HK1.out.cell (p := ⟨bb, o, none⟩) hblk id).trans hc0
    clear hR hn hcell hce hc0
    have q0 : ¬ ((bs.length : Int) = 0) := by omega
    have g0 : ((bs.length : Int) == 0) = false := beq_eq_false_iff_ne.2 q0
    have q1 : (0 : Int) < (bs.length : Int) := by omega
    by_cases h2 : bs.length < 2 + n
    · have q2 : (bs.length : Int) < 2 + (n : Int) := by omega
      go_enter Try.func27, Try.ntmps27
      go_upto_region 3 with fail
      obtain rfl : (⟨[], []⟩, 140) = R := (if_pos h2).symm.trans HR.out
      clear c0
      generalize (w.alloc (.cells #[.slice none 0 0, .slice none 0 0] 24)).alloc (.cells #[.slice none 0 0, .slice none 0 0] 24) = w1 at *
      have y0 := HY1.out.cell 0
      have y1 := HY1.out.cell 1
      have x0 := HX1.out.cell 0
      have x1 := HX1.out.cell 1
      have f0 := HX1.out.free 0
      have f1 := HX1.out.free 1
      have HBX := Lib.hid ((HX1.out.put 0 (.slice none 0 0)).put 1 (.slice none 0 0))
      have HKE := Lib.hid ((HK1.out.setCell (p := ⟨w.heap.size, 0, none⟩) (fun hh => absurd hh (by show ¬ w.heap.size < w.heap.size; omega)) (.slice none 0 0)).setCell (p := ⟨w.heap.size, 1, none⟩) (fun hh => absurd hh (by show ¬ w.heap.size < w.heap.size; omega)) (.slice none 0 0))
      have HKX := Lib.hid (((Keep.refl (fun i => i = w.heap.size) w1).setCell (p := ⟨w.heap.size, 0, none⟩) (fun _ => rfl) (.slice none 0 0)).setCell (p := ⟨w.heap.size, 1, none⟩) (fun _ => rfl) (.slice none 0 0))
      go_wp2
      have r0 := HBX.out.cell 0
      have r1 := HBX.out.cell 1
      generalize (w1.setCell ⟨w.heap.size, 0, none⟩ (.slice none 0 0)).setCell ⟨w.heap.size, 1, none⟩ (.slice none 0 0) = we at *
      exact bodyPost_ret (v := .tuple #[.agg #[.slice none 0 0, .slice none 0 0], .int .i64 140]) (by simp [results, Try.results27, go_sem, r0, r1]) rfl ⟨_, rfl, CfAt.nil _ _, HKE.out⟩
    · have q2 : ¬ ((bs.length : Int) < 2 + (n : Int)) := by omega
      go_enter Try.func27, Try.ntmps27
      go_wp2
      generalize (w.alloc (.cells #[.slice none 0 0, .slice none 0 0] 24)).alloc (.cells #[.slice none 0 0, .slice none 0 0] 24) = w1 at *
      have q3 : (n : Int) < (bs.length : Int) := by omega
      obtain ⟨i0, hi0, hz0, hz1, hz2⟩ := info_parts intinfo
      go_loopw [6] (fun i wr => ∃ (j : Nat) (u : Value), 1 ≤ j ∧ j ≤ (n + 1) ∧ i = .int .i64 (j : Int) ∧ Keep noneOf w wr ∧ Box wr w.heap.size 24 #[.slice none 0 0, .slice none 0 0] ∧ Box wr (w.heap.size + 1) 24 #[u, .slice none 0 0] ∧ wr.ownsRow (w.heap.size + 2) 3 1 u (seg bs (1) j).length ((seg bs (1) j).map zv)) (fun i _ => (n + 1) - (intOf i).toNat)
      case atStart => exact ⟨1, .slice none 0 0, Nat.le_refl _, by omega, rfl, HK1.out, HX1.out, HY1.out, by rw [seg_nil]; exact World.ownsRow_nil _ _ _ _⟩
      case round =>
        obtain ⟨j, u, hj0, hj1, rfl, hkw, hbr, hbq, hown⟩ := hrel
        obtain ⟨wk, rfl⟩ : ∃ wk, wk = wr := ⟨_, rfl⟩
        obtain ⟨A3, c3, hv3⟩ := own_shape hown
        subst hv3
        have HKW := Lib.hid hkw
        have HOWN := Lib.hid hown
        have HBR := Lib.hid hbr
        have HBQ := Lib.hid hbq
        have hsz := hbq.lt
        have HSL := Lib.hid (seg_length (bs := bs) (s := 1) (j := j) (by omega))
        clear hown hkw hbr hbq
        by_cases hlt : j < (n + 1)
        · have hjl : j < bs.length := by omega
          have MC : Hid (∀ w', Keep noneOf w w' → w'.cell? ⟨bb, o + j, none⟩ = some (.int .u8 ((bs[j]).toNat : Int))) := fun w' k => (k.cell (p := ⟨bb, o + j, none⟩) hblk id).trans (HCE.out j _ (List.getElem?_eq_getElem hjl))
          have HS := Lib.hid (seg_succ (bs := bs) hj0 hjl)
          have hm := (bs[j]).toNat_lt
          have hw6 := wrap_u8 hm
          have hsb : (seg bs (1) j).length ≤ 17592186043904 := by rw [HSL.out]; omega
          generalize (bs[j]).toNat = m at *
          generalize seg bs (1) j = S0 at *
          obtain ⟨S1, hS1⟩ : ∃ S1, seg bs (1) (j + 1) = S1 := ⟨_, rfl⟩
          have HS1 := Lib.hid hS1
          rw [hS1] at HS
          clear hS1
          have p0 : (0 : Int) ≤ (j : Int) := by omega
          have p1 : (j : Int) < (bs.length : Int) := by omega
          have p2 : (j : Int) ≤ (n : Int) := by omega
          have KZ := HKW.out.drew
          go_wp2
          refine wp_region_held_drew (S := fun w' => Keep noneOf w w') (by kernel_rfl) (KZ) (fun hHeld => ?_)
          refine' wpAnyH_take (i := 0) (v := _) rfl (by kernel_rfl) (by kernel_rfl) (by kernel_rfl) (fun _ _ _ h => h) (Or.inl ⟨by kernel_rfl, ?hy0⟩) (by assumption) ?_
          case hy0 => intro w' hSw; have := MC.out w' hSw; go_simp; try with_reducible rfl
          simp only [Act.put, List.getElem_toArray, List.getElem_cons_zero, List.getElem_cons_succ, List.setIfInBounds_toArray, List.set_cons_zero, List.set_cons_succ]
          refine' wpAnyH_take (i := 2) (v := _) rfl (by kernel_rfl) (by kernel_rfl) (by kernel_rfl) (fun _ _ _ h => h) (Or.inl ⟨by kernel_rfl, ?hy2⟩) (by assumption) ?_
          case hy2 => intro w' hSw; have := MC.out w' hSw; go_simp; try with_reducible rfl
          simp only [Act.put, List.getElem_toArray, List.getElem_cons_zero, List.getElem_cons_succ, List.setIfInBounds_toArray, List.set_cons_zero, List.set_cons_succ]
          refine' wpAnyH_take (i := 3) (v := _) rfl (by kernel_rfl) (by kernel_rfl) (by kernel_rfl) (fun _ _ _ h => h) (Or.inl ⟨by kernel_rfl, ?hy3⟩) (by assumption) ?_
          case hy3 => intro w' hSw; have := MC.out w' hSw; go_simp; try with_reducible rfl
          simp only [Act.put, List.getElem_toArray, List.getElem_cons_zero, List.getElem_cons_succ, List.setIfInBounds_toArray, List.set_cons_zero, List.set_cons_succ]
          refine' wpAnyH_take (i := 4) (v := _) rfl (by kernel_rfl) (by kernel_rfl) (by kernel_rfl) (fun _ _ _ h => h) (Or.inl ⟨by kernel_rfl, ?hy4⟩) (by assumption) ?_
          case hy4 => intro w' hSw; have := MC.out w' hSw; go_simp; try with_reducible rfl
          simp only [Act.put, List.getElem_toArray, List.getElem_cons_zero, List.getElem_cons_succ, List.setIfInBounds_toArray, List.set_cons_zero, List.set_cons_succ]
          refine' wpAnyH_take (i := 5) (v := _) rfl (by kernel_rfl) (by kernel_rfl) (by kernel_rfl) (fun _ _ _ h => h) (Or.inl ⟨by kernel_rfl, ?hy5⟩) (by assumption) ?_
          case hy5 => intro w' hSw; have := MC.out w' hSw; go_simp; try with_reducible rfl
          simp only [Act.put, List.getElem_toArray, List.getElem_cons_zero, List.getElem_cons_succ, List.setIfInBounds_toArray, List.set_cons_zero, List.set_cons_succ]
          refine' wpAnyH_take (i := 6) (v := .int .i64 (m : Int)) rfl (by kernel_rfl) (by kernel_rfl) (by kernel_rfl) (fun _ _ _ h => h) (Or.inl ⟨by kernel_rfl, ?hy6⟩) (by assumption) ?_
          case hy6 => intro w' hSw; have := MC.out w' hSw; go_simp; try rw [hw6]
          simp only [Act.put, List.getElem_toArray, List.getElem_cons_zero, List.getElem_cons_succ, List.setIfInBounds_toArray, List.set_cons_zero, List.set_cons_succ]
          have KA : Keep noneOf w ((wk.alloc (.cells #[.int .i64 (m : Int)] 3)).drew) := (HKW.out.alloc _).drew
          have OA : ((wk.alloc (.cells #[.int .i64 (m : Int)] 3)).drew).ownsRow (w.heap.size + 2) 3 1 (.slice A3 S0.length c3) S0.length (S0.map zv) := HOWN.out.alloc _
          have ZA : Zs ((wk.alloc (.cells #[.int .i64 (m : Int)] 3)).drew) (fun k => w.heap.size + 2 ≤ k) (.slice (some ⟨wk.heap.size, 0, none⟩) 1 1) [(m : Int)] := Zs.of_own (own_one wk (by omega) 3 (zv (m : Int)))
          have BQA : Box ((wk.alloc (.cells #[.int .i64 (m : Int)] 3)).drew) (w.heap.size + 1) 24 _ := HBQ.out.alloc _
          have BRA : Box ((wk.alloc (.cells #[.int .i64 (m : Int)] 3)).drew) w.heap.size 24 _ := HBR.out.alloc _
          have hbase : w.heap.size + 2 ≤ ((wk.alloc (.cells #[.int .i64 (m : Int)] 3)).drew).heap.size := by show _ ≤ (wk.alloc _).heap.size; rw [World.size_alloc]; omega
          refine wpAnyH_ready (rs := [1, 7]) (by kernel_rfl) (by simp) (AllReadyH.cons rfl (fun K hK => ?_) (AllReadyH.cons rfl (fun K hK => ?_) AllReadyH.nil))
          · have y0 := HBQ.out.cell 0
            go_simp
            refine hK.out _ _ (KZ) (fun hHeld => ?_)
            clear hK K
            try simp only [Act.put, List.getElem_toArray, List.getElem_cons_zero, List.getElem_cons_succ, List.setIfInBounds_toArray, List.set_cons_zero, List.set_cons_succ]
            clear y0
            refine wpAnyH_ready (rs := [7]) (by kernel_rfl) (by simp) (AllReadyH.cons rfl (fun K hK => ?_) AllReadyH.nil)
            go_simp
            refine hK.out _ _ (KA) (fun hHeld => ?_)
            clear hK K
            try simp only [Act.put, List.getElem_toArray, List.getElem_cons_zero, List.getElem_cons_succ, List.setIfInBounds_toArray, List.set_cons_zero, List.set_cons_succ]
            refine wpAnyH_ready (rs := [8]) (by kernel_rfl) (by simp) (AllReadyH.cons rfl (fun K hK => ?_) AllReadyH.nil)
            refine step_append_zs _ (w.heap.size + 2) hbase rfl _ _ 22 rfl 3 i0 _ Try.underlying22 hi0 hz0 hz1 hz2 rfl _ _ S0 [(m : Int)] _ rfl rfl OA ZA (by simp; omega) ?_
            intro v1 w5 hown1 hg1
            rw [← HS.out] at hown1
            have K5 : Keep noneOf w w5 := KA.grownB hg1 OA (by omega)
            have BQ5 := BQA.keep (Keep.of_grown hg1) (fun e => by have := (OA.lt _ e.symm).1; omega)
            have BR5 := BRA.keep (Keep.of_grown hg1) (fun e => by have := (OA.lt _ e.symm).1; omega)
            obtain ⟨A5, c5, hv5⟩ := own_shape hown1
            subst hv5
            refine hK.out _ _ (K5) (fun hHeld => ?_)
            clear hK K
            try simp only [Act.put, List.getElem_toArray, List.getElem_cons_zero, List.getElem_cons_succ, List.setIfInBounds_toArray, List.set_cons_zero, List.set_cons_succ]
            refine wpAnyH_ready (rs := [9]) (by kernel_rfl) (by simp) (AllReadyH.cons rfl (fun K hK => ?_) AllReadyH.nil)
            go_simp
            refine hK.out _ _ (K5) (fun hHeld => ?_)
            clear hK K
            try simp only [Act.put, List.getElem_toArray, List.getElem_cons_zero, List.getElem_cons_succ, List.setIfInBounds_toArray, List.set_cons_zero, List.set_cons_succ]
            have z0 := BQ5.cell 0
            have g0 := BQ5.free 0
            refine wpAnyH_ready (rs := [10]) (by kernel_rfl) (by simp) (AllReadyH.cons rfl (fun K hK => ?_) AllReadyH.nil)
            go_simp
            have K6 : Keep noneOf w (w5.setCell ⟨w.heap.size + 1, 0, none⟩ (.slice A5 S1.length c5)) := K5.setCell (p := ⟨w.heap.size + 1, 0, none⟩) (fun hh => absurd hh (by show ¬ w.heap.size + 1 < w.heap.size; omega)) _
            have KQ6 : Keep (fun i => i = w.heap.size + 1) w5 (w5.setCell ⟨w.heap.size + 1, 0, none⟩ (.slice A5 S1.length c5)) := (Keep.refl (fun i => i = w.heap.size + 1) w5).setCell (p := ⟨w.heap.size + 1, 0, none⟩) (fun _ => rfl) _
            have HBQ6 := Lib.hid (BQ5.put 0 (.slice A5 S1.length c5))
            have HBR6 := Lib.hid (BR5.keep KQ6 (by omega))
            have HO6 := Lib.hid (own_keep hown1 KQ6 (fun jj hj e => by have := (hown1.lt jj hj).1; omega))
            skip
            refine hK.out _ _ (K6) (fun hHeld => ?_)
            clear hK K
            try simp only [Act.put, List.getElem_toArray, List.getElem_cons_zero, List.getElem_cons_succ, List.setIfInBounds_toArray, List.set_cons_zero, List.set_cons_succ]
            generalize w5.setCell ⟨w.heap.size + 1, 0, none⟩ (.slice A5 S1.length c5) = w6 at *
            refine wpAnyH_done (by kernel_rfl) ?_ _
            have HK6 := Lib.hid K6
            clear hHeld K5 K6 KQ6 BQ5 BR5 hown1 hg1 OA ZA BQA BRA KA z0 g0 KZ 
            go_wp2
            go_roundw
            case rel => exact ⟨j + 1, _, by omega, by omega, by go_num, HK6.out, HBR6.out, HBQ6.out, by rw [HS1.out]; exact HO6.out⟩
            case measure => simp [intOf]; omega
          · go_simp
            refine hK.out _ _ (KA) (fun hHeld => ?_)
            clear hK K
            try simp only [Act.put, List.getElem_toArray, List.getElem_cons_zero, List.getElem_cons_succ, List.setIfInBounds_toArray, List.set_cons_zero, List.set_cons_succ]
            refine wpAnyH_ready (rs := [1]) (by kernel_rfl) (by simp) (AllReadyH.cons rfl (fun K hK => ?_) AllReadyH.nil)
            have y0 := HBQ.out.cell 0
            go_simp
            refine hK.out _ _ (KA) (fun hHeld => ?_)
            clear hK K
            try simp only [Act.put, List.getElem_toArray, List.getElem_cons_zero, List.getElem_cons_succ, List.setIfInBounds_toArray, List.set_cons_zero, List.set_cons_succ]
            clear y0
            refine wpAnyH_ready (rs := [8]) (by kernel_rfl) (by simp) (AllReadyH.cons rfl (fun K hK => ?_) AllReadyH.nil)
            refine step_append_zs _ (w.heap.size + 2) hbase rfl _ _ 22 rfl 3 i0 _ Try.underlying22 hi0 hz0 hz1 hz2 rfl _ _ S0 [(m : Int)] _ rfl rfl OA ZA (by simp; omega) ?_
            intro v1 w5 hown1 hg1
            rw [← HS.out] at hown1
            have K5 : Keep noneOf w w5 := KA.grownB hg1 OA (by omega)
            have BQ5 := BQA.keep (Keep.of_grown hg1) (fun e => by have := (OA.lt _ e.symm).1; omega)
            have BR5 := BRA.keep (Keep.of_grown hg1) (fun e => by have := (OA.lt _ e.symm).1; omega)
            obtain ⟨A5, c5, hv5⟩ := own_shape hown1
            subst hv5
            refine hK.out _ _ (K5) (fun hHeld => ?_)
            clear hK K
            try simp only [Act.put, List.getElem_toArray, List.getElem_cons_zero, List.getElem_cons_succ, List.setIfInBounds_toArray, List.set_cons_zero, List.set_cons_succ]
            refine wpAnyH_ready (rs := [9]) (by kernel_rfl) (by simp) (AllReadyH.cons rfl (fun K hK => ?_) AllReadyH.nil)
            go_simp
            refine hK.out _ _ (K5) (fun hHeld => ?_)
            clear hK K
            try simp only [Act.put, List.getElem_toArray, List.getElem_cons_zero, List.getElem_cons_succ, List.setIfInBounds_toArray, List.set_cons_zero, List.set_cons_succ]
            have z0 := BQ5.cell 0
            have g0 := BQ5.free 0
            refine wpAnyH_ready (rs := [10]) (by kernel_rfl) (by simp) (AllReadyH.cons rfl (fun K hK => ?_) AllReadyH.nil)
            go_simp
            have K6 : Keep noneOf w (w5.setCell ⟨w.heap.size + 1, 0, none⟩ (.slice A5 S1.length c5)) := K5.setCell (p := ⟨w.heap.size + 1, 0, none⟩) (fun hh => absurd hh (by show ¬ w.heap.size + 1 < w.heap.size; omega)) _
            have KQ6 : Keep (fun i => i = w.heap.size + 1) w5 (w5.setCell ⟨w.heap.size + 1, 0, none⟩ (.slice A5 S1.length c5)) := (Keep.refl (fun i => i = w.heap.size + 1) w5).setCell (p := ⟨w.heap.size + 1, 0, none⟩) (fun _ => rfl) _
            have HBQ6 := Lib.hid (BQ5.put 0 (.slice A5 S1.length c5))
            have HBR6 := Lib.hid (BR5.keep KQ6 (by omega))
            have HO6 := Lib.hid (own_keep hown1 KQ6 (fun jj hj e => by have := (hown1.lt jj hj).1; omega))
            skip
            refine hK.out _ _ (K6) (fun hHeld => ?_)
            clear hK K
            try simp only [Act.put, List.getElem_toArray, List.getElem_cons_zero, List.getElem_cons_succ, List.setIfInBounds_toArray, List.set_cons_zero, List.set_cons_succ]
            generalize w5.setCell ⟨w.heap.size + 1, 0, none⟩ (.slice A5 S1.length c5) = w6 at *
            refine wpAnyH_done (by kernel_rfl) ?_ _
            have HK6 := Lib.hid K6
            clear hHeld K5 K6 KQ6 BQ5 BR5 hown1 hg1 OA ZA BQA BRA KA z0 g0 KZ 
            go_wp2
            go_roundw
            case rel => exact ⟨j + 1, _, by omega, by omega, by go_num, HK6.out, HBR6.out, HBQ6.out, by rw [HS1.out]; exact HO6.out⟩
            case measure => simp [intOf]; omega
        · obtain rfl : j = (n + 1) := by omega
          have p2 : ¬ (((n + 1 : Nat) : Int) ≤ (n : Int)) := by omega
          obtain ⟨V, hV⟩ : ∃ V, seg bs 1 (n + 1) = V := ⟨_, rfl⟩
          rw [hV] at HOWN HBQ HR
          clear hV
          have HOWNa := Lib.hid HOWN.out
          have hsz9 := hsz
          go_wp2
          go_loopw [7] (fun i wr => ∃ (j : Nat) (u : Value), n + 2 ≤ j ∧ j ≤ bs.length ∧ i = .int .i64 (j : Int) ∧ Keep noneOf w wr ∧ Box wr w.heap.size 24 #[.slice none 0 0, .slice none 0 0] ∧ Box wr (w.heap.size + 1) 24 #[.slice A3 V.length c3, u] ∧ wr.ownsRow (wk.heap.size) 3 1 u (seg bs (n + 2) j).length ((seg bs (n + 2) j).map zv) ∧ Keep (fun i => i = w.heap.size + 1) wk wr) (fun i _ => bs.length - (intOf i).toNat)
          case atStart => exact ⟨n + 2, .slice none 0 0, Nat.le_refl _, by omega, by go_num, HKW.out, HBR.out, HBQ.out, by rw [seg_nil]; exact World.ownsRow_nil _ _ _ _, Keep.refl _ _⟩
          case round =>
            obtain ⟨j, u, hj0, hj1, rfl, hkw, hbr, hbq, hown, hkx⟩ := hrel
            obtain ⟨wl, rfl⟩ : ∃ wl, wl = wr := ⟨_, rfl⟩
            obtain ⟨A4, c4, hv3⟩ := own_shape hown
            subst hv3
            have HKW := Lib.hid hkw
            have HKX := Lib.hid hkx
            have hs9 := hkx.size
            have HOWN := Lib.hid hown
            have HBR := Lib.hid hbr
            have HBQ := Lib.hid hbq
            have hsz := hbq.lt
            have HSL := Lib.hid (seg_length (bs := bs) (s := n + 2) (j := j) (by omega))
            clear hown hkw hbr hbq hkx
            by_cases hlt : j < bs.length
            · have hjl : j < bs.length := by omega
              have MC : Hid (∀ w', Keep noneOf w w' → w'.cell? ⟨bb, o + j, none⟩ = some (.int .u8 ((bs[j]).toNat : Int))) := fun w' k => (k.cell (p := ⟨bb, o + j, none⟩) hblk id).trans (HCE.out j _ (List.getElem?_eq_getElem hjl))
              have HS := Lib.hid (seg_succ (bs := bs) hj0 hjl)
              have hm := (bs[j]).toNat_lt
              have hw6 := wrap_u8 hm
              have hsb : (seg bs (n + 2) j).length ≤ 17592186043904 := by rw [HSL.out]; omega
              generalize (bs[j]).toNat = m at *
              generalize seg bs (n + 2) j = S0 at *
              obtain ⟨S1, hS1⟩ : ∃ S1, seg bs (n + 2) (j + 1) = S1 := ⟨_, rfl⟩
              have HS1 := Lib.hid hS1
              rw [hS1] at HS
              clear hS1
              have p0 : (0 : Int) ≤ (j : Int) := by omega
              have p1 : (j : Int) < (bs.length : Int) := by omega
              skip
              have KZ := HKW.out.drew
              go_wp2
              refine wp_region_held_drew (S := fun w' => Keep noneOf w w') (by kernel_rfl) (KZ) (fun hHeld => ?_)
              refine' wpAnyH_take (i := 0) (v := _) rfl (by kernel_rfl) (by kernel_rfl) (by kernel_rfl) (fun _ _ _ h => h) (Or.inl ⟨by kernel_rfl, ?hy0⟩) (by assumption) ?_
              case hy0 => intro w' hSw; have := MC.out w' hSw; go_simp; try with_reducible rfl
              simp only [Act.put, List.getElem_toArray, List.getElem_cons_zero, List.getElem_cons_succ, List.setIfInBounds_toArray, List.set_cons_zero, List.set_cons_succ]
              refine' wpAnyH_take (i := 2) (v := _) rfl (by kernel_rfl) (by kernel_rfl) (by kernel_rfl) (fun _ _ _ h => h) (Or.inl ⟨by kernel_rfl, ?hy2⟩) (by assumption) ?_
              case hy2 => intro w' hSw; have := MC.out w' hSw; go_simp; try with_reducible rfl
              simp only [Act.put, List.getElem_toArray, List.getElem_cons_zero, List.getElem_cons_succ, List.setIfInBounds_toArray, List.set_cons_zero, List.set_cons_succ]
              refine' wpAnyH_take (i := 3) (v := _) rfl (by kernel_rfl) (by kernel_rfl) (by kernel_rfl) (fun _ _ _ h => h) (Or.inl ⟨by kernel_rfl, ?hy3⟩) (by assumption) ?_
              case hy3 => intro w' hSw; have := MC.out w' hSw; go_simp; try with_reducible rfl
              simp only [Act.put, List.getElem_toArray, List.getElem_cons_zero, List.getElem_cons_succ, List.setIfInBounds_toArray, List.set_cons_zero, List.set_cons_succ]
              refine' wpAnyH_take (i := 4) (v := _) rfl (by kernel_rfl) (by kernel_rfl) (by kernel_rfl) (fun _ _ _ h => h) (Or.inl ⟨by kernel_rfl, ?hy4⟩) (by assumption) ?_
              case hy4 => intro w' hSw; have := MC.out w' hSw; go_simp; try with_reducible rfl
              simp only [Act.put, List.getElem_toArray, List.getElem_cons_zero, List.getElem_cons_succ, List.setIfInBounds_toArray, List.set_cons_zero, List.set_cons_succ]
              refine' wpAnyH_take (i := 5) (v := _) rfl (by kernel_rfl) (by kernel_rfl) (by kernel_rfl) (fun _ _ _ h => h) (Or.inl ⟨by kernel_rfl, ?hy5⟩) (by assumption) ?_
              case hy5 => intro w' hSw; have := MC.out w' hSw; go_simp; try with_reducible rfl
              simp only [Act.put, List.getElem_toArray, List.getElem_cons_zero, List.getElem_cons_succ, List.setIfInBounds_toArray, List.set_cons_zero, List.set_cons_succ]
              refine' wpAnyH_take (i := 6) (v := .int .i64 (m : Int)) rfl (by kernel_rfl) (by kernel_rfl) (by kernel_rfl) (fun _ _ _ h => h) (Or.inl ⟨by kernel_rfl, ?hy6⟩) (by assumption) ?_
              case hy6 => intro w' hSw; have := MC.out w' hSw; go_simp; try rw [hw6]
              simp only [Act.put, List.getElem_toArray, List.getElem_cons_zero, List.getElem_cons_succ, List.setIfInBounds_toArray, List.set_cons_zero, List.set_cons_succ]
              have KA : Keep noneOf w ((wl.alloc (.cells #[.int .i64 (m : Int)] 3)).drew) := (HKW.out.alloc _).drew
              have OA : ((wl.alloc (.cells #[.int .i64 (m : Int)] 3)).drew).ownsRow (wk.heap.size) 3 1 (.slice A4 S0.length c4) S0.length (S0.map zv) := HOWN.out.alloc _
              have ZA : Zs ((wl.alloc (.cells #[.int .i64 (m : Int)] 3)).drew) (fun k => wk.heap.size ≤ k) (.slice (some ⟨wl.heap.size, 0, none⟩) 1 1) [(m : Int)] := Zs.of_own (own_one wl (by omega) 3 (zv (m : Int)))
              have BQA : Box ((wl.alloc (.cells #[.int .i64 (m : Int)] 3)).drew) (w.heap.size + 1) 24 _ := HBQ.out.alloc _
              have BRA : Box ((wl.alloc (.cells #[.int .i64 (m : Int)] 3)).drew) w.heap.size 24 _ := HBR.out.alloc _
              have hbase : wk.heap.size ≤ ((wl.alloc (.cells #[.int .i64 (m : Int)] 3)).drew).heap.size := by show _ ≤ (wl.alloc _).heap.size; rw [World.size_alloc]; omega
              have KXA : Keep (fun i => i = w.heap.size + 1) wk ((wl.alloc (.cells #[.int .i64 (m : Int)] 3)).drew) := (HKX.out.alloc _).drew
              refine wpAnyH_ready (rs := [1, 7]) (by kernel_rfl) (by simp) (AllReadyH.cons rfl (fun K hK => ?_) (AllReadyH.cons rfl (fun K hK => ?_) AllReadyH.nil))
              · have y0 := HBQ.out.cell 1
                go_simp
                refine hK.out _ _ (KZ) (fun hHeld => ?_)
                clear hK K
                try simp only [Act.put, List.getElem_toArray, List.getElem_cons_zero, List.getElem_cons_succ, List.setIfInBounds_toArray, List.set_cons_zero, List.set_cons_succ]
                clear y0
                refine wpAnyH_ready (rs := [7]) (by kernel_rfl) (by simp) (AllReadyH.cons rfl (fun K hK => ?_) AllReadyH.nil)
                go_simp
                refine hK.out _ _ (KA) (fun hHeld => ?_)
                clear hK K
                try simp only [Act.put, List.getElem_toArray, List.getElem_cons_zero, List.getElem_cons_succ, List.setIfInBounds_toArray, List.set_cons_zero, List.set_cons_succ]
                refine wpAnyH_ready (rs := [8]) (by kernel_rfl) (by simp) (AllReadyH.cons rfl (fun K hK => ?_) AllReadyH.nil)
                refine step_append_zs _ (wk.heap.size) hbase rfl _ _ 22 rfl 3 i0 _ Try.underlying22 hi0 hz0 hz1 hz2 rfl _ _ S0 [(m : Int)] _ rfl rfl OA ZA (by simp; omega) ?_
                intro v1 w5 hown1 hg1
                rw [← HS.out] at hown1
                have K5 : Keep noneOf w w5 := KA.grownB hg1 OA (by omega)
                have BQ5 := BQA.keep (Keep.of_grown hg1) (fun e => by have := (OA.lt _ e.symm).1; omega)
                have BR5 := BRA.keep (Keep.of_grown hg1) (fun e => by have := (OA.lt _ e.symm).1; omega)
                have KX5 := KXA.trans (Keep.of_grown hg1) (fun jj hj e => absurd (OA.lt jj e.symm).1 (by omega))
                obtain ⟨A5, c5, hv5⟩ := own_shape hown1
                subst hv5
                refine hK.out _ _ (K5) (fun hHeld => ?_)
                clear hK K
                try simp only [Act.put, List.getElem_toArray, List.getElem_cons_zero, List.getElem_cons_succ, List.setIfInBounds_toArray, List.set_cons_zero, List.set_cons_succ]
                refine wpAnyH_ready (rs := [9]) (by kernel_rfl) (by simp) (AllReadyH.cons rfl (fun K hK => ?_) AllReadyH.nil)
                go_simp
                refine hK.out _ _ (K5) (fun hHeld => ?_)
                clear hK K
                try simp only [Act.put, List.getElem_toArray, List.getElem_cons_zero, List.getElem_cons_succ, List.setIfInBounds_toArray, List.set_cons_zero, List.set_cons_succ]
                have z0 := BQ5.cell 1
                have g0 := BQ5.free 1
                refine wpAnyH_ready (rs := [10]) (by kernel_rfl) (by simp) (AllReadyH.cons rfl (fun K hK => ?_) AllReadyH.nil)
                go_simp
                have K6 : Keep noneOf w (w5.setCell ⟨w.heap.size + 1, 1, none⟩ (.slice A5 S1.length c5)) := K5.setCell (p := ⟨w.heap.size + 1, 1, none⟩) (fun hh => absurd hh (by show ¬ w.heap.size + 1 < w.heap.size; omega)) _
                have KQ6 : Keep (fun i => i = w.heap.size + 1) w5 (w5.setCell ⟨w.heap.size + 1, 1, none⟩ (.slice A5 S1.length c5)) := (Keep.refl (fun i => i = w.heap.size + 1) w5).setCell (p := ⟨w.heap.size + 1, 1, none⟩) (fun _ => rfl) _
                have HBQ6 := Lib.hid (BQ5.put 1 (.slice A5 S1.length c5))
                have HBR6 := Lib.hid (BR5.keep KQ6 (by omega))
                have HO6 := Lib.hid (own_keep hown1 KQ6 (fun jj hj e => by have := (hown1.lt jj hj).1; omega))
                have HKX6 := Lib.hid (KX5.trans KQ6 (fun _ _ h => h))
                refine hK.out _ _ (K6) (fun hHeld => ?_)
                clear hK K
                try simp only [Act.put, List.getElem_toArray, List.getElem_cons_zero, List.getElem_cons_succ, List.setIfInBounds_toArray, List.set_cons_zero, List.set_cons_succ]
                generalize w5.setCell ⟨w.heap.size + 1, 1, none⟩ (.slice A5 S1.length c5) = w6 at *
                refine wpAnyH_done (by kernel_rfl) ?_ _
                have HK6 := Lib.hid K6
                clear hHeld K5 K6 KQ6 BQ5 BR5 hown1 hg1 OA ZA BQA BRA KA z0 g0 KZ KXA KX5
                go_wp2
                go_roundw
                case rel => exact ⟨j + 1, _, by omega, by omega, by go_num, HK6.out, HBR6.out, HBQ6.out, by rw [HS1.out]; exact HO6.out, HKX6.out⟩
                case measure => simp [intOf]; omega
              · go_simp
                refine hK.out _ _ (KA) (fun hHeld => ?_)
                clear hK K
                try simp only [Act.put, List.getElem_toArray, List.getElem_cons_zero, List.getElem_cons_succ, List.setIfInBounds_toArray, List.set_cons_zero, List.set_cons_succ]
                refine wpAnyH_ready (rs := [1]) (by kernel_rfl) (by simp) (AllReadyH.cons rfl (fun K hK => ?_) AllReadyH.nil)
                have y0 := HBQ.out.cell 1
                go_simp
                refine hK.out _ _ (KA) (fun hHeld => ?_)
                clear hK K
                try simp only [Act.put, List.getElem_toArray, List.getElem_cons_zero, List.getElem_cons_succ, List.setIfInBounds_toArray, List.set_cons_zero, List.set_cons_succ]
                clear y0
                refine wpAnyH_ready (rs := [8]) (by kernel_rfl) (by simp) (AllReadyH.cons rfl (fun K hK => ?_) AllReadyH.nil)
                refine step_append_zs _ (wk.heap.size) hbase rfl _ _ 22 rfl 3 i0 _ Try.underlying22 hi0 hz0 hz1 hz2 rfl _ _ S0 [(m : Int)] _ rfl rfl OA ZA (by simp; omega) ?_
                intro v1 w5 hown1 hg1
                rw [← HS.out] at hown1
                have K5 : Keep noneOf w w5 := KA.grownB hg1 OA (by omega)
                have BQ5 := BQA.keep (Keep.of_grown hg1) (fun e => by have := (OA.lt _ e.symm).1; omega)
                have BR5 := BRA.keep (Keep.of_grown hg1) (fun e => by have := (OA.lt _ e.symm).1; omega)
                have KX5 := KXA.trans (Keep.of_grown hg1) (fun jj hj e => absurd (OA.lt jj e.symm).1 (by omega))
                obtain ⟨A5, c5, hv5⟩ := own_shape hown1
                subst hv5
                refine hK.out _ _ (K5) (fun hHeld => ?_)
                clear hK K
                try simp only [Act.put, List.getElem_toArray, List.getElem_cons_zero, List.getElem_cons_succ, List.setIfInBounds_toArray, List.set_cons_zero, List.set_cons_succ]
                refine wpAnyH_ready (rs := [9]) (by kernel_rfl) (by simp) (AllReadyH.cons rfl (fun K hK => ?_) AllReadyH.nil)
                go_simp
                refine hK.out _ _ (K5) (fun hHeld => ?_)
                clear hK K
                try simp only [Act.put, List.getElem_toArray, List.getElem_cons_zero, List.getElem_cons_succ, List.setIfInBounds_toArray, List.set_cons_zero, List.set_cons_succ]
                have z0 := BQ5.cell 1
                have g0 := BQ5.free 1
                refine wpAnyH_ready (rs := [10]) (by kernel_rfl) (by simp) (AllReadyH.cons rfl (fun K hK => ?_) AllReadyH.nil)
                go_simp
                have K6 : Keep noneOf w (w5.setCell ⟨w.heap.size + 1, 1, none⟩ (.slice A5 S1.length c5)) := K5.setCell (p := ⟨w.heap.size + 1, 1, none⟩) (fun hh => absurd hh (by show ¬ w.heap.size + 1 < w.heap.size; omega)) _
                have KQ6 : Keep (fun i => i = w.heap.size + 1) w5 (w5.setCell ⟨w.heap.size + 1, 1, none⟩ (.slice A5 S1.length c5)) := (Keep.refl (fun i => i = w.heap.size + 1) w5).setCell (p := ⟨w.heap.size + 1, 1, none⟩) (fun _ => rfl) _
                have HBQ6 := Lib.hid (BQ5.put 1 (.slice A5 S1.length c5))
                have HBR6 := Lib.hid (BR5.keep KQ6 (by omega))
                have HO6 := Lib.hid (own_keep hown1 KQ6 (fun jj hj e => by have := (hown1.lt jj hj).1; omega))
                have HKX6 := Lib.hid (KX5.trans KQ6 (fun _ _ h => h))
                refine hK.out _ _ (K6) (fun hHeld => ?_)
                clear hK K
                try simp only [Act.put, List.getElem_toArray, List.getElem_cons_zero, List.getElem_cons_succ, List.setIfInBounds_toArray, List.set_cons_zero, List.set_cons_succ]
                generalize w5.setCell ⟨w.heap.size + 1, 1, none⟩ (.slice A5 S1.length c5) = w6 at *
                refine wpAnyH_done (by kernel_rfl) ?_ _
                have HK6 := Lib.hid K6
                clear hHeld K5 K6 KQ6 BQ5 BR5 hown1 hg1 OA ZA BQA BRA KA z0 g0 KZ KXA KX5
                go_wp2
                go_roundw
                case rel => exact ⟨j + 1, _, by omega, by omega, by go_num, HK6.out, HBR6.out, HBQ6.out, by rw [HS1.out]; exact HO6.out, HKX6.out⟩
                case measure => simp [intOf]; omega
            · obtain rfl : j = bs.length := by omega
              have p2 : ¬ ((bs.length : Int) < (bs.length : Int)) := by omega
              obtain ⟨T, hT⟩ : ∃ T, seg bs (n + 2) bs.length = T := ⟨_, rfl⟩
              rw [hT] at HOWN HBQ HR
              obtain ⟨gx, hgb⟩ : ∃ b, bs[n + 1]? = some b := ⟨_, List.getElem?_eq_getElem (by omega)⟩
              have HMC := Lib.hid (fun (w' : World) (k : Keep noneOf w w') => (k.cell (p := ⟨bb, o + (n + 1), none⟩) hblk id).trans (HCE.out (n + 1) _ hgb))
              have hg8 := gx.toNat_lt
              have hgg : ((bs[n + 1]?).getD 0).toNat = gx.toNat := by rw [hgb]; rfl
              unfold bv at HMC
              obtain ⟨g, hg⟩ : ∃ g, gx.toNat = g := ⟨_, rfl⟩
              rw [hg] at hgg hg8 HMC
              rw [hgg] at HR
              clear hg hgg
              obtain ⟨n1, hn1⟩ : ∃ k, n + 1 = k := ⟨_, rfl⟩
              rw [hn1] at HMC
              have hw1 : IntKind.i64.wrap ((n : Int) + 1) = (n1 : Int) := by rw [IntWalk.i64_in _ ⟨by omega, by omega⟩]; omega
              have hwg := wrap_u8 hg8
              have HZT := Lib.hid (Zs.of_own HOWN.out)
              have HZV := Lib.hid (Zs.of_own (own_keep HOWNa.out HKX.out (fun jj hj e => by have := (HOWNa.out.lt jj hj).1; omega)))
              have HCF : Hid (CfAt wl (fun k => w.heap.size + 2 ≤ k) (.agg #[.slice A3 V.length c3, .slice A4 T.length c4]) ⟨V, T⟩) := ⟨_, _, rfl, HZV.out, HZT.out.mono (fun i _ h => by omega)⟩
              have HCK := Lib.hid (fun (w' : World) (k : Keep noneOf wl w') => rcheck_any w' _ _ _ (HCF.out.keepN k))
              have KL := Keep.refl noneOf wl
              have MK : Hid (∀ w', Keep noneOf wl w' → w'.cell? ⟨bb, o + n1, none⟩ = some (.int .u8 (g : Int)) ∧ w'.cell? ⟨w.heap.size + 1, 0, none⟩ = some (.slice A3 V.length c3) ∧ w'.cell? ⟨w.heap.size + 1, 1, none⟩ = some (.slice A4 T.length c4)) := fun w' k => ⟨HMC.out w' (HKW.out.trans k (fun _ _ h => h)), (HBQ.out.keep k id).cell 0, (HBQ.out.keep k id).cell 1⟩
              have hTl : T.length ≤ 17592186043904 := by rw [← hT, seg_length (Nat.le_refl _)]; omega
              have hwT : IntKind.i64.wrap ((T.length : Nat) : Int) = ((T.length : Nat) : Int) := IntWalk.i64_in _ ⟨by omega, by omega⟩
              have p4 : (0 : Int) ≤ (n1 : Int) := by omega
              have p5 : (n1 : Int) < (bs.length : Int) := by omega
              clear hT hgb
              obtain ⟨CK, hCK⟩ : ∃ z, chkP ⟨V, T⟩ = z := ⟨_, rfl⟩
              rw [hCK] at HCK HR
              clear hCK
              have HR3 := Lib.hid ((if_neg h2).symm.trans HR.out)
              clear HR
              by_cases hgT : (g : Int) = ((T.length : Nat) : Int)
              · have gb : ((g : Int) != ((T.length : Nat) : Int)) = false := by rw [hgT]; simp
                by_cases hck : CK = 0
                · subst hck
                  obtain rfl : (⟨V, T⟩, 0) = R := (if_pos ⟨hgT, rfl⟩).symm.trans HR3.out
                  clear HR3
                  go_wp2
                  refine wp_region_held_drew (S := fun w' => Keep noneOf wl w') (by kernel_rfl) KL.drew (fun hHeld => ?_)
                  have KZ := KL.drew
                  refine' wpAnyH_take (i := 0) (v := _) rfl (by kernel_rfl) (by kernel_rfl) (by kernel_rfl) (fun _ _ _ h => h) (Or.inl ⟨by kernel_rfl, ?hz0⟩) (by assumption) ?_
                  case hz0 => intro w' hSw; obtain ⟨_, _, _⟩ := MK.out w' hSw; go_simp; try with_reducible rfl
                  simp only [Act.put, List.getElem_toArray, List.getElem_cons_zero, List.getElem_cons_succ, List.setIfInBounds_toArray, List.set_cons_zero, List.set_cons_succ]
                  refine' wpAnyH_take (i := 1) (v := _) rfl (by kernel_rfl) (by kernel_rfl) (by kernel_rfl) (fun _ _ _ h => h) (Or.inl ⟨by kernel_rfl, ?hz1⟩) (by assumption) ?_
                  case hz1 => intro w' hSw; obtain ⟨_, _, _⟩ := MK.out w' hSw; go_simp; try with_reducible rfl
                  simp only [Act.put, List.getElem_toArray, List.getElem_cons_zero, List.getElem_cons_succ, List.setIfInBounds_toArray, List.set_cons_zero, List.set_cons_succ]
                  refine' wpAnyH_take (i := 2) (v := .int .i64 (n1 : Int)) rfl (by kernel_rfl) (by kernel_rfl) (by kernel_rfl) (fun _ _ _ h => h) (Or.inl ⟨by kernel_rfl, ?hz2⟩) (by assumption) ?_
                  case hz2 => intro w' hSw; obtain ⟨_, _, _⟩ := MK.out w' hSw; go_simp; try rw [hw1]
                  simp only [Act.put, List.getElem_toArray, List.getElem_cons_zero, List.getElem_cons_succ, List.setIfInBounds_toArray, List.set_cons_zero, List.set_cons_succ]
                  refine' wpAnyH_take (i := 3) (v := _) rfl (by kernel_rfl) (by kernel_rfl) (by kernel_rfl) (fun _ _ _ h => h) (Or.inl ⟨by kernel_rfl, ?hz3⟩) (by assumption) ?_
                  case hz3 => intro w' hSw; obtain ⟨_, _, _⟩ := MK.out w' hSw; go_simp; try with_reducible rfl
                  simp only [Act.put, List.getElem_toArray, List.getElem_cons_zero, List.getElem_cons_succ, List.setIfInBounds_toArray, List.set_cons_zero, List.set_cons_succ]
                  refine' wpAnyH_take (i := 4) (v := _) rfl (by kernel_rfl) (by kernel_rfl) (by kernel_rfl) (fun _ _ _ h => h) (Or.inl ⟨by kernel_rfl, ?hz4⟩) (by assumption) ?_
                  case hz4 => intro w' hSw; obtain ⟨_, _, _⟩ := MK.out w' hSw; go_simp; try with_reducible rfl
                  simp only [Act.put, List.getElem_toArray, List.getElem_cons_zero, List.getElem_cons_succ, List.setIfInBounds_toArray, List.set_cons_zero, List.set_cons_succ]
                  refine' wpAnyH_take (i := 5) (v := .int .i64 (g : Int)) rfl (by kernel_rfl) (by kernel_rfl) (by kernel_rfl) (fun _ _ _ h => h) (Or.inl ⟨by kernel_rfl, ?hz5⟩) (by assumption) ?_
                  case hz5 => intro w' hSw; obtain ⟨_, _, _⟩ := MK.out w' hSw; go_simp; try rw [hwg]
                  simp only [Act.put, List.getElem_toArray, List.getElem_cons_zero, List.getElem_cons_succ, List.setIfInBounds_toArray, List.set_cons_zero, List.set_cons_succ]
                  refine' wpAnyH_take (i := 6) (v := _) rfl (by kernel_rfl) (by kernel_rfl) (by kernel_rfl) (fun _ _ _ h => h) (Or.inl ⟨by kernel_rfl, ?hz6⟩) (by assumption) ?_
                  case hz6 => intro w' hSw; obtain ⟨_, _, _⟩ := MK.out w' hSw; go_simp; try with_reducible rfl
                  simp only [Act.put, List.getElem_toArray, List.getElem_cons_zero, List.getElem_cons_succ, List.setIfInBounds_toArray, List.set_cons_zero, List.set_cons_succ]
                  refine' wpAnyH_take (i := 7) (v := _) rfl (by kernel_rfl) (by kernel_rfl) (by kernel_rfl) (fun _ _ _ h => h) (Or.inl ⟨by kernel_rfl, ?hz7⟩) (by assumption) ?_
                  case hz7 => intro w' hSw; obtain ⟨_, _, _⟩ := MK.out w' hSw; go_simp; try with_reducible rfl
                  simp only [Act.put, List.getElem_toArray, List.getElem_cons_zero, List.getElem_cons_succ, List.setIfInBounds_toArray, List.set_cons_zero, List.set_cons_succ]
                  refine' wpAnyH_take (i := 8) (v := .int .i64 ((T.length : Nat) : Int)) rfl (by kernel_rfl) (by kernel_rfl) (by kernel_rfl) (fun _ _ _ h => h) (Or.inl ⟨by kernel_rfl, ?hz8⟩) (by assumption) ?_
                  case hz8 => intro w' hSw; obtain ⟨_, _, _⟩ := MK.out w' hSw; go_simp; try rw [hwT]
                  simp only [Act.put, List.getElem_toArray, List.getElem_cons_zero, List.getElem_cons_succ, List.setIfInBounds_toArray, List.set_cons_zero, List.set_cons_succ]
                  refine' wpAnyH_take (i := 9) (v := .bool false) rfl (by kernel_rfl) (by kernel_rfl) (by kernel_rfl) (fun _ _ _ h => h) (Or.inl ⟨by kernel_rfl, ?hz9⟩) (by assumption) ?_
                  case hz9 => intro w' hSw; obtain ⟨_, _, _⟩ := MK.out w' hSw; go_simp; try simp only [gb]
                  simp only [Act.put, List.getElem_toArray, List.getElem_cons_zero, List.getElem_cons_succ, List.setIfInBounds_toArray, List.set_cons_zero, List.set_cons_succ]
                  refine' wpAnyH_take (i := 10) (v := .bool false) rfl (by kernel_rfl) (by kernel_rfl) (by kernel_rfl) (fun _ _ _ h => h) (Or.inl ⟨by kernel_rfl, ?hz10⟩) (by assumption) ?_
                  case hz10 => intro w' hSw; obtain ⟨_, _, _⟩ := MK.out w' hSw; first | rfl | (go_simp; try simp only [List.getElem?_cons_zero, Option.getD_some]; try go_simp)
                  simp only [Act.put, List.getElem_toArray, List.getElem_cons_zero, List.getElem_cons_succ, List.setIfInBounds_toArray, List.set_cons_zero, List.set_cons_succ]
                  refine' wpAnyH_take (i := 11) (v := _) rfl (by kernel_rfl) (by kernel_rfl) (by kernel_rfl) (fun _ _ _ h => h) (Or.inl ⟨by kernel_rfl, ?hz11⟩) (by assumption) ?_
                  case hz11 => intro w' hSw; obtain ⟨_, _, _⟩ := MK.out w' hSw; go_simp; try with_reducible rfl
                  simp only [Act.put, List.getElem_toArray, List.getElem_cons_zero, List.getElem_cons_succ, List.setIfInBounds_toArray, List.set_cons_zero, List.set_cons_succ]
                  refine wpAnyH_ready (rs := [12]) (by kernel_rfl) (by simp) (AllReadyH.cons rfl (fun K hK => ?_) AllReadyH.nil)
                  go_simp
                  go_at_call 13
                  refine (HCK.out _ KZ).mono ?_
                  rintro e wq ⟨rfl, kq⟩
                  go_wp2_with fail
                  have hwq := KZ.trans kq (fun _ _ h => h)
                  refine hK.out _ _ (hwq) (fun hHeld => ?_)
                  clear hK K
                  try simp only [Act.put, List.getElem_toArray, List.getElem_cons_zero, List.getElem_cons_succ, List.setIfInBounds_toArray, List.set_cons_zero, List.set_cons_succ]
                  refine' wpAnyH_take (i := 13) (v := .bool false) rfl (by kernel_rfl) (by kernel_rfl) (by kernel_rfl) (fun _ _ _ h => h) (Or.inl ⟨by kernel_rfl, ?hz13⟩) (by assumption) ?_
                  case hz13 => intro w' hSw; obtain ⟨_, _, _⟩ := MK.out w' hSw; first | rfl | (go_simp; try simp only [hb2])
                  simp only [Act.put, List.getElem_toArray, List.getElem_cons_zero, List.getElem_cons_succ, List.setIfInBounds_toArray, List.set_cons_zero, List.set_cons_succ]
                  refine' wpAnyH_take (i := 14) (v := .bool false) rfl (by kernel_rfl) (by kernel_rfl) (by kernel_rfl) (fun _ _ _ h => h) (Or.inl ⟨by kernel_rfl, ?hz14⟩) (by assumption) ?_
                  case hz14 => intro w' hSw; obtain ⟨_, _, _⟩ := MK.out w' hSw; first | rfl | (go_simp; try simp only [List.getElem?_cons_zero, Option.getD_some]; try go_simp)
                  simp only [Act.put, List.getElem_toArray, List.getElem_cons_zero, List.getElem_cons_succ, List.setIfInBounds_toArray, List.set_cons_zero, List.set_cons_succ]
                  refine wpAnyH_done (by kernel_rfl) ?_ _
                  have HKq := Lib.hid (HKW.out.trans hwq (fun _ _ h => h))
                  have HRq := Lib.hid (HBR.out.keep hwq id)
                  have HQq := Lib.hid (HBQ.out.keep hwq id)
                  have y0 := HQq.out.cell 0
                  have y1 := HQq.out.cell 1
                  have HCq := Lib.hid (HCF.out.keepN hwq)
                  clear hwq hHeld KZ KL MK
                  have x0 := HRq.out.cell 0
                  have x1 := HRq.out.cell 1
                  have f0 := HRq.out.free 0
                  have f1 := HRq.out.free 1
                  have HBX := Lib.hid ((HRq.out.put 0 (.slice A3 V.length c3)).put 1 (.slice A4 T.length c4))
                  have HKE := Lib.hid ((HKq.out.setCell (p := ⟨w.heap.size, 0, none⟩) (fun hh => absurd hh (by show ¬ w.heap.size < w.heap.size; omega)) (.slice A3 V.length c3)).setCell (p := ⟨w.heap.size, 1, none⟩) (fun hh => absurd hh (by show ¬ w.heap.size < w.heap.size; omega)) (.slice A4 T.length c4))
                  have HKX := Lib.hid (((Keep.refl (fun i => i = w.heap.size) wq).setCell (p := ⟨w.heap.size, 0, none⟩) (fun _ => rfl) (.slice A3 V.length c3)).setCell (p := ⟨w.heap.size, 1, none⟩) (fun _ => rfl) (.slice A4 T.length c4))
                  go_wp2
                  have r0 := HBX.out.cell 0
                  have r1 := HBX.out.cell 1
                  generalize (wq.setCell ⟨w.heap.size, 0, none⟩ (.slice A3 V.length c3)).setCell ⟨w.heap.size, 1, none⟩ (.slice A4 T.length c4) = we at *
                  exact bodyPost_ret (v := .tuple #[.agg #[.slice A3 V.length c3, .slice A4 T.length c4], .int .i64 0]) (by simp [results, Try.results27, go_sem, r0, r1]) rfl ⟨_, rfl, (HCq.out.keep HKX.out (fun i _ h e => by omega)).mono (fun i _ h => by omega), HKE.out⟩
                · have hb2 : (CK != 0) = true := by rw [bne_iff_ne]; exact hck
                  obtain rfl : (⟨[], []⟩, 140) = R := (if_neg (fun h => hck h.2)).symm.trans HR3.out
                  clear HR3 hck
                  go_wp2
                  refine wp_region_held_drew (S := fun w' => Keep noneOf wl w') (by kernel_rfl) KL.drew (fun hHeld => ?_)
                  have KZ := KL.drew
                  refine' wpAnyH_take (i := 0) (v := _) rfl (by kernel_rfl) (by kernel_rfl) (by kernel_rfl) (fun _ _ _ h => h) (Or.inl ⟨by kernel_rfl, ?hz0⟩) (by assumption) ?_
                  case hz0 => intro w' hSw; obtain ⟨_, _, _⟩ := MK.out w' hSw; go_simp; try with_reducible rfl
                  simp only [Act.put, List.getElem_toArray, List.getElem_cons_zero, List.getElem_cons_succ, List.setIfInBounds_toArray, List.set_cons_zero, List.set_cons_succ]
                  refine' wpAnyH_take (i := 1) (v := _) rfl (by kernel_rfl) (by kernel_rfl) (by kernel_rfl) (fun _ _ _ h => h) (Or.inl ⟨by kernel_rfl, ?hz1⟩) (by assumption) ?_
                  case hz1 => intro w' hSw; obtain ⟨_, _, _⟩ := MK.out w' hSw; go_simp; try with_reducible rfl
                  simp only [Act.put, List.getElem_toArray, List.getElem_cons_zero, List.getElem_cons_succ, List.setIfInBounds_toArray, List.set_cons_zero, List.set_cons_succ]
                  refine' wpAnyH_take (i := 2) (v := .int .i64 (n1 : Int)) rfl (by kernel_rfl) (by kernel_rfl) (by kernel_rfl) (fun _ _ _ h => h) (Or.inl ⟨by kernel_rfl, ?hz2⟩) (by assumption) ?_
                  case hz2 => intro w' hSw; obtain ⟨_, _, _⟩ := MK.out w' hSw; go_simp; try rw [hw1]
                  simp only [Act.put, List.getElem_toArray, List.getElem_cons_zero, List.getElem_cons_succ, List.setIfInBounds_toArray, List.set_cons_zero, List.set_cons_succ]
                  refine' wpAnyH_take (i := 3) (v := _) rfl (by kernel_rfl) (by kernel_rfl) (by kernel_rfl) (fun _ _ _ h => h) (Or.inl ⟨by kernel_rfl, ?hz3⟩) (by assumption) ?_
                  case hz3 => intro w' hSw; obtain ⟨_, _, _⟩ := MK.out w' hSw; go_simp; try with_reducible rfl
                  simp only [Act.put, List.getElem_toArray, List.getElem_cons_zero, List.getElem_cons_succ, List.setIfInBounds_toArray, List.set_cons_zero, List.set_cons_succ]
                  refine' wpAnyH_take (i := 4) (v := _) rfl (by kernel_rfl) (by kernel_rfl) (by kernel_rfl) (fun _ _ _ h => h) (Or.inl ⟨by kernel_rfl, ?hz4⟩) (by assumption) ?_
                  case hz4 => intro w' hSw; obtain ⟨_, _, _⟩ := MK.out w' hSw; go_simp; try with_reducible rfl
                  simp only [Act.put, List.getElem_toArray, List.getElem_cons_zero, List.getElem_cons_succ, List.setIfInBounds_toArray, List.set_cons_zero, List.set_cons_succ]
                  refine' wpAnyH_take (i := 5) (v := .int .i64 (g : Int)) rfl (by kernel_rfl) (by kernel_rfl) (by kernel_rfl) (fun _ _ _ h => h) (Or.inl ⟨by kernel_rfl, ?hz5⟩) (by assumption) ?_
                  case hz5 => intro w' hSw; obtain ⟨_, _, _⟩ := MK.out w' hSw; go_simp; try rw [hwg]
                  simp only [Act.put, List.getElem_toArray, List.getElem_cons_zero, List.getElem_cons_succ, List.setIfInBounds_toArray, List.set_cons_zero, List.set_cons_succ]
                  refine' wpAnyH_take (i := 6) (v := _) rfl (by kernel_rfl) (by kernel_rfl) (by kernel_rfl) (fun _ _ _ h => h) (Or.inl ⟨by kernel_rfl, ?hz6⟩) (by assumption) ?_
                  case hz6 => intro w' hSw; obtain ⟨_, _, _⟩ := MK.out w' hSw; go_simp; try with_reducible rfl
                  simp only [Act.put, List.getElem_toArray, List.getElem_cons_zero, List.getElem_cons_succ, List.setIfInBounds_toArray, List.set_cons_zero, List.set_cons_succ]
                  refine' wpAnyH_take (i := 7) (v := _) rfl (by kernel_rfl) (by kernel_rfl) (by kernel_rfl) (fun _ _ _ h => h) (Or.inl ⟨by kernel_rfl, ?hz7⟩) (by assumption) ?_
                  case hz7 => intro w' hSw; obtain ⟨_, _, _⟩ := MK.out w' hSw; go_simp; try with_reducible rfl
                  simp only [Act.put, List.getElem_toArray, List.getElem_cons_zero, List.getElem_cons_succ, List.setIfInBounds_toArray, List.set_cons_zero, List.set_cons_succ]
                  refine' wpAnyH_take (i := 8) (v := .int .i64 ((T.length : Nat) : Int)) rfl (by kernel_rfl) (by kernel_rfl) (by kernel_rfl) (fun _ _ _ h => h) (Or.inl ⟨by kernel_rfl, ?hz8⟩) (by assumption) ?_
                  case hz8 => intro w' hSw; obtain ⟨_, _, _⟩ := MK.out w' hSw; go_simp; try rw [hwT]
                  simp only [Act.put, List.getElem_toArray, List.getElem_cons_zero, List.getElem_cons_succ, List.setIfInBounds_toArray, List.set_cons_zero, List.set_cons_succ]
                  refine' wpAnyH_take (i := 9) (v := .bool false) rfl (by kernel_rfl) (by kernel_rfl) (by kernel_rfl) (fun _ _ _ h => h) (Or.inl ⟨by kernel_rfl, ?hz9⟩) (by assumption) ?_
                  case hz9 => intro w' hSw; obtain ⟨_, _, _⟩ := MK.out w' hSw; go_simp; try simp only [gb]
                  simp only [Act.put, List.getElem_toArray, List.getElem_cons_zero, List.getElem_cons_succ, List.setIfInBounds_toArray, List.set_cons_zero, List.set_cons_succ]
                  refine' wpAnyH_take (i := 10) (v := .bool false) rfl (by kernel_rfl) (by kernel_rfl) (by kernel_rfl) (fun _ _ _ h => h) (Or.inl ⟨by kernel_rfl, ?hz10⟩) (by assumption) ?_
                  case hz10 => intro w' hSw; obtain ⟨_, _, _⟩ := MK.out w' hSw; first | rfl | (go_simp; try simp only [List.getElem?_cons_zero, Option.getD_some]; try go_simp)
                  simp only [Act.put, List.getElem_toArray, List.getElem_cons_zero, List.getElem_cons_succ, List.setIfInBounds_toArray, List.set_cons_zero, List.set_cons_succ]
                  refine' wpAnyH_take (i := 11) (v := _) rfl (by kernel_rfl) (by kernel_rfl) (by kernel_rfl) (fun _ _ _ h => h) (Or.inl ⟨by kernel_rfl, ?hz11⟩) (by assumption) ?_
                  case hz11 => intro w' hSw; obtain ⟨_, _, _⟩ := MK.out w' hSw; go_simp; try with_reducible rfl
                  simp only [Act.put, List.getElem_toArray, List.getElem_cons_zero, List.getElem_cons_succ, List.setIfInBounds_toArray, List.set_cons_zero, List.set_cons_succ]
                  refine wpAnyH_ready (rs := [12]) (by kernel_rfl) (by simp) (AllReadyH.cons rfl (fun K hK => ?_) AllReadyH.nil)
                  go_simp
                  go_at_call 13
                  refine (HCK.out _ KZ).mono ?_
                  rintro e wq ⟨rfl, kq⟩
                  go_wp2_with fail
                  have hwq := KZ.trans kq (fun _ _ h => h)
                  refine hK.out _ _ (hwq) (fun hHeld => ?_)
                  clear hK K
                  try simp only [Act.put, List.getElem_toArray, List.getElem_cons_zero, List.getElem_cons_succ, List.setIfInBounds_toArray, List.set_cons_zero, List.set_cons_succ]
                  refine' wpAnyH_take (i := 13) (v := .bool true) rfl (by kernel_rfl) (by kernel_rfl) (by kernel_rfl) (fun _ _ _ h => h) (Or.inl ⟨by kernel_rfl, ?hz13⟩) (by assumption) ?_
                  case hz13 => intro w' hSw; obtain ⟨_, _, _⟩ := MK.out w' hSw; first | rfl | (go_simp; try simp only [hb2])
                  simp only [Act.put, List.getElem_toArray, List.getElem_cons_zero, List.getElem_cons_succ, List.setIfInBounds_toArray, List.set_cons_zero, List.set_cons_succ]
                  refine' wpAnyH_take (i := 14) (v := .bool true) rfl (by kernel_rfl) (by kernel_rfl) (by kernel_rfl) (fun _ _ _ h => h) (Or.inl ⟨by kernel_rfl, ?hz14⟩) (by assumption) ?_
                  case hz14 => intro w' hSw; obtain ⟨_, _, _⟩ := MK.out w' hSw; first | rfl | (go_simp; try simp only [List.getElem?_cons_zero, Option.getD_some]; try go_simp)
                  simp only [Act.put, List.getElem_toArray, List.getElem_cons_zero, List.getElem_cons_succ, List.setIfInBounds_toArray, List.set_cons_zero, List.set_cons_succ]
                  refine wpAnyH_done (by kernel_rfl) ?_ _
                  have HKq := Lib.hid (HKW.out.trans hwq (fun _ _ h => h))
                  have HRq := Lib.hid (HBR.out.keep hwq id)
                  have HQq := Lib.hid (HBQ.out.keep hwq id)
                  have y0 := HQq.out.cell 0
                  have y1 := HQq.out.cell 1
                  have HCq := Lib.hid (HCF.out.keepN hwq)
                  clear hwq hHeld KZ KL MK
                  have x0 := HRq.out.cell 0
                  have x1 := HRq.out.cell 1
                  have f0 := HRq.out.free 0
                  have f1 := HRq.out.free 1
                  have HBX := Lib.hid ((HRq.out.put 0 (.slice none 0 0)).put 1 (.slice none 0 0))
                  have HKE := Lib.hid ((HKq.out.setCell (p := ⟨w.heap.size, 0, none⟩) (fun hh => absurd hh (by show ¬ w.heap.size < w.heap.size; omega)) (.slice none 0 0)).setCell (p := ⟨w.heap.size, 1, none⟩) (fun hh => absurd hh (by show ¬ w.heap.size < w.heap.size; omega)) (.slice none 0 0))
                  have HKX := Lib.hid (((Keep.refl (fun i => i = w.heap.size) wq).setCell (p := ⟨w.heap.size, 0, none⟩) (fun _ => rfl) (.slice none 0 0)).setCell (p := ⟨w.heap.size, 1, none⟩) (fun _ => rfl) (.slice none 0 0))
                  go_wp2
                  have r0 := HBX.out.cell 0
                  have r1 := HBX.out.cell 1
                  generalize (wq.setCell ⟨w.heap.size, 0, none⟩ (.slice none 0 0)).setCell ⟨w.heap.size, 1, none⟩ (.slice none 0 0) = we at *
                  exact bodyPost_ret (v := .tuple #[.agg #[.slice none 0 0, .slice none 0 0], .int .i64 140]) (by simp [results, Try.results27, go_sem, r0, r1]) rfl ⟨_, rfl, CfAt.nil _ _, HKE.out⟩
              · have gb : ((g : Int) != ((T.length : Nat) : Int)) = true := by rw [bne_iff_ne]; exact hgT
                obtain rfl : (⟨[], []⟩, 140) = R := (if_neg (fun h => hgT h.1)).symm.trans HR3.out
                clear HR3 hgT
                go_wp2
                refine wp_region_held_drew (S := fun w' => Keep noneOf wl w') (by kernel_rfl) KL.drew (fun hHeld => ?_)
                have KZ := KL.drew
                refine' wpAnyH_take (i := 0) (v := _) rfl (by kernel_rfl) (by kernel_rfl) (by kernel_rfl) (fun _ _ _ h => h) (Or.inl ⟨by kernel_rfl, ?hz0⟩) (by assumption) ?_
                case hz0 => intro w' hSw; obtain ⟨_, _, _⟩ := MK.out w' hSw; go_simp; try with_reducible rfl
                simp only [Act.put, List.getElem_toArray, List.getElem_cons_zero, List.getElem_cons_succ, List.setIfInBounds_toArray, List.set_cons_zero, List.set_cons_succ]
                refine' wpAnyH_take (i := 1) (v := _) rfl (by kernel_rfl) (by kernel_rfl) (by kernel_rfl) (fun _ _ _ h => h) (Or.inl ⟨by kernel_rfl, ?hz1⟩) (by assumption) ?_
                case hz1 => intro w' hSw; obtain ⟨_, _, _⟩ := MK.out w' hSw; go_simp; try with_reducible rfl
                simp only [Act.put, List.getElem_toArray, List.getElem_cons_zero, List.getElem_cons_succ, List.setIfInBounds_toArray, List.set_cons_zero, List.set_cons_succ]
                refine' wpAnyH_take (i := 2) (v := .int .i64 (n1 : Int)) rfl (by kernel_rfl) (by kernel_rfl) (by kernel_rfl) (fun _ _ _ h => h) (Or.inl ⟨by kernel_rfl, ?hz2⟩) (by assumption) ?_
                case hz2 => intro w' hSw; obtain ⟨_, _, _⟩ := MK.out w' hSw; go_simp; try rw [hw1]
                simp only [Act.put, List.getElem_toArray, List.getElem_cons_zero, List.getElem_cons_succ, List.setIfInBounds_toArray, List.set_cons_zero, List.set_cons_succ]
                refine' wpAnyH_take (i := 3) (v := _) rfl (by kernel_rfl) (by kernel_rfl) (by kernel_rfl) (fun _ _ _ h => h) (Or.inl ⟨by kernel_rfl, ?hz3⟩) (by assumption) ?_
                case hz3 => intro w' hSw; obtain ⟨_, _, _⟩ := MK.out w' hSw; go_simp; try with_reducible rfl
                simp only [Act.put, List.getElem_toArray, List.getElem_cons_zero, List.getElem_cons_succ, List.setIfInBounds_toArray, List.set_cons_zero, List.set_cons_succ]
                refine' wpAnyH_take (i := 4) (v := _) rfl (by kernel_rfl) (by kernel_rfl) (by kernel_rfl) (fun _ _ _ h => h) (Or.inl ⟨by kernel_rfl, ?hz4⟩) (by assumption) ?_
                case hz4 => intro w' hSw; obtain ⟨_, _, _⟩ := MK.out w' hSw; go_simp; try with_reducible rfl
                simp only [Act.put, List.getElem_toArray, List.getElem_cons_zero, List.getElem_cons_succ, List.setIfInBounds_toArray, List.set_cons_zero, List.set_cons_succ]
                refine' wpAnyH_take (i := 5) (v := .int .i64 (g : Int)) rfl (by kernel_rfl) (by kernel_rfl) (by kernel_rfl) (fun _ _ _ h => h) (Or.inl ⟨by kernel_rfl, ?hz5⟩) (by assumption) ?_
                case hz5 => intro w' hSw; obtain ⟨_, _, _⟩ := MK.out w' hSw; go_simp; try rw [hwg]
                simp only [Act.put, List.getElem_toArray, List.getElem_cons_zero, List.getElem_cons_succ, List.setIfInBounds_toArray, List.set_cons_zero, List.set_cons_succ]
                refine' wpAnyH_take (i := 6) (v := _) rfl (by kernel_rfl) (by kernel_rfl) (by kernel_rfl) (fun _ _ _ h => h) (Or.inl ⟨by kernel_rfl, ?hz6⟩) (by assumption) ?_
                case hz6 => intro w' hSw; obtain ⟨_, _, _⟩ := MK.out w' hSw; go_simp; try with_reducible rfl
                simp only [Act.put, List.getElem_toArray, List.getElem_cons_zero, List.getElem_cons_succ, List.setIfInBounds_toArray, List.set_cons_zero, List.set_cons_succ]
                refine' wpAnyH_take (i := 7) (v := _) rfl (by kernel_rfl) (by kernel_rfl) (by kernel_rfl) (fun _ _ _ h => h) (Or.inl ⟨by kernel_rfl, ?hz7⟩) (by assumption) ?_
                case hz7 => intro w' hSw; obtain ⟨_, _, _⟩ := MK.out w' hSw; go_simp; try with_reducible rfl
                simp only [Act.put, List.getElem_toArray, List.getElem_cons_zero, List.getElem_cons_succ, List.setIfInBounds_toArray, List.set_cons_zero, List.set_cons_succ]
                refine' wpAnyH_take (i := 8) (v := .int .i64 ((T.length : Nat) : Int)) rfl (by kernel_rfl) (by kernel_rfl) (by kernel_rfl) (fun _ _ _ h => h) (Or.inl ⟨by kernel_rfl, ?hz8⟩) (by assumption) ?_
                case hz8 => intro w' hSw; obtain ⟨_, _, _⟩ := MK.out w' hSw; go_simp; try rw [hwT]
                simp only [Act.put, List.getElem_toArray, List.getElem_cons_zero, List.getElem_cons_succ, List.setIfInBounds_toArray, List.set_cons_zero, List.set_cons_succ]
                refine' wpAnyH_take (i := 9) (v := .bool true) rfl (by kernel_rfl) (by kernel_rfl) (by kernel_rfl) (fun _ _ _ h => h) (Or.inl ⟨by kernel_rfl, ?hz9⟩) (by assumption) ?_
                case hz9 => intro w' hSw; obtain ⟨_, _, _⟩ := MK.out w' hSw; go_simp; try simp only [gb]
                simp only [Act.put, List.getElem_toArray, List.getElem_cons_zero, List.getElem_cons_succ, List.setIfInBounds_toArray, List.set_cons_zero, List.set_cons_succ]
                refine' wpAnyH_take (i := 10) (v := .bool true) rfl (by kernel_rfl) (by kernel_rfl) (by kernel_rfl) (fun _ _ _ h => h) (Or.inl ⟨by kernel_rfl, ?hz10⟩) (by assumption) ?_
                case hz10 => intro w' hSw; obtain ⟨_, _, _⟩ := MK.out w' hSw; first | rfl | (go_simp; try simp only [List.getElem?_cons_zero, Option.getD_some]; try go_simp)
                simp only [Act.put, List.getElem_toArray, List.getElem_cons_zero, List.getElem_cons_succ, List.setIfInBounds_toArray, List.set_cons_zero, List.set_cons_succ]
                refine' wpAnyH_take (i := 11) (v := _) rfl (by kernel_rfl) (by kernel_rfl) (by kernel_rfl) (fun _ _ _ h => h) (Or.inr ⟨by kernel_rfl, rfl⟩) (by assumption) ?_
                simp only [Act.put, List.getElem_toArray, List.getElem_cons_zero, List.getElem_cons_succ, List.setIfInBounds_toArray, List.set_cons_zero, List.set_cons_succ]
                refine' wpAnyH_take (i := 12) (v := _) rfl (by kernel_rfl) (by kernel_rfl) (by kernel_rfl) (fun _ _ _ h => h) (Or.inr ⟨by kernel_rfl, rfl⟩) (by assumption) ?_
                simp only [Act.put, List.getElem_toArray, List.getElem_cons_zero, List.getElem_cons_succ, List.setIfInBounds_toArray, List.set_cons_zero, List.set_cons_succ]
                refine' wpAnyH_take (i := 13) (v := _) rfl (by kernel_rfl) (by kernel_rfl) (by kernel_rfl) (fun _ _ _ h => h) (Or.inr ⟨by kernel_rfl, rfl⟩) (by assumption) ?_
                simp only [Act.put, List.getElem_toArray, List.getElem_cons_zero, List.getElem_cons_succ, List.setIfInBounds_toArray, List.set_cons_zero, List.set_cons_succ]
                refine' wpAnyH_take (i := 14) (v := .bool true) rfl (by kernel_rfl) (by kernel_rfl) (by kernel_rfl) (fun _ _ _ h => h) (Or.inl ⟨by kernel_rfl, ?hz14⟩) (by assumption) ?_
                case hz14 => intro w' hSw; obtain ⟨_, _, _⟩ := MK.out w' hSw; first | rfl | (go_simp; try simp only [List.getElem?_cons_zero, Option.getD_some]; try go_simp)
                simp only [Act.put, List.getElem_toArray, List.getElem_cons_zero, List.getElem_cons_succ, List.setIfInBounds_toArray, List.set_cons_zero, List.set_cons_succ]
                refine wpAnyH_done (by kernel_rfl) ?_ _
                have hwq := KZ
                have HKq := Lib.hid (HKW.out.trans hwq (fun _ _ h => h))
                have HRq := Lib.hid (HBR.out.keep hwq id)
                have HQq := Lib.hid (HBQ.out.keep hwq id)
                have y0 := HQq.out.cell 0
                have y1 := HQq.out.cell 1
                have HCq := Lib.hid (HCF.out.keepN hwq)
                clear hwq hHeld KZ KL MK
                generalize wl.drew = wq at *
                have x0 := HRq.out.cell 0
                have x1 := HRq.out.cell 1
                have f0 := HRq.out.free 0
                have f1 := HRq.out.free 1
                have HBX := Lib.hid ((HRq.out.put 0 (.slice none 0 0)).put 1 (.slice none 0 0))
                have HKE := Lib.hid ((HKq.out.setCell (p := ⟨w.heap.size, 0, none⟩) (fun hh => absurd hh (by show ¬ w.heap.size < w.heap.size; omega)) (.slice none 0 0)).setCell (p := ⟨w.heap.size, 1, none⟩) (fun hh => absurd hh (by show ¬ w.heap.size < w.heap.size; omega)) (.slice none 0 0))
                have HKX := Lib.hid (((Keep.refl (fun i => i = w.heap.size) wq).setCell (p := ⟨w.heap.size, 0, none⟩) (fun _ => rfl) (.slice none 0 0)).setCell (p := ⟨w.heap.size, 1, none⟩) (fun _ => rfl) (.slice none 0 0))
                go_wp2
                have r0 := HBX.out.cell 0
                have r1 := HBX.out.cell 1
                generalize (wq.setCell ⟨w.heap.size, 0, none⟩ (.slice none 0 0)).setCell ⟨w.heap.size, 1, none⟩ (.slice none 0 0) = we at *
                exact bodyPost_ret (v := .tuple #[.agg #[.slice none 0 0, .slice none 0 0], .int .i64 140]) (by simp [results, Try.results27, go_sem, r0, r1]) rfl ⟨_, rfl, CfAt.nil _ _, HKE.out⟩
end Go.Proofs.Ytmncjibokpieoaa
