import Derived.Deep.QuietTactic
import Derived.Deep.RegionHeld
import Derived.Maps.AppendAt
import Derived.Test.YtffoeodjbbkdjaaGreatBs01
import Derived.Test.YtffoeodjbbkdjaaGreatBs02
namespace Go.Proofs.YtffoeodjbbkdjaaGreat
open Go.RowKit
theorem intinfo : (Tryz.prog.info? 3).map (fun i => (i.zero, i.size, i.bytes)) = some (some (.int .i64 0), 1, 8) := by kernel_rfl
def fewNeeds (ts : List Tg) : Prop := ∀ t ∈ ts, t.needs.length ≤ 17592186044416
def ToldInts (ns : List Nat) (w : World) (e : Ending) (w' : World) : Prop := ∃ v, e = .returned v ∧ Ints w' (fun k => w.heap.size ≤ k) v ns ∧ Keep noneOf w w'
theorem take_filterMap {α β : Type} (f : α → Option β) (l : List α) (k : Nat) (x : α) (h : l[k]? = some x) : (l.take (k + 1)).filterMap f = (l.take k).filterMap f ++ (f x).toList := by
 rw [List.take_add_one, List.filterMap_append, h]
 cases hf : f x <;> simp [hf]
set_option maxRecDepth 100000 in
set_option maxHeartbeats 1000000 in
theorem needs_any (w : World) (D : Nat → Prop) (v : Value) (ts : List Tg) (i : Int) (h : Tgs w D v ts) (hf : fewNeeds ts) :
  Calls Tryz.prog 133 #[.agg #[v], .int .i64 i] w (ToldInts (needsAt (ts.map Tg.plain) i) w) := by
 obtain ⟨A, c, rfl, hlc, hcm, hn, hxl, hc⟩ := h.1
 unfold maxLen at hcm
 have HT := Lib.hid h.2
 have HH := Lib.hid h
 have HK0 := Lib.hid ((Keep.refl noneOf w).alloc (.cells #[.slice A ts.length c] 35))
 have HX0 := Lib.hid (Box.new w 35 #[.slice A ts.length c])
 have HFW := Lib.hid hf
 clear hxl h hf
 by_cases hi : 0 ≤ i ∧ i < (ts.length : Int)
 ·
  obtain ⟨k0, rfl⟩ := Int.eq_ofNat_of_zero_le hi.1
  have hlt : k0 < ts.length := by omega
  obtain ⟨ad, rfl, hsp, hblk, hD, hcell⟩ := hc (by omega)
  obtain ⟨b, o, sp⟩ := ad
  simp only at hsp hblk hD hcell
  subst hsp
  have HS := Lib.hid (List.getElem?_eq_getElem hlt)
  have hlies := HT.out _ (List.getElem_mem hlt)
  have hfw := HFW.out _ (List.getElem_mem hlt)
  generalize ts[k0] = t at *
  obtain ⟨_, _, c2⟩ := tgs_at HK0.out hblk hcell HS.out
  obtain ⟨nm, cm, nv, ss⟩ := t
  obtain ⟨_, _, ⟨A2, cp2, hnv, hl2, hm2, _, _, hrow⟩, hsz⟩ := hlies
  simp only at c2 hnv hl2 hrow hsz hfw
  subst hnv
  unfold maxLen at hm2
  have HROW := Lib.hid hrow
  obtain ⟨ns, hns⟩ : ∃ ns, needsAt (ts.map Tg.plain) (k0 : Int) = ns := ⟨_, rfl⟩
  have hns2 : ns = ss.filterMap (findIx (ts.map Tg.plain)) := by
   rw [← hns]
   unfold needsAt
   rw [if_pos (by omega), Int.toNat_natCast, plain_at HS.out]
   rfl
  rw [hns]
  have HNS := Lib.hid hns2
  obtain ⟨i0, hi0, hz0, hz1, hz2⟩ := info_parts intinfo
  clear hcell hc hrow hns hns2 hsz HT HFW hi
  have hil : ((k0 : Int) < (ts.length : Int)) := by omega
  have hi00 : (0 : Int) ≤ (k0 : Int) := by omega
  go_enter Tryz.func133, Tryz.ntmps133
  go_wp2
  go_loopw [5, 26] (fun pl i wr => ∃ k : Nat, k ≤ ss.length ∧ i = .int .i64 k ∧ Keep noneOf w wr ∧ Box wr w.heap.size 35 #[.slice (some ⟨b, o, none⟩) ts.length c] ∧ wr.ownsRow (w.heap.size + 1) 3 1 pl ((ss.take k).filterMap (findIx (ts.map Tg.plain))).length (((ss.take k).filterMap (findIx (ts.map Tg.plain))).map iv)) (fun _ i _ => ss.length - (intOf i).toNat)
  case atStart => exact ⟨0, Nat.zero_le _, rfl, HK0.out, HX0.out, World.ownsRow_nil _ _ _ _⟩
  case round =>
   obtain ⟨k, hk, rfl, hkeep, hX, hown⟩ := hrel
   have x0 : wr.cell? ⟨w.heap.size, 0, none⟩ = some (.slice (some ⟨b, o, none⟩) ts.length c) := hX.cell 0
   have hz := hX.lt
   by_cases hlt2 : k < ss.length
   ·
    obtain ⟨ad2, rfl, hsp2, hblk2, _, hcell2⟩ := HROW.out (by omega)
    obtain ⟨bb, oo, sp2⟩ := ad2
    simp only at hsp2 hblk2 hcell2
    subst hsp2
    have hck : wr.cell? ⟨bb, oo + k, none⟩ = some (.string ss[k]) := (hkeep.cell (p := ⟨bb, oo + k, none⟩) hblk2 id).trans (hcell2 k _ (by simp [List.getElem?_eq_getElem hlt2]))
    have HF := Lib.hid (find_any wr D _ ts ss[k] (HH.out.keep hkeep (fun _ _ _ => id)))
    have HTK := Lib.hid (take_filterMap (findIx (ts.map Tg.plain)) ss k ss[k] (List.getElem?_eq_getElem hlt2))
    have hfl : ((ss.take k).filterMap (findIx (ts.map Tg.plain))).length ≤ k := Nat.le_trans (List.length_filterMap_le _ _) (List.length_take_le _ _)
    generalize hE1 : (ss.take (k + 1)).filterMap (findIx (ts.map Tg.plain)) = ms at *
    have HE1 := Lib.hid hE1
    generalize (ss.take k).filterMap (findIx (ts.map Tg.plain)) = ls at *
    generalize findIx (ts.map Tg.plain) ss[k] = r at *
    generalize ss[k] = s at *
    have HOWN := Lib.hid hown
    have HX := Lib.hid hX
    have HKP := Lib.hid hkeep
    clear hcell2 hown hX hkeep HX0 HK0 hE1
    go_wp2_with fail
    refine HF.out.mono ?_
    rintro e w1 ⟨rfl, k1⟩
    have K1 := HKP.out.trans k1 (fun _ _ h => h)
    have X1 := HX.out.keep k1 id
    have O1 := own_keep HOWN.out k1 (fun _ _ h => h)
    cases r with
    | none =>
     have hms : ms = ls := by rw [HTK.out]; simp
     subst hms
     go_wp2
     go_roundw
     case rel => exact ⟨k + 1, by omega, by go_num, K1, X1, by rw [HE1.out]; exact O1⟩
     case measure => simp [intOf]; omega
    | some n =>
     have hms : ms = ls ++ [n] := by rw [HTK.out]; simp
     subst hms
     simp only [Option.getD_some, Option.isSome_some]
     have hz1' : w.heap.size < w1.heap.size := X1.lt
     have HK1 := Lib.hid K1
     have HX1 := Lib.hid X1
     have HO1 := Lib.hid O1
     clear K1 X1 O1 HF HTK HOWN k1
     go_wp2_with (at_builtin; refine wpList_append_own _ rfl _ _ 143 rfl (w.heap.size + 1) 3 i0 _ 1 8 Tryz.underlying143 hi0 hz0 hz1 hz2 rfl (by decide) _ _ _ rfl (HO1.out.alloc _) ⟨w1.heap.size, 0, none⟩ 1 1 [iv n] rfl rfl (cell_one_new _ _ _) (by simp [Value.oneCell', iv]) (by unfold maxLen; omega) (by omega) (by simp; omega) ?_; intro v' w2 hown' hgrow _)
     have kg := Keep.of_grown hgrow
     have ka : Keep noneOf w1 (w1.alloc (.cells #[.int .i64 (n : Int)] 3)) := (Keep.refl noneOf w1).alloc _
     have hno : ∀ j, some j = u5.ownBlock → w.heap.size + 1 ≤ j := fun j hj => (HO1.out.lt j hj.symm).1
     have K2 : Keep noneOf w w2 := (HK1.out.trans ka (fun _ _ h => h)).trans kg (fun j hj hs => absurd (hno j hs) (by omega))
     go_roundw
     case rel =>
      refine ⟨k + 1, by omega, by go_num, K2, ?_, ?_⟩
      ·
       exact (HX1.out.keep ka id).keep kg (fun hs => absurd (hno _ hs) (by omega))
      ·
       rw [HE1.out, List.length_append, List.map_append]
       exact hown'
     case measure => simp [intOf]; omega
   ·
    have hE : (ss.take k).filterMap (findIx (ts.map Tg.plain)) = ns := by rw [HNS.out, List.take_of_length_le (by omega)]
    rw [hE] at hown
    obtain ⟨A3, c3, hv3⟩ := own_shape hown
    subst hv3
    have HOWN := Lib.hid hown
    have HKP := Lib.hid hkeep
    clear hown hkeep hE
    go_wp2
    go_ret
    exact ⟨_, rfl, (Ints.of_own HOWN.out).mono (fun _ _ h => Nat.le_of_succ_le h), HKP.out⟩
 ·
  have hns : needsAt (ts.map Tg.plain) i = [] := by
   unfold needsAt
   by_cases h0 : 0 ≤ i
   ·
    rw [if_pos h0, List.getElem?_eq_none (by simp; omega)]
    rfl
   ·
    rw [if_neg h0]
  rw [hns]
  clear hns hc
  by_cases h0 : i < 0
  ·
   go_enter Tryz.func133, Tryz.ntmps133
   go_wp2
   go_ret
   exact ⟨_, rfl, Ints.of_own (World.ownsRow_nil _ _ 3 1), HK0.out⟩
  ·
   have h1 : (ts.length : Int) ≤ i := by omega
   clear hi
   go_enter Tryz.func133, Tryz.ntmps133
   go_wp2
   go_ret
   exact ⟨_, rfl, Ints.of_own (World.ownsRow_nil _ _ 3 1), HK0.out⟩
set_option maxRecDepth 100000 in
set_option maxHeartbeats 1000000 in
theorem refNeeds_any (w : World) (D : Nat → Prop) (v : Value) (ts : List Tg) (i : Int) (h : Tgs w D v ts) (hf : fewNeeds ts) :
  Calls Tryz.prog 93 #[.agg #[v], .int .i64 i] w (ToldInts (needsAt (ts.map Tg.plain) i) w) := by
 obtain ⟨A, c, rfl, hlc, hcm, hn, hxl, hc⟩ := h.1
 unfold maxLen at hcm
 have HT := Lib.hid h.2
 have HH := Lib.hid h
 have HK0 := Lib.hid ((Keep.refl noneOf w).alloc (.cells #[.slice A ts.length c] 35))
 have HX0 := Lib.hid (Box.new w 35 #[.slice A ts.length c])
 have HFW := Lib.hid hf
 clear hxl h hf
 by_cases hi : 0 ≤ i ∧ i < (ts.length : Int)
 ·
  obtain ⟨k0, rfl⟩ := Int.eq_ofNat_of_zero_le hi.1
  have hlt : k0 < ts.length := by omega
  obtain ⟨ad, rfl, hsp, hblk, hD, hcell⟩ := hc (by omega)
  obtain ⟨b, o, sp⟩ := ad
  simp only at hsp hblk hD hcell
  subst hsp
  have HS := Lib.hid (List.getElem?_eq_getElem hlt)
  have hlies := HT.out _ (List.getElem_mem hlt)
  have hfw := HFW.out _ (List.getElem_mem hlt)
  generalize ts[k0] = t at *
  obtain ⟨c0, c1, c2⟩ := tgs_at HK0.out hblk hcell HS.out
  obtain ⟨nm, cm, nv, ss⟩ := t
  obtain ⟨_, _, ⟨A2, cp2, hnv, hl2, hm2, _, _, hrow⟩, hsz⟩ := hlies
  simp only at c0 c1 c2 hnv hl2 hrow hsz hfw
  subst hnv
  unfold maxLen at hm2
  have HROW := Lib.hid hrow
  obtain ⟨ns, hns⟩ : ∃ ns, needsAt (ts.map Tg.plain) (k0 : Int) = ns := ⟨_, rfl⟩
  have hns2 : ns = ss.filterMap (findIx (ts.map Tg.plain)) := by
   rw [← hns]
   unfold needsAt
   rw [if_pos (by omega), Int.toNat_natCast, plain_at HS.out]
   rfl
  rw [hns]
  have HNS := Lib.hid hns2
  obtain ⟨i0, hi0, hz0, hz1, hz2⟩ := info_parts intinfo
  have HK1 := Lib.hid (HK0.out.alloc (.cells #[.string nm, .string cm, .slice A2 ss.length cp2] 64))
  have HX1 := Lib.hid (HX0.out.alloc (.cells #[.string nm, .string cm, .slice A2 ss.length cp2] 64))
  have hy1 := Box.new (w.alloc (.cells #[.slice (some ⟨b, o, none⟩) ts.length c] 35)) 64 #[.string nm, .string cm, .slice A2 ss.length cp2]
  rw [show (w.alloc (.cells #[.slice (some ⟨b, o, none⟩) ts.length c] 35)).heap.size = w.heap.size + 1 from by simp] at hy1
  have HY1 := Lib.hid hy1
  clear hcell hc hrow hns hns2 hsz HT HFW hi hy1
  have hil : ((k0 : Int) < (ts.length : Int)) := by omega
  have hi00 : (0 : Int) ≤ (k0 : Int) := by omega
  go_enter Tryz.func93, Tryz.ntmps93
  go_wp2
  go_loopw [5, 7] (fun pl i wr => ∃ k : Nat, k ≤ ss.length ∧ i = .int .i64 k ∧ Keep noneOf w wr ∧ Box wr w.heap.size 35 #[.slice (some ⟨b, o, none⟩) ts.length c] ∧ Box wr (w.heap.size + 1) 64 #[.string nm, .string cm, .slice A2 ss.length cp2] ∧ wr.ownsRow (w.heap.size + 2) 3 1 pl ((ss.take k).filterMap (findIx (ts.map Tg.plain))).length (((ss.take k).filterMap (findIx (ts.map Tg.plain))).map iv)) (fun _ i _ => ss.length - (intOf i).toNat)
  case atStart => exact ⟨0, Nat.zero_le _, rfl, HK1.out, HX1.out, HY1.out, World.ownsRow_nil _ _ _ _⟩
  case round =>
   obtain ⟨k, hk, rfl, hkeep, hX, hY, hown⟩ := hrel
   have x0 : wr.cell? ⟨w.heap.size, 0, none⟩ = some (.slice (some ⟨b, o, none⟩) ts.length c) := hX.cell 0
   have y2 : wr.cell? ⟨w.heap.size + 1, 2, none⟩ = some (.slice A2 ss.length cp2) := hY.cell 2
   have hz := hY.lt
   by_cases hlt2 : k < ss.length
   ·
    obtain ⟨ad2, rfl, hsp2, hblk2, _, hcell2⟩ := HROW.out (by omega)
    obtain ⟨bb, oo, sp2⟩ := ad2
    simp only at hsp2 hblk2 hcell2
    subst hsp2
    have hck : wr.cell? ⟨bb, oo + k, none⟩ = some (.string ss[k]) := (hkeep.cell (p := ⟨bb, oo + k, none⟩) hblk2 id).trans (hcell2 k _ (by simp [List.getElem?_eq_getElem hlt2]))
    have hbw : bb < wr.heap.size := Nat.lt_of_lt_of_le hblk2 hkeep.size
    have MK : Hid (∀ w', Keep noneOf wr w' → w'.cell? ⟨w.heap.size, 0, none⟩ = some (.slice (some ⟨b, o, none⟩) ts.length c) ∧ w'.cell? ⟨w.heap.size + 1, 2, none⟩ = some (.slice (some ⟨bb, oo, none⟩) ss.length cp2) ∧ w'.cell? ⟨bb, oo + k, none⟩ = some (.string ss[k])) := fun w' k =>
     ⟨(hX.keep k id).cell 0, (hY.keep k id).cell 2, (k.cell (p := ⟨bb, _, none⟩) hbw id).trans hck⟩
    have HF : Hid (∀ w', Keep noneOf wr w' → _) := fun w' k' => refFind_any w' D _ ts ss[k] ((HH.out.keep hkeep (fun _ _ _ => id)).keep k' (fun _ _ _ => id))
    have HTK := Lib.hid (take_filterMap (findIx (ts.map Tg.plain)) ss k ss[k] (List.getElem?_eq_getElem hlt2))
    have hfl : ((ss.take k).filterMap (findIx (ts.map Tg.plain))).length ≤ k := Nat.le_trans (List.length_filterMap_le _ _) (List.length_take_le _ _)
    generalize hE1 : (ss.take (k + 1)).filterMap (findIx (ts.map Tg.plain)) = ms at *
    have HE1 := Lib.hid hE1
    generalize (ss.take k).filterMap (findIx (ts.map Tg.plain)) = ls at *
    generalize findIx (ts.map Tg.plain) ss[k] = r at *
    generalize ss[k] = s at *
    have HOWN := Lib.hid hown
    have HX := Lib.hid hX
    have HY := Lib.hid hY
    have HKP := Lib.hid hkeep
    have K00 := Keep.refl noneOf wr
    clear hcell2 hown hX hY hkeep HX0 HK0 hE1 HX1 HY1 HK1
    have q0 : (0 : Int) ≤ (k : Int) := by omega
    have q1 : (k : Int) < (ss.length : Int) := by omega
    go_wp2_with fail
    refine wp_region_in (fun w' => Keep noneOf wr w' ∧ w'.cell? ⟨w.heap.size, 0, none⟩ = some (.slice (some ⟨b, o, none⟩) ts.length c) ∧ w'.cell? ⟨w.heap.size + 1, 2, none⟩ = some (.slice (some ⟨bb, oo, none⟩) ss.length cp2) ∧ w'.cell? ⟨bb, oo + k, none⟩ = some (.string s)) (by kernel_rfl) (by kernel_rfl) ⟨K00.drew, MK.out _ K00.drew⟩ ?_
    repeat
     first
     | go_big_quiet_skip
     |
      go_big_quiet_want
      go_big_quiet_op
      go_big_quiet_on
     |
      go_big_quiet_want
      apply quiet_calls
      case he => intro w'; go_simp; exact ⟨rfl, rfl⟩
      case h =>
       intro w' hw'
       go_at_call 92
       refine (HF.out _ hw'.1).mono ?_
       rintro e w'' ⟨rfl, k''⟩
       exact ⟨rfl, Keep.trans hw'.1 k'' (fun _ _ h => h), MK.out _ (Keep.trans hw'.1 k'' (fun _ _ h => h))⟩
      simp only [Act.put, List.setIfInBounds_toArray, List.set_cons_zero, List.set_cons_succ]
      go_big_quiet_on
     |
      go_big_quiet_want
      apply quiet_reads
      case h =>
       intro w' hw'
       try dsimp only at hw'
       go_split_ands
       go_simp
       rfl
      simp only [Act.put, List.setIfInBounds_toArray, List.set_cons_zero, List.set_cons_succ]
      go_big_quiet_on
    refine wpQuiet_nil ?_
    intro w1 hw1
    have k1 := hw1.1
    have K1 := HKP.out.trans k1 (fun _ _ h => h)
    have X1 := HX.out.keep k1 id
    have Y1 := HY.out.keep k1 id
    have O1 := own_keep HOWN.out k1 (fun _ _ h => h)
    clear hw1
    cases r with
    | none =>
     have hms : ms = ls := by rw [HTK.out]; simp
     subst hms
     go_wp2
     go_roundw
     case rel => exact ⟨k + 1, by omega, by go_num, K1, X1, Y1, by rw [HE1.out]; exact O1⟩
     case measure => simp [intOf]; omega
    | some n =>
     have hms : ms = ls ++ [n] := by rw [HTK.out]; simp
     subst hms
     simp only [Option.getD_some, Option.isSome_some]
     have hz1' : w.heap.size + 1 < w1.heap.size := Y1.lt
     have HK1 := Lib.hid K1
     have HX1 := Lib.hid X1
     have HY1 := Lib.hid Y1
     have HO1 := Lib.hid O1
     clear K1 X1 O1 Y1 HF HTK HOWN k1 MK
     go_wp2_with (at_builtin; refine wpList_append_own _ rfl _ _ 143 rfl (w.heap.size + 2) 3 i0 _ 1 8 Tryz.underlying143 hi0 hz0 hz1 hz2 rfl (by decide) _ _ _ rfl (HO1.out.alloc _) ⟨w1.heap.size, 0, none⟩ 1 1 [iv n] rfl rfl (cell_one_new _ _ _) (by simp [Value.oneCell', iv]) (by unfold maxLen; omega) (by omega) (by simp; omega) ?_; intro v' w2 hown' hgrow _)
     have kg := Keep.of_grown hgrow
     have ka : Keep noneOf w1 (w1.alloc (.cells #[.int .i64 (n : Int)] 3)) := (Keep.refl noneOf w1).alloc _
     have hno : ∀ j, some j = u5.ownBlock → w.heap.size + 2 ≤ j := fun j hj => (HO1.out.lt j hj.symm).1
     have K2 : Keep noneOf w w2 := (HK1.out.trans ka (fun _ _ h => h)).trans kg (fun j hj hs => absurd (hno j hs) (by omega))
     go_roundw
     case rel =>
      refine ⟨k + 1, by omega, by go_num, K2, ?_, ?_, ?_⟩
      ·
       exact (HX1.out.keep ka id).keep kg (fun hs => absurd (hno _ hs) (by omega))
      ·
       exact (HY1.out.keep ka id).keep kg (fun hs => absurd (hno _ hs) (by omega))
      ·
       rw [HE1.out, List.length_append, List.map_append]
       exact hown'
     case measure => simp [intOf]; omega
   ·
    have hE : (ss.take k).filterMap (findIx (ts.map Tg.plain)) = ns := by rw [HNS.out, List.take_of_length_le (by omega)]
    rw [hE] at hown
    obtain ⟨A3, c3, hv3⟩ := own_shape hown
    subst hv3
    have HOWN := Lib.hid hown
    have HKP := Lib.hid hkeep
    clear hown hkeep hE
    go_wp2
    go_ret
    exact ⟨_, rfl, (Ints.of_own HOWN.out).mono (fun _ _ h => by omega), HKP.out⟩
 ·
  have hns : needsAt (ts.map Tg.plain) i = [] := by
   unfold needsAt
   by_cases h0 : 0 ≤ i
   ·
    rw [if_pos h0, List.getElem?_eq_none (by simp; omega)]
    rfl
   ·
    rw [if_neg h0]
  rw [hns]
  clear hns hc
  by_cases h0 : i < 0
  ·
   go_enter Tryz.func93, Tryz.ntmps93
   go_wp2
   go_ret
   exact ⟨_, rfl, Ints.of_own (World.ownsRow_nil _ _ 3 1), HK0.out⟩
  ·
   have h1 : (ts.length : Int) ≤ i := by omega
   clear hi
   go_enter Tryz.func93, Tryz.ntmps93
   go_wp2
   go_ret
   exact ⟨_, rfl, Ints.of_own (World.ownsRow_nil _ _ 3 1), HK0.out⟩
set_option maxRecDepth 100000 in
set_option maxHeartbeats 1000000 in
theorem in_any (w : World) (D : Nat → Prop) (v : Value) (ns : List Nat) (n : Nat) (h : Ints w D v ns) :
  Calls Tryz.prog 125 #[v, .int .i64 (n : Int)] w fun e w' => e = .returned (.bool (ns.contains n)) ∧ w = w' := by
 obtain ⟨A, c, rfl, hlc, hcm, hn, hxl, hc⟩ := h
 unfold maxLen at hcm
 have HC := Lib.hid hc
 generalize hR : ns.contains n = R
 have HR := Lib.hid hR
 clear hc hxl hR
 go_enter Tryz.func125, Tryz.ntmps125
 go_wp2
 go_loop [5] (fun i => ∃ k : Nat, k ≤ ns.length ∧ i = .int .i64 k ∧ ∀ j m, j < k → ns[j]? = some m → m ≠ n) (fun i => ns.length - (intOf i).toNat)
 case atStart => exact ⟨0, Nat.zero_le _, rfl, fun j _ hj => absurd hj (by omega)⟩
 case round =>
  obtain ⟨k, hk, rfl, hall⟩ := hrel
  have HA := Lib.hid hall
  clear hall
  by_cases hlt : k < ns.length
  ·
   obtain ⟨ad, rfl, hsp, hblk, hD, hcell⟩ := HC.out (by omega)
   obtain ⟨b, o, sp⟩ := ad
   simp only at hsp hblk hD hcell
   subst hsp
   have HS := Lib.hid (List.getElem?_eq_getElem hlt)
   have c0 : w.cell? ⟨b, o + k, none⟩ = some (.int .i64 (ns[k] : Int)) := hcell k _ (by rw [List.getElem?_map, List.getElem?_eq_getElem hlt]; rfl)
   generalize ns[k] = m at *
   clear hcell
   by_cases hs : m = n
   ·
    subst hs
    have hR : R = true := by
     rw [← HR.out, List.contains_iff_mem]
     exact List.mem_of_getElem? HS.out
    subst hR
    go_wp2
    go_ret
    exact ⟨rfl, rfl⟩
   ·
    have g : ((m : Int) == (n : Int)) = false := by rw [beq_eq_false_iff_ne]; omega
    have HS2 := Lib.hid hs
    clear hs
    go_wp2
    go_round
    case rel =>
     refine ⟨k + 1, by omega, by go_num, fun j t hj e => ?_⟩
     rcases Nat.lt_or_ge j k with h | h
     ·
      exact HA.out j t h e
     ·
      have : j = k := by omega
      subst this
      rw [HS.out] at e
      injection e with e
      rw [← e]
      exact HS2.out
    case measure => simp [intOf]; omega
  ·
   have hR : R = false := by
    rw [← HR.out]
    cases hb : ns.contains n with
    | false => rfl
    | true =>
     rw [List.contains_iff_mem] at hb
     obtain ⟨j, hj⟩ := List.getElem?_of_mem hb
     exact absurd rfl (HA.out j n (by have := (List.getElem?_eq_some_iff.1 hj).1; omega) hj)
   subst hR
   go_wp2
   go_ret
   exact ⟨rfl, rfl⟩
end Go.Proofs.YtffoeodjbbkdjaaGreat
