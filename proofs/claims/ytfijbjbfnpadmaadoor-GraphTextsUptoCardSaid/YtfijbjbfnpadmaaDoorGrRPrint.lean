/-
  dockyardref07.Print: the text of a graph, as the document says.
-/
import Derived.Test.YtfijbjbfnpadmaaDoorGrPrint
import Derived.Test.YtfijbjbfnpadmaaDoorGrRCheck
namespace Go.Proofs.YtfijbjbfnpadmaaDoor
open Go.RowKit

theorem size_data (s : ByteArray) : s.size = s.data.toList.length := by rw [Array.length_toList]; rfl

set_option maxRecDepth 100000 in
set_option maxHeartbeats 1000000 in
theorem refPrint_any (w : World) (D : Nat → Prop) (v : Value) (ts : List Tg) (h : Tgs w D v ts) :
    Calls Tryd.prog 6 #[.agg #[v]] w fun e w' => e = .returned (.tuple #[.string ⟨(printOf (ts.map Tg.plain)).toArray⟩, .int .i64 (grCheck (ts.map Tg.plain))]) ∧ Keep noneOf w w' := by
  have HH := Lib.hid h
  obtain ⟨A, c, rfl, hlc, hcm, hn, hxl, hc⟩ := h.1
  unfold maxLen at hcm
  have ka := (Keep.refl noneOf w).alloc (.cells #[.slice A ts.length c] 24)
  have HK0 := Lib.hid ka
  have HX0 := Lib.hid (Box.new w 24 #[.slice A ts.length c])
  have HCK := Lib.hid (refCheck_any _ D _ ts (HH.out.keep ka (fun _ _ _ => id)))
  have HC := Lib.hid hc
  have HT := Lib.hid h.2
  clear hc h hxl hn ka
  by_cases hq : grCheck (ts.map Tg.plain) = 0
  · obtain ⟨h32, hlim⟩ := check_lim hq
    have hR : printOf (ts.map Tg.plain) = grText (ts.map Tg.plain) := by unfold printOf; rw [if_pos hq]
    rw [hq] at HCK ⊢
    rw [hR]
    have HLIM := Lib.hid hlim
    clear hq hlim hR
    go_enter Tryd.func6, Tryd.ntmps6
    go_wp2_with fail
    refine HCK.out.mono ?_
    rintro e w1 ⟨rfl, k1⟩
    have HK1 := Lib.hid (HK0.out.trans k1 (fun _ _ h => h))
    have HX1 := Lib.hid (HX0.out.keep k1 id)
    clear HCK HK0 HX0 k1
    go_wp2
    go_loopw [5, 6] (fun s i wr => ∃ (k : Nat) (S : ByteArray), k ≤ ts.length ∧ i = .int .i64 k ∧ s = .string S ∧ Keep noneOf w wr ∧ Box wr w.heap.size 24 #[.slice A ts.length c] ∧ S.data.toList = grText ((ts.take k).map Tg.plain)) (fun _ i _ => ts.length - (intOf i).toNat)
    case atStart => exact ⟨0, ⟨#[]⟩, Nat.zero_le _, rfl, rfl, HK1.out, HX1.out, rfl⟩
    case round =>
      obtain ⟨k, S, hk, rfl, rfl, hkeep, hX, hS⟩ := hrel
      have x0 : wr.cell? ⟨w.heap.size, 0, none⟩ = some (.slice A ts.length c) := hX.cell 0
      have hz := hX.lt
      have hsl : S.size ≤ 32000 := by rw [size_data, hS]; exact grText_le HLIM.out h32 k
      have HS0 := Lib.hid hS
      have HX := Lib.hid hX
      have HKP := Lib.hid hkeep
      clear hS hX HK1 HX1
      by_cases hlt : k < ts.length
      · obtain ⟨ad, rfl, hsp, hblk, hD, hcell⟩ := HC.out (by omega)
        obtain ⟨b0, o, sp⟩ := ad
        simp only at hsp hblk hD hcell
        subst hsp
        have HS := Lib.hid (List.getElem?_eq_getElem hlt)
        have hlies := HT.out _ (List.getElem_mem hlt)
        have hlim := HLIM.out _ (List.getElem_mem hlt)
        generalize ts[k] = t at *
        obtain ⟨c0, c1, c2⟩ := tgs_at hkeep hblk hcell HS.out
        have HGM := Lib.hid (grText_more HS.out)
        obtain ⟨nm, cm, nv, ss⟩ := t
        obtain ⟨l1, l2, ⟨A2, cp2, hnv, hl2, hm2, _, _, hrow⟩, _⟩ := hlies
        simp only at c0 c1 c2 hnv l1 l2 hl2 hrow
        subst hnv
        unfold maxLen at hm2
        have HLT := Lib.hid hlim
        have n1 : nm.size ≤ 32 := hlim.1
        have n2 : cm.size ≤ 256 := hlim.2.1
        have n3 : ss.length ≤ 16 := hlim.2.2.1
        have HN4 : Hid (∀ s ∈ ss, s.size ≤ 32) := hlim.2.2.2
        have HROW := Lib.hid hrow
        have HKA := Lib.hid (hkeep.alloc (.cells #[.string nm, .string cm, .slice A2 ss.length cp2] 40))
        have HXA := Lib.hid (HX.out.alloc (.cells #[.string nm, .string cm, .slice A2 ss.length cp2] 40))
        have HY := Lib.hid (Box.new wr 40 #[.string nm, .string cm, .slice A2 ss.length cp2])
        clear hlim l1 l2 hrow hkeep hcell
        go_wp2
        obtain ⟨S1, hS1⟩ : ∃ S1, S ++ nm ++ (⟨#[58]⟩ : ByteArray) = S1 := ⟨_, rfl⟩
        rw [hS1]
        have HA1 := Lib.hid (show S1.data.toList = grText ((ts.take k).map Tg.plain) ++ (nm.data.toList ++ [58]) by
          rw [← hS1, data_app, data_app, HS0.out, List.append_assoc])
        have hs1 : S1.size ≤ 32033 := by rw [← hS1, ByteArray.size_append, ByteArray.size_append]; have : (⟨#[58]⟩ : ByteArray).size = 1 := rfl; omega
        clear hS1
        have HYB := HY.out.cell 2
        have HT2 := Lib.hid (show (wr.alloc (.cells #[.string nm, .string cm, .slice A2 ss.length cp2] 40)).cell? ⟨wr.heap.size, 2, none⟩ = some (.slice A2 ss.length cp2) from HY.out.cell 2)
        have HT1 := Lib.hid (show (wr.alloc (.cells #[.string nm, .string cm, .slice A2 ss.length cp2] 40)).cell? ⟨wr.heap.size, 1, none⟩ = some (.string cm) from HY.out.cell 1)
        clear HYB
        generalize wr.alloc (.cells #[.string nm, .string cm, .slice A2 ss.length cp2] 40) = W1 at *
        generalize wr.heap.size = tb at *
        have t2 := HT2.out
        have t1 := HT1.out
        go_loop [5, 8] (fun s i => ∃ (a : Nat) (S2 : ByteArray), a ≤ ss.length ∧ i = .int .i64 a ∧ s = .string S2 ∧ S2.data.toList = S1.data.toList ++ (ss.take a).flatMap needText) (fun _ i => ss.length - (intOf i).toNat)
        case atStart => exact ⟨0, S1, Nat.zero_le _, rfl, rfl, by simp⟩
        case round =>
          obtain ⟨a, S2, ha, rfl, rfl, hS2⟩ := hrel
          have hs2 : S2.size ≤ 32561 := by
            rw [size_data, hS2, List.length_append, ← size_data]
            have h9 : ((ss.take a).flatMap needText).length ≤ 16 * 33 := needs_le HLT.out a
            omega
          have HS2 := Lib.hid hS2
          clear hS2
          by_cases hal : a < ss.length
          · obtain ⟨ad2, rfl, hsp2, hblk2, _, hcell2⟩ := HROW.out (by omega)
            obtain ⟨bb, oo, sp2⟩ := ad2
            simp only at hsp2 hblk2 hcell2
            subst hsp2
            have hck : W1.cell? ⟨bb, oo + a, none⟩ = some (.string ss[a]) := (HKA.out.cell (p := ⟨bb, oo + a, none⟩) hblk2 id).trans (hcell2 a _ (by simp [List.getElem?_eq_getElem hal]))
            have hs32 := HN4.out _ (List.getElem_mem hal)
            have HNM := Lib.hid (needText_more (List.getElem?_eq_getElem hal))
            generalize ss[a] = sx at *
            clear hcell2
            go_wp2
            go_round
            case rel =>
              refine ⟨a + 1, _, by omega, by go_num, rfl, ?_⟩
              rw [data_app, data_app, HS2.out, HNM.out]
              simp [needText]
            case measure => simp [intOf]; omega
          · have hte : ss.take a = ss := List.take_of_length_le (by omega)
            have HS3 := HS2.out
            rw [hte] at HS3
            have HS4 := Lib.hid HS3
            clear hte HS3 HS2
            by_cases hcm0 : cm.size = 0
            · have HF := Lib.hid (show ptText (Tg.plain ⟨nm, cm, .slice A2 ss.length cp2, ss⟩) = nm.data.toList ++ [58] ++ ss.flatMap needText ++ [10] by
                unfold ptText cmdText Tg.plain
                simp [hcm0])
              have hce : cm.toList = [] := by
                rw [ByteArray.toList_eq]
                exact List.eq_nil_of_length_eq_zero (by rw [Array.length_toList]; exact hcm0)
              have hcc : (!cm.toList.isEmpty) = false := by rw [hce]; rfl
              clear hcm0
              go_wp2
              go_roundw
              case rel =>
                refine ⟨k + 1, _, by omega, by go_num, rfl, HKA.out, HXA.out, ?_⟩
                rw [data_app, HS4.out, HGM.out, HF.out, HA1.out]
                simp
              case measure => simp [intOf]; omega
            · have HF := Lib.hid (show ptText (Tg.plain ⟨nm, cm, .slice A2 ss.length cp2, ss⟩) = nm.data.toList ++ [58] ++ ss.flatMap needText ++ [10] ++ (9 :: cm.data.toList ++ [10]) by
                unfold ptText cmdText Tg.plain
                simp [hcm0])
              have hcc : (!cm.toList.isEmpty) = true := by rw [str_some]; simpa using hcm0
              have hcd : cm.toList.isEmpty = false := by simpa using hcc
              clear hcm0
              go_wp2
              go_roundw
              case rel =>
                refine ⟨k + 1, _, by omega, by go_num, rfl, HKA.out, HXA.out, ?_⟩
                simp only [data_app]
                rw [HS4.out, HGM.out, HF.out, HA1.out]
                simp
              case measure => simp [intOf]; omega
      · have hte : ts.take k = ts := List.take_of_length_le (by omega)
        have HSE := Lib.hid (show S = ⟨(grText (ts.map Tg.plain)).toArray⟩ by
          have := HS0.out
          rw [hte] at this
          rw [← this])
        clear hte
        go_wp2
        go_ret2
        rw [← HSE.out]
        exact ⟨rfl, HKP.out⟩
  · have hR : printOf (ts.map Tg.plain) = [] := by unfold printOf; rw [if_neg hq]
    rw [hR]
    have g : (grCheck (ts.map Tg.plain) != 0) = true := by rw [bne_iff_ne]; exact hq
    have g' : (grCheck (ts.map Tg.plain) == 0) = false := by rw [beq_eq_false_iff_ne]; exact hq
    generalize grCheck (ts.map Tg.plain) = R at *
    clear hq hR HT HC
    go_enter Tryd.func6, Tryd.ntmps6
    go_wp2_with fail
    refine HCK.out.mono ?_
    rintro e w1 ⟨rfl, k1⟩
    have K1 := HK0.out.trans k1 (fun _ _ h => h)
    go_wp2
    go_ret2
    exact ⟨rfl, K1⟩
end Go.Proofs.YtfijbjbfnpadmaaDoor
