/-
  Proved: dockyardlaw07.GraphLess answers true for every input that can be read, and leaves its arguments as they were. No conditions.
-/
import Derived.Test.YtbcedkcopikcfaaGrAlive
import Derived.Test.YtbcedkcopikcfaaGrLessM
import Derived.Test.YtbcedkcopikcfaaGrOpen
import Derived.StillTailTactics
import Derived.IntWalk
namespace Go.Proofs.Ytbcedkcopikcfaa
open Go.ChangeShapes Go.WideShapes Go.ChangeAt Go.RowKit

theorem tginfo : (Try.prog.info? 39).map (fun i => (i.zero, i.size, i.bytes)) = some (some (.agg #[.string ⟨#[]⟩, .string ⟨#[]⟩, .slice none 0 0]), 3, 56) := by kernel_rfl

theorem own_row {w : World} {base : Nat} {e : TypeId} {size : Nat} {v : Value} {n : Nat} {xs : List Value} (h : w.ownsRow base e size v n xs) {k : Nat} (hk : some k = v.ownBlock) : base ≤ k := by
  rcases h.2 with ⟨rfl, _⟩ | ⟨g, cap, cur, rfl, hb, _⟩
  · cases hk
  · have : k = g := by simpa [Value.ownBlock] using hk
    subst this
    exact hb

theorem cells_pre {ts : List Tg} {k j : Nat} {u : Value} (h : ((ts.take k).flatMap Tg.cells)[j]? = some u) : (ts.flatMap Tg.cells)[j]? = some u := by
  have e : ts.flatMap Tg.cells = (ts.take k).flatMap Tg.cells ++ (ts.drop k).flatMap Tg.cells := by rw [← List.flatMap_append, List.take_append_drop]
  rw [e, List.getElem?_append_left (List.getElem?_eq_some_iff.1 h).1]
  exact h
theorem cells_suf {ts : List Tg} {k j : Nat} {u : Value} (hk : k ≤ ts.length) (h : ((ts.drop k).flatMap Tg.cells)[j]? = some u) : (ts.flatMap Tg.cells)[k * 3 + j]? = some u := by
  have e : ts.flatMap Tg.cells = (ts.take k).flatMap Tg.cells ++ (ts.drop k).flatMap Tg.cells := by rw [← List.flatMap_append, List.take_append_drop]
  have l : ((ts.take k).flatMap Tg.cells).length = k * 3 := by rw [cells_length, List.length_take, Nat.min_eq_left hk]
  rw [e, List.getElem?_append_right (by omega), l, Nat.add_sub_cancel_left]
  exact h
theorem tg_oneCell {w : World} {D : Nat → Prop} {ts : List Tg} (h : ∀ t ∈ ts, t.lies w D) : ∀ u ∈ ts.flatMap Tg.cells, u.oneCell' = true := by
  intro u hu
  obtain ⟨t, ht, hut⟩ := List.mem_flatMap.1 hu
  obtain ⟨A, c, hnv, _⟩ := (h t ht).2.2.1
  unfold Tg.cells at hut
  simp only [List.mem_cons, List.not_mem_nil, or_false] at hut
  rcases hut with rfl | rfl | rfl
  · rfl
  · rfl
  · rw [hnv]; rfl

set_option maxRecDepth 100000 in
set_option maxHeartbeats 4000000 in
theorem less_walk (w : World) (A : Option Addr) (c : Nat) (ts : List Tg) (place : Int) (h : Tgs w (fun _ => True) (.slice A ts.length c) ts) :
    Calls Try.prog 7 #[.agg #[.slice A ts.length c], .int .i64 place] w fun e w' => e = .returned (.bool true) ∧ Keep noneOf w w' := by
  have HH := Lib.hid h
  obtain ⟨A', c', hv, hlc, hcm, hn, hxl, hc⟩ := h.1
  obtain ⟨rfl, rfl⟩ : A = A' ∧ c = c' := by simpa using hv
  unfold maxLen at hcm
  have HC := Lib.hid hc
  have HT := Lib.hid h.2
  have ka := (Keep.refl noneOf w).alloc (.cells #[.slice A ts.length c] 24)
  have HK0 := Lib.hid ka
  have HX0 := Lib.hid (Box.new w 24 #[.slice A ts.length c])
  have HCK := Lib.hid (check_any _ _ _ ts (h.keep ka (fun _ _ _ => id)))
  clear h hv hxl hc hn ka
  by_cases hq : grCheck (ts.map Tg.plain) = 0 ∧ 0 ≤ place ∧ place < (ts.length : Int)
  · obtain ⟨hq, hp0, hp1⟩ := hq
    obtain ⟨p, rfl⟩ := Int.eq_ofNat_of_zero_le hp0
    have hpl : p < ts.length := by omega
    obtain ⟨h32, hfew⟩ := fits_few (check_fits hq).1
    have HFEW := Lib.hid hfew
    have HQ := Lib.hid hq
    rw [hq] at HCK
    have d1 : decide ((p : Int) < 0) = false := by simp
    have d2 : decide (ts.length ≤ p) = false := by simp; omega
    have d3 : decide ((ts.length : Int) ≤ (p : Int)) = false := by simp; omega
    clear hq hfew
    go_enter Try.func7, Try.ntmps7
    go_wp2_with fail
    refine HCK.out.mono ?_
    rintro e w1 ⟨rfl, k1⟩
    have K1 := HK0.out.trans k1 (fun _ _ h => h)
    have X1 := HX0.out.keep k1 id
    have x1 : w1.cell? ⟨w.heap.size, 0, none⟩ = some (.slice A ts.length c) := X1.cell 0
    have HK1 := Lib.hid K1
    have HX1 := Lib.hid X1
    clear HCK HK0 HX0 k1 K1 X1
    go_wp2
    go_loopw [25] (fun i wr => ∃ k : Nat, k ≤ ts.length ∧ i = .int .i64 k ∧ Keep noneOf w wr ∧ Box wr w.heap.size 24 #[.slice A ts.length c] ∧ ∀ j : Nat, j < k → p ∉ needsAt (ts.map Tg.plain) (j : Int)) (fun i _ => ts.length - (intOf i).toNat)
    case atStart => exact ⟨0, Nat.zero_le _, rfl, HK1.out, HX1.out, fun j hj => absurd hj (by omega)⟩
    case round =>
      obtain ⟨k, hk, rfl, hkeep, hX, hall⟩ := hrel
      have x0 : wr.cell? ⟨w.heap.size, 0, none⟩ = some (.slice A ts.length c) := hX.cell 0
      have hz := hX.lt
      have HA := Lib.hid hall
      have HKP := Lib.hid hkeep
      have HX := Lib.hid hX
      clear hall hX HK1 HX1
      by_cases hlt : k < ts.length
      · have hkz : (k : Int) < (ts.length : Int) := by omega
        have HNE := Lib.hid (needs_any wr _ _ ts (k : Int) (HH.out.keep hkeep (fun _ _ _ => id)) HFEW.out)
        clear hkeep
        go_wp2_with fail
        refine HNE.out.mono ?_
        rintro e w2 ⟨v2, rfl, i2, k2⟩
        have IN := in_any w2 _ _ _ p i2
        obtain ⟨A2, c2, hv2⟩ := i2.shape
        subst hv2
        have K2 := HKP.out.trans k2 (fun _ _ h => h)
        have X2 := HX.out.keep k2 id
        clear HNE i2 k2
        cases hb : (needsAt (ts.map Tg.plain) (k : Int)).contains p with
        | true =>
          rw [hb] at IN
          have HIN := Lib.hid IN
          clear IN hb
          go_wp2_with fail
          refine HIN.out.mono ?_
          rintro e w3 ⟨rfl, rfl⟩
          go_wp2_with fail
          refine (alive_any _).mono ?_
          rintro e w4 ⟨rfl, k4⟩
          go_wp2
          go_ret
          exact ⟨rfl, K2.trans k4 (fun _ _ h => h)⟩
        | false =>
          rw [hb] at IN
          have HIN := Lib.hid IN
          have HNO := Lib.hid (show p ∉ needsAt (ts.map Tg.plain) (k : Int) from fun hm => by rw [List.contains_iff_mem.2 hm] at hb; cases hb)
          clear IN hb
          go_wp2_with fail
          refine HIN.out.mono ?_
          rintro e w3 ⟨rfl, rfl⟩
          go_wp2
          go_roundw
          case rel =>
            refine ⟨k + 1, by omega, by go_num, K2, X2, fun j hj => ?_⟩
            rcases Nat.lt_or_ge j k with h | h
            · exact HA.out j h
            · have : j = k := by omega
              subst this
              exact HNO.out
          case measure => simp [intOf]; omega
      · have hkz : ¬ ((k : Int) < (ts.length : Int)) := by omega
        obtain ⟨ad, rfl, hsp, hblk, _, hcell⟩ := HC.out (by omega)
        obtain ⟨b, o, sp⟩ := ad
        simp only at hsp hblk hcell
        subst hsp
        obtain ⟨i39, hi39, hz39, hs39, hb39⟩ := info_parts tginfo
        have HNO : Hid (∀ j : Nat, j < ts.length → p ∉ needsAt (ts.map Tg.plain) (j : Int)) := fun j hj => HA.out j (by omega)
        have HCELL := Lib.hid hcell
        have HY0 := Lib.hid (Box.new wr 24 #[.slice none 0 0])
        have HX2 := Lib.hid (HX.out.alloc (.cells #[.slice none 0 0] 24))
        have HK2 := Lib.hid (hkeep.alloc (.cells #[.slice none 0 0] 24))
        have hsz : (wr.alloc (.cells #[.slice none 0 0] 24)).heap.size = wr.heap.size + 1 := by simp
        clear hcell hkeep HA hlt HX
        go_wp2
        generalize hW : wr.alloc (.cells #[.slice none 0 0] 24) = W at *
        clear hW
        generalize wr.heap.size = hb at *
        have x5 : W.cell? ⟨w.heap.size, 0, none⟩ = some (.slice (some ⟨b, o, none⟩) ts.length c) := HX2.out.cell 0
        have y5 : W.cell? ⟨hb, 0, none⟩ = some (.slice none 0 0) := HY0.out.cell 0
        have g1 : (0 : Int) ≤ (p : Int) := by omega
        have g2 : (p : Int) ≤ (c : Int) := by omega
        have hbl : b < W.heap.size := Nat.lt_of_lt_of_le hblk HK2.out.size
        have HK3 := Lib.hid HK2.out.drew
        have HX3 := Lib.hid HX2.out.drew
        have HY3 := Lib.hid HY0.out.drew
        have hs3 : W.drew.heap.size = hb + 1 := hsz
        go_still_tail 6, (by kernel_rfl)
        change wpList _ _ _ _ _ W.drew
        clear x5 y5 x0 x1 HK2 HX2 HY0 hsz hbl
        generalize W.drew = W2 at *
        have HC2 : Hid (∀ j u, ((ts.take p).flatMap Tg.cells)[j]? = some u → W2.cell? ((⟨b, o, none⟩ : Addr).add j) = some u) := fun j u hu => by
          rw [add_at _ rfl]
          exact (HK3.out.cell (p := ⟨b, o + j, none⟩) hblk id).trans (HCELL.out j u (cells_pre hu))
        have htl : (ts.take p).length = p := by rw [List.length_take]; omega
        have HLN := Lib.hid (show ((ts.take p).flatMap Tg.cells).length = p * 3 by rw [cells_length, htl])
        have HOC := Lib.hid (tg_oneCell (ts := ts.take p) (fun t ht => HT.out t (List.mem_of_mem_take ht)))
        have y6 : W2.cell? ⟨hb, 0, none⟩ = some (.slice none 0 0) := HY3.out.cell 0
        have HAB : Hid (∀ w4, W2.grownBy w4 (Value.slice none 0 0).ownBlock → Box w4 hb 24 #[.slice none 0 0]) := fun w4 hg => HY3.out.keep (Keep.of_grown hg) (fun hs => by cases hs)
        have hsz2 : W2.heap.size ≥ hb + 1 := by omega
        clear hs3 htl
        go_wp2_with (at_builtin; refine wpList_append_own _ rfl _ _ 22 rfl (hb + 1) 39 i39 _ 3 56 Try.underlying22 hi39 hz39 hs39 hb39 rfl (by decide) _ _ _ rfl (World.ownsRow_nil _ _ _ _) ⟨b, o, none⟩ p c ((ts.take p).flatMap Tg.cells) rfl HLN.out HC2.out HOC.out (by unfold maxLen; omega) (by omega) (by omega) ?_; intro v' w4 hown' hgrow _; have Y4 := HAB.out w4 hgrow; obtain ⟨A4, c4, hv4⟩ := own_shape hown'; subst hv4; have y4 : w4.cell? ⟨hb, 0, none⟩ = some (.slice none 0 0) := Y4.cell 0; have f4 := Y4.free 0)
        have kg := Keep.of_grown hgrow
        rw [Nat.zero_add] at hown'
        rw [List.nil_append] at hown'
        have ks := (Keep.refl (fun k => k = hb) w4).setCell (p := ⟨hb, 0, none⟩) (fun _ => rfl) (.slice A4 p c4)
        have K4 : Keep noneOf w w4 := HK3.out.trans kg (fun j _ hs => by cases hs)
        have HK5 := Lib.hid (K4.trans ks (fun j hj hs => by omega))
        have HX5 := Lib.hid ((HX3.out.keep kg (fun hs => by cases hs)).keep ks (by omega))
        have HY5 := Lib.hid (show Box (w4.setCell ⟨hb, 0, none⟩ (.slice A4 p c4)) hb 24 #[.slice A4 p c4] from Y4.put 0 _)
        have HO5 := Lib.hid (own_keep hown' ks (fun j hj e => by have := (hown'.lt j hj).1; omega))
        clear kg ks K4 hown' hgrow Y4 y4 f4 HAB HC2 HLN HOC HK3 HX3 HY3 y6 hsz2
        try simp only [Nat.zero_add]
        generalize w4.setCell ⟨hb, 0, none⟩ (.slice A4 p c4) = W5 at *
        have x5 : W5.cell? ⟨w.heap.size, 0, none⟩ = some (.slice (some ⟨b, o, none⟩) ts.length c) := HX5.out.cell 0
        have y5 : W5.cell? ⟨hb, 0, none⟩ = some (.slice A4 p c4) := HY5.out.cell 0
        have HK6 := Lib.hid HK5.out.drew
        have HX6 := Lib.hid HX5.out.drew
        have HY6 := Lib.hid HY5.out.drew
        have HO6 := Lib.hid (own_keep HO5.out ((Keep.refl noneOf W5).drew) (fun _ _ h => h))
        have e1 : IntKind.i64.wrap ((p : Int) + 1) = (p : Int) + 1 := IntWalk.i64_in _ (by omega)
        have e2 : (0 : Int) ≤ (p : Int) + 1 := by omega
        have e3 : ((p : Int) + 1).toNat = p + 1 := by omega
        have e4 : (p : Int) + 1 ≤ (ts.length : Int) := by omega
        generalize hNN : ts.length = N at *
        have HNN := Lib.hid hNN
        clear hNN
        by_cases hcp : c = p + 1
        · obtain rfl : N = p + 1 := by omega
          subst hcp
          clear d1 d2 d3
          by_cases hp0' : p = 0
          · have t1 : ((p : Int) == 0) = true := by rw [beq_iff_eq]; omega
            have HP0 := Lib.hid hp0'
            clear hp0'
            go_still_tail 7, (by kernel_rfl)
            change wpList _ _ _ _ _ W5.drew
            clear x5 y5 HK5 HX5 HY5 HO5
            generalize W5.drew = W6 at *
            have HC7 : Hid (∀ j u, ((ts.drop (p + 1)).flatMap Tg.cells)[j]? = some u → W6.cell? ((⟨b, o, none⟩ : Addr).add j) = some u) := fun j u hu => by
              rw [List.drop_eq_nil_of_le (by rw [HNN.out]; omega)] at hu
              cases hu
            have HLN := Lib.hid (show ((ts.drop (p + 1)).flatMap Tg.cells).length = 0 * 3 by rw [cells_length, List.length_drop, HNN.out]; omega)
            have HOC := Lib.hid (tg_oneCell (ts := ts.drop (p + 1)) (fun t ht => HT.out t (List.mem_of_mem_drop ht)))
            have y6 : W6.cell? ⟨hb, 0, none⟩ = some (.slice A4 p c4) := HY6.out.cell 0
            have HROW : Hid (∀ j, some j = (Value.slice A4 p c4).ownBlock → hb + 1 ≤ j) := fun j hj => own_row HO6.out hj
            have HAB : Hid (∀ w7, W6.grownBy w7 (Value.slice A4 p c4).ownBlock → Box w7 hb 24 #[.slice A4 p c4]) := fun w7 hg => HY6.out.keep (Keep.of_grown hg) (fun hs => absurd (HROW.out _ hs) (by omega))
            have hz6 := HY6.out.lt
            go_wp2_with (at_builtin; refine wpList_append_own _ rfl _ _ 22 rfl (hb + 1) 39 i39 _ 3 56 Try.underlying22 hi39 hz39 hs39 hb39 rfl (by decide) _ _ _ rfl HO6.out ⟨b, o, none⟩ 0 _ ((ts.drop (p + 1)).flatMap Tg.cells) rfl HLN.out HC7.out HOC.out (by unfold maxLen; omega) (by omega) (by omega) ?_; intro v' w7 hown' hgrow _; have Y7 := HAB.out w7 hgrow; obtain ⟨A7, c7, hv7⟩ := own_shape hown'; subst hv7; have y7 : w7.cell? ⟨hb, 0, none⟩ = some (.slice A4 p c4) := Y7.cell 0; have f7 := Y7.free 0)
            have kg := Keep.of_grown hgrow
            have ks := (Keep.refl (fun k => k = hb) w7).setCell (p := ⟨hb, 0, none⟩) (fun _ => rfl) (.slice A7 (p + 0) c7)
            have hown7 := own_keep hown' ks (fun j hj e => by have := (hown'.lt j hj).1; omega)
            have K7 : Keep noneOf w w7 := HK6.out.trans kg (fun j hj hs => absurd (HROW.out j hs) (by omega))
            have K8 := K7.trans ks (fun j hj hs => by omega)
            have Y8 : Box (w7.setCell ⟨hb, 0, none⟩ (.slice A7 (p + 0) c7)) hb 24 #[.slice A7 (p + 0) c7] := Y7.put 0 _
            have hlh : (lessOf ts p).length = p + 0 := by have := lessOf_len (l := ts) (p := p) (by rw [HNN.out]; omega); rw [HNN.out] at this; omega
            have TH : Tgs (w7.setCell ⟨hb, 0, none⟩ (.slice A7 (p + 0) c7)) (fun _ => True) (.slice A7 (p + 0) c7) (lessOf ts p) := by
              refine ⟨?_, fun t ht => ⟨(HT.out t ((lessOf_sub ts p).subset ht)).1, (HT.out t ((lessOf_sub ts p).subset ht)).2.1, ((HT.out t ((lessOf_sub ts p).subset ht)).2.2).keep K8 (fun _ _ _ => id)⟩⟩
              rw [hlh]
              unfold lessOf
              rw [List.flatMap_append]
              exact Row.mono (Row.of_own hown7) (fun _ _ _ => trivial)
            have HTH := Lib.hid TH
            have HK8 := Lib.hid K8
            have HY8 := Lib.hid Y8
            have HCH := Lib.hid (show grCheck ((lessOf ts p).map Tg.plain) = 70 by
              have h0 : lessOf ts p = [] := List.eq_nil_of_length_eq_zero (by have := HP0.out; omega)
              rw [h0]
              exact empty_check)
            clear kg ks hown7 K7 K8 Y8 hlh TH hown' hgrow Y7 y7 f7 HAB HROW HC7 HLN HOC HK6 HX6 HY6 HO6 y6 hz6
            try simp only [Nat.add_zero] at HTH HK8 HY8
            try simp only [Nat.add_zero]
            generalize w7.setCell ⟨hb, 0, none⟩ (.slice A7 p c7) = W8 at *
            go_wp2_with fail
            refine (alive_any W8).mono ?_
            rintro e w9 ⟨rfl, k9⟩
            have y9 : w9.cell? ⟨hb, 0, none⟩ = some (.slice A7 p c7) := (HY8.out.keep k9 id).cell 0
            have CK := check_any w9 _ _ _ (HTH.out.keep k9 (fun _ _ _ => id))
            rw [HCH.out] at CK
            have HCK := Lib.hid CK
            have HK9 := Lib.hid (HK8.out.trans k9 (fun _ _ h => h))
            clear CK k9
            go_wp2_with fail
            refine HCK.out.mono ?_
            rintro e w10 ⟨rfl, k10⟩
            go_wp2
            go_ret
            exact ⟨rfl, HK9.out.trans k10 (fun _ _ h => h)⟩
          · have t1 : ((p : Int) == 0) = false := by rw [beq_eq_false_iff_ne]; omega
            go_still_tail 7, (by kernel_rfl)
            change wpList _ _ _ _ _ W5.drew
            clear x5 y5 HK5 HX5 HY5 HO5
            generalize W5.drew = W6 at *
            have HC7 : Hid (∀ j u, ((ts.drop (p + 1)).flatMap Tg.cells)[j]? = some u → W6.cell? ((⟨b, o, none⟩ : Addr).add j) = some u) := fun j u hu => by
              rw [List.drop_eq_nil_of_le (by rw [HNN.out]; omega)] at hu
              cases hu
            have HLN := Lib.hid (show ((ts.drop (p + 1)).flatMap Tg.cells).length = 0 * 3 by rw [cells_length, List.length_drop, HNN.out]; omega)
            have HOC := Lib.hid (tg_oneCell (ts := ts.drop (p + 1)) (fun t ht => HT.out t (List.mem_of_mem_drop ht)))
            have y6 : W6.cell? ⟨hb, 0, none⟩ = some (.slice A4 p c4) := HY6.out.cell 0
            have HROW : Hid (∀ j, some j = (Value.slice A4 p c4).ownBlock → hb + 1 ≤ j) := fun j hj => own_row HO6.out hj
            have HAB : Hid (∀ w7, W6.grownBy w7 (Value.slice A4 p c4).ownBlock → Box w7 hb 24 #[.slice A4 p c4]) := fun w7 hg => HY6.out.keep (Keep.of_grown hg) (fun hs => absurd (HROW.out _ hs) (by omega))
            have hz6 := HY6.out.lt
            go_wp2_with (at_builtin; refine wpList_append_own _ rfl _ _ 22 rfl (hb + 1) 39 i39 _ 3 56 Try.underlying22 hi39 hz39 hs39 hb39 rfl (by decide) _ _ _ rfl HO6.out ⟨b, o, none⟩ 0 _ ((ts.drop (p + 1)).flatMap Tg.cells) rfl HLN.out HC7.out HOC.out (by unfold maxLen; omega) (by omega) (by omega) ?_; intro v' w7 hown' hgrow _; have Y7 := HAB.out w7 hgrow; obtain ⟨A7, c7, hv7⟩ := own_shape hown'; subst hv7; have y7 : w7.cell? ⟨hb, 0, none⟩ = some (.slice A4 p c4) := Y7.cell 0; have f7 := Y7.free 0)
            have kg := Keep.of_grown hgrow
            have ks := (Keep.refl (fun k => k = hb) w7).setCell (p := ⟨hb, 0, none⟩) (fun _ => rfl) (.slice A7 (p + 0) c7)
            have hown7 := own_keep hown' ks (fun j hj e => by have := (hown'.lt j hj).1; omega)
            have K7 : Keep noneOf w w7 := HK6.out.trans kg (fun j hj hs => absurd (HROW.out j hs) (by omega))
            have K8 := K7.trans ks (fun j hj hs => by omega)
            have Y8 : Box (w7.setCell ⟨hb, 0, none⟩ (.slice A7 (p + 0) c7)) hb 24 #[.slice A7 (p + 0) c7] := Y7.put 0 _
            have hlh : (lessOf ts p).length = p + 0 := by have := lessOf_len (l := ts) (p := p) (by rw [HNN.out]; omega); rw [HNN.out] at this; omega
            have TH : Tgs (w7.setCell ⟨hb, 0, none⟩ (.slice A7 (p + 0) c7)) (fun _ => True) (.slice A7 (p + 0) c7) (lessOf ts p) := by
              refine ⟨?_, fun t ht => ⟨(HT.out t ((lessOf_sub ts p).subset ht)).1, (HT.out t ((lessOf_sub ts p).subset ht)).2.1, ((HT.out t ((lessOf_sub ts p).subset ht)).2.2).keep K8 (fun _ _ _ => id)⟩⟩
              rw [hlh]
              unfold lessOf
              rw [List.flatMap_append]
              exact Row.mono (Row.of_own hown7) (fun _ _ _ => trivial)
            have HTH := Lib.hid TH
            have HK8 := Lib.hid K8
            have HY8 := Lib.hid Y8
            have HCH := Lib.hid (show grCheck ((lessOf ts p).map Tg.plain) = 0 by
              rw [lessOf_map]
              refine less_check HQ.out (by rw [List.length_map, HNN.out]; omega) (fun i hi => HNO.out i (by rw [List.length_map, HNN.out] at hi; omega)) (fun e => ?_)
              have hh := congrArg List.length e
              rw [← lessOf_map, List.length_map, hlh, List.length_nil] at hh
              omega)
            clear kg ks hown7 K7 K8 Y8 hlh TH hown' hgrow Y7 y7 f7 HAB HROW HC7 HLN HOC HK6 HX6 HY6 HO6 y6 hz6
            try simp only [Nat.add_zero] at HTH HK8 HY8
            try simp only [Nat.add_zero]
            generalize w7.setCell ⟨hb, 0, none⟩ (.slice A7 p c7) = W8 at *
            go_wp2_with fail
            refine (alive_any W8).mono ?_
            rintro e w9 ⟨rfl, k9⟩
            have y9 : w9.cell? ⟨hb, 0, none⟩ = some (.slice A7 p c7) := (HY8.out.keep k9 id).cell 0
            have CK := check_any w9 _ _ _ (HTH.out.keep k9 (fun _ _ _ => id))
            rw [HCH.out] at CK
            have HCK := Lib.hid CK
            have HK9 := Lib.hid (HK8.out.trans k9 (fun _ _ h => h))
            clear CK k9
            go_wp2_with fail
            refine HCK.out.mono ?_
            rintro e w10 ⟨rfl, k10⟩
            go_wp2
            go_ret
            exact ⟨rfl, HK9.out.trans k10 (fun _ _ h => h)⟩
        · by_cases hz0 : N = 1
          · have HZ0 := Lib.hid (show p + (N - (p + 1)) = 0 by omega)
            have t1 : (((p + (N - (p + 1)) : Nat) : Int) == 0) = true := by rw [beq_iff_eq]; omega
            have t2 : ((p : Int) + ((N - (p + 1) : Nat) : Int) == 0) = true := by rw [beq_iff_eq]; omega
            have HN1 := Lib.hid hz0
            clear hz0
            go_still_tail 7, (by kernel_rfl)
            change wpList _ _ _ _ _ W5.drew
            clear x5 y5 HK5 HX5 HY5 HO5
            generalize W5.drew = W6 at *
            have HC7 : Hid (∀ j u, ((ts.drop (p + 1)).flatMap Tg.cells)[j]? = some u → W6.cell? ((⟨b, o + (p + 1) * 3, none⟩ : Addr).add j) = some u) := fun j u hu => by
              rw [add_at _ rfl]
              show W6.cell? ⟨b, o + (p + 1) * 3 + j, none⟩ = some u
              rw [Nat.add_assoc]
              exact (HK6.out.cell (p := ⟨b, o + ((p + 1) * 3 + j), none⟩) hblk id).trans (HCELL.out _ u (cells_suf (by rw [HNN.out]; omega) hu))
            have HLN := Lib.hid (show ((ts.drop (p + 1)).flatMap Tg.cells).length = (N - (p + 1)) * 3 by rw [cells_length, List.length_drop, HNN.out])
            have HOC := Lib.hid (tg_oneCell (ts := ts.drop (p + 1)) (fun t ht => HT.out t (List.mem_of_mem_drop ht)))
            have y6 : W6.cell? ⟨hb, 0, none⟩ = some (.slice A4 p c4) := HY6.out.cell 0
            have HROW : Hid (∀ j, some j = (Value.slice A4 p c4).ownBlock → hb + 1 ≤ j) := fun j hj => own_row HO6.out hj
            have HAB : Hid (∀ w7, W6.grownBy w7 (Value.slice A4 p c4).ownBlock → Box w7 hb 24 #[.slice A4 p c4]) := fun w7 hg => HY6.out.keep (Keep.of_grown hg) (fun hs => absurd (HROW.out _ hs) (by omega))
            have hz6 := HY6.out.lt
            go_wp2_with (at_builtin; refine wpList_append_own _ rfl _ _ 22 rfl (hb + 1) 39 i39 _ 3 56 Try.underlying22 hi39 hz39 hs39 hb39 rfl (by decide) _ _ _ rfl HO6.out ⟨b, o + (p + 1) * 3, none⟩ (N - (p + 1)) _ ((ts.drop (p + 1)).flatMap Tg.cells) rfl HLN.out HC7.out HOC.out (by unfold maxLen; omega) (by omega) (by omega) ?_; intro v' w7 hown' hgrow _; have Y7 := HAB.out w7 hgrow; obtain ⟨A7, c7, hv7⟩ := own_shape hown'; subst hv7; have y7 : w7.cell? ⟨hb, 0, none⟩ = some (.slice A4 p c4) := Y7.cell 0; have f7 := Y7.free 0)
            have kg := Keep.of_grown hgrow
            have ks := (Keep.refl (fun k => k = hb) w7).setCell (p := ⟨hb, 0, none⟩) (fun _ => rfl) (.slice A7 (p + (N - (p + 1))) c7)
            have hown7 := own_keep hown' ks (fun j hj e => by have := (hown'.lt j hj).1; omega)
            have K7 : Keep noneOf w w7 := HK6.out.trans kg (fun j hj hs => absurd (HROW.out j hs) (by omega))
            have K8 := K7.trans ks (fun j hj hs => by omega)
            have Y8 : Box (w7.setCell ⟨hb, 0, none⟩ (.slice A7 (p + (N - (p + 1))) c7)) hb 24 #[.slice A7 (p + (N - (p + 1))) c7] := Y7.put 0 _
            have hlh : (lessOf ts p).length = p + (N - (p + 1)) := by have := lessOf_len (l := ts) (p := p) (by rw [HNN.out]; omega); rw [HNN.out] at this; omega
            have TH : Tgs (w7.setCell ⟨hb, 0, none⟩ (.slice A7 (p + (N - (p + 1))) c7)) (fun _ => True) (.slice A7 (p + (N - (p + 1))) c7) (lessOf ts p) := by
              refine ⟨?_, fun t ht => ⟨(HT.out t ((lessOf_sub ts p).subset ht)).1, (HT.out t ((lessOf_sub ts p).subset ht)).2.1, ((HT.out t ((lessOf_sub ts p).subset ht)).2.2).keep K8 (fun _ _ _ => id)⟩⟩
              rw [hlh]
              unfold lessOf
              rw [List.flatMap_append]
              exact Row.mono (Row.of_own hown7) (fun _ _ _ => trivial)
            have HTH := Lib.hid TH
            have HK8 := Lib.hid K8
            have HY8 := Lib.hid Y8
            have HCH := Lib.hid (show grCheck ((lessOf ts p).map Tg.plain) = 70 by
              have h0 : lessOf ts p = [] := List.eq_nil_of_length_eq_zero (by have := HZ0.out; omega)
              rw [h0]
              exact empty_check)
            clear kg ks hown7 K7 K8 Y8 hlh TH hown' hgrow Y7 y7 f7 HAB HROW HC7 HLN HOC HK6 HX6 HY6 HO6 y6 hz6
            try simp only [Nat.add_zero] at HTH HK8 HY8
            try simp only [Nat.add_zero]
            generalize w7.setCell ⟨hb, 0, none⟩ (.slice A7 (p + (N - (p + 1))) c7) = W8 at *
            go_wp2_with fail
            refine (alive_any W8).mono ?_
            rintro e w9 ⟨rfl, k9⟩
            have y9 : w9.cell? ⟨hb, 0, none⟩ = some (.slice A7 (p + (N - (p + 1))) c7) := (HY8.out.keep k9 id).cell 0
            have CK := check_any w9 _ _ _ (HTH.out.keep k9 (fun _ _ _ => id))
            rw [HCH.out] at CK
            have HCK := Lib.hid CK
            have HK9 := Lib.hid (HK8.out.trans k9 (fun _ _ h => h))
            clear CK k9
            go_wp2_with fail
            refine HCK.out.mono ?_
            rintro e w10 ⟨rfl, k10⟩
            go_wp2
            go_ret
            exact ⟨rfl, HK9.out.trans k10 (fun _ _ h => h)⟩
          · have t1 : (((p + (N - (p + 1)) : Nat) : Int) == 0) = false := by rw [beq_eq_false_iff_ne]; omega
            have t2 : ((p : Int) + ((N - (p + 1) : Nat) : Int) == 0) = false := by rw [beq_eq_false_iff_ne]; omega
            have t3 : ¬ (p + (N - (p + 1)) = 0) := by omega
            go_still_tail 7, (by kernel_rfl)
            change wpList _ _ _ _ _ W5.drew
            clear x5 y5 HK5 HX5 HY5 HO5
            generalize W5.drew = W6 at *
            have HC7 : Hid (∀ j u, ((ts.drop (p + 1)).flatMap Tg.cells)[j]? = some u → W6.cell? ((⟨b, o + (p + 1) * 3, none⟩ : Addr).add j) = some u) := fun j u hu => by
              rw [add_at _ rfl]
              show W6.cell? ⟨b, o + (p + 1) * 3 + j, none⟩ = some u
              rw [Nat.add_assoc]
              exact (HK6.out.cell (p := ⟨b, o + ((p + 1) * 3 + j), none⟩) hblk id).trans (HCELL.out _ u (cells_suf (by rw [HNN.out]; omega) hu))
            have HLN := Lib.hid (show ((ts.drop (p + 1)).flatMap Tg.cells).length = (N - (p + 1)) * 3 by rw [cells_length, List.length_drop, HNN.out])
            have HOC := Lib.hid (tg_oneCell (ts := ts.drop (p + 1)) (fun t ht => HT.out t (List.mem_of_mem_drop ht)))
            have y6 : W6.cell? ⟨hb, 0, none⟩ = some (.slice A4 p c4) := HY6.out.cell 0
            have HROW : Hid (∀ j, some j = (Value.slice A4 p c4).ownBlock → hb + 1 ≤ j) := fun j hj => own_row HO6.out hj
            have HAB : Hid (∀ w7, W6.grownBy w7 (Value.slice A4 p c4).ownBlock → Box w7 hb 24 #[.slice A4 p c4]) := fun w7 hg => HY6.out.keep (Keep.of_grown hg) (fun hs => absurd (HROW.out _ hs) (by omega))
            have hz6 := HY6.out.lt
            go_wp2_with (at_builtin; refine wpList_append_own _ rfl _ _ 22 rfl (hb + 1) 39 i39 _ 3 56 Try.underlying22 hi39 hz39 hs39 hb39 rfl (by decide) _ _ _ rfl HO6.out ⟨b, o + (p + 1) * 3, none⟩ (N - (p + 1)) _ ((ts.drop (p + 1)).flatMap Tg.cells) rfl HLN.out HC7.out HOC.out (by unfold maxLen; omega) (by omega) (by omega) ?_; intro v' w7 hown' hgrow _; have Y7 := HAB.out w7 hgrow; obtain ⟨A7, c7, hv7⟩ := own_shape hown'; subst hv7; have y7 : w7.cell? ⟨hb, 0, none⟩ = some (.slice A4 p c4) := Y7.cell 0; have f7 := Y7.free 0)
            have kg := Keep.of_grown hgrow
            have ks := (Keep.refl (fun k => k = hb) w7).setCell (p := ⟨hb, 0, none⟩) (fun _ => rfl) (.slice A7 (p + (N - (p + 1))) c7)
            have hown7 := own_keep hown' ks (fun j hj e => by have := (hown'.lt j hj).1; omega)
            have K7 : Keep noneOf w w7 := HK6.out.trans kg (fun j hj hs => absurd (HROW.out j hs) (by omega))
            have K8 := K7.trans ks (fun j hj hs => by omega)
            have Y8 : Box (w7.setCell ⟨hb, 0, none⟩ (.slice A7 (p + (N - (p + 1))) c7)) hb 24 #[.slice A7 (p + (N - (p + 1))) c7] := Y7.put 0 _
            have hlh : (lessOf ts p).length = p + (N - (p + 1)) := by have := lessOf_len (l := ts) (p := p) (by rw [HNN.out]; omega); rw [HNN.out] at this; omega
            have TH : Tgs (w7.setCell ⟨hb, 0, none⟩ (.slice A7 (p + (N - (p + 1))) c7)) (fun _ => True) (.slice A7 (p + (N - (p + 1))) c7) (lessOf ts p) := by
              refine ⟨?_, fun t ht => ⟨(HT.out t ((lessOf_sub ts p).subset ht)).1, (HT.out t ((lessOf_sub ts p).subset ht)).2.1, ((HT.out t ((lessOf_sub ts p).subset ht)).2.2).keep K8 (fun _ _ _ => id)⟩⟩
              rw [hlh]
              unfold lessOf
              rw [List.flatMap_append]
              exact Row.mono (Row.of_own hown7) (fun _ _ _ => trivial)
            have HTH := Lib.hid TH
            have HK8 := Lib.hid K8
            have HY8 := Lib.hid Y8
            have HCH := Lib.hid (show grCheck ((lessOf ts p).map Tg.plain) = 0 by
              rw [lessOf_map]
              refine less_check HQ.out (by rw [List.length_map, HNN.out]; omega) (fun i hi => HNO.out i (by rw [List.length_map, HNN.out] at hi; omega)) (fun e => ?_)
              have hh := congrArg List.length e
              rw [← lessOf_map, List.length_map, hlh, List.length_nil] at hh
              omega)
            clear kg ks hown7 K7 K8 Y8 hlh TH hown' hgrow Y7 y7 f7 HAB HROW HC7 HLN HOC HK6 HX6 HY6 HO6 y6 hz6
            try simp only [Nat.add_zero] at HTH HK8 HY8
            try simp only [Nat.add_zero]
            generalize w7.setCell ⟨hb, 0, none⟩ (.slice A7 (p + (N - (p + 1))) c7) = W8 at *
            go_wp2_with fail
            refine (alive_any W8).mono ?_
            rintro e w9 ⟨rfl, k9⟩
            have y9 : w9.cell? ⟨hb, 0, none⟩ = some (.slice A7 (p + (N - (p + 1))) c7) := (HY8.out.keep k9 id).cell 0
            have CK := check_any w9 _ _ _ (HTH.out.keep k9 (fun _ _ _ => id))
            rw [HCH.out] at CK
            have HCK := Lib.hid CK
            have HK9 := Lib.hid (HK8.out.trans k9 (fun _ _ h => h))
            clear CK k9
            go_wp2_with fail
            refine HCK.out.mono ?_
            rintro e w10 ⟨rfl, k10⟩
            go_wp2
            go_ret
            exact ⟨rfl, HK9.out.trans k10 (fun _ _ h => h)⟩
  · have hq' : grCheck (ts.map Tg.plain) ≠ 0 ∨ (grCheck (ts.map Tg.plain) = 0 ∧ place < 0) ∨ (grCheck (ts.map Tg.plain) = 0 ∧ 0 ≤ place ∧ (ts.length : Int) ≤ place) := by
      by_cases h0 : grCheck (ts.map Tg.plain) = 0
      · by_cases h1 : place < 0
        · exact .inr (.inl ⟨h0, h1⟩)
        · exact .inr (.inr ⟨h0, by omega, by
            by_cases h2 : place < (ts.length : Int)
            · exact absurd ⟨h0, by omega, h2⟩ hq
            · omega⟩)
      · exact .inl h0
    clear hq
    rcases hq' with h0 | ⟨h0, h1⟩ | ⟨h0, h1, h2⟩
    · have g : (grCheck (ts.map Tg.plain) != 0) = true := by rw [bne_iff_ne]; exact h0
      have g' : (grCheck (ts.map Tg.plain) == 0) = false := by rw [beq_eq_false_iff_ne]; exact h0
      generalize grCheck (ts.map Tg.plain) = R at *
      clear h0
      go_enter Try.func7, Try.ntmps7
      go_wp2_with fail
      refine HCK.out.mono ?_
      rintro e w1 ⟨rfl, k1⟩
      have K1 := HK0.out.trans k1 (fun _ _ h => h)
      go_wp2_with fail
      refine (alive_any _).mono ?_
      rintro e w2 ⟨rfl, k2⟩
      go_wp2
      go_ret
      exact ⟨rfl, K1.trans k2 (fun _ _ h => h)⟩
    · rw [h0] at HCK
      clear h0
      go_enter Try.func7, Try.ntmps7
      go_wp2_with fail
      refine HCK.out.mono ?_
      rintro e w1 ⟨rfl, k1⟩
      have K1 := HK0.out.trans k1 (fun _ _ h => h)
      go_wp2_with fail
      refine (alive_any _).mono ?_
      rintro e w2 ⟨rfl, k2⟩
      go_wp2
      go_ret
      exact ⟨rfl, K1.trans k2 (fun _ _ h => h)⟩
    · rw [h0] at HCK
      clear h0
      go_enter Try.func7, Try.ntmps7
      go_wp2_with fail
      refine HCK.out.mono ?_
      rintro e w1 ⟨rfl, k1⟩
      have K1 := HK0.out.trans k1 (fun _ _ h => h)
      have x1 : w1.cell? ⟨w.heap.size, 0, none⟩ = some (.slice A ts.length c) := (HX0.out.keep k1 id).cell 0
      go_wp2_with fail
      refine (alive_any _).mono ?_
      rintro e w2 ⟨rfl, k2⟩
      go_wp2
      go_ret
      exact ⟨rfl, K1.trans k2 (fun _ _ h => h)⟩

namespace GraphLess
set_option maxRecDepth 100000 in
theorem lifted (os : Os) (started : os.Started) (H : Type) (enc : TypeId × Value → H) :
    ReturnsInHanded {} Try.checked os 7 .any (Rows.graphLessSpec.pre6 enc Try.prog Try.f7 Rows.graphLessRow.domain false) (Rows.graphLessSpec.post enc Try.prog Try.f7 false true false false) := by
  refine returnsInHanded_of_change_sized (C := Try.checked) own started (by kernel_rfl) Try.func7
    (ChangeSpec.witness6 (enc := enc) (C := Try.checked) false ⟨#[], #[.agg #[.slice none 0 0], .int .i64 0], []⟩ 8 (by kernel_rfl) (by kernel_rfl) (by kernel_rfl) (by kernel_rfl)) ?_
  intro W base args ds gs before hval0 hW hcnd hsz _
  have hval : ∀ (j : Nat) t v, Try.f7.params[j]? = some t → args[j]? = some v → Value.okWide Try.prog W .any base t v := hval0
  have hW' := hW
  obtain ⟨p, q, hA0, hV, rfl, hfz, hnd⟩ := hW
  have hA : DataW.TrodAll enc Try.prog W 0 (fun _ => true) true Try.f7.params.toList args.toList ds p := hA0
  rw [Try.params7] at hA hval
  obtain ⟨v0, vs0, d0, ds0, p0, q0, hargs, rfl, rfl, h0, r0⟩ := trodAll_cons hA
  obtain ⟨v1, vs1, d1, ds1, p1, q1, rfl, rfl, rfl, h1, r1⟩ := trodAll_cons r0
  obtain ⟨rfl, rfl, rfl⟩ := trodAll_nil r1
  obtain rfl : args = #[v0, v1] := by cases args; simp_all
  obtain ⟨rfl, rfl⟩ := trodVars_none hV
  have k0 := h0
  have lt0 : ∀ x ∈ p0, x.block < W.heap.size := by obtain ⟨m, hm⟩ := k0; exact DataW.trod_lt m _ _ _ hm
  obtain ⟨A0, c0, ts0, rfl, hts0, _, _⟩ := open_graph (hval 0 24 v0 rfl rfl) h0 (light_arg hsz (j := 0) rfl rfl)
  obtain ⟨a1, rfl, rfl, rfl, w1⟩ := open_int Try.underlying3 (hval 1 3 v1 rfl rfl) h1
  clear hA0 hval0
  refine (less_walk W A0 c0 ts0 a1 hts0).mono fun e W' ⟨he, bel0⟩ => ?_
  subst he
  have bel := bel0.all
  exact ⟨_, rfl, _, _, _, [], _, [], hW', trodAll_mk1 (shut_bool Try.underlying4 _), (trodAll_cons_mk (Below.trod laidOut (by kernel_rfl) (of_decide_eq_true (by kernel_rfl)) k0 bel lt0) (trodAll_cons_mk (shut_int Try.underlying3 w1) trodAll_mk0)), rfl, bel.frame _, fun h => by cases h⟩

theorem over : Rows.graphLessRow.holds Try.pinned (OpenSpec.ofChange Rows.graphLessSpec) :=
  OpenClaim.holds_of_wide 7 Try.f7 rfl rfl rfl rfl rfl rfl rfl ⟨rfl, rfl, rfl, rfl, rfl⟩ rfl rfl rfl rfl rfl (by kernel_rfl) Try.func7 (by kernel_rfl)
    (of_decide_eq_true (by kernel_rfl)) (by unfold Func.isWrapper; first | (rw [if_pos (by decide +kernel)]; kernel_rfl) | (rw [if_neg (by decide +kernel)]; exact ⟨rfl, rfl⟩))
    (fun os started H enc _ => lifted os started H enc)

theorem proved : Rows.GraphLessSaid := over
end GraphLess
end Go.Proofs.Ytbcedkcopikcfaa
