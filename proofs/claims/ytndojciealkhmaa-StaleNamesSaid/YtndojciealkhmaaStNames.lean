/-
  Proved: dockyardlaw08.StaleNames answers true for every input that can be read, and leaves its arguments as they were. No conditions.
-/
import Derived.Test.YtndojciealkhmaaStAlive
import Derived.Test.YtndojciealkhmaaStNamesM
import Derived.Test.YtndojciealkhmaaStOpen
import Derived.Test.YtndojciealkhmaaTgOwn
import Derived.Laws.Concat
import Derived.ChangeMaps5
namespace Go.Proofs.Ytndojciealkhmaa
open Go.ChangeShapes Go.WideShapes Go.ChangeAt Go.RowKit

theorem Kys.cell {w : World} {D : Nat → Prop} {A : Option Addr} {c : Nat} {ks : List Nat} (h : Kys w D (.slice A ks.length c) ks) {k n : Nat} (hk : ks[k]? = some n) :
    ∃ b o, A = some ⟨b, o, none⟩ ∧ b < w.heap.size ∧ D b ∧ w.cell? ⟨b, o + k, none⟩ = some (.int .u64 (n : Int)) := by
  obtain ⟨⟨A', c', hv', _, _, _, _, hrow⟩, _⟩ := h
  obtain ⟨rfl, rfl⟩ : A = A' ∧ c = c' := by simpa using hv'
  have hlt := (List.getElem?_eq_some_iff.1 hk).1
  obtain ⟨ad, rfl, hsp, hblk, hD, hcell⟩ := hrow (by omega)
  obtain ⟨b, o, sp⟩ := ad
  simp only at hsp hblk hD hcell
  subst hsp
  exact ⟨b, o, rfl, hblk, hD, hcell k _ (by rw [List.getElem?_map, hk]; rfl)⟩
theorem fits_at {ps : List Pt} (h : grCheck ps = 0) {i : Nat} {p : Pt} (hp : ps[i]? = some p) : p.name.size ≤ 32 ∧ p.cmd.size ≤ 256 ∧ p.needs.length ≤ 16 := by
  have h1 := (check_fits h).1
  unfold grFits at h1
  rw [Bool.and_eq_true, List.all_eq_true] at h1
  have h2 := h1.2 p (List.mem_of_getElem? hp)
  unfold ptFits at h2
  simp only [Bool.and_eq_true, decide_eq_true_eq] at h2
  exact ⟨h2.1.1, h2.1.2, h2.2⟩
theorem need_32 {ps : List Pt} (h : grCheck ps = 0) {i : Nat} {p : Pt} (hp : ps[i]? = some p) {s : ByteArray} (hs : s ∈ p.needs) : s.size ≤ 32 := by
  have h3 := (check_fits h).2.2.1
  unfold grClosed at h3
  rw [List.all_eq_true] at h3
  have h4 := h3 p (List.mem_of_getElem? hp)
  rw [decide_eq_true_eq] at h4
  unfold needsOf at h4
  have h5 : ∃ k, findIx ps s = some k := by
    refine Classical.byContradiction fun hn => ?_
    have hnone : findIx ps s = none := by
      cases hf : findIx ps s with
      | none => rfl
      | some k => exact absurd ⟨k, hf⟩ hn
    have hlt : (p.needs.filterMap (findIx ps)).length < p.needs.length := by
      have hle : ∀ l : List ByteArray, (l.filterMap (findIx ps)).length ≤ l.length := fun l => List.length_filterMap_le _ _
      obtain ⟨a, b, hab⟩ := List.append_of_mem hs
      rw [hab, List.filterMap_append, List.filterMap_cons, hnone, List.length_append, List.length_append, List.length_cons]
      have := hle a
      have := hle b
      simp only
      omega
    omega
  obtain ⟨k, hk⟩ := h5
  obtain ⟨q, hq, hn⟩ := findIx_name hk
  rw [← hn]
  exact (fits_at h hq).1
theorem add_any (a b : ByteArray) (h : a.size + b.size ≤ 9223372036854775807) (w : World) : (Op.stringOp .add a b).run Try.prog w = .ok (.string (a ++ b)) w := run_string_add_sum w a b h

set_option maxRecDepth 100000 in
set_option maxHeartbeats 4000000 in
theorem names_no (w : World) (A : Option Addr) (c : Nat) (ts : List Tg) (h : Tgs w (fun _ => True) (.slice A ts.length c) ts) (more : ByteArray) (hq : grCheck (ts.map Tg.plain) ≠ 0) :
    Calls Try.prog 5 #[.agg #[.slice A ts.length c], .string more] w fun e w' => e = .returned (.bool true) ∧ Keep noneOf w w' := by
  have HH := Lib.hid h
  have ka := (Keep.refl noneOf w).alloc (.cells #[.slice A ts.length c] 24)
  have HK0 := Lib.hid ka
  have HX0 := Lib.hid (Box.new w 24 #[.slice A ts.length c])
  have CK := Lib.hid (refCheck_any _ _ _ ts (h.keep ka (fun _ _ _ => id)))
  have e0 : grKeys (ts.map Tg.plain) = [] := by
    have := grKeys_length (ts.map Tg.plain)
    rw [order_none hq] at this
    exact List.eq_nil_of_length_eq_zero this
  have KE : Hid (∀ w', Keep noneOf w w' → Calls Try.prog 13 #[.agg #[.slice A ts.length c]] w' (ToldKeys [] w')) := Lib.hid fun w' k => by
    have := keys_any w' _ _ ts (HH.out.keep k (fun _ _ _ => id))
    rwa [e0] at this
  generalize grCheck (ts.map Tg.plain) = q at *
  have g : (q != 0) = true := by rw [bne_iff_ne]; exact hq
  have g' : (q == 0) = false := by rw [beq_eq_false_iff_ne]; exact hq
  clear e0 hq ka h
  go_enter Try.func5, Try.ntmps5
  go_wp2_with fail
  refine CK.out.mono ?_
  rintro e w1 ⟨rfl, k1⟩
  have HK1 := Lib.hid (HK0.out.trans k1 (fun _ _ h => h))
  have HX1 := Lib.hid (HX0.out.keep k1 id)
  clear CK HK0 HX0 k1
  go_wp2_with fail
  refine (alive_any w1).mono ?_
  rintro e w2 ⟨rfl, k2⟩
  have K2 := HK1.out.trans k2 (fun _ _ h => h)
  have X2 := HX1.out.keep k2 id
  have x2 : w2.cell? ⟨w.heap.size, 0, none⟩ = some (.slice A ts.length c) := X2.cell 0
  have KE2 := Lib.hid (KE.out _ K2)
  have HK2 := Lib.hid K2
  clear HK1 HX1 k2 K2 X2 KE
  go_wp2_with fail
  refine KE2.out.mono ?_
  rintro e w3 ⟨A3, c3, rfl, o3, k3⟩
  have HK3 := Lib.hid (HK2.out.trans k3 (fun _ _ h => h))
  simp only [List.length_nil]
  clear KE2 HK2 k3 o3 x2
  go_wp2
  go_ret
  exact ⟨rfl, HK3.out⟩

set_option maxRecDepth 100000 in
set_option maxHeartbeats 8000000 in
theorem names_yes (w : World) (A : Option Addr) (c : Nat) (ts : List Tg) (h : Tgs w (fun _ => True) (.slice A ts.length c) ts) (more : ByteArray) (hms : more.size ≤ reachBytes) (hq : grCheck (ts.map Tg.plain) = 0) :
    Calls Try.prog 5 #[.agg #[.slice A ts.length c], .string more] w fun e w' => e = .returned (.bool true) ∧ Keep noneOf w w' := by
  have HH := Lib.hid h
  have hRB : reachBytes = 140737488351232 := rfl
  rw [hRB] at hms
  have HQ := Lib.hid hq
  have hn32 : ts.length ≤ 32 := (fits_few (check_fits hq).1).1
  obtain ⟨A', c', hv, hlc, hcm, hn, hxl, hc⟩ := h.1
  obtain ⟨rfl, rfl⟩ : A = A' ∧ c = c' := by simpa using hv
  unfold maxLen at hcm
  have HC := Lib.hid hc
  have HT := Lib.hid h.2
  have HFT : Hid (∀ (i : Nat) (t : Tg), ts[i]? = some t → t.name.size ≤ 32 ∧ t.cmd.size ≤ 256 ∧ t.needs.length ≤ 16 ∧ ∀ s ∈ t.needs, s.size ≤ 32) := Lib.hid fun i t ht => by
    obtain ⟨h1, h2, h3⟩ := fits_at hq (plain_at ht)
    exact ⟨h1, h2, h3, fun s hs => need_32 hq (plain_at ht) hs⟩
  obtain ⟨i9, hi9, hz9, hs9, hb9⟩ := info_parts strinfo
  obtain ⟨i39, hi39, hz39, hs39, hb39⟩ := info_parts tginfo
  have ka := (Keep.refl noneOf w).alloc (.cells #[.slice A ts.length c] 24)
  have HK0 := Lib.hid ka
  have HX0 := Lib.hid (Box.new w 24 #[.slice A ts.length c])
  have CK0 := refCheck_any _ _ _ ts (h.keep ka (fun _ _ _ => id))
  rw [hq] at CK0
  have CK := Lib.hid CK0
  clear h hRB hv hxl hc hn ka CK0 hq
  go_enter Try.func5, Try.ntmps5
  go_wp2_with fail
  refine CK.out.mono ?_
  rintro e w1 ⟨rfl, k1⟩
  have K1 := HK0.out.trans k1 (fun _ _ h => h)
  have X1 := HX0.out.keep k1 id
  have hz1 := X1.lt
  have X2 := X1.alloc (.cells #[.slice none 0 0] 24)
  have x2 : (w1.alloc (.cells #[.slice none 0 0] 24)).cell? ⟨w.heap.size, 0, none⟩ = some (.slice A ts.length c) := X2.cell 0
  have HK2 := Lib.hid (K1.alloc (.cells #[.slice none 0 0] 24))
  have HX2 := Lib.hid X2
  have HY2 := Lib.hid (Box.new w1 24 #[.slice none 0 0])
  have hs2 : (w1.alloc (.cells #[.slice none 0 0] 24)).heap.size = w1.heap.size + 1 := by simp
  have HS2 := Lib.hid hs2
  clear CK HK0 HX0 k1 K1 X1 X2 hs2
  go_wp2
  generalize w1.alloc (.cells #[.slice none 0 0] 24) = w2 at *
  clear x2
  generalize w1.heap.size = J at *
  go_loopw [6] (fun i wr => ∃ (m : Nat) (hv : Value) (hts : List Tg), m ≤ ts.length ∧ i = .int .i64 ((m : Int) - 1) ∧ Keep noneOf w wr ∧ Box wr w.heap.size 24 #[.slice A ts.length c] ∧ Box wr J 24 #[hv] ∧ wr.ownsRow (J + 1) 44 3 hv hts.length (hts.flatMap Tg.cells) ∧ (∀ t ∈ hts, heldT (J + 1) wr t) ∧ hts.length + m = ts.length ∧ hts.map Tg.plain = ((ts.drop m).map Tg.plain).reverse.map (moreP more)) (fun i _ => (intOf i + 1).toNat)
  case atStart => exact ⟨ts.length, .slice none 0 0, [], Nat.le_refl _, rfl, HK2.out, HX2.out, HY2.out, World.ownsRow_nil _ _ _ _, by simp, by simp, by simp⟩
  case round =>
    obtain ⟨m, hv, hts, hm, rfl, hkeep, hX, hY, hown, hheld, hlen, hpl⟩ := hrel
    have x0 : wr.cell? ⟨w.heap.size, 0, none⟩ = some (.slice A ts.length c) := hX.cell 0
    obtain ⟨Ah, ch, rfl⟩ := own_shape hown
    have y0 : wr.cell? ⟨J, 0, none⟩ = some (.slice Ah hts.length ch) := hY.cell 0
    have hz := hY.lt
    have HKP := Lib.hid hkeep
    have HX := Lib.hid hX
    have HY := Lib.hid hY
    have HOWN := Lib.hid hown
    have HHELD := Lib.hid hheld
    have HPL := Lib.hid hpl
    clear hX hY hown hheld hpl HK2 HX2 HY2
    cases m with
    | zero =>
      rw [show (((0 : Nat) : Int) - 1) = (-1 : Int) from rfl]
      have TH := Tgs.of_held HOWN.out HHELD.out
      have hpe : hts.map Tg.plain = movedPs more (ts.map Tg.plain) := by have := HPL.out; rwa [List.drop_zero] at this
      have CK := refCheck_any wr _ _ hts TH
      rw [hpe] at CK
      have HCK := Lib.hid CK
      have HTH := Lib.hid TH
      have HPE := Lib.hid hpe
      clear CK TH hpe HPL HHELD HOWN x0 hkeep
      by_cases hmc : grCheck (movedPs more (ts.map Tg.plain)) = 0
      · have KG : Hid (∀ w', Keep noneOf wr w' → Calls Try.prog 13 #[.agg #[.slice A ts.length c]] w' (ToldKeys (grKeys (ts.map Tg.plain)) w')) := Lib.hid fun w' k => keys_any w' _ _ ts (HH.out.keep (HKP.out.trans k (fun _ _ h => h)) (fun _ _ _ => id))
        have KH : Hid (∀ w', Keep noneOf wr w' → Calls Try.prog 13 #[.agg #[.slice Ah hts.length ch]] w' (ToldKeys (grKeys (movedPs more (ts.map Tg.plain))) w')) := Lib.hid fun w' k => by
          have := keys_any w' _ _ hts (HTH.out.keep k (fun _ _ _ => id))
          rwa [HPE.out] at this
        have hla : (grKeys (ts.map Tg.plain)).length = ts.length := by rw [grKeys_length, order_len HQ.out, List.length_map]
        have hlb : (grKeys (movedPs more (ts.map Tg.plain))).length = ts.length := by rw [grKeys_length, order_len hmc, moved_length, List.length_map]
        have HMV : Hid (∀ i, i < ts.length → (grKeys (movedPs more (ts.map Tg.plain)))[ts.length - 1 - i]? = (grKeys (ts.map Tg.plain))[i]?) := Lib.hid fun i hi => by
          have := moved_keys HQ.out more hmc i (by rw [List.length_map]; exact hi)
          rwa [List.length_map] at this
        rw [hmc] at HCK
        clear hmc HPE
        generalize grKeys (ts.map Tg.plain) = ksa at *
        generalize grKeys (movedPs more (ts.map Tg.plain)) = ksb at *
        have HLA := Lib.hid hla
        have HLB := Lib.hid hlb
        clear hla hlb
        go_wp2_with fail
        refine HCK.out.mono ?_
        rintro e w3 ⟨rfl, k3⟩
        have HK3 := Lib.hid k3
        have x3 : w3.cell? ⟨w.heap.size, 0, none⟩ = some (.slice A ts.length c) := (HX.out.keep k3 id).cell 0
        have KG3 := Lib.hid (KG.out _ k3)
        clear HCK k3 KG y0
        go_wp2_with fail
        refine KG3.out.mono ?_
        rintro e w4 ⟨A4, c4, rfl, o4, k4⟩
        rw [HLA.out]
        have K4 := HK3.out.trans k4 (fun _ _ h => h)
        have HK4 := Lib.hid K4
        have HO4 := Lib.hid o4
        have y4 : w4.cell? ⟨J, 0, none⟩ = some (.slice Ah hts.length ch) := (HY.out.keep K4 id).cell 0
        have KH4 := Lib.hid (KH.out _ K4)
        clear KG3 HK3 k4 o4 K4 x3 KH
        go_wp2_with fail
        refine KH4.out.mono ?_
        rintro e w5 ⟨A5, c5, rfl, o5, k5⟩
        rw [HLB.out]
        have HK5 := Lib.hid (HK4.out.trans k5 (fun _ _ h => h))
        have HO5 := Lib.hid (HO4.out.keep k5 (fun _ _ _ => id))
        have HP5 := Lib.hid o5
        clear KH4 HK4 HO4 k5 o5 y4
        go_wp2_with fail
        refine (alive_any w5).mono ?_
        rintro e w6 ⟨rfl, k6⟩
        have HK6 := Lib.hid (HK5.out.trans k6 (fun _ _ h => h))
        have HO6 := Lib.hid (HO5.out.keep k6 (fun _ _ _ => id))
        have HP6 := Lib.hid (HP5.out.keep k6 (fun _ _ _ => id))
        have g0 : ((ts.length : Int) != (ts.length : Int)) = false := by rw [bne_self_eq_false]
        clear HK5 HO5 HP5 k6 HX HY HTH
        go_wp2
        generalize w6 = W6 at *
        go_loopw [91] (fun i wx => ∃ k : Nat, k ≤ ts.length ∧ i = .int .i64 k ∧ Keep noneOf W6 wx) (fun i _ => ts.length - (intOf i).toNat)
        case atStart => exact ⟨0, Nat.zero_le _, rfl, Keep.refl _ _⟩
        case round =>
          obtain ⟨k, hk, rfl, hkw⟩ := hrel
          have HKW := Lib.hid hkw
          by_cases hlt : k < ts.length
          · have ha : k < ksa.length := by rw [HLA.out]; exact hlt
            have e1 := List.getElem?_eq_getElem ha
            have e2 : ksb[ts.length - 1 - k]? = some ksa[k] := by rw [HMV.out k hlt, e1]
            have O7 := HO6.out.keep hkw (fun _ _ _ => id)
            obtain ⟨b1, o1, rfl, _, _, d1⟩ := O7.cell e1
            have P7 := HP6.out.keep hkw (fun _ _ _ => id)
            obtain ⟨b2, o2, rfl, _, _, d2⟩ := P7.cell e2
            generalize ksa[k] = x at *
            have gx : ((x : Int) != (x : Int)) = false := by rw [bne_self_eq_false]
            obtain ⟨r, hr⟩ : ∃ r : Nat, ts.length - 1 - k = r := ⟨_, rfl⟩
            rw [hr] at d2
            have hrl : r < ts.length := by omega
            have s1 : IntKind.i64.wrap ((ts.length : Int) - 1) = (ts.length : Int) - 1 := IntWalk.i64_in _ (by omega)
            have s2 : IntKind.i64.wrap ((ts.length : Int) - 1 - (k : Int)) = (r : Int) := by rw [IntWalk.i64_in _ (by omega)]; omega
            have q1 : (0 : Int) ≤ (k : Int) := by omega
            have q2 : (k : Int) < (ts.length : Int) := by omega
            have q3 : (0 : Int) ≤ (r : Int) := by omega
            have q4 : (r : Int) < (ts.length : Int) := by omega
            clear hr e1 e2 O7 P7 hkw ha
            go_wp2
            go_quiet (fail)
            go_wp2
            go_roundw
            case rel => exact ⟨k + 1, by omega, by go_num, HKW.out.drewN _⟩
            case measure => simp [intOf]; omega
          · have hkn : ¬ ((k : Int) < (ts.length : Int)) := by omega
            have HK9 := Lib.hid ((HKP.out.trans HK6.out (fun _ _ h => h)).trans hkw (fun _ _ h => h))
            clear hlt hkw
            go_wp2
            go_ret
            exact ⟨rfl, HK9.out⟩
      · generalize grCheck (movedPs more (ts.map Tg.plain)) = z at *
        have g : (z != 0) = true := by rw [bne_iff_ne]; exact hmc
        have g' : (z == 0) = false := by rw [beq_eq_false_iff_ne]; exact hmc
        clear hmc HPE HTH
        go_wp2_with fail
        refine HCK.out.mono ?_
        rintro e w3 ⟨rfl, k3⟩
        have HK3 := Lib.hid (HKP.out.trans k3 (fun _ _ h => h))
        clear HCK k3
        go_wp2_with fail
        refine (alive_any w3).mono ?_
        rintro e w4 ⟨rfl, k4⟩
        have HK4 := Lib.hid (HK3.out.trans k4 (fun _ _ h => h))
        clear HK3 k4
        go_wp2
        go_ret
        exact ⟨rfl, HK4.out⟩
    | succ q =>
      rw [show (((q + 1 : Nat) : Int) - 1) = (q : Int) from by omega]
      have hq : q < ts.length := by omega
      obtain ⟨ad, rfl, hsp, hblk, hD, hcell⟩ := HC.out (by omega)
      obtain ⟨b, o, sp⟩ := ad
      simp only at hsp hblk hD hcell
      subst hsp
      have HS := Lib.hid (List.getElem?_eq_getElem hq)
      have hlies := HT.out _ (List.getElem_mem hq)
      obtain ⟨f1, f2, f3, f4⟩ := HFT.out q _ (List.getElem?_eq_getElem hq)
      generalize ts[q] = t at *
      obtain ⟨nm, cm, nv, ss⟩ := t
      obtain ⟨l1, l2, ⟨A2, cp2, hnv, hl2, hm2, _, _, hrow⟩, hstr⟩ := hlies
      simp only at hnv l1 l2 hl2 hrow hstr f1 f2 f3 f4
      subst hnv
      unfold maxLen at hm2
      have HROW := Lib.hid hrow
      have HF4 := Lib.hid f4
      have hadd := add_any nm more (by omega)
      have MK : Hid (∀ w', Keep noneOf wr w' → w'.cell? ⟨w.heap.size, 0, none⟩ = some (.slice (some ⟨b, o, none⟩) ts.length c) ∧ w'.cell? ⟨b, o + q * 3, none⟩ = some (.string nm) ∧ w'.cell? ⟨b, o + q * 3 + 1, none⟩ = some (.string cm)) := Lib.hid fun w' k => by
        obtain ⟨e0, e1, _⟩ := tgs_at (hkeep.trans k (fun _ _ h => h)) hblk hcell HS.out
        exact ⟨(HX.out.keep k id).cell 0, e0, e1⟩
      have K00 := Keep.refl noneOf wr
      have g1 : (0 : Int) ≤ (q : Int) := by omega
      have g2 : (q : Int) < (ts.length : Int) := by omega
      clear hrow hstr f4 l1 l2
      generalize hnm : nm ++ more = nm2 at *
      go_wp2
      go_region_held3 (fun w' => Keep noneOf wr w' ∧ w'.cell? ⟨w.heap.size, 0, none⟩ = some (.slice (some ⟨b, o, none⟩) ts.length c) ∧ w'.cell? ⟨b, o + q * 3, none⟩ = some (.string nm) ∧ w'.cell? ⟨b, o + q * 3 + 1, none⟩ = some (.string cm))
        (first | exact ⟨K00.drew, MK.out _ K00.drew⟩ | exact ⟨(K00.alloc _).drew, MK.out _ (K00.alloc _).drew⟩ | (refine (fun k => ⟨k, MK.out _ k⟩) ?_; first | (with_reducible exact Keep.alloc (And.left (by assumption)) _)))
        (first | fail)
      have k1 := (K00.alloc (.cells #[.string nm2, .string cm, .slice none 0 0] 44)).drew
      have T1 := (Box.new wr 44 #[.string nm2, .string cm, .slice none 0 0]).drew
      have hsz1 : wr.heap.size < ((wr.alloc (.cells #[.string nm2, .string cm, .slice none 0 0] 44)).drew).heap.size := T1.lt
      have x1 := (HX.out.keep k1 id).cell 0
      obtain ⟨_, _, c2⟩ := tgs_at (hkeep.trans k1 (fun _ _ h => h)) hblk hcell HS.out
      generalize (wr.alloc (.cells #[.string nm2, .string cm, .slice none 0 0] 44)).drew = W1 at *
      simp only [List.getElem?_toArray, List.getElem?_cons_zero] at x1 c2
      have HK1 := Lib.hid k1
      have HT1 := Lib.hid T1
      clear k1 T1 MK hcell K00 x0 y0 hkeep
      go_wp2
      clear x1 c2
      generalize htb : wr.heap.size = tb at *
      have HTB := Lib.hid htb
      clear htb
      generalize wr = W0 at *
      go_loopw [53] (fun i wx => ∃ (j : Nat) (nvv : Value), j ≤ ss.length ∧ i = .int .i64 j ∧ Keep noneOf W0 wx ∧ Box wx tb 44 #[.string nm2, .string cm, nvv] ∧ wx.ownsRow (tb + 1) 9 1 nvv ((ss.take j).map (· ++ more)).length (((ss.take j).map (· ++ more)).map Value.string)) (fun i _ => ss.length - (intOf i).toNat)
      case atStart => exact ⟨0, _, Nat.zero_le _, rfl, HK1.out, HT1.out, World.ownsRow_nil _ _ _ _⟩
      case round =>
        obtain ⟨j, nvv, hj, rfl, hka, hT2, hrow⟩ := hrel
        have HKW := Lib.hid hka
        have HT2 := Lib.hid hT2
        have HRW := Lib.hid hrow
        have hln : ((ss.take j).map (· ++ more)).length ≤ 16 := by rw [List.length_map, List.length_take]; omega
        obtain ⟨An, cn, hvn⟩ := own_shape hrow
        subst hvn
        have t2 : wr.cell? ⟨tb, 2, none⟩ = some (.slice An ((ss.take j).map (· ++ more)).length cn) := hT2.cell 2
        have hzz := hT2.lt
        clear hrow
        by_cases hjl : j < ss.length
        · obtain ⟨ad2, rfl, hsp2, hblk2, _, hcell2⟩ := HROW.out (by omega)
          obtain ⟨bb, oo, sp2⟩ := ad2
          simp only at hsp2 hblk2 hcell2
          subst hsp2
          have hck : wr.cell? ⟨bb, oo + j, none⟩ = some (.string ss[j]) := ((HKP.out.trans hka (fun _ _ h => h)).cell (p := ⟨bb, oo + j, none⟩) hblk2 id).trans (hcell2 j _ (by rw [List.getElem?_map, List.getElem?_eq_getElem hjl]; rfl))
          have hs32 := HF4.out ss[j] (List.getElem_mem hjl)
          have HTK := Lib.hid (show (ss.take (j + 1)).map (· ++ more) = (ss.take j).map (· ++ more) ++ [ss[j] ++ more] by rw [List.take_succ_eq_append_getElem hjl, List.map_append]; rfl)
          generalize ss[j] = sx at *
          have hadd2 := add_any sx more (by omega)
          generalize sx ++ more = sy at *
          generalize (ss.take j).map (· ++ more) = ls at *
          have HAB : Hid (∀ w4, (wr.alloc (.cells #[.string sy] 9)).grownBy w4 (Value.slice An ls.length cn).ownBlock → Box w4 tb 44 #[.string nm2, .string cm, .slice An ls.length cn]) := Lib.hid fun w4 hg => (HT2.out.alloc _).keep (Keep.of_grown hg) (fun hs => absurd (HRW.out.lt _ hs.symm).1 (by omega))
          clear hcell2 hka hT2
          go_wp2_with (at_builtin; refine wpList_append_own _ rfl _ _ 42 rfl (tb + 1) 9 i9 _ 1 16 Try.underlying42 hi9 hz9 hs9 hb9 rfl (by decide) _ _ _ rfl (HRW.out.alloc _) ⟨wr.heap.size, 0, none⟩ 1 1 [.string sy] rfl rfl (cell_one_new _ _ _) (by simp [Value.oneCell']) (by unfold maxLen; omega) (by omega) (by simp; omega) ?_; intro v' w4 hown' hgrow _; have T4 := HAB.out w4 hgrow; obtain ⟨A4, c4, hv4⟩ := own_shape hown'; subst hv4; have t4 : w4.cell? ⟨tb, 2, none⟩ = some (.slice An ls.length cn) := T4.cell 2; have f4 := T4.free 2)
          have kg := Keep.of_grown hgrow
          have ka2 := (Keep.refl noneOf wr).alloc (.cells #[.string sy] 9)
          have hno : ∀ j, some j = (Value.slice An ls.length cn).ownBlock → tb + 1 ≤ j := fun j hj => (HRW.out.lt j hj.symm).1
          have ks := (Keep.refl (fun k => k = tb) w4).setCell (p := ⟨tb, 2, none⟩) (fun _ => rfl) (.slice A4 (ls.length + 1) c4)
          go_roundw
          case rel =>
            refine ⟨j + 1, .slice A4 (ls.length + 1) c4, by omega, by go_num, ?_, T4.put 2 _, ?_⟩
            · exact (((HKW.out.trans ka2 (fun _ _ h => h)).trans kg (fun j hj hs => absurd (hno j hs) (by have := HTB.out; omega))).trans ks (fun j hj hs => by have := HTB.out; omega))
            · rw [HTK.out, List.length_append, List.map_append]
              exact own_keep hown' ks (fun j hj e => by have := (hown'.lt j hj).1; omega)
          case measure => simp [intOf]; omega
        · have e1 : (ss.take j).map (· ++ more) = ss.map (· ++ more) := by rw [List.take_of_length_le (by omega)]
          rw [e1] at HRW HT2 t2
          have hjn : ¬ ((j : Int) < (ss.length : Int)) := by omega
          have hl16 : (ss.map (· ++ more)).length ≤ 16 := by rw [List.length_map]; exact f3
          have hszs : ∀ s ∈ ss.map (· ++ more), s.size ≤ maxLen := fun s hs => by
            obtain ⟨s0, hs0, rfl⟩ := List.mem_map.1 hs
            have := HF4.out s0 hs0
            rw [ByteArray.size_append]
            unfold maxLen
            omega
          have hnsz : nm2.size ≤ maxLen := by
            rw [← hnm, ByteArray.size_append]
            unfold maxLen
            omega
          have hcsz : cm.size ≤ maxLen := by unfold maxLen; omega
          have HSZS := Lib.hid hszs
          have HNSZ := Lib.hid hnsz
          have HCSZ := Lib.hid hcsz
          have HPT := Lib.hid (show (⟨nm2, cm, ss.map (· ++ more)⟩ : Pt) = moreP more (Tg.plain ⟨nm, cm, .slice A2 ss.length cp2, ss⟩) by rw [← hnm]; rfl)
          generalize ss.map (· ++ more) = ls at *
          have Y1 := HY.out.keep hka id
          have y1 : wr.cell? ⟨J, 0, none⟩ = some (.slice Ah hts.length ch) := Y1.cell 0
          have t0 : wr.cell? ⟨tb, 0, none⟩ = some (.string nm2) := HT2.out.cell 0
          have t1 : wr.cell? ⟨tb, 1, none⟩ = some (.string cm) := HT2.out.cell 1
          have O1 := own_keep HOWN.out hka (fun _ _ h => h)
          have HO1 := Lib.hid O1
          have HY1 := Lib.hid Y1
          have hw1 := HKW.out.size
          have hJtb : J < tb := by have := HTB.out; omega
          have ka2 := (Keep.refl noneOf wr).alloc (.cells #[.string nm2, .string cm, .slice An ls.length cn] 44)
          have HNO : Hid (∀ j, some j = (Value.slice Ah hts.length ch).ownBlock → J + 1 ≤ j ∧ ∃ cs fz, (wr.alloc (.cells #[.string nm2, .string cm, .slice An ls.length cn] 44)).heap[j]? = some (.cells cs 44 fz)) := Lib.hid fun j hj => own_row (HO1.out.alloc _) hj
          have HAB : Hid (∀ w4, (wr.alloc (.cells #[.string nm2, .string cm, .slice An ls.length cn] 44)).grownBy w4 (Value.slice Ah hts.length ch).ownBlock → Box w4 J 24 #[.slice Ah hts.length ch]) := Lib.hid fun w4 hg => (HY1.out.keep ka2 id).keep (Keep.of_grown hg) (fun hs => absurd (HNO.out _ hs).1 (by omega))
          have HKA2 := Lib.hid ka2
          have hts32 : hts.length ≤ 32 := by omega
          clear O1 Y1 ka2 e1 hszs hnsz hcsz hjl hT2 hnm hadd
          go_wp2_with (at_builtin; refine wpList_append_own _ rfl _ _ 22 rfl (J + 1) 44 i39 _ 3 56 Try.underlying22 hi39 hz39 hs39 hb39 rfl (by decide) _ _ _ rfl (HO1.out.alloc _) ⟨wr.heap.size, 0, none⟩ 1 1 [.string nm2, .string cm, .slice An ls.length cn] rfl rfl (cell_three_new _ _ _ _ _) (by simp [Value.oneCell']) (by unfold maxLen; omega) (by omega) (by simp; omega) ?_; intro v' w4 hown' hgrow _; have Y4 := HAB.out w4 hgrow; obtain ⟨A4, c4, hv4⟩ := own_shape hown'; subst hv4; have y4 : w4.cell? ⟨J, 0, none⟩ = some (.slice Ah hts.length ch) := Y4.cell 0; have f4 := Y4.free 0)
          have HKG := Lib.hid (Keep.of_grown hgrow)
          have HY4 := Lib.hid Y4
          have HO4 := Lib.hid hown'
          go_roundw
          case rel =>
            have ks := (Keep.refl (fun k => k = J) w4).setCell (p := ⟨J, 0, none⟩) (fun _ => rfl) (.slice A4 (hts.length + 1) c4)
            have hwJ : w.heap.size < J := by omega
            have hw0 := HKP.out.size
            have K4 : Keep noneOf w w4 := (((HKP.out.trans HKW.out (fun _ _ h => h)).trans HKA2.out (fun _ _ h => h)).trans HKG.out (fun j hj hs => absurd (HNO.out j hs).1 (by omega)))
            have hg39 : ∀ (t : Tg), heldT (J + 1) wr t → heldT (J + 1) (w4.setCell ⟨J, 0, none⟩ (.slice A4 (hts.length + 1) c4)) t := fun t ht =>
              ((ht.keep HKA2.out (fun _ _ h => h.elim)).keep HKG.out (fun i _ hs => by obtain ⟨_, cs, fz, h⟩ := HNO.out i hs; exact ⟨cs, fz, .inl h⟩)).keep ks (fun i _ hs => by subst hs; exact ⟨_, _, .inr HY4.out⟩)
            refine ⟨q, .slice A4 (hts.length + 1) c4, hts ++ [⟨nm2, cm, .slice An ls.length cn, ls⟩], by omega, by go_num, K4.trans ks (fun j hj hs => by omega), ?_, ?_, ?_, ?_, ?_, ?_⟩
            · exact (((HX.out.keep HKW.out id).keep HKA2.out id).keep HKG.out (fun hs => absurd (HNO.out _ hs).1 (by omega))).keep ks (by omega)
            · exact HY4.out.put 0 _
            · rw [List.length_append, List.flatMap_append]
              exact own_keep HO4.out ks (fun j hj e => by have := (HO4.out.lt j hj).1; omega)
            · intro t ht
              rcases List.mem_append.1 ht with ht | ht
              · exact hg39 t ((HHELD.out t ht).keep HKW.out (fun _ _ h => h.elim))
              · simp only [List.mem_singleton] at ht
                subst ht
                exact hg39 _ ⟨HNSZ.out, HCSZ.out, own_base HRW.out (by omega), HSZS.out⟩
            · simp
              omega
            · obtain ⟨hq1, hq2⟩ := List.getElem?_eq_some_iff.1 HS.out
              rw [List.map_append, HPL.out, List.drop_eq_getElem_cons hq1, hq2]
              simp only [List.map_cons, List.reverse_cons, List.map_append, List.map_nil]
              congr 1
              rw [← HPT.out]
              rfl
          case measure => simp [intOf]

theorem names_walk (w : World) (A : Option Addr) (c : Nat) (ts : List Tg) (h : Tgs w (fun _ => True) (.slice A ts.length c) ts) (more : ByteArray) (hms : more.size ≤ reachBytes) :
    Calls Try.prog 5 #[.agg #[.slice A ts.length c], .string more] w fun e w' => e = .returned (.bool true) ∧ Keep noneOf w w' := by
  by_cases hq : grCheck (ts.map Tg.plain) = 0
  · exact names_yes w A c ts h more hms hq
  · exact names_no w A c ts h more hq

namespace StaleNames
set_option maxRecDepth 100000 in
theorem lifted (os : Os) (started : os.Started) (H : Type) (enc : TypeId × Value → H) :
    ReturnsInHanded {} Try.checked os 5 .any (Rows.staleNamesSpec.pre6 enc Try.prog Try.f5 Rows.staleNamesRow.domain false) (Rows.staleNamesSpec.post enc Try.prog Try.f5 false true false false) := by
  refine returnsInHanded_of_change_sized (C := Try.checked) own started (by kernel_rfl) Try.func5
    (ChangeSpec.witness6 (enc := enc) (C := Try.checked) false ⟨#[], #[.agg #[.slice none 0 0], .string ⟨#[]⟩], []⟩ 8 (by kernel_rfl) (by kernel_rfl) (by kernel_rfl) (by kernel_rfl)) ?_
  intro W base args ds gs before hval0 hW hcnd hsz _
  have hval : ∀ (j : Nat) t v, Try.f5.params[j]? = some t → args[j]? = some v → Value.okWide Try.prog W .any base t v := hval0
  have hW' := hW
  obtain ⟨p, q, hA0, hV, rfl, hfz, hnd⟩ := hW
  have hA : DataW.TrodAll enc Try.prog W 0 (fun _ => true) true Try.f5.params.toList args.toList ds p := hA0
  rw [Try.params5] at hA hval
  obtain ⟨v0, vs0, d0, ds0, p0, q0, hargs, rfl, rfl, h0, r0⟩ := trodAll_cons hA
  obtain ⟨v1, vs1, d1, ds1, p1, q1, rfl, rfl, rfl, h1, r1⟩ := trodAll_cons r0
  obtain ⟨rfl, rfl, rfl⟩ := trodAll_nil r1
  obtain rfl : args = #[v0, v1] := by cases args; simp_all
  obtain ⟨rfl, rfl⟩ := trodVars_none hV
  have k0 := h0
  have lt0 : ∀ x ∈ p0, x.block < W.heap.size := by obtain ⟨m, hm⟩ := k0; exact DataW.trod_lt m _ _ _ hm
  have k1 := h1
  have lt1 : ∀ x ∈ p1, x.block < W.heap.size := by obtain ⟨m, hm⟩ := k1; exact DataW.trod_lt m _ _ _ hm
  obtain ⟨A0, c0, ts0, rfl, hts0, h560, h160⟩ := open_graph (hval 0 24 v0 rfl rfl) h0 (light_arg hsz (j := 0) rfl rfl)
  obtain ⟨s1, rfl, rfl, rfl, hmax1⟩ := Go.ChangeMaps.open_string Try.underlying9 (hval 1 9 v1 rfl rfl) h1
  have hss1 : s1.size ≤ reachBytes := by have := sized_string hsz (j := 1) rfl rfl; simpa using this
  clear hA0 hval0
  refine (names_walk W A0 c0 ts0 hts0 s1 hss1).mono fun e W' ⟨he, bel0⟩ => ?_
  subst he
  have bel := bel0.all
  exact ⟨_, rfl, _, _, _, [], _, [], hW', trodAll_mk1 (shut_bool Try.underlying4 _), (trodAll_cons_mk (Below.trod laidOut (by kernel_rfl) (of_decide_eq_true (by kernel_rfl)) k0 bel lt0) (trodAll_cons_mk (Below.trod laidOut (by kernel_rfl) (of_decide_eq_true (by kernel_rfl)) k1 bel lt1) trodAll_mk0)), rfl, bel.frame _, fun h => by cases h⟩

theorem over : Rows.staleNamesRow.holds Try.pinned (OpenSpec.ofChange Rows.staleNamesSpec) :=
  OpenClaim.holds_of_wide 5 Try.f5 rfl rfl rfl rfl rfl rfl rfl ⟨rfl, rfl, rfl, rfl, rfl⟩ rfl rfl rfl rfl rfl (by kernel_rfl) Try.func5 (by kernel_rfl)
    (of_decide_eq_true (by kernel_rfl)) (by unfold Func.isWrapper; first | (rw [if_pos (by decide +kernel)]; kernel_rfl) | (rw [if_neg (by decide +kernel)]; exact ⟨rfl, rfl⟩))
    (fun os started H enc _ => lifted os started H enc)

theorem proved : Rows.StaleNamesSaid := over
end StaleNames
end Go.Proofs.Ytndojciealkhmaa
