/-
  Proved: dockyardlaw08.StaleDeep answers true for every input that can be read, and leaves its arguments as they were. No conditions.
-/
import Derived.Test.YtndojciealkhmaaStAlive
import Derived.Test.YtndojciealkhmaaStReach
import Derived.Test.YtndojciealkhmaaStOpen
import Derived.Test.YtndojciealkhmaaTgOwn
import Derived.Laws.Concat
import Derived.ChangeMaps5
import Derived.StillTailTactics
namespace Go.Proofs.Ytndojciealkhmaa
open Go.ChangeShapes Go.WideShapes Go.ChangeAt Go.RowKit

theorem Kys.cell {w : World} {D : Nat → Prop} {A : Option Addr} {c : Nat} {ks : List Nat} (h : Kys w D (.slice A ks.length c) ks) {k n : Nat} (hk : ks[k]? = some n) :
    ∃ b o, A = some ⟨b, o, none⟩ ∧ b < w.heap.size ∧ D b ∧ w.cell? ⟨b, o + k, none⟩ = some (.int .u64 (n : Int)) := by
  obtain ⟨⟨A', c', hv', _, _, _, _, hrow⟩, _⟩ := h
  obtain ⟨rfl, rfl⟩ : A = A' ∧ c = c' := by simpa using hv'
  have hlt := (List.getElem?_eq_some_iff.1 hk).1
  obtain ⟨ad, rfl, hsp, hblk, hD, hcell⟩ := hrow (by omega)
  obtain ⟨b, o, sp⟩ := ad
  simp only at hsp hblk hD hcell
  subst hsp
  exact ⟨b, o, rfl, hblk, hD, hcell k _ (by rw [List.getElem?_map, hk]; rfl)⟩
theorem fits_at {ps : List Pt} (h : grCheck ps = 0) {i : Nat} {p : Pt} (hp : ps[i]? = some p) : p.name.size ≤ 32 ∧ p.cmd.size ≤ 256 ∧ p.needs.length ≤ 16 := by
  have h1 := (check_fits h).1
  unfold grFits at h1
  rw [Bool.and_eq_true, List.all_eq_true] at h1
  have h2 := h1.2 p (List.mem_of_getElem? hp)
  unfold ptFits at h2
  simp only [Bool.and_eq_true, decide_eq_true_eq] at h2
  exact ⟨h2.1.1, h2.1.2, h2.2⟩
theorem empty_is (s : ByteArray) : s.toList.isEmpty = decide (s = ⟨#[]⟩) := by
  rw [← str_beq]
  have e : (⟨#[]⟩ : ByteArray).toList = [] := by rw [ByteArray.toList_eq]
  rw [e]
  cases s.toList <;> rfl
theorem add_any (a b : ByteArray) (h : a.size + b.size ≤ 9223372036854775807) (w : World) : (Op.stringOp .add a b).run Try.prog w = .ok (.string (a ++ b)) w := run_string_add_sum w a b h

set_option maxRecDepth 100000 in
set_option maxHeartbeats 4000000 in
theorem deep_no (w : World) (A : Option Addr) (c : Nat) (ts : List Tg) (h : Tgs w (fun _ => True) (.slice A ts.length c) ts) (place : Int) (more : ByteArray)
    (hq : grCheck (ts.map Tg.plain) ≠ 0 ∨ place < 0 ∨ (ts.length : Int) ≤ place ∨ 12 < ts.length) :
    Calls Try.prog 8 #[.agg #[.slice A ts.length c], .int .i64 place, .string more] w fun e w' => e = .returned (.bool true) ∧ Keep noneOf w w' := by
  have HH := Lib.hid h
  have ka := (Keep.refl noneOf w).alloc (.cells #[.slice A ts.length c] 24)
  have HK0 := Lib.hid ka
  have HX0 := Lib.hid (Box.new w 24 #[.slice A ts.length c])
  have CK := Lib.hid (refCheck_any _ _ _ ts (h.keep ka (fun _ _ _ => id)))
  obtain ⟨_, _, _, hlc, hcm, _⟩ := h.1
  unfold maxLen at hcm
  generalize grCheck (ts.map Tg.plain) = q at *
  clear ka h
  go_enter Try.func8, Try.ntmps8
  go_wp2_with fail
  refine CK.out.mono ?_
  rintro e w1 ⟨rfl, k1⟩
  have K1 := HK0.out.trans k1 (fun _ _ h => h)
  have X1 := HX0.out.keep k1 id
  have x1 : w1.cell? ⟨w.heap.size, 0, none⟩ = some (.slice A ts.length c) := X1.cell 0
  have HK1 := Lib.hid K1
  clear CK HK0 HX0 k1 K1 X1
  by_cases h1 : q = 0
  · subst h1
    by_cases h2 : place < 0
    · clear hq
      go_wp2_with fail
      refine (alive_any w1).mono ?_
      rintro e w2 ⟨rfl, k2⟩
      have HK2 := Lib.hid (HK1.out.trans k2 (fun _ _ h => h))
      clear k2 HK1
      go_wp2
      go_ret
      exact ⟨rfl, HK2.out⟩
    · by_cases h3 : (ts.length : Int) ≤ place
      · have h2' : ¬ place < 0 := h2
        have h2'' : 0 ≤ place := by omega
        clear hq h2
        go_wp2_with fail
        refine (alive_any w1).mono ?_
        rintro e w2 ⟨rfl, k2⟩
        have HK2 := Lib.hid (HK1.out.trans k2 (fun _ _ h => h))
        clear k2 HK1
        go_wp2
        go_ret
        exact ⟨rfl, HK2.out⟩
      · have h4 : 12 < ts.length := by
          rcases hq with h | h | h | h
          · exact absurd rfl h
          · exact absurd h h2
          · exact absurd h h3
          · exact h
        have h2'' : 0 ≤ place := by omega
        have h3' : place < (ts.length : Int) := by omega
        clear hq h2 h3
        go_wp2_with fail
        refine (alive_any w1).mono ?_
        rintro e w2 ⟨rfl, k2⟩
        have HK2 := Lib.hid (HK1.out.trans k2 (fun _ _ h => h))
        clear k2 HK1
        go_wp2
        go_ret
        exact ⟨rfl, HK2.out⟩
  · have g : (q != 0) = true := by rw [bne_iff_ne]; exact h1
    have g' : (q == 0) = false := by rw [beq_eq_false_iff_ne]; exact h1
    clear h1 hq
    go_wp2_with fail
    refine (alive_any w1).mono ?_
    rintro e w2 ⟨rfl, k2⟩
    have HK2 := Lib.hid (HK1.out.trans k2 (fun _ _ h => h))
    clear k2 HK1
    go_wp2
    go_ret
    exact ⟨rfl, HK2.out⟩

theorem own_put {w : World} {base : Nat} {e : TypeId} {size g n cap : Nat} {xs : List Value} (h : w.ownsRow base e size (.slice (some ⟨g, 0, none⟩) n cap) n xs) (j : Nat) (u : Value) : (w.setCell ⟨g, j, none⟩ u).ownsRow base e size (.slice (some ⟨g, 0, none⟩) n cap) n (xs.set j u) := by
  refine ⟨by rw [List.length_set]; exact h.1, ?_⟩
  rcases h.2 with ⟨h0, _⟩ | ⟨g', cap', cur, hv, hb, hg, hle, hmx, hsz, htk⟩
  · cases h0
  · obtain ⟨rfl, rfl⟩ : g = g' ∧ cap = cap' := by simpa using hv
    have hbx : Box w g e cur := hg
    exact .inr ⟨g, cap, cur.setIfInBounds j u, rfl, hb, hbx.put j u, hle, hmx, by rw [Array.size_setIfInBounds]; exact hsz, by rw [Array.toList_setIfInBounds, List.take_set, htk]⟩
/-- A target with another command. -/
def cmdT (s : ByteArray) (t : Tg) : Tg := ⟨t.name, s, t.nv, t.needs⟩
theorem cells_cmd (ts : List Tg) (p : Nat) (s : ByteArray) (hp : p < ts.length) : (ts.flatMap Tg.cells).set (p * 3 + 1) (.string s) = (ts.modify p (cmdT s)).flatMap Tg.cells := by
  induction ts generalizing p with
  | nil => simp at hp
  | cons t l ih =>
    cases p with
    | zero =>
      simp [List.modify, Tg.cells, cmdT]
    | succ p =>
      rw [List.flatMap_cons, List.modify_succ_cons, List.flatMap_cons, ← ih p (by simpa using hp)]
      rw [List.set_append_right _ _ (by simp [Tg.cells]; omega)]
      congr 2
      simp [Tg.cells]
      omega
theorem plain_cmd (ts : List Tg) (p : Nat) (more : ByteArray) (t : Tg) (ht : ts[p]? = some t) : (ts.modify p (cmdT (t.cmd ++ more))).map Tg.plain = deepPs (ts.map Tg.plain) p more := by
  unfold deepPs
  refine List.ext_getElem? (fun i => ?_)
  rw [List.getElem?_map, List.getElem?_modify, List.getElem?_modify, List.getElem?_map]
  by_cases hi : p = i
  · subst hi
    rw [ht]
    simp [cmdT, Tg.plain, cmdP]
  · cases ts[i]? <;> simp [hi]
theorem lies_cmd {w : World} {D : Nat → Prop} {ts : List Tg} {p : Nat} {s : ByteArray} (hs : s.size ≤ maxLen) (h : ∀ t ∈ ts, t.lies w D) : ∀ t ∈ ts.modify p (cmdT s), t.lies w D := by
  intro t ht
  obtain ⟨i, hi⟩ := List.getElem?_of_mem ht
  rw [List.getElem?_modify] at hi
  cases hx : ts[i]? with
  | none => rw [hx] at hi; cases hi
  | some y =>
    rw [hx] at hi
    have hy := h y (List.mem_of_getElem? hx)
    have hi' : (if p = i then cmdT s y else y) = t := by simpa using hi
    by_cases hpi : p = i
    · rw [if_pos hpi] at hi'
      subst hi'
      exact ⟨hy.1, hs, hy.2.2⟩
    · rw [if_neg hpi] at hi'
      subst hi'
      exact hy

set_option maxRecDepth 100000 in
set_option maxHeartbeats 8000000 in
theorem deep_yes (w : World) (A : Option Addr) (c : Nat) (ts : List Tg) (h : Tgs w (fun _ => True) (.slice A ts.length c) ts) (p : Nat) (more : ByteArray) (hms : more.size ≤ reachBytes)
    (hq : grCheck (ts.map Tg.plain) = 0) (hp : p < ts.length) (h12 : ts.length ≤ 12) :
    Calls Try.prog 8 #[.agg #[.slice A ts.length c], .int .i64 (p : Int), .string more] w fun e w' => e = .returned (.bool true) ∧ Keep noneOf w w' := by
  have HH := Lib.hid h
  have hRB : reachBytes = 140737488351232 := rfl
  rw [hRB] at hms
  have HQ := Lib.hid hq
  obtain ⟨A', c', hv, hlc, hcm, hn, hxl, hc⟩ := h.1
  obtain ⟨rfl, rfl⟩ : A = A' ∧ c = c' := by simpa using hv
  unfold maxLen at hcm
  obtain ⟨ad, rfl, hsp, hblk, _, hcell⟩ := hc (by omega)
  obtain ⟨b, o, sp⟩ := ad
  simp only at hsp hblk hcell
  subst hsp
  have HS := Lib.hid (List.getElem?_eq_getElem hp)
  have hfit := fits_at hq (plain_at (List.getElem?_eq_getElem hp))
  have hone : ∀ u ∈ ts.flatMap Tg.cells, u.oneCell' = true := fun u hu => by
    obtain ⟨t, ht, hu⟩ := List.mem_flatMap.1 hu
    obtain ⟨_, _, ⟨A2, c2, hnv, _⟩, _⟩ := h.2 t ht
    simp only [Tg.cells, List.mem_cons, List.not_mem_nil, or_false] at hu
    rcases hu with rfl | rfl | rfl
    · rfl
    · rfl
    · rw [hnv]; rfl
  have HONE := Lib.hid hone
  obtain ⟨i39, hi39, hz39, hs39, hb39⟩ := info_parts tginfo
  have ka := (Keep.refl noneOf w).alloc (.cells #[.slice (some ⟨b, o, none⟩) ts.length c] 24)
  have HK0 := Lib.hid ka
  have HX0 := Lib.hid (Box.new w 24 #[.slice (some ⟨b, o, none⟩) ts.length c])
  have CK0 := refCheck_any _ _ _ ts (h.keep ka (fun _ _ _ => id))
  rw [hq] at CK0
  have CK := Lib.hid CK0
  have HCELL := Lib.hid hcell
  have hp0 : (0 : Int) ≤ (p : Int) := by omega
  have hp1 : (p : Int) < (ts.length : Int) := by omega
  have h12' : (ts.length : Int) ≤ 12 := by omega
  have d1 : decide ((p : Int) < 0) = false := decide_eq_false (by omega)
  have d2 : decide (ts.length ≤ p) = false := decide_eq_false (by omega)
  have d3 : decide ((12 : Int) < (ts.length : Int)) = false := decide_eq_false (by omega)
  clear h hRB hv hxl hc hn ka CK0 hq hcell hone
  go_enter Try.func8, Try.ntmps8
  go_wp2_with fail
  refine CK.out.mono ?_
  rintro e w1 ⟨rfl, k1⟩
  have K1 := HK0.out.trans k1 (fun _ _ h => h)
  have X1 := HX0.out.keep k1 id
  have x1 : w1.cell? ⟨w.heap.size, 0, none⟩ = some (.slice (some ⟨b, o, none⟩) ts.length c) := X1.cell 0
  have HK1 := Lib.hid K1
  have HX1 := Lib.hid X1
  have X2 := X1.alloc (.cells #[] 44)
  have x2 : (w1.alloc (.cells #[] 44)).cell? ⟨w.heap.size, 0, none⟩ = some (.slice (some ⟨b, o, none⟩) ts.length c) := X2.cell 0
  have k2 := (Keep.refl noneOf w1).alloc (.cells #[] 44)
  have HK2 := Lib.hid (K1.trans k2 (fun _ _ h => h))
  have HX2 := Lib.hid X2
  have hs2 : (w1.alloc (.cells #[] 44)).heap.size = w1.heap.size + 1 := by simp
  have hz1 := X1.lt
  have O2 : (w1.alloc (.cells #[] 44)).ownsRow (w.heap.size + 1) 44 3 (.slice (some ⟨w1.heap.size, 0, none⟩) 0 0) 0 [] := World.ownsRow_lit w1 #[] 0 (by omega) (Nat.zero_le _) rfl
  have HO2 := Lib.hid O2
  have HC2 : Hid (∀ j u, (ts.flatMap Tg.cells)[j]? = some u → (w1.alloc (.cells #[] 44)).cell? ((⟨b, o, none⟩ : Addr).add j) = some u) := Lib.hid fun j u hu => by
    have ha : (⟨b, o, none⟩ : Addr).add j = ⟨b, o + j, none⟩ := by
      unfold Addr.add
      split
      · rename_i h0; subst h0; rfl
      · rfl
    rw [ha, (HK2.out.cell (p := ⟨b, o + j, none⟩) hblk id)]
    exact HCELL.out j u hu
  have hszb : w.heap.size + 1 ≤ (w1.alloc (.cells #[] 44)).heap.size := by rw [hs2]; omega
  have HCL := Lib.hid (cells_length ts)
  clear CK HK0 HX0 k1 K1 X1 X2 k2 HK1 HX1 O2 hs2
  generalize hfc : ts.flatMap Tg.cells = fc at *
  have HFC := Lib.hid hfc
  clear hfc
  go_wp2_with (at_builtin; refine wpList_append_own _ rfl _ _ 22 rfl (w.heap.size + 1) 44 i39 _ 3 56 Try.underlying22 hi39 hz39 hs39 hb39 rfl (by decide) _ 0 [] rfl HO2.out ⟨b, o, none⟩ ts.length c fc rfl HCL.out HC2.out HONE.out (by unfold maxLen; omega) (by omega) hszb ?_; intro v' w3 hown' hgrow _; rw [Nat.zero_add, List.nil_append] at hown'; obtain ⟨g3, c3, hv3, _, hg3⟩ := hown'.form (by omega); subst hv3)
  have kg := Keep.of_grown hgrow
  have K3 : Keep noneOf w w3 := HK2.out.trans kg (fun j hj hs => absurd (HO2.out.lt j hs.symm).1 (by omega))
  have X3 := HX2.out.keep kg (fun hs => absurd (HO2.out.lt _ hs.symm).1 (by omega))
  have ka := (Keep.refl noneOf w3).alloc (.cells #[.slice (some ⟨g3, 0, none⟩) ts.length c3] 24)
  have K4 := K3.trans ka (fun _ _ h => h)
  have X4 := X3.keep ka id
  have H4 := Box.new w3 24 #[.slice (some ⟨g3, 0, none⟩) ts.length c3]
  have O4 := own_keep hown' ka (fun _ _ h => h)
  have hgw : w.heap.size + 1 ≤ g3 := (hown'.lt g3 rfl).1
  have hz3 : w.heap.size < w3.heap.size := X3.lt
  clear HO2 HC2 hgrow kg hown' HX2 HK2 K3 X3 ka hszb x2 x1
  generalize w3.alloc (.cells #[.slice (some ⟨g3, 0, none⟩) ts.length c3] 24) = W4 at *
  generalize w3.heap.size = J at *
  have hne3 : J ≠ g3 := fun e => by subst e; omega
  have h0 : W4.cell? ⟨J, 0, none⟩ = some (.slice (some ⟨g3, 0, none⟩) ts.length c3) := H4.cell 0
  generalize htp : ts[p] = t at *
  have c4 : W4.cell? ⟨g3, p * 3 + 1, none⟩ = some (.string t.cmd) := by
    rw [O4.cellAt (p * 3 + 1) (by omega), ← HFC.out, Nat.mul_comm p 3]
    exact cells_at HS.out 1 (by decide)
  have hcsz : t.cmd.size ≤ 256 := hfit.2.1
  have hadd := add_any t.cmd more (by omega)
  have HK4 := Lib.hid K4.drew
  have HX4 := Lib.hid X4.drew
  have HH4 := Lib.hid H4.drew
  have HO4 := Lib.hid (show W4.drew.ownsRow (w.heap.size + 1) 44 3 (.slice (some ⟨g3, 0, none⟩) ts.length c3) ts.length fc from O4)
  have C4 := Lib.hid (show W4.drew.cell? ⟨g3, p * 3 + 1, none⟩ = some (.string t.cmd) from c4)
  have hle3 : ts.length ≤ c3 := by
    rcases O4.2 with ⟨h0, _⟩ | ⟨_, _, _, hv, _, _, hle, _⟩
    · cases h0
    · obtain ⟨_, rfl⟩ := by simpa using hv
      exact hle
  clear K4 X4 H4 O4
  go_still_tail 11, (by kernel_rfl)
  change wpList _ _ _ _ _ W4.drew
  clear h0 c4
  generalize W4.drew = W5 at *
  clear W4
  have c5 := C4.out
  have f5 : W5.frozen? ⟨g3, p * 3 + 1, none⟩ = false := by
    rcases HO4.out.2 with ⟨h0, _⟩ | ⟨g', _, cur, hv, _, hg, _⟩
    · cases h0
    · obtain ⟨rfl, _⟩ : g3 = g' ∧ _ := by simpa using hv
      exact Box.free (t := 44) (cs := cur) hg _
  have HP := own_put HO4.out (p * 3 + 1) (.string (t.cmd ++ more))
  rw [← HFC.out, cells_cmd ts p (t.cmd ++ more) hp] at HP
  have htl : (ts.modify p (cmdT (t.cmd ++ more))).length = ts.length := List.length_modify ..
  have ks := (Keep.refl (fun k => k = g3) W5).setCell (p := ⟨g3, p * 3 + 1, none⟩) (fun _ => rfl) (.string (t.cmd ++ more))
  have K6 : Keep noneOf w (W5.setCell ⟨g3, p * 3 + 1, none⟩ (.string (t.cmd ++ more))) := HK4.out.trans ks (fun j hj hs => by omega)
  have X6 := HX4.out.keep ks (by omega)
  have H6 := HH4.out.keep ks hne3
  have hsz6 : (t.cmd ++ more).size ≤ maxLen := by rw [ByteArray.size_append]; unfold maxLen; omega
  have T6 : Tgs (W5.setCell ⟨g3, p * 3 + 1, none⟩ (.string (t.cmd ++ more))) (fun _ => True) (.slice (some ⟨g3, 0, none⟩) ts.length c3) (ts.modify p (cmdT (t.cmd ++ more))) := by
    refine ⟨?_, lies_cmd hsz6 (HH.out.keep K6 (fun _ _ _ => id)).2⟩
    rw [htl]
    exact (Row.of_own HP).mono (fun _ _ _ => trivial)
  have HPL := Lib.hid (plain_cmd ts p more t HS.out)
  have HK6 := Lib.hid K6
  have HX6 := Lib.hid X6
  have HH6 := Lib.hid H6
  have HT6 := Lib.hid T6
  have x6 := X6.cell 0
  have h6 := H6.cell 0
  simp only [List.getElem?_toArray, List.getElem?_cons_zero] at x6 h6
  generalize t.cmd ++ more = cm2 at *
  clear HP htl ks K6 X6 H6 T6 hsz6 HK4 HX4 HH4 HO4 C4
  go_wp2_with fail
  generalize W5.setCell ⟨g3, p * 3 + 1, none⟩ (.string cm2) = W6 at *
  have CK2 := refCheck_any W6 _ _ _ HT6.out
  rw [HPL.out] at CK2
  refine CK2.mono ?_
  rintro e w7 ⟨rfl, k7⟩
  have HK7 := Lib.hid (HK6.out.trans k7 (fun _ _ h => h))
  have HX7 := Lib.hid (HX6.out.keep k7 id)
  have HH7 := Lib.hid (HH6.out.keep k7 id)
  have HT7 := Lib.hid (HT6.out.keep k7 (fun _ _ _ => id))
  clear CK2 k7 HK6 HX6 HH6 HT6 x6 h6 c5 f5 hadd W5
  by_cases hm : grCheck (deepPs (ts.map Tg.plain) p more) = 0
  · have HM := Lib.hid hm
    rw [hm]
    clear hm
    by_cases hme : more = ⟨#[]⟩
    · have ge : more.toList.isEmpty = true := by rw [empty_is]; exact decide_eq_true hme
      clear hme
      go_wp2_with fail
      refine (alive_any w7).mono ?_
      rintro e w8 ⟨rfl, k8⟩
      have HK8 := Lib.hid (HK7.out.trans k8 (fun _ _ h => h))
      clear k8 HK7 HX7 HH7 HT7
      go_wp2
      go_ret
      exact ⟨rfl, HK8.out⟩
    · have ge : more.toList.isEmpty = false := by rw [empty_is]; exact decide_eq_false hme
      have x7 : w7.cell? ⟨w.heap.size, 0, none⟩ = some (.slice (some ⟨b, o, none⟩) ts.length c) := HX7.out.cell 0
      have KG : Hid (∀ w', Keep noneOf w7 w' → Calls Try.prog 13 #[.agg #[.slice (some ⟨b, o, none⟩) ts.length c]] w' (ToldKeys (grKeys (ts.map Tg.plain)) w')) := Lib.hid fun w' k => keys_any w' _ _ ts (HH.out.keep (HK7.out.trans k (fun _ _ h => h)) (fun _ _ _ => id))
      have KH : Hid (∀ w', Keep noneOf w7 w' → Calls Try.prog 13 #[.agg #[.slice (some ⟨g3, 0, none⟩) ts.length c3]] w' (ToldKeys (grKeys (deepPs (ts.map Tg.plain) p more)) w')) := Lib.hid fun w' k => by
        have := keys_any w' _ _ _ (HT7.out.keep k (fun _ _ _ => id))
        rwa [HPL.out] at this
      have RH : Hid (∀ w', Keep noneOf w7 w' → Calls Try.prog 14 #[.agg #[.slice (some ⟨g3, 0, none⟩) ts.length c3]] w' (ToldKeys (grKeys (deepPs (ts.map Tg.plain) p more)) w')) := Lib.hid fun w' k => by
        have := refKeys_any w' _ _ _ (HT7.out.keep k (fun _ _ _ => id))
        rwa [HPL.out] at this
      have RE : Hid (∀ (w' : World) (i : Nat), Keep noneOf w7 w' → Calls Try.prog 26 #[.agg #[.slice (some ⟨b, o, none⟩) ts.length c], .int .i64 (i : Int), .int .i64 (p : Int), .int .i64 (ts.length : Int)] w' fun e w'' => e = .returned (.bool (reachB (ts.map Tg.plain) p ts.length i)) ∧ Keep noneOf w' w'') := Lib.hid fun w' i k =>
        reach_any ts (fits_few (check_fits HQ.out).1).2 (fun _ => needsAt_16 HQ.out) p ts.length w' (fun _ => True) _ i (by omega) (HH.out.keep (HK7.out.trans k (fun _ _ h => h)) (fun _ _ _ => id))
      have hla : (grKeys (ts.map Tg.plain)).length = ts.length := by rw [grKeys_length, order_len HQ.out, List.length_map]
      have hlb : (grKeys (deepPs (ts.map Tg.plain) p more)).length = ts.length := by rw [grKeys_length, order_len HM.out, deep_length, List.length_map]
      have HDK : Hid (∀ i, i < ts.length → i ≠ p → reachB (ts.map Tg.plain) p ts.length i = false → (grKeys (ts.map Tg.plain))[i]? = (grKeys (deepPs (ts.map Tg.plain) p more))[i]?) := Lib.hid fun i hi hip hr => deep_keys HQ.out p more HM.out i (by rw [List.length_map]; exact hi) hip ts.length (by rw [List.length_map]; omega) hr
      clear hme
      generalize grKeys (ts.map Tg.plain) = ksa at *
      generalize grKeys (deepPs (ts.map Tg.plain) p more) = ksb at *
      generalize reachB (ts.map Tg.plain) p ts.length = rb at *
      have HLA := Lib.hid hla
      have HLB := Lib.hid hlb
      have KG7 := Lib.hid (KG.out _ (Keep.refl _ _))
      clear hla hlb KG HM
      go_wp2_with fail
      refine KG7.out.mono ?_
      rintro e w8 ⟨A8, c8, rfl, o8, k8⟩
      rw [HLA.out]
      have HO8 := Lib.hid o8
      have HK8 := Lib.hid k8
      have h8 : w8.cell? ⟨J, 0, none⟩ = some (.slice (some ⟨g3, 0, none⟩) ts.length c3) := (HH7.out.keep k8 id).cell 0
      have KH8 := Lib.hid (KH.out _ k8)
      clear KG7 o8 k8 x7 KH
      go_wp2_with fail
      refine KH8.out.mono ?_
      rintro e w9 ⟨A9, c9, rfl, o9, k9⟩
      rw [HLB.out]
      have K9 := HK8.out.trans k9 (fun _ _ h => h)
      have HK9 := Lib.hid K9
      have HO9 := Lib.hid (HO8.out.keep k9 (fun _ _ _ => id))
      have HP9 := Lib.hid o9
      have x9 : w9.cell? ⟨w.heap.size, 0, none⟩ = some (.slice (some ⟨b, o, none⟩) ts.length c) := (HX7.out.keep K9 id).cell 0
      have h9 : w9.cell? ⟨J, 0, none⟩ = some (.slice (some ⟨g3, 0, none⟩) ts.length c3) := (HH7.out.keep K9 id).cell 0
      have RH9 := Lib.hid (RH.out _ K9)
      have g0 : ((ts.length : Int) != (ts.length : Int)) = false := by rw [bne_self_eq_false]
      clear KH8 HO8 HK8 k9 o9 K9 RH h8
      go_wp2_with fail
      refine RH9.out.mono ?_
      rintro e w10 ⟨A10, c10, rfl, o10, k10⟩
      rw [HLB.out]
      have K10 := HK9.out.trans k10 (fun _ _ h => h)
      have HK10 := Lib.hid K10
      have HO10 := Lib.hid (HO9.out.keep k10 (fun _ _ _ => id))
      have HP10 := Lib.hid (HP9.out.keep k10 (fun _ _ _ => id))
      have HQ10 := Lib.hid o10
      have HX10 := Lib.hid (HX7.out.keep K10 id)
      clear RH9 HO9 HP9 HK9 k10 o10 K10 x9 h9 HX7 HH7 HT7
      go_wp2
      generalize w10 = W10 at *
      go_loopw [81] (fun i wx => ∃ k : Nat, k ≤ ts.length ∧ i = .int .i64 k ∧ Keep noneOf W10 wx) (fun i _ => ts.length - (intOf i).toNat)
      case atStart => exact ⟨0, Nat.zero_le _, rfl, Keep.refl _ _⟩
      case round =>
        obtain ⟨k, hk, rfl, hkw⟩ := hrel
        have HKW := Lib.hid hkw
        by_cases hlt : k < ts.length
        · have ha : k < ksa.length := by rw [HLA.out]; exact hlt
          have hb : k < ksb.length := by rw [HLB.out]; exact hlt
          have e1 := List.getElem?_eq_getElem ha
          have e2 := List.getElem?_eq_getElem hb
          have HEQ : Hid (k ≠ p → rb k = false → ksa[k] = ksb[k]) := Lib.hid fun h1 h2 => by
            have := HDK.out k hlt h1 h2
            rw [e1, e2] at this
            injection this
          have q1 : (0 : Int) ≤ (k : Int) := by omega
          have q2 : (k : Int) < (ts.length : Int) := by omega
          by_cases hkp : k = p
          · subst hkp
            have gk : ((k : Int) == (k : Int)) = true := by rw [beq_self_eq_true]
            obtain ⟨b2, o2, rfl, _, _, d2⟩ := (HP10.out.keep hkw (fun _ _ _ => id)).cell e2
            obtain ⟨b3, o3, rfl, _, _, d3⟩ := (HQ10.out.keep hkw (fun _ _ _ => id)).cell e2
            generalize ksb[k] = y at *
            have gy : ((y : Int) != (y : Int)) = false := by rw [bne_self_eq_false]
            clear hkw e1 e2 HEQ
            go_wp2
            go_quiet (fail)
            go_wp2
            go_roundw
            case rel => exact ⟨k + 1, by omega, by go_num, HKW.out.drewN _⟩
            case measure => simp [intOf]; omega
          · have gk : ((k : Int) == (p : Int)) = false := by rw [beq_eq_false_iff_ne]; omega
            have x11 : wr.cell? ⟨w.heap.size, 0, none⟩ = some (.slice (some ⟨b, o, none⟩) ts.length c) := (HX10.out.keep hkw id).cell 0
            have RE1 := Lib.hid (RE.out wr k (HK10.out.trans hkw (fun _ _ h => h)))
            have HKP := Lib.hid hkp
            clear hkp
            go_wp2_with fail
            refine RE1.out.mono ?_
            rintro e w11 ⟨rfl, k11⟩
            have hk11 := hkw.trans k11 (fun _ _ h => h)
            have HK11 := Lib.hid hk11
            obtain ⟨b2, o2, rfl, _, _, d2⟩ := (HP10.out.keep hk11 (fun _ _ _ => id)).cell e2
            obtain ⟨b3, o3, rfl, _, _, d3⟩ := (HQ10.out.keep hk11 (fun _ _ _ => id)).cell e2
            obtain ⟨b1, o1, rfl, _, _, d1⟩ := (HO10.out.keep hk11 (fun _ _ _ => id)).cell e1
            cases hrb : rb k with
            | true =>
              generalize ksb[k] = y at *
              have gy : ((y : Int) != (y : Int)) = false := by rw [bne_self_eq_false]
              clear hkw e1 e2 HEQ k11 hk11 RE1 x11 hrb d1
              go_wp2
              go_quiet (fail)
              go_wp2
              go_roundw
              case rel => exact ⟨k + 1, by omega, by go_num, HK11.out.drewN _⟩
              case measure => simp [intOf]; omega
            | false =>
              rw [HEQ.out HKP.out hrb] at d1
              generalize ksb[k] = y at *
              have gy : ((y : Int) != (y : Int)) = false := by rw [bne_self_eq_false]
              clear hkw e1 e2 HEQ k11 hk11 RE1 x11 hrb
              go_wp2
              go_quiet (fail)
              go_wp2
              go_roundw
              case rel => exact ⟨k + 1, by omega, by go_num, HK11.out.drewN _⟩
              case measure => simp [intOf]; omega
        · have hkn : ¬ ((k : Int) < (ts.length : Int)) := by omega
          have HK12 := Lib.hid ((HK7.out.trans HK10.out (fun _ _ h => h)).trans hkw (fun _ _ h => h))
          clear hlt hkw
          go_wp2_with fail
          refine (alive_any wr).mono ?_
          rintro e w12 ⟨rfl, k12⟩
          have HK13 := Lib.hid (HK12.out.trans k12 (fun _ _ h => h))
          clear k12 HK12
          go_wp2
          go_ret
          exact ⟨rfl, HK13.out⟩
  · generalize grCheck (deepPs (ts.map Tg.plain) p more) = z at *
    have g : (z != 0) = true := by rw [bne_iff_ne]; exact hm
    have g' : (z == 0) = false := by rw [beq_eq_false_iff_ne]; exact hm
    clear hm
    go_wp2_with fail
    refine (alive_any w7).mono ?_
    rintro e w8 ⟨rfl, k8⟩
    have HK8 := Lib.hid (HK7.out.trans k8 (fun _ _ h => h))
    clear k8 HK7 HX7 HH7 HT7
    go_wp2
    go_ret
    exact ⟨rfl, HK8.out⟩

theorem deep_walk (w : World) (A : Option Addr) (c : Nat) (ts : List Tg) (h : Tgs w (fun _ => True) (.slice A ts.length c) ts) (place : Int) (more : ByteArray) (hms : more.size ≤ reachBytes) :
    Calls Try.prog 8 #[.agg #[.slice A ts.length c], .int .i64 place, .string more] w fun e w' => e = .returned (.bool true) ∧ Keep noneOf w w' := by
  by_cases hq : grCheck (ts.map Tg.plain) ≠ 0 ∨ place < 0 ∨ (ts.length : Int) ≤ place ∨ 12 < ts.length
  · exact deep_no w A c ts h place more hq
  · obtain ⟨p, rfl⟩ := Int.eq_ofNat_of_zero_le (show 0 ≤ place by omega)
    exact deep_yes w A c ts h p more hms (by omega) (by omega) (by omega)

namespace StaleDeep
set_option maxRecDepth 100000 in
theorem lifted (os : Os) (started : os.Started) (H : Type) (enc : TypeId × Value → H) :
    ReturnsInHanded {} Try.checked os 8 .any (Rows.staleDeepSpec.pre6 enc Try.prog Try.f8 Rows.staleDeepRow.domain false) (Rows.staleDeepSpec.post enc Try.prog Try.f8 false true false false) := by
  refine returnsInHanded_of_change_sized (C := Try.checked) own started (by kernel_rfl) Try.func8
    (ChangeSpec.witness6 (enc := enc) (C := Try.checked) false ⟨#[], #[.agg #[.slice none 0 0], .int .i64 0, .string ⟨#[]⟩], []⟩ 8 (by kernel_rfl) (by kernel_rfl) (by kernel_rfl) (by kernel_rfl)) ?_
  intro W base args ds gs before hval0 hW hcnd hsz _
  have hval : ∀ (j : Nat) t v, Try.f8.params[j]? = some t → args[j]? = some v → Value.okWide Try.prog W .any base t v := hval0
  have hW' := hW
  obtain ⟨p, q, hA0, hV, rfl, hfz, hnd⟩ := hW
  have hA : DataW.TrodAll enc Try.prog W 0 (fun _ => true) true Try.f8.params.toList args.toList ds p := hA0
  rw [Try.params8] at hA hval
  obtain ⟨v0, vs0, d0, ds0, p0, q0, hargs, rfl, rfl, h0, r0⟩ := trodAll_cons hA
  obtain ⟨v1, vs1, d1, ds1, p1, q1, rfl, rfl, rfl, h1, r1⟩ := trodAll_cons r0
  obtain ⟨v2, vs2, d2, ds2, p2, q2, rfl, rfl, rfl, h2, r2⟩ := trodAll_cons r1
  obtain ⟨rfl, rfl, rfl⟩ := trodAll_nil r2
  obtain rfl : args = #[v0, v1, v2] := by cases args; simp_all
  obtain ⟨rfl, rfl⟩ := trodVars_none hV
  have k0 := h0
  have lt0 : ∀ x ∈ p0, x.block < W.heap.size := by obtain ⟨m, hm⟩ := k0; exact DataW.trod_lt m _ _ _ hm
  have k2 := h2
  have lt2 : ∀ x ∈ p2, x.block < W.heap.size := by obtain ⟨m, hm⟩ := k2; exact DataW.trod_lt m _ _ _ hm
  obtain ⟨A0, c0, ts0, rfl, hts0, h560, h160⟩ := open_graph (hval 0 24 v0 rfl rfl) h0 (light_arg hsz (j := 0) rfl rfl)
  obtain ⟨a1, rfl, rfl, rfl, w1⟩ := open_int Try.underlying3 (hval 1 3 v1 rfl rfl) h1
  obtain ⟨s2, rfl, rfl, rfl, hmax2⟩ := Go.ChangeMaps.open_string Try.underlying9 (hval 2 9 v2 rfl rfl) h2
  have hss2 : s2.size ≤ reachBytes := by have := sized_string hsz (j := 2) rfl rfl; simpa using this
  clear hA0 hval0
  refine (deep_walk W A0 c0 ts0 hts0 a1 s2 hss2).mono fun e W' ⟨he, bel0⟩ => ?_
  subst he
  have bel := bel0.all
  exact ⟨_, rfl, _, _, _, [], _, [], hW', trodAll_mk1 (shut_bool Try.underlying4 _), (trodAll_cons_mk (Below.trod laidOut (by kernel_rfl) (of_decide_eq_true (by kernel_rfl)) k0 bel lt0) (trodAll_cons_mk (shut_int Try.underlying3 w1) (trodAll_cons_mk (Below.trod laidOut (by kernel_rfl) (of_decide_eq_true (by kernel_rfl)) k2 bel lt2) trodAll_mk0))), rfl, bel.frame _, fun h => by cases h⟩

theorem over : Rows.staleDeepRow.holds Try.pinned (OpenSpec.ofChange Rows.staleDeepSpec) :=
  OpenClaim.holds_of_wide 8 Try.f8 rfl rfl rfl rfl rfl rfl rfl ⟨rfl, rfl, rfl, rfl, rfl⟩ rfl rfl rfl rfl rfl (by kernel_rfl) Try.func8 (by kernel_rfl)
    (of_decide_eq_true (by kernel_rfl)) (by unfold Func.isWrapper; first | (rw [if_pos (by decide +kernel)]; kernel_rfl) | (rw [if_neg (by decide +kernel)]; exact ⟨rfl, rfl⟩))
    (fun os started H enc _ => lifted os started H enc)

theorem proved : Rows.StaleDeepSaid := over
end StaleDeep
end Go.Proofs.Ytndojciealkhmaa
