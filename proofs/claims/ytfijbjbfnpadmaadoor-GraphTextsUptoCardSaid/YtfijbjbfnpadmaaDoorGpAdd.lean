/-
  graph.addCommand, addLine: a graph behind a pointer, its targets in a row of one's own.
-/
import Derived.Test.YtfijbjbfnpadmaaDoorGpTarget
import Derived.Test.YtfijbjbfnpadmaaDoorGpParse
namespace Go.Proofs.YtfijbjbfnpadmaaDoor
open Go.RowKit

/-- A cell of a row of one's own is put. -/
theorem own_set {w : World} {base : Nat} {e : TypeId} {size g n cap : Nat} {xs : List Value} (h : w.ownsRow base e size (.slice (some ⟨g, 0, none⟩) n cap) n xs) (j : Nat) (u : Value) :
    (w.setCell ⟨g, j, none⟩ u).ownsRow base e size (.slice (some ⟨g, 0, none⟩) n cap) n (xs.set j u) := by
  refine ⟨by rw [List.length_set]; exact h.1, ?_⟩
  rcases h.2 with ⟨hv, _⟩ | ⟨g', cap', cur, hv, hb, hg, hn, hm, hs, ht⟩
  · cases hv
  · obtain ⟨rfl, rfl⟩ : g = g' ∧ cap = cap' := by simpa using hv
    have hB : Box w g e cur := hg
    refine .inr ⟨g, cap, cur.setIfInBounds j u, rfl, hb, hB.put j u, hn, hm, by simpa using hs, ?_⟩
    rw [← ht]
    simp [List.take_set]
theorem own_box {w : World} {base : Nat} {e : TypeId} {size : Nat} {v : Value} {n : Nat} {xs : List Value} (h : w.ownsRow base e size v n xs) (hn : 0 < n) :
    ∃ (g cap : Nat) (cur : Array Value), v = .slice (some ⟨g, 0, none⟩) n cap ∧ base ≤ g ∧ Box w g e cur ∧ n ≤ cap ∧ cap ≤ maxLen ∧ ∀ (j : Nat) (u : Value), xs[j]? = some u → cur[j]? = some u := by
  rcases h.2 with ⟨hv, h0⟩ | ⟨g, cap, cur, hv, hb, hg, hnc, hm, hs, ht⟩
  · omega
  · refine ⟨g, cap, cur, hv, hb, hg, hnc, hm, fun j u hu => ?_⟩
    rw [← ht, List.getElem?_take] at hu
    split at hu
    · simpa using hu
    · cases hu

/-- The last target gets a command. -/
def lastCmd (ps : List Pt) (c : List UInt8) : Option (List Pt) := match ps.getLast? with
  | none => none
  | some t => if c = [] ∨ t.cmd.size ≠ 0 then none else some (ps.dropLast ++ [⟨t.name, mk c, t.needs⟩])
theorem add_tab (ps : List Pt) (c : List UInt8) : addLineP ps (9 :: c) = lastCmd ps c := rfl
theorem add_other (ps : List Pt) {l : List UInt8} (h : ∀ c, l ≠ 9 :: c) : addLineP ps l = (lineP l).map (fun q => ps ++ [⟨mk q.1, ⟨#[]⟩, q.2.map mk⟩]) := by
  cases l with
  | nil => rfl
  | cons b c =>
    have hb : b ≠ 9 := fun e => h c (by rw [e])
    show (if b = 9 then _ else _) = _
    rw [if_neg hb]

/-- A graph at a place, its targets behind it. -/
def GraphAt (w : World) (g base : Nat) (ts : List Tg) : Prop := ∃ A c, Box w g 24 #[.slice A ts.length c] ∧ w.ownsRow base 40 3 (.slice A ts.length c) ts.length (ts.flatMap Tg.cells) ∧ (∀ t ∈ ts, heldT base w t)
/-- What is behind a call that adds to it. -/
def Added (r : Option (List Pt)) (g base n : Nat) (w : World) (e : Ending) (w' : World) : Prop := e = .returned (.bool r.isSome) ∧ Keep (fun k => g ≤ k) w w' ∧ ∀ qs, r = some qs → ∃ ts, ts.map Tg.plain = qs ∧ ts.length ≤ n + 1 ∧ GraphAt w' g base ts
theorem added_none {r : Option (List Pt)} {g base n : Nat} {w w' : World} (h : r = none) (k : Keep noneOf w w') : Added r g base n w (.returned (.bool false)) w' := by
  subst h
  exact ⟨rfl, k.mono (fun _ _ h => h.elim), fun qs h => by cases h⟩

set_option maxRecDepth 100000 in
set_option maxHeartbeats 2000000 in
theorem addCommand_any (w : World) (g base : Nat) (ts : List Tg) (cmd : List UInt8) (hG : GraphAt w g base ts) (hgb : g < base) (hts : ts.length ≤ 2097152) (hc : cmd.length ≤ 2097152) :
    Calls Tryd.prog 43 #[.pointer (some ⟨g, 0, none⟩), .string (mk cmd)] w (Added (lastCmd (ts.map Tg.plain) cmd) g base ts.length w) := by
  obtain ⟨A, c, hY, hO, hH⟩ := hG
  have HY := Lib.hid hY
  have HO := Lib.hid hO
  have HH := Lib.hid hH
  have y0 := hY.cell 0
  simp only [List.getElem?_toArray, List.getElem?_cons_zero] at y0
  have HTS := Lib.hid hts
  generalize hR : lastCmd (ts.map Tg.plain) cmd = R
  have HR := Lib.hid hR
  clear hY hO hH hR
  have w1 : IntKind.i64.wrap ((ts.length : Int) - 1) = (ts.length : Int) - 1 := IntWalk.i64_in _ (by omega)
  by_cases hz : ts.length = 0
  · have hno : R = none := by
      rw [← HR.out, List.eq_nil_of_length_eq_zero hz]
      rfl
    have HNO := Lib.hid hno
    have q : (ts.length : Int) - 1 < 0 := by omega
    clear hno hz
    go_enter Tryd.func43, Tryd.ntmps43
    go_wp2
    go_ret
    exact added_none HNO.out (Keep.refl _ _)
  · have q : ¬ ((ts.length : Int) - 1 < 0) := by omega
    by_cases he : cmd = []
    · have hno : R = none := by
        rw [← HR.out]
        unfold lastCmd
        split
        · rfl
        · rw [if_pos (.inl he)]
      have HNO := Lib.hid hno
      have g1 : (mk cmd).toList.isEmpty = true := by rw [he, ByteArray.toList_eq]; rfl
      clear hno hz he
      go_enter Tryd.func43, Tryd.ntmps43
      go_wp2
      go_ret
      exact added_none HNO.out (Keep.refl _ _)
    · have g1 : (mk cmd).toList.isEmpty = false := by
        rw [ByteArray.toList_eq]
        cases cmd with
        | nil => exact absurd rfl he
        | cons x l => rfl
      obtain ⟨m, hm⟩ : ∃ m, ts.length = m + 1 := ⟨ts.length - 1, by omega⟩
      obtain ⟨t, ht⟩ : ∃ t, ts[m]? = some t := ⟨_, List.getElem?_eq_getElem (by omega)⟩
      have hlast : (ts.map Tg.plain).getLast? = some t.plain := by
        rw [List.getLast?_eq_getElem?, List.getElem?_map, List.length_map, hm, Nat.add_sub_cancel, ht]
        rfl
      have hlc : R = if cmd = [] ∨ t.plain.cmd.size ≠ 0 then none else some ((ts.map Tg.plain).dropLast ++ [⟨t.plain.name, mk cmd, t.plain.needs⟩]) := by
        rw [← HR.out]
        unfold lastCmd
        rw [hlast]
      have HLC := Lib.hid hlc
      obtain ⟨rb, cap, cur, hv, hrb, hbx, hnc, hmx, hcur⟩ := own_box HO.out (by omega)
      obtain ⟨rfl, rfl⟩ : A = some ⟨rb, 0, none⟩ ∧ c = cap := by simpa using hv
      have hcc : ∀ j, j < 3 → w.cell? ⟨rb, m * 3 + j, none⟩ = t.cells[j]? := fun j hj => by
        rw [hbx.cell]
        have h3 : t.cells.length = 3 := rfl
        have e1 : t.cells[j]? = some t.cells[j] := List.getElem?_eq_getElem (by omega)
        rw [e1]
        have e0 := cells_at ht j hj
        rw [Nat.mul_comm] at e0
        exact hcur _ _ (e0.trans e1)
      obtain ⟨nm, cm, nv, ss⟩ := t
      have c1 := hcc 1 (by decide)
      have f1 := hbx.free (m * 3 + 1)
      have HM := Lib.hid hm
      have HE := Lib.hid he
      have HT := Lib.hid ht
      have HBX := Lib.hid hbx
      have HRB := Lib.hid hrb
      unfold maxLen at hmx
      simp only [Tg.cells, List.getElem?_cons_zero, List.getElem?_cons_succ] at c1
      have z0 : (0 : Int) ≤ (ts.length : Int) - 1 := by omega
      have z1 : (ts.length : Int) - 1 < (ts.length : Int) := by omega
      have z2 : ((ts.length : Int) - 1).toNat = m := by omega
      clear hcc hlc hlast hv hbx hcur ht hrb he
      by_cases hcm : cm.size = 0
      · have g5 : cm.toList.isEmpty = true := by
          rw [ByteArray.toList_eq, List.isEmpty_iff]
          exact List.eq_nil_of_length_eq_zero (by rw [← hcm]; exact bl_length cm)
        go_enter Tryd.func43, Tryd.ntmps43
        go_wp2
        go_ret
        obtain ⟨ts', hts'⟩ : ∃ ts' : List Tg, ts' = ts.take m ++ [⟨nm, mk cmd, nv, ss⟩] := ⟨_, rfl⟩
        have hl' : ts'.length = m + 1 := by
          rw [hts', List.length_append, List.length_take]
          simp
          omega
        have hsplit : ts = ts.take m ++ [⟨nm, cm, nv, ss⟩] := by
          have h1 := HT.out
          have h2 := HM.out
          have h3 : ts.take (m + 1) = ts := List.take_of_length_le (by omega)
          rw [List.take_add_one, h1] at h3
          exact h3.symm
        have hcells : ts'.flatMap Tg.cells = (ts.flatMap Tg.cells).set (m * 3 + 1) (.string (mk cmd)) := by
          have e1 : ts.flatMap Tg.cells = (ts.take m).flatMap Tg.cells ++ [.string nm, .string cm, nv] := by
            conv => lhs; rw [hsplit]
            rw [List.flatMap_append]
            rfl
          have e2 : ((ts.take m).flatMap Tg.cells).length = m * 3 := by
            rw [cells_length, List.length_take]
            have := HM.out
            omega
          rw [e1, hts', List.flatMap_append, List.set_append_right _ _ (by omega), e2, Nat.add_sub_cancel_left]
          rfl
        have k5 : Keep (fun k => k = rb) w (w.setCell ⟨rb, m * 3 + 1, none⟩ (.string (mk cmd))) := (Keep.refl (fun k => k = rb) w).setCell (fun _ => rfl) _
        have hrbb := HRB.out
        refine ⟨?_, k5.mono (fun i _ e => by subst e; omega), fun qs hqs => ⟨ts', ?_, by omega, some ⟨rb, 0, none⟩, c, ?_, ?_, ?_⟩⟩
        · rw [HLC.out, if_neg (fun h => h.elim HE.out (fun h => h hcm))]
          rfl
        · rw [HLC.out, if_neg (fun h => h.elim HE.out (fun h => h hcm))] at hqs
          injection hqs with hqs
          rw [← hqs, hts', List.map_append, List.dropLast_eq_take, List.length_map, List.map_take]
          have := HM.out
          rw [this]
          rfl
        · rw [hl']
          have h1 := HY.out
          rw [HM.out] at h1
          exact h1.keep k5 (by omega)
        · rw [hl', hcells]
          have h1 := own_set HO.out (m * 3 + 1) (.string (mk cmd))
          rw [HM.out] at h1
          exact h1
        · intro x hx
          have hset : ∀ i, i < w.heap.size → i = rb → ∃ cs fz, w.heap[i]? = some (.cells cs 40 fz) ∨ w.heap[i]? = some (.cells cs 24 fz) := fun i _ e => by
            subst e
            exact ⟨_, _, .inl HBX.out⟩
          refine heldT.keep ?_ k5 hset
          rw [hts'] at hx
          rcases List.mem_append.1 hx with h | h
          · exact HH.out x (List.mem_of_mem_take h)
          · rw [List.mem_singleton.1 h]
            have h9 := HH.out _ (List.mem_of_getElem? HT.out)
            refine ⟨h9.1, ?_, h9.2.2.1, h9.2.2.2⟩
            show (mk cmd).size ≤ maxLen
            rw [mk_size]
            unfold maxLen
            omega
      · have g5 : cm.toList.isEmpty = false := by
          cases hx : cm.toList.isEmpty with
          | false => rfl
          | true =>
            rw [ByteArray.toList_eq, List.isEmpty_iff] at hx
            exact absurd (by rw [← bl_length]; unfold bl; rw [hx]; rfl) hcm
        have hno : R = none := by
          rw [HLC.out, if_pos (.inr hcm)]
        have HNO := Lib.hid hno
        clear hno hcm HLC
        go_enter Tryd.func43, Tryd.ntmps43
        go_wp2
        go_ret
        exact added_none HNO.out (Keep.refl _ _)

set_option maxRecDepth 100000 in
set_option maxHeartbeats 4000000 in
theorem addLine_any (w : World) (g base : Nat) (ts : List Tg) (l : List UInt8) (hm : MaxCell w) (hg1 : 0 < g) (hG : GraphAt w g base ts) (hgb : g < base) (hbw : base ≤ w.heap.size) (hts : ts.length ≤ 2097152) (hl : l.length ≤ 2097152) :
    Calls Tryd.prog 31 #[.pointer (some ⟨g, 0, none⟩), .string (mk l)] w (Added (addLineP (ts.map Tg.plain) l) g base ts.length w) := by
  have PR := prefix_any w (mk l) 9
  rw [bl_mk] at PR
  by_cases htab : ∃ c, l = 9 :: c
  · obtain ⟨c, rfl⟩ := htab
    have e1 : Lib.hasPrefix (9 :: c) [9] = true := by simp [Lib.hasPrefix]
    have e2 : Lib.trimPrefix (9 :: c) [9] = c := by unfold Lib.trimPrefix; rw [e1]; rfl
    rw [e1, e2] at PR
    have HPR := Lib.hid PR
    rw [add_tab]
    generalize hR : lastCmd (ts.map Tg.plain) c = R
    have AC : Hid (∀ w', Keep noneOf w w' → Calls Tryd.prog 43 #[.pointer (some ⟨g, 0, none⟩), .string (mk c)] w' (Added R g base ts.length w')) := Lib.hid fun w' k' => by
      have h := addCommand_any w' g base ts c (by
        obtain ⟨A, c', h1, h2, h3⟩ := hG
        exact ⟨A, c', h1.keep k' id, own_keep h2 k' (fun _ _ h => h), fun t ht => (h3 t ht).keep k' (fun _ _ h => h.elim)⟩) hgb hts (by simp at hl; omega)
      rw [hR] at h
      exact h
    clear PR e1 e2 hR hm hG hl
    go_enter Tryd.func31, Tryd.ntmps31
    go_wp2_with fail
    refine HPR.out.mono ?_
    rintro e w2 ⟨rfl, k2⟩
    have HK2 := Lib.hid k2
    clear HPR k2
    go_wp2_with fail
    refine (AC.out w2 HK2.out).mono ?_
    rintro e w3 ⟨rfl, k3, h3⟩
    have HK3 := Lib.hid (HK2.out.mono (T := fun k => g ≤ k) (fun _ _ h => h.elim) |>.trans k3 (fun _ _ h => h))
    have H3 := Lib.hid h3
    clear k3 h3 AC HK2
    go_wp2
    go_ret
    exact ⟨rfl, HK3.out, H3.out⟩
  · have e1 : Lib.hasPrefix l [9] = false := by
      cases l with
      | nil => rfl
      | cons b c =>
        have hb : b ≠ 9 := fun e => htab ⟨c, by rw [e]⟩
        show ((9 : UInt8) == b && [].isPrefixOf c) = false
        rw [beq_eq_false_iff_ne.2 (Ne.symm hb)]
        rfl
    have e2 : Lib.trimPrefix l [9] = l := by unfold Lib.trimPrefix; rw [e1]; rfl
    rw [e1, e2] at PR
    have HPR := Lib.hid PR
    rw [add_other _ (fun c e => htab ⟨c, e⟩)]
    generalize hR : (lineP l).map (fun q => ts.map Tg.plain ++ [(⟨mk q.1, ⟨#[]⟩, q.2.map mk⟩ : Pt)]) = R
    have HR := Lib.hid hR
    clear PR e1 e2 htab hR
    have RT : Hid (∀ w', Keep noneOf w w' → Calls Tryd.prog 44 #[.string (mk l)] w' (ToldLine (mk l) w')) := Lib.hid fun w' k' => readTarget_any w' (mk l) (hm.keep k' id) (by rw [mk_size]; exact hl)
    have HG := Lib.hid hG
    have HBW := Lib.hid hbw
    obtain ⟨i39, hi39, hz39, hs39, hb39⟩ := info_parts tginfo
    clear hm hG hl hbw
    go_enter Tryd.func31, Tryd.ntmps31
    go_wp2_with fail
    refine HPR.out.mono ?_
    rintro e w2 ⟨rfl, k2⟩
    have HK2 := Lib.hid k2
    clear HPR k2
    go_wp2_with fail
    refine (RT.out w2 HK2.out).mono ?_
    rintro e w3 ⟨t, rfl, ⟨A5, n5, c5, hnv⟩, k3, ht⟩
    rw [bl_mk] at ht ⊢
    obtain ⟨nm, cm, nv, ss⟩ := t
    simp only at hnv
    subst hnv
    have HT := Lib.hid ht
    have HLW := Lib.hid k3.size
    have HK3 := Lib.hid (HK2.out.trans k3 (fun _ _ h => h))
    have HKW := Lib.hid HK2.out.size
    clear RT ht k3 HK2
    cases hlp : lineP l with
    | none =>
      have hRn : R = none := by rw [← HR.out, hlp]; rfl
      subst hRn
      simp only [Option.isSome_none]
      go_wp2
      go_ret
      exact ⟨rfl, (HK3.out.alloc _).mono (fun _ _ h => h.elim), fun qs h => by cases h⟩
    | some q =>
      obtain ⟨htp, hth⟩ := HT.out q hlp
      have hRs : R = some (ts.map Tg.plain ++ [⟨mk q.1, ⟨#[]⟩, q.2.map mk⟩]) := by rw [← HR.out, hlp]; rfl
      subst hRs
      simp only [Option.isSome_some]
      have HTP := Lib.hid htp
      have HTH := Lib.hid hth
      obtain ⟨A, c, hY, hO, hH⟩ := HG.out
      have hY3 := (hY.keep HK3.out id).alloc (.cells #[.string nm, .string cm, .slice A5 n5 c5] 40)
      have HO3 := Lib.hid ((own_keep hO HK3.out (fun _ _ h => h)).alloc (.cells #[.string nm, .string cm, .slice A5 n5 c5] 40))
      have HK4 := Lib.hid (HK3.out.alloc (.cells #[.string nm, .string cm, .slice A5 n5 c5] 40))
      have HH3 := Lib.hid (show ∀ x ∈ ts, heldT base w3 x from fun x hx => (hH x hx).keep HK3.out (fun _ _ h => h.elim))
      have HY3 := Lib.hid hY3
      have hsz3 : (w3.alloc (.cells #[.string nm, .string cm, .slice A5 n5 c5] 40)).heap.size = w3.heap.size + 1 := by simp
      have hbw : base ≤ w3.heap.size := Nat.le_trans HBW.out HK3.out.size
      have HBX := Lib.hid (Box.new w3 40 #[.string nm, .string cm, .slice A5 n5 c5])
      obtain ⟨z0, z1, z2⟩ := box3t w3 40 (.string nm) (.string cm) (.slice A5 n5 c5)
      have y0 := hY3.cell 0
      have fy := hY3.free 0
      simp only [List.getElem?_toArray, List.getElem?_cons_zero] at y0
      clear htp hth hlp HT hY hO hH hY3 HG
      go_wp2
      generalize hW4 : w3.alloc (.cells #[.string nm, .string cm, .slice A5 n5 c5] 40) = W4 at *
      have HSZ := Lib.hid hsz3
      have HW4 := Lib.hid hW4
      clear hW4
      have HOA : Hid ((W4.alloc (.cells #[.string nm, .string cm, .slice A5 n5 c5] 40)).drew.ownsRow base 40 3 (.slice A ts.length c) ts.length (ts.flatMap Tg.cells)) := Lib.hid (own_keep (HO3.out.alloc _) ((Keep.refl noneOf _).drew) (fun _ _ h => h))
      have HAB : Hid (∀ w4, ((W4.alloc (.cells #[.string nm, .string cm, .slice A5 n5 c5] 40)).drew).grownBy w4 (Value.slice A ts.length c).ownBlock → Box w4 g 24 #[.slice A ts.length c]) := Lib.hid fun w4 hg => ((HY3.out.alloc _).drew).keep (Keep.of_grown hg) (fun e => by have := (own_row HO3.out (show some g = (Value.slice A ts.length c).ownBlock from e)).1; omega)
      have HNE : Hid (∀ j u, [Value.string nm, .string cm, .slice A5 n5 c5][j]? = some u → (W4.alloc (.cells #[.string nm, .string cm, .slice A5 n5 c5] 40)).drew.cell? ((⟨W4.heap.size, 0, none⟩ : Addr).add j) = some u) := Lib.hid fun j u hu => cell_three_new W4 (.string nm) (.string cm) (.slice A5 n5 c5) 40 j u hu
      have y1 := (HY3.out.alloc (.cells #[.string nm, .string cm, .slice A5 n5 c5] 40)).cell 0
      have v0 := (HBX.out.alloc (.cells #[.string nm, .string cm, .slice A5 n5 c5] 40)).cell 0
      have v1 := (HBX.out.alloc (.cells #[.string nm, .string cm, .slice A5 n5 c5] 40)).cell 1
      have v2 := (HBX.out.alloc (.cells #[.string nm, .string cm, .slice A5 n5 c5] 40)).cell 2
      simp only [List.getElem?_toArray, List.getElem?_cons_zero, List.getElem?_cons_succ] at y1 v0 v1 v2
      clear hsz3
      go_region_law (refine step_append_lies _ (by rfl) _ _ _ (by rfl) base 40 i39 _ 3 56 Tryd.underlying22 hi39 hz39 hs39 hb39 rfl (by decide) (.slice A ts.length c) ts.length (ts.flatMap Tg.cells) (by rfl) HOA.out ⟨W4.heap.size, 0, none⟩ 1 1 [.string nm, .string cm, .slice A5 n5 c5] (by rfl) (by rfl) HNE.out (by simp [Value.oneCell']) (by omega) (by unfold maxLen; omega) (by omega) (by have := HSZ.out; simp; omega) (W4.heap.size + 1) (by simp) ?_; intro gg cap w5 hown' hgrow hat hlt5; have Y5 := HAB.out w5 hgrow; have y5 : w5.cell? ⟨g, 0, none⟩ = some (.slice A ts.length c) := Y5.cell 0; have f5 := Y5.free 0)
      all_goals
        clear y0 fy z0 z1 z2 y1 v0 v1 v2
        go_wp2
        go_ret
        have kd : Keep noneOf W4 (W4.alloc (.cells #[.string nm, .string cm, .slice A5 n5 c5] 40)).drew := ((Keep.refl noneOf W4).alloc (.cells #[.string nm, .string cm, .slice A5 n5 c5] 40)).drew
        have kgr : Keep (fun i => some i = (Value.slice A ts.length c).ownBlock) (W4.alloc (.cells #[.string nm, .string cm, .slice A5 n5 c5] 40)).drew w5 := Keep.of_grown hgrow
        have kg : Keep (fun k => g ≤ k) w w5 := ((HK4.out.trans kd (fun _ _ h => h)).mono (T := fun k => g ≤ k) (fun _ _ h => h.elim)).trans kgr (fun i hi e => by
          have := (own_row HO3.out (show some i = (Value.slice A ts.length c).ownBlock from e)).1
          omega)
        have ks := gkeep w5 g (.slice (some ⟨gg, 0, none⟩) (ts.length + 1) cap)
        obtain ⟨ts2, hts2⟩ : ∃ ts2, ts2 = ts ++ [(⟨nm, cm, .slice A5 n5 c5, ss⟩ : Tg)] := ⟨_, rfl⟩
        have hl2 : ts2.length = ts.length + 1 := by rw [hts2, List.length_append]; rfl
        have hc2 : ts2.flatMap Tg.cells = ts.flatMap Tg.cells ++ [.string nm, .string cm, .slice A5 n5 c5] := by
          rw [hts2, List.flatMap_append]
          rfl
        have hrow : ∀ i, i < (W4.alloc (.cells #[.string nm, .string cm, .slice A5 n5 c5] 40)).drew.heap.size → some i = (Value.slice A ts.length c).ownBlock → ∃ cs fz, (W4.alloc (.cells #[.string nm, .string cm, .slice A5 n5 c5] 40)).drew.heap[i]? = some (.cells cs 40 fz) ∨ (W4.alloc (.cells #[.string nm, .string cm, .slice A5 n5 c5] 40)).drew.heap[i]? = some (.cells cs 24 fz) := fun i hi e => by
          obtain ⟨_, cs, fz, h⟩ := own_row HOA.out e
          exact ⟨cs, fz, .inl h⟩
        have hset : ∀ i, i < w5.heap.size → i = g → ∃ cs fz, w5.heap[i]? = some (.cells cs 40 fz) ∨ w5.heap[i]? = some (.cells cs 24 fz) := fun i hi e => by
          subst e
          exact ⟨_, _, .inr Y5⟩
        refine ⟨rfl, kg.trans ks (fun i hi e => by subst e; exact Nat.le_refl _), fun qs hqs => ⟨ts2, ?_, by omega, some ⟨gg, 0, none⟩, cap, ?_, ?_, ?_⟩⟩
        · injection hqs with hqs
          rw [← hqs, hts2, List.map_append, List.map_cons, List.map_nil, HTP.out]
        · rw [hl2]
          exact gput Y5 _
        · rw [hl2, hc2]
          exact own_keep hown' ks (fun j hj e => by have := (hown'.lt j hj).1; omega)
        · intro x hx
          have h2 : heldT base w3 x := by
            rw [hts2] at hx
            rcases List.mem_append.1 hx with h | h
            · exact HH3.out x h
            · rw [List.mem_singleton.1 h]
              exact ⟨HTH.out.1, HTH.out.2.1, own_base HTH.out.2.2.1 (Nat.le_trans HBW.out HKW.out), HTH.out.2.2.2⟩
          have h3 : heldT base W4 x := by
            rw [← HW4.out]
            exact h2.keep ((Keep.refl noneOf w3).alloc _) (fun _ _ h => h.elim)
          exact ((h3.keep kd (fun _ _ h => h.elim)).keep kgr hrow).keep ks hset
end Go.Proofs.YtfijbjbfnpadmaaDoor
