import Derived.BigQuiet
import Derived.Deep.QuietTactic
import Derived.Test.YtffoeodjbbkdjaaGreatBs10
namespace Go.Proofs.YtffoeodjbbkdjaaGreat
open Go.RowKit
def Told (b : Bool) (w : World) (e : Ending) (w' : World) : Prop := e = .returned (.bool b) ∧ ∃ n, w' = w.drewN n
set_option maxRecDepth 100000 in
set_option maxHeartbeats 1000000 in
theorem sameTexts_any (w : World) (D D' : Nat → Prop) (v v' : Value) (ss ss' : List ByteArray) (h : Strs w D v ss) (h' : Strs w D' v' ss') :
  Calls Tryz.prog 79 #[v, v'] w (Told (decide (ss = ss')) w) := by
 obtain ⟨⟨A, c, rfl, hlc, hcm, hn, hxl, hc⟩, h4⟩ := h
 obtain ⟨⟨A', c', rfl, hlc', hcm', hn', hxl', hc'⟩, h4'⟩ := h'
 unfold maxLen at hcm hcm'
 by_cases hl : ss.length = ss'.length
 ·
  have HC := Lib.hid hc
  have HC' := Lib.hid hc'
  have HL := Lib.hid hl
  rw [← hl] at hlc' ⊢
  clear hc hc' h4 h4' hxl hxl' hl
  generalize hR : decide (ss = ss') = R
  have HR := Lib.hid hR
  clear hR
  go_enter Tryz.func79, Tryz.ntmps79
  go_wp2
  go_loopw [5] (fun i wr => ∃ k n : Nat, k ≤ ss.length ∧ i = .int .i64 k ∧ wr = w.drewN n ∧ ss.take k = ss'.take k) (fun i _ => ss.length - (intOf i).toNat)
  case atStart => exact ⟨0, 0, Nat.zero_le _, rfl, rfl, rfl⟩
  case round =>
   obtain ⟨k, n, hk, rfl, rfl, hall⟩ := hrel
   have HA := Lib.hid hall
   clear hall
   by_cases hlt : k < ss.length
   ·
    have hlt' : k < ss'.length := by rw [← HL.out]; exact hlt
    obtain ⟨ad, rfl, hsp, hblk, _, hcell⟩ := HC.out (by omega)
    obtain ⟨b, o, sp⟩ := ad
    obtain ⟨ad', rfl, hsp', hblk', _, hcell'⟩ := HC'.out (by omega)
    obtain ⟨b', o', sp'⟩ := ad'
    simp only at hsp hblk hsp' hblk'
    subst hsp hsp'
    have q1 : w.cell? ⟨b, o + k, none⟩ = some (.string ss[k]) := hcell k _ (by simp [List.getElem?_eq_getElem hlt])
    have q2 : w.cell? ⟨b', o' + k, none⟩ = some (.string ss'[k]) := hcell' k _ (by simp [List.getElem?_eq_getElem hlt'])
    have HS := Lib.hid (List.getElem?_eq_getElem hlt)
    have HS' := Lib.hid (List.getElem?_eq_getElem hlt')
    clear hcell hcell'
    generalize ss[k] = s at *
    generalize ss'[k] = s' at *
    clear hlt'
    by_cases hs : s = s'
    ·
     subst hs
     go_wp2
     go_quiet (fail)
     go_wp2
     go_roundw
     case rel =>
      refine ⟨k + 1, _, by omega, by go_num, rfl, ?_⟩
      rw [List.take_add_one, List.take_add_one, HA.out, HS.out, HS'.out]
     case measure => simp [intOf]; omega
    ·
     have g : (s.toList != s'.toList) = true := by rw [bne, str_beq]; simp [hs]
     have g' : (s.toList == s'.toList) = false := by rw [str_beq]; simp [hs]
     have hR : R = false := by
      rw [← HR.out, decide_eq_false_iff_not]
      rintro rfl
      have := HS.out.symm.trans HS'.out
      injection this with this
      exact hs this
     subst hR
     clear hs
     go_wp2
     go_quiet (fail)
     go_wp2
     go_ret
     exact ⟨rfl, _, World.drewN_drewN _ _ _⟩
   ·
    have hR : R = true := by
     rw [← HR.out, decide_eq_true_eq]
     have e1 := HA.out
     rwa [List.take_of_length_le (by omega), List.take_of_length_le (by have := HL.out; omega)] at e1
    subst hR
    go_wp2
    go_ret
    exact ⟨rfl, n, rfl⟩
 ·
  have hR : decide (ss = ss') = false := by
   rw [decide_eq_false_iff_not]
   rintro rfl
   exact hl rfl
  rw [hR]
  clear hR
  go_enter Tryz.func79, Tryz.ntmps79
  go_wp2
  go_ret
  exact ⟨rfl, 0, rfl⟩
instance : DecidableEq Pt := fun a b => decidable_of_iff (a.name = b.name ∧ a.cmd = b.cmd ∧ a.needs = b.needs) (by
 obtain ⟨x, y, z⟩ := a
 obtain ⟨x', y', z'⟩ := b
 simp)
def Told' (b : Bool) (w : World) (e : Ending) (w' : World) : Prop := e = .returned (.bool b) ∧ Keep noneOf w w'
set_option maxRecDepth 100000 in
set_option maxHeartbeats 2000000 in
theorem sameGraph_any (w : World) (D D' : Nat → Prop) (v v' : Value) (ts ts' : List Tg) (h : Tgs w D v ts) (h' : Tgs w D' v' ts') :
  Calls Tryz.prog 41 #[.agg #[v], .agg #[v']] w (Told' (decide (ts.map Tg.plain = ts'.map Tg.plain)) w) := by
 have hT := h.2
 have hT' := h'.2
 obtain ⟨A, c, rfl, hlc, hcm, hn, hxl, hc⟩ := h.1
 obtain ⟨A', c', rfl, hlc', hcm', hn', hxl', hc'⟩ := h'.1
 unfold maxLen at hcm hcm'
 by_cases hl : ts.length = ts'.length
 ·
  have HC := Lib.hid hc
  have HC' := Lib.hid hc'
  have HT := Lib.hid hT
  have HT' := Lib.hid hT'
  have HL := Lib.hid hl
  rw [← hl] at hlc' ⊢
  clear hc hc' hxl hxl' hl h h' hT hT'
  generalize hR : decide (ts.map Tg.plain = ts'.map Tg.plain) = R
  have HR := Lib.hid hR
  clear hR
  have K0 : Keep noneOf w ((w.alloc (.cells #[.slice A ts.length c] 35)).alloc (.cells #[.slice A' ts.length c'] 35)) := ((Keep.refl noneOf w).alloc _).alloc _
  have x0 := (Box.new w 35 #[.slice A ts.length c]).alloc (.cells #[.slice A' ts.length c'] 35)
  have y0 := Box.new (w.alloc (.cells #[.slice A ts.length c] 35)) 35 #[.slice A' ts.length c']
  have es : (w.alloc (.cells #[.slice A ts.length c] 35)).heap.size = w.heap.size + 1 := by simp
  rw [es] at y0
  have HK0 := Lib.hid K0
  have HX0 := Lib.hid x0
  have HY0 := Lib.hid y0
  clear K0 x0 y0 es
  go_enter Tryz.func41, Tryz.ntmps41
  go_wp2
  go_loopw [5] (fun i wr => ∃ k : Nat, k ≤ ts.length ∧ i = .int .i64 k ∧ Keep noneOf w wr ∧ Box wr w.heap.size 35 #[.slice A ts.length c] ∧ Box wr (w.heap.size + 1) 35 #[.slice A' ts.length c'] ∧ (ts.take k).map Tg.plain = (ts'.take k).map Tg.plain) (fun i _ => ts.length - (intOf i).toNat)
  case atStart => exact ⟨0, Nat.zero_le _, rfl, HK0.out, HX0.out, HY0.out, rfl⟩
  case round =>
   obtain ⟨k, hk, rfl, hK, hX, hY, hall⟩ := hrel
   have HA := Lib.hid hall
   have c1 : wr.cell? ⟨w.heap.size, 0, none⟩ = some (.slice A ts.length c) := hX.cell 0
   have c2 : wr.cell? ⟨w.heap.size + 1, 0, none⟩ = some (.slice A' ts.length c') := hY.cell 0
   clear hall HK0 HX0 HY0
   by_cases hlt : k < ts.length
   ·
    have hlt' : k < ts'.length := by rw [← HL.out]; exact hlt
    obtain ⟨ad, rfl, hsp, hblk, _, hcell⟩ := HC.out (by omega)
    obtain ⟨b, o, sp⟩ := ad
    obtain ⟨ad', rfl, hsp', hblk', _, hcell'⟩ := HC'.out (by omega)
    obtain ⟨b', o', sp'⟩ := ad'
    simp only at hsp hblk hsp' hblk' hcell hcell'
    subst hsp hsp'
    have HS := Lib.hid (List.getElem?_eq_getElem hlt)
    have HS' := Lib.hid (List.getElem?_eq_getElem hlt')
    have hlies := HT.out _ (List.getElem_mem hlt)
    have hlies' := HT'.out _ (List.getElem_mem hlt')
    generalize ts[k] = t at *
    generalize ts'[k] = t' at *
    clear hlt'
    have hcc : ∀ j, j < 3 → ∀ x, t.cells[j]? = some x → wr.cell? ⟨b, o + (k * 3 + j), none⟩ = some x := fun j hj x hx =>
     (hK.cell (p := ⟨b, o + (k * 3 + j), none⟩) hblk id).trans (hcell _ x ((Nat.mul_comm k 3 ▸ cells_at HS.out j hj).trans hx))
    have hcc' : ∀ j, j < 3 → ∀ x, t'.cells[j]? = some x → wr.cell? ⟨b', o' + (k * 3 + j), none⟩ = some x := fun j hj x hx =>
     (hK.cell (p := ⟨b', o' + (k * 3 + j), none⟩) hblk' id).trans (hcell' _ x ((Nat.mul_comm k 3 ▸ cells_at HS'.out j hj).trans hx))
    have d0 : wr.cell? ⟨b, o + k * 3, none⟩ = some (.string t.name) := hcc 0 (by decide) _ rfl
    have d1 : wr.cell? ⟨b, o + k * 3 + 1, none⟩ = some (.string t.cmd) := hcc 1 (by decide) _ rfl
    have d2 : wr.cell? ⟨b, o + k * 3 + 2, none⟩ = some t.nv := hcc 2 (by decide) _ rfl
    have e0 : wr.cell? ⟨b', o' + k * 3, none⟩ = some (.string t'.name) := hcc' 0 (by decide) _ rfl
    have e1 : wr.cell? ⟨b', o' + k * 3 + 1, none⟩ = some (.string t'.cmd) := hcc' 1 (by decide) _ rfl
    have e2 : wr.cell? ⟨b', o' + k * 3 + 2, none⟩ = some t'.nv := hcc' 2 (by decide) _ rfl
    clear hcc hcc' hcell hcell'
    have ST := fun n => sameTexts_any (wr.drewN n) D D' t.nv t'.nv t.needs t'.needs ((hlies.2.2.keep hK (fun _ _ _ => id)).keep ((Keep.refl noneOf wr).drewN n) (fun _ _ _ => id)) ((hlies'.2.2.keep hK (fun _ _ _ => id)).keep ((Keep.refl noneOf wr).drewN n) (fun _ _ _ => id))
    obtain ⟨nm, cm, nv, ss⟩ := t
    obtain ⟨nm', cm', nv', ss'⟩ := t'
    simp only at d0 d1 d2 e0 e1 e2 ST
    have hv1 := hlies.2.2.1
    have hv2 := hlies'.2.2.1
    obtain ⟨B, z, hv1, _⟩ := hv1
    obtain ⟨B', z', hv2, _⟩ := hv2
    simp only at hv1 hv2
    subst hv1 hv2
    have HST : Hid (∀ n, Calls Tryz.prog 79 #[.slice B ss.length z, .slice B' ss'.length z'] (wr.drewN n) fun e w'' => e = .returned (.bool (decide (ss = ss'))) ∧ ∃ m, w'' = wr.drewN m) := fun n => Calls.quiet_of (ST n)
    generalize hq : decide (ss = ss') = q at HST
    have HQ := Lib.hid hq
    clear hlies hlies' ST hq
    cases q with
    | false =>
     have hR : R = false := by
      rw [← HR.out, decide_eq_false_iff_not]
      intro h
      have e3 := congrArg (fun l => l[k]?) h
      simp only [List.getElem?_map, HS.out, HS'.out, Option.map_some, Tg.plain, Option.some.injEq, Pt.mk.injEq] at e3
      exact absurd e3.2.2 (of_decide_eq_false HQ.out)
     subst hR
     go_wp2
     go_quiet ((go_at_call 79; exact HST.out _))
     have K1 := hK.drewN nq
     generalize wr.drewN nq = w1 at *
     go_wp2
     go_quiet (fail)
     go_wp2
     go_ret
     exact ⟨rfl, K1.drewN _⟩
    | true =>
     have hss : ss = ss' := of_decide_eq_true HQ.out
     subst hss
     go_wp2
     go_quiet ((go_at_call 79; exact HST.out _))
     have K1 := hK.drewN nq
     have X1 := hX.keep ((Keep.refl noneOf wr).drewN nq) id
     have Y1 := hY.keep ((Keep.refl noneOf wr).drewN nq) id
     replace c1 : (wr.drewN nq).cell? ⟨w.heap.size, 0, none⟩ = some (.slice (some ⟨b, o, none⟩) ts.length c) := c1
     replace c2 : (wr.drewN nq).cell? ⟨w.heap.size + 1, 0, none⟩ = some (.slice (some ⟨b', o', none⟩) ts.length c') := c2
     replace d0 : (wr.drewN nq).cell? ⟨b, o + k * 3, none⟩ = some (.string nm) := d0
     replace d1 : (wr.drewN nq).cell? ⟨b, o + k * 3 + 1, none⟩ = some (.string cm) := d1
     replace e0 : (wr.drewN nq).cell? ⟨b', o' + k * 3, none⟩ = some (.string nm') := e0
     replace e1 : (wr.drewN nq).cell? ⟨b', o' + k * 3 + 1, none⟩ = some (.string cm') := e1
     clear hK hX hY HST d2 e2
     generalize wr.drewN nq = w1 at *
     by_cases hb : nm = nm' ∧ cm = cm'
     ·
      obtain ⟨rfl, rfl⟩ := hb
      go_wp2
      go_quiet (fail)
      go_wp2
      go_roundw
      case rel =>
       refine ⟨k + 1, by omega, by go_num, K1.drewN _, X1.keep ((Keep.refl noneOf w1).drewN _) id, Y1.keep ((Keep.refl noneOf w1).drewN _) id, ?_⟩
       rw [List.take_add_one, List.take_add_one, HS.out, HS'.out, List.map_append, List.map_append, HA.out]
       rfl
      case measure => simp [intOf]; omega
     ·
      have hR : R = false := by
       rw [← HR.out, decide_eq_false_iff_not]
       intro h
       have e3 := congrArg (fun l => l[k]?) h
       simp only [List.getElem?_map, HS.out, HS'.out, Option.map_some, Tg.plain, Option.some.injEq, Pt.mk.injEq] at e3
       exact hb ⟨e3.1, e3.2.1⟩
      subst hR
      have hb' : nm ≠ nm' ∨ (nm = nm' ∧ cm ≠ cm') := by
       by_cases h1 : nm = nm'
       ·
        exact .inr ⟨h1, fun h2 => hb ⟨h1, h2⟩⟩
       ·
        exact .inl h1
      clear hb
      rcases hb' with hb | ⟨rfl, hb⟩
      ·
       have g : (nm.toList != nm'.toList) = true := by rw [bne, str_beq]; simp [hb]
       have g' : (nm.toList == nm'.toList) = false := by rw [str_beq]; simp [hb]
       clear hb
       go_wp2
       go_quiet (fail)
       go_wp2
       go_ret
       exact ⟨rfl, K1.drewN _⟩
      ·
       have g : (cm.toList != cm'.toList) = true := by rw [bne, str_beq]; simp [hb]
       have g' : (cm.toList == cm'.toList) = false := by rw [str_beq]; simp [hb]
       clear hb
       go_wp2
       go_quiet (fail)
       go_wp2
       go_ret
       exact ⟨rfl, K1.drewN _⟩
   ·
    have hR : R = true := by
     rw [← HR.out, decide_eq_true_eq]
     have e1 := HA.out
     rwa [List.take_of_length_le (by omega), List.take_of_length_le (by have := HL.out; omega)] at e1
    subst hR
    go_wp2
    go_ret
    exact ⟨rfl, hK⟩
 ·
  have hR : decide (ts.map Tg.plain = ts'.map Tg.plain) = false := by
   rw [decide_eq_false_iff_not]
   intro h
   exact hl (by simpa using congrArg List.length h)
  rw [hR]
  clear hR
  go_enter Tryz.func41, Tryz.ntmps41
  go_wp2
  go_ret
  exact ⟨rfl, ((Keep.refl _ _).alloc _).alloc _⟩
end Go.Proofs.YtffoeodjbbkdjaaGreat
