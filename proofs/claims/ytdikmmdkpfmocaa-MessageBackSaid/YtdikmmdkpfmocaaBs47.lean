import Derived.StillTailTactics
import Derived.Test.YtdikmmdkpfmocaaBs07
import Derived.Test.YtdikmmdkpfmocaaBs33
import Derived.Test.YtdikmmdkpfmocaaBs46
namespace Go.Proofs.Ytdikmmdkpfmocaa
open Go.RowKit Go.Shelf
def Says (Q : Prop) (w : World) (e : Ending) (w' : World) : Prop := ∃ R : Bool, e = .returned (.bool R) ∧ (R = true ↔ Q) ∧ Keep noneOf w w'
theorem sameEnt_iff (x y : En) : sameEnt x.ix x.te x.k x.da y.ix y.te y.k y.da = true ↔ x.plain = y.plain := by
  unfold sameEnt En.plain
  simp only [Bool.and_eq_true, decide_eq_true_eq, Pe.mk.injEq, and_assoc]
set_option maxRecDepth 100000 in
set_option maxHeartbeats 2000000 in
theorem sameEntries_any (w : World) (D D' : Nat → Prop) (v v' : Value) (l l' : List En) (h : Ens w D v l) (h' : Ens w D' v' l') :
    Calls Try.prog 24 #[v, v'] w (Says (l.map En.plain = l'.map En.plain) w) := by
  obtain ⟨A, c, rfl⟩ := h.shape
  obtain ⟨B, d, rfl⟩ := h'.shape
  have hm : (l.length : Int) ≤ 9223372036854775807 := by have := h.1.few; unfold maxLen at this; omega
  have HH := Lib.hid h
  have HH' := Lib.hid h'
  clear h h'
  by_cases hl : l.length = l'.length
  · rw [← hl]
    have HLL := Lib.hid hl
    clear hl
    go_enter Try.func24, Try.ntmps24
    go_wp2
    go_loopw [5] (fun i wr => ∃ (k : Nat), k ≤ l.length ∧ i = .int .i64 k ∧ Keep noneOf w wr ∧ ∀ j x y, j < k → l[j]? = some x → l'[j]? = some y → x.plain = y.plain) (fun i _ => l.length - (intOf i).toNat)
    case atStart => exact ⟨0, Nat.zero_le _, rfl, Keep.refl _ _, fun j x y hj => absurd hj (Nat.not_lt_zero _)⟩
    case round =>
      obtain ⟨k, hk, rfl, hkeep, hgood⟩ := hrel
      have HG := Lib.hid hgood
      have HKP := Lib.hid hkeep
      clear hgood
      by_cases hlt : k < l.length
      · have hx : l[k]? = some l[k] := List.getElem?_eq_getElem hlt
        have hlt' : k < l'.length := by rw [← HLL.out]; exact hlt
        have hy : l'[k]? = some l'[k] := List.getElem?_eq_getElem hlt'
        have e1 := HH.out.keep hkeep (fun _ _ _ => id)
        have e2 := HH'.out.keep hkeep (fun _ _ _ => id)
        obtain ⟨b, o, rfl, hblk, _, hcell⟩ := e1.1.cell (fun _ => rfl) hx
        obtain ⟨b', o', hB', hblk', _, hcell'⟩ := e2.1.cell (fun _ => rfl) hy
        subst hB'
        have hxl := e1.2 _ (List.getElem_mem hlt)
        have hyl := e2.2 _ (List.getElem_mem hlt')
        have HX := Lib.hid hx
        have HY := Lib.hid hy
        have HSI := Lib.hid (sameEnt_iff l[k] l'[k])
        generalize l[k] = x at *
        generalize l'[k] = y at *
        obtain ⟨c0, c1, c2, c3⟩ := en_cells hcell
        obtain ⟨d0, d1, d2, d3⟩ := en_cells hcell'
        obtain ⟨xi, xt, xk, xd, xs⟩ := x
        obtain ⟨yi, yt, yk, yd, ys⟩ := y
        have hbx := hxl.da
        have hby := hyl.da
        obtain ⟨Ax, cx, hxd, -⟩ := hxl.da
        obtain ⟨Ay, cy, hyd, -⟩ := hyl.da
        simp only at hxd hyd c0 c1 c2 c3 d0 d1 d2 d3 hbx hby
        subst hxd hyd
        have CE := Lib.hid (fun w' (kk : Keep noneOf wr w') => sameEntry_any w' _ _ xi xt yi yt xk yk _ _ xs ys (hbx.keep kk (fun _ _ _ => id)) (hby.keep kk (fun _ _ _ => id)))
        simp only at HSI
        have q0 : (0 : Int) ≤ (k : Int) := by omega
        have q1 : (k : Int) < (l.length : Int) := by omega
        generalize sameEnt xi xt xk xs yi yt yk ys = R at *
        have HKD := Lib.hid (Keep.refl noneOf wr).drew
        clear hx hy e1 e2 hcell hcell' hxl hyl hbx hby hkeep
        go_wp2_with fail
        go_still_tail 8, (by kernel_rfl)
        change wpList _ _ _ _ _ wr.drew
        go_wp2_with fail
        refine (CE.out _ HKD.out).mono ?_
        rintro e w2 ⟨rfl, k2⟩
        have HK2 := Lib.hid ((HKP.out.trans HKD.out (fun _ _ h => h)).trans k2 (fun _ _ h => h))
        clear k2 CE HKD c0 c1 c2 c3 d0 d1 d2 d3
        cases R with
        | false =>
          have HQ : Hid (false = true ↔ l.map En.plain = l'.map En.plain) := Lib.hid ⟨fun h => (by cases h), fun e => by
            have := congrArg (fun t : List Pe => t[k]?) e
            simp only [List.getElem?_map, HX.out, HY.out, Option.map_some, Option.some.injEq] at this
            exact HSI.out.2 this⟩
          go_wp2
          go_ret
          exact ⟨false, rfl, HQ.out, HK2.out⟩
        | true =>
          have HG2 : Hid (∀ j x y, j < k + 1 → l[j]? = some x → l'[j]? = some y → x.plain = y.plain) := Lib.hid (fun j x y hj h1 h2 => by
            rcases Nat.lt_succ_iff_lt_or_eq.1 hj with hj | rfl
            · exact HG.out j x y hj h1 h2
            · rw [HX.out] at h1
              rw [HY.out] at h2
              injection h1 with h1
              injection h2 with h2
              rw [← h1, ← h2]
              exact HSI.out.1 rfl)
          go_wp2
          go_roundw
          case rel => first | exact ⟨k + 1, by omega, by go_num, HK2.out, HG2.out⟩ | ((repeat apply Exists.intro); exact ⟨⟨k + 1, by omega, by go_num, HK2.out, HG2.out⟩, rfl⟩)
          case measure => simp [intOf]; omega
      · obtain rfl : k = l.length := by omega
        have HQ : Hid (l.map En.plain = l'.map En.plain) := Lib.hid (by
          apply List.ext_getElem?
          intro j
          rw [List.getElem?_map, List.getElem?_map]
          rcases Nat.lt_or_ge j l.length with hj | hj
          · have hj' : j < l'.length := by rw [← HLL.out]; exact hj
            have h1 : l[j]? = some l[j] := List.getElem?_eq_getElem hj
            have h2 : l'[j]? = some l'[j] := List.getElem?_eq_getElem _
            rw [h1, h2]
            exact congrArg some (HG.out j _ _ hj h1 h2)
          · rw [List.getElem?_eq_none hj, List.getElem?_eq_none (by rw [← HLL.out]; exact hj)])
        go_wp2
        go_ret
        exact ⟨true, rfl, ⟨fun _ => HQ.out, fun _ => rfl⟩, HKP.out⟩
  · have hlI : ((l.length : Int) != (l'.length : Int)) = true := by rw [bne_iff_ne]; omega
    have HQ : Hid (false = true ↔ l.map En.plain = l'.map En.plain) := Lib.hid ⟨fun h => (by cases h), fun e => absurd (by have := congrArg List.length e; simpa using this) hl⟩
    go_enter Try.func24, Try.ntmps24
    go_wp2
    go_ret
    exact ⟨false, rfl, HQ.out, Keep.refl _ _⟩
end Go.Proofs.Ytdikmmdkpfmocaa
