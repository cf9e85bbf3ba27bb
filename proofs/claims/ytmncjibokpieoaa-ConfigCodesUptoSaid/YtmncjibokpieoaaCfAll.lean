/-
  The document's answers for configurations: least, All, with, without.
-/
import Derived.Test.YtmncjibokpieoaaCfRef
import Derived.Test.YtmncjibokpieoaaCfApp
import Derived.Maps.AppendAt
namespace Go.Proofs.Ytmncjibokpieoaa
open Go.RowKit

def leastQ (above : Int) (any : Bool) (x : Int) : Bool := !any || decide (x > above)
def LeastTold (r : Option Int) (w : World) (e : Ending) (w' : World) : Prop := e = .returned (.tuple #[.int .i64 (r.getD 0), .bool r.isSome]) ∧ w = w'

set_option maxRecDepth 100000 in
set_option maxHeartbeats 1000000 in
theorem least_any (w : World) (D : Nat → Prop) (v : Value) (l : List Int) (above : Int) (any : Bool) (h : Zs w D v l) :
    Calls Try.prog 31 #[v, .int .i64 above, .bool any] w (LeastTold (leastP (leastQ above any) l) w) := by
  obtain ⟨A, c, rfl, hlc, hcm, _⟩ := h.shape
  unfold maxLen at hcm
  have HC := Lib.hid h
  generalize hR : leastP (leastQ above any) l = R
  have HR := Lib.hid hR
  clear h hR
  go_enter Try.func31, Try.ntmps31
  go_wp2
  go_loop [8, 9, 10] (fun x f i => ∃ (k : Nat) (acc : Option Int), k ≤ l.length ∧ i = .int .i64 k ∧ x = .int .i64 (acc.getD 0) ∧ f = .bool acc.isSome ∧ leastP (leastQ above any) (l.take k) = acc) (fun _ _ i => l.length - (intOf i).toNat)
  case atStart => exact ⟨0, none, Nat.zero_le _, rfl, rfl, rfl, rfl⟩
  case round =>
    obtain ⟨k, acc, hk, rfl, rfl, rfl, hacc⟩ := hrel
    have HA := Lib.hid hacc
    clear hacc
    by_cases hlt : k < l.length
    · obtain ⟨b, o, rfl, hblk, hD, c0⟩ := HC.out.cell hlt
      have HM := Lib.hid (least_more (leastQ above any) hlt)
      rw [HA.out] at HM
      unfold leastStep at HM
      generalize l[k] = m at *
      have q0 : (0 : Int) ≤ (k : Int) := by omega
      have q1 : (k : Int) < (l.length : Int) := by omega
      cases any with
      | false =>
        cases acc with
        | none =>
          have HM2 := Lib.hid (HM.out.trans (if_pos ⟨rfl, fun m hm => by cases hm⟩))
          simp only [Option.getD_none, Option.isSome_none]
          clear HM
          go_wp2
          go_round
          case rel => exact ⟨k + 1, some m, by omega, by go_num, rfl, rfl, HM2.out⟩
          case measure => simp [intOf]; omega
        | some n =>
          simp only [Option.getD_some, Option.isSome_some]
          by_cases hmn : m < n
          · have HM2 := Lib.hid (HM.out.trans (if_pos ⟨rfl, fun t ht => by cases ht; exact hmn⟩))
            clear HM
            go_wp2
            go_round
            case rel => exact ⟨k + 1, some m, by omega, by go_num, rfl, rfl, HM2.out⟩
            case measure => simp [intOf]; omega
          · have HM2 := Lib.hid (HM.out.trans (if_neg (fun e => hmn (e.2 n rfl))))
            clear HM
            go_wp2
            go_round
            case rel => exact ⟨k + 1, some n, by omega, by go_num, rfl, rfl, HM2.out⟩
            case measure => simp [intOf]; omega
      | true =>
        by_cases hab : m > above
        · have HQ : Hid (leastQ above true m = true) := decide_eq_true hab
          cases acc with
          | none =>
            have HM2 := Lib.hid (HM.out.trans (if_pos ⟨HQ.out, fun m hm => by cases hm⟩))
            simp only [Option.getD_none, Option.isSome_none]
            clear HM
            go_wp2
            go_round
            case rel => exact ⟨k + 1, some m, by omega, by go_num, rfl, rfl, HM2.out⟩
            case measure => simp [intOf]; omega
          | some n =>
            simp only [Option.getD_some, Option.isSome_some]
            by_cases hmn : m < n
            · have HM2 := Lib.hid (HM.out.trans (if_pos ⟨HQ.out, fun t ht => by cases ht; exact hmn⟩))
              clear HM
              go_wp2
              go_round
              case rel => exact ⟨k + 1, some m, by omega, by go_num, rfl, rfl, HM2.out⟩
              case measure => simp [intOf]; omega
            · have HM2 := Lib.hid (HM.out.trans (if_neg (fun e => hmn (e.2 n rfl))))
              clear HM
              go_wp2
              go_round
              case rel => exact ⟨k + 1, some n, by omega, by go_num, rfl, rfl, HM2.out⟩
              case measure => simp [intOf]; omega
        · have HM2 := Lib.hid (HM.out.trans (if_neg (fun e => hab (of_decide_eq_true e.1))))
          clear HM
          cases acc with
          | none =>
            simp only [Option.getD_none, Option.isSome_none]
            go_wp2
            go_round
            case rel => exact ⟨k + 1, none, by omega, by go_num, rfl, rfl, HM2.out⟩
            case measure => simp [intOf]; omega
          | some n =>
            simp only [Option.getD_some, Option.isSome_some]
            go_wp2
            go_round
            case rel => exact ⟨k + 1, some n, by omega, by go_num, rfl, rfl, HM2.out⟩
            case measure => simp [intOf]; omega
    · obtain rfl : k = l.length := by omega
      have hE : acc = R := by rw [← HR.out, ← HA.out, List.take_length]
      subst hE
      go_wp2
      go_ret2
      exact ⟨rfl, rfl⟩

def sliceLen : Value → Nat
  | .slice _ n _ => n
  | _ => 0
/-- What is behind a call that tells numbers of its own. -/
def ToldZ (zs : List Int) (w : World) (e : Ending) (w' : World) : Prop := ∃ v, e = .returned v ∧ w'.ownsRow w.heap.size 3 1 v zs.length (zs.map zv) ∧ Keep noneOf w w'
theorem take_map_at {zs : List Int} {k : Nat} (hk : k < zs.length) : (zs.take (k + 1)).map zv = (zs.take k).map zv ++ [zv zs[k]] := by
  rw [List.take_add_one, List.getElem?_eq_getElem hk]
  simp only [Option.toList_some, List.map_append, List.map_cons, List.map_nil]

set_option maxRecDepth 100000 in
set_option maxHeartbeats 1000000 in
theorem rwo_any (w : World) (D : Nat → Prop) (v : Value) (l : List Int) (n : Int) (h : Zs w D v l) (hfew : l.length ≤ 17592186044416) :
    Calls Try.prog 43 #[v, .int .i64 n] w (ToldZ (woP l n) w) := by
  obtain ⟨A, c, rfl, hlc, hcm, _⟩ := h.shape
  unfold maxLen at hcm
  have HC := Lib.hid h
  obtain ⟨i0, hi0, hz0, hz1, hz2⟩ := info_parts intinfo
  clear h
  go_enter Try.func43, Try.ntmps43
  go_wp2
  go_loopw [5, 6] (fun pl i wr => ∃ (k : Nat) (ys : List Int), k ≤ l.length ∧ i = .int .i64 k ∧ ys = woP (l.take k) n ∧ Keep noneOf w wr ∧ wr.ownsRow w.heap.size 3 1 pl ys.length (ys.map zv)) (fun _ i _ => l.length - (intOf i).toNat)
  case atStart => exact ⟨0, [], Nat.zero_le _, rfl, rfl, Keep.refl _ _, World.ownsRow_nil _ _ _ _⟩
  case round =>
    obtain ⟨k, ys, hk, rfl, hys, hkw, hown⟩ := hrel
    have HKW := Lib.hid hkw
    have HOWN := Lib.hid hown
    have HYS := Lib.hid hys
    have hsz := hkw.size
    have hyl : ys.length ≤ k := by rw [hys]; exact Nat.le_trans (List.length_filter_le _ _) (List.length_take_le _ _)
    clear hys hown
    by_cases hlt : k < l.length
    · obtain ⟨b, o, rfl, hblk, hD, hc0⟩ := HC.out.cell hlt
      have c0 : wr.cell? ⟨b, o + k, none⟩ = some (.int .i64 l[k]) := (hkw.cell (p := ⟨b, o + k, none⟩) hblk id).trans hc0
      have HS := Lib.hid (show woP (l.take (k + 1)) n = woP (l.take k) n ++ (if l[k] ≠ n then [l[k]] else []) by
        rw [List.take_add_one, List.getElem?_eq_getElem hlt]
        unfold woP
        simp only [Option.toList_some, List.filter_append]
        congr 1
        by_cases e : l[k] = n
        · simp [e]
        · simp [e])
      generalize l[k] = m at *
      have q0 : (0 : Int) ≤ (k : Int) := by omega
      have q1 : (k : Int) < (l.length : Int) := by omega
      clear hkw hc0
      by_cases hmn : m = n
      · have g : (m != n) = false := by simp [hmn]
        rw [if_neg (fun e => e hmn), List.append_nil, ← HYS.out] at HS
        clear hmn
        go_wp2
        go_roundw
        case rel => exact ⟨k + 1, ys, by omega, by go_num, HS.out.symm, HKW.out, HOWN.out⟩
        case measure => simp [intOf]; omega
      · have g : (m != n) = true := by simp [hmn]
        rw [if_pos hmn, ← HYS.out] at HS
        clear hmn
        go_wp2_with (at_builtin; refine wpList_append_own _ rfl _ _ 22 rfl w.heap.size 3 i0 _ 1 8 Try.underlying22 hi0 hz0 hz1 hz2 rfl (by decide) _ _ _ rfl (HOWN.out.alloc _) ⟨wr.heap.size, 0, none⟩ 1 1 [zv m] rfl rfl (cell_one_new _ _ _) (by simp [Value.oneCell', zv]) (by unfold maxLen; omega) (by omega) (by simp; omega) ?_; intro v' w2 hown' hgrow _)
        have kg := Keep.of_grown hgrow
        have ka : Keep noneOf wr (wr.alloc (.cells #[.int .i64 m] 3)) := (Keep.refl noneOf wr).alloc _
        have hno : ∀ j, some j = u5.ownBlock → w.heap.size ≤ j := fun j hj => (HOWN.out.lt j hj.symm).1
        have HK2 := Lib.hid (show Keep noneOf w w2 from (HKW.out.trans ka (fun _ _ h => h)).trans kg (fun j hj hs => absurd (hno j hs) (by omega)))
        have HO2 := Lib.hid hown'
        clear kg ka hno hown' hgrow
        go_roundw
        case rel =>
          refine ⟨k + 1, ys ++ [m], by omega, by go_num, HS.out.symm, HK2.out, ?_⟩
          rw [List.length_append, List.map_append]
          exact HO2.out
        case measure => simp [intOf]; omega
    · obtain rfl : k = l.length := by omega
      rw [List.take_length] at HYS
      obtain rfl := HYS.out
      obtain ⟨A3, c3, hv3⟩ := own_shape HOWN.out
      subst hv3
      clear hkw
      go_wp2
      go_ret
      exact ⟨_, rfl, HOWN.out, HKW.out⟩

set_option maxRecDepth 100000 in
set_option maxHeartbeats 1000000 in
theorem rall_any (w : World) (D : Nat → Prop) (v : Value) (c : Cf) (h : CfAt w D v c) (hfew : c.v.length + c.l.length ≤ 17592186044416) :
    Calls Try.prog 10 #[v] w (ToldZ (allP (c.v ++ c.l)) w) := by
  obtain ⟨a, b, rfl, h1, h2⟩ := h
  obtain ⟨A, ca, rfl, hla, hma, _⟩ := h1.shape
  obtain ⟨B, cb, rfl, hlb, hmb, _⟩ := h2.shape
  unfold maxLen at hma hmb
  have K0 := (Keep.refl noneOf w).alloc (.cells #[.slice A c.v.length ca, .slice B c.l.length cb] 24)
  have X0 := Box.new w 24 #[.slice A c.v.length ca, .slice B c.l.length cb]
  have HX0 := Lib.hid X0
  have HK0 := Lib.hid K0
  have x0 : (w.alloc (.cells #[.slice A c.v.length ca, .slice B c.l.length cb] 24)).cell? ⟨w.heap.size, 0, none⟩ = some (.slice A c.v.length ca) := X0.cell 0
  have x1 : (w.alloc (.cells #[.slice A c.v.length ca, .slice B c.l.length cb] 24)).cell? ⟨w.heap.size, 1, none⟩ = some (.slice B c.l.length cb) := X0.cell 1
  have H1 := Lib.hid (h1.keepN K0)
  have H2 := Lib.hid (h2.keepN K0)
  obtain ⟨i0, hi0, hz0, hz1, hz2⟩ := info_parts intinfo
  obtain ⟨xs, hxs⟩ : ∃ xs, c.v ++ c.l = xs := ⟨_, rfl⟩
  have hxl : xs.length = c.v.length + c.l.length := by rw [← hxs, List.length_append]
  have HXS := Lib.hid hxs
  have HXL := Lib.hid hxl
  rw [hxs]
  clear hxs hxl
  clear h1 h2 X0 K0
  go_enter Try.func10, Try.ntmps10
  go_wp2
  generalize w.alloc (.cells #[.slice A c.v.length ca, .slice B c.l.length cb] 24) = w0 at *
  have MC : Hid (∀ w', Keep noneOf w0 w' → w'.cell? ⟨w.heap.size, 0, none⟩ = some (.slice A c.v.length ca) ∧ w'.cell? ⟨w.heap.size, 1, none⟩ = some (.slice B c.l.length cb)) := fun w' k => ⟨(HX0.out.keep k id).cell 0, (HX0.out.keep k id).cell 1⟩
  have KZ := (Keep.refl noneOf w0).drew
  refine wp_region_held_drew (S := fun w' => Keep noneOf w0 w') (by kernel_rfl) (KZ) (fun hHeld => ?_)
  refine' wpAnyH_take (i := 1) (v := _) rfl (by kernel_rfl) (by kernel_rfl) (by kernel_rfl) (fun _ _ _ h => h) (Or.inl ⟨by kernel_rfl, ?hy1⟩) (by assumption) ?_
  case hy1 => intro w' hSw; obtain ⟨_, _⟩ := MC.out w' hSw; go_simp; try with_reducible rfl
  simp only [Act.put, List.getElem_toArray, List.getElem_cons_zero, List.getElem_cons_succ, List.setIfInBounds_toArray, List.set_cons_zero, List.set_cons_succ]
  refine' wpAnyH_take (i := 2) (v := _) rfl (by kernel_rfl) (by kernel_rfl) (by kernel_rfl) (fun _ _ _ h => h) (Or.inl ⟨by kernel_rfl, ?hy2⟩) (by assumption) ?_
  case hy2 => intro w' hSw; obtain ⟨_, _⟩ := MC.out w' hSw; go_simp; try with_reducible rfl
  simp only [Act.put, List.getElem_toArray, List.getElem_cons_zero, List.getElem_cons_succ, List.setIfInBounds_toArray, List.set_cons_zero, List.set_cons_succ]
  refine' wpAnyH_take (i := 4) (v := _) rfl (by kernel_rfl) (by kernel_rfl) (by kernel_rfl) (fun _ _ _ h => h) (Or.inl ⟨by kernel_rfl, ?hy4⟩) (by assumption) ?_
  case hy4 => intro w' hSw; obtain ⟨_, _⟩ := MC.out w' hSw; go_simp; try with_reducible rfl
  simp only [Act.put, List.getElem_toArray, List.getElem_cons_zero, List.getElem_cons_succ, List.setIfInBounds_toArray, List.set_cons_zero, List.set_cons_succ]
  refine' wpAnyH_take (i := 5) (v := _) rfl (by kernel_rfl) (by kernel_rfl) (by kernel_rfl) (fun _ _ _ h => h) (Or.inl ⟨by kernel_rfl, ?hy5⟩) (by assumption) ?_
  case hy5 => intro w' hSw; obtain ⟨_, _⟩ := MC.out w' hSw; go_simp; try with_reducible rfl
  simp only [Act.put, List.getElem_toArray, List.getElem_cons_zero, List.getElem_cons_succ, List.setIfInBounds_toArray, List.set_cons_zero, List.set_cons_succ]
  refine wpAnyH_ready (rs := [0]) (by kernel_rfl) (by simp) (AllReadyH.cons rfl (fun K hK => ?_) AllReadyH.nil)
  go_simp
  have OM : ((w0.alloc (.cells #[] 3)).drew).ownsRow w0.heap.size 3 1 (.slice (some ⟨w0.heap.size, 0, none⟩) 0 0) 0 [] := World.ownsRow_made w0 #[] 0 (Nat.le_refl _) (Nat.zero_le _) rfl
  have KA : Keep noneOf w0 ((w0.alloc (.cells #[] 3)).drew) := ((Keep.refl noneOf w0).alloc _).drew
  refine hK.out _ _ (KA) (fun hHeld => ?_)
  clear hK K
  try simp only [Act.put, List.getElem_toArray, List.getElem_cons_zero, List.getElem_cons_succ, List.setIfInBounds_toArray, List.set_cons_zero, List.set_cons_succ]
  refine wpAnyH_ready (rs := [3]) (by kernel_rfl) (by simp) (AllReadyH.cons rfl (fun K hK => ?_) AllReadyH.nil)
  refine step_append_zs _ w0.heap.size KA.size rfl _ _ 22 rfl 3 i0 _ Try.underlying22 hi0 hz0 hz1 hz2 rfl _ _ [] c.v D rfl rfl OM (H1.out.keepN KA) (by simp; omega) ?_
  intro v1 w1 hown1 hg1
  rw [List.nil_append] at hown1
  have K1 := KA.grown hg1 OM
  refine hK.out _ _ (K1) (fun hHeld => ?_)
  clear hK K
  try simp only [Act.put, List.getElem_toArray, List.getElem_cons_zero, List.getElem_cons_succ, List.setIfInBounds_toArray, List.set_cons_zero, List.set_cons_succ]
  refine wpAnyH_ready (rs := [6]) (by kernel_rfl) (by simp) (AllReadyH.cons rfl (fun K hK => ?_) AllReadyH.nil)
  refine step_append_zs _ w0.heap.size K1.size rfl _ _ 22 rfl 3 i0 _ Try.underlying22 hi0 hz0 hz1 hz2 rfl _ _ c.v c.l D rfl rfl hown1 (H2.out.keepN K1) (by omega) ?_
  intro v2 w2 hown2 hg2
  have K2 := K1.grown hg2 hown1
  rw [HXS.out] at hown2
  obtain ⟨A2, c2, hv2⟩ := own_shape hown2
  subst hv2
  refine hK.out _ _ (K2) (fun hHeld => ?_)
  clear hK K
  try simp only [Act.put, List.getElem_toArray, List.getElem_cons_zero, List.getElem_cons_succ, List.setIfInBounds_toArray, List.set_cons_zero, List.set_cons_succ]
  refine wpAnyH_ready (rs := [7]) (by kernel_rfl) (by simp) (AllReadyH.cons rfl (fun K hK => ?_) AllReadyH.nil)
  go_simp
  refine hK.out _ _ (hHeld) (fun hHeld => ?_)
  clear hK K
  try simp only [Act.put, List.getElem_toArray, List.getElem_cons_zero, List.getElem_cons_succ, List.setIfInBounds_toArray, List.set_cons_zero, List.set_cons_succ]
  refine wpAnyH_done (by kernel_rfl) ?_ _
  have hfx : xs.length ≤ 17592186044416 := by rw [HXL.out]; exact hfew
  have HZ := Lib.hid (Zs.of_own hown2)
  have KK2 : Keep noneOf w w2 := HK0.out.trans K2 (fun _ _ h => h)
  have HKK2 := Lib.hid KK2
  have HL0 := Lib.hid (least_any w2 _ _ xs 0 false HZ.out)
  have e0 : leastP (leastQ 0 false) xs = (allP xs)[0]? := least_first xs
  rw [e0] at HL0
  have HLN : Hid (∀ (w' : World) (k : Nat) (hk : k < (allP xs).length), Keep noneOf w2 w' → Calls Try.prog 31 #[.slice A2 xs.length c2, .int .i64 (allP xs)[k], .bool true] w' (LeastTold (allP xs)[k + 1]? w')) := fun w' k hk kk => by
    rw [← least_next xs hk]
    exact least_any w' _ _ xs (allP xs)[k] true (HZ.out.keepN kk)
  have hal : (allP xs).length ≤ xs.length := allP_len xs
  generalize allP xs = S at *
  clear e0 KA OM K1 K2 hown1 hown2 hg1 hg2 hHeld KZ MC HX0 H1 H2 KK2
  go_wp2_with fail
  refine HL0.out.mono ?_
  rintro e w3 ⟨rfl, rfl⟩
  go_wp2
  go_loopw [4, 5, 6] (fun pl n is wr => ∃ k : Nat, k ≤ S.length ∧ n = .int .i64 (S[k]?.getD 0) ∧ is = .bool S[k]?.isSome ∧ Keep noneOf w2 wr ∧ wr.ownsRow w2.heap.size 3 1 pl (S.take k).length ((S.take k).map zv)) (fun pl _ _ _ => S.length - sliceLen pl)
  case atStart => exact ⟨0, Nat.zero_le _, rfl, rfl, Keep.refl _ _, World.ownsRow_nil _ _ _ _⟩
  case round =>
    obtain ⟨k, hk, rfl, rfl, hkw, hown⟩ := hrel
    obtain ⟨A4, c4, hv4⟩ := own_shape hown
    subst hv4
    have htl : (S.take k).length = k := by rw [List.length_take]; omega
    have HTL := Lib.hid htl
    rw [htl] at hown ⊢
    have HOWN := Lib.hid hown
    have HKW := Lib.hid hkw
    by_cases hlt : k < S.length
    · rw [List.getElem?_eq_getElem hlt]
      have HN := Lib.hid (HLN.out)
      have HTA := Lib.hid (take_map_at hlt)
      have HNX := Lib.hid (fun (w' : World) (kk : Keep noneOf w2 w') => HLN.out w' k hlt kk)
      simp only [Option.getD_some, Option.isSome_some]
      generalize S[k] = m at *
      have hsz := hkw.size
      clear hown hkw htl HN
      go_wp2_with (at_builtin; refine wpList_append_own _ rfl _ _ 22 rfl w2.heap.size 3 i0 _ 1 8 Try.underlying22 hi0 hz0 hz1 hz2 rfl (by decide) _ _ _ rfl (HOWN.out.alloc _) ⟨wr.heap.size, 0, none⟩ 1 1 [zv m] rfl rfl (cell_one_new _ _ _) (by simp [Value.oneCell', zv]) (by unfold maxLen; omega) (by omega) (by simp; omega) ?_; intro v' w4 hown' hgrow _)
      have HK4 := Lib.hid ((HKW.out.alloc (.cells #[.int .i64 m] 3)).grown hgrow (HOWN.out.alloc _))
      rw [← HTA.out] at hown'
      obtain ⟨A5, c5, hv5⟩ := own_shape hown'
      subst hv5
      have HO4 := Lib.hid hown'
      have HNY := Lib.hid (HNX.out w4 HK4.out)
      clear hown' hgrow
      go_wp2_with fail
      refine HNY.out.mono ?_
      rintro e w5 ⟨rfl, rfl⟩
      go_wp2
      go_roundw
      case rel => exact ⟨k + 1, by omega, rfl, rfl, HK4.out, by have := HO4.out; rwa [show (S.take (k + 1)).length = k + 1 by rw [List.length_take]; omega]⟩
      case measure => simp [sliceLen]; omega
    · obtain rfl : k = S.length := by omega
      rw [List.getElem?_eq_none (Nat.le_refl _)]
      simp only [Option.getD_none, Option.isSome_none]
      rw [List.take_length] at HOWN
      clear hown hkw
      go_wp2
      go_ret
      exact ⟨_, rfl, own_base HOWN.out HKK2.out.size, HKK2.out.trans HKW.out (fun _ _ h => h)⟩
end Go.Proofs.Ytmncjibokpieoaa
