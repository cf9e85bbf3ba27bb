/-
  Package config: All.
-/
import Derived.Test.YtmncjibokpieoaaCfCat
namespace Go.Proofs.Ytmncjibokpieoaa
open Go.RowKit Go.Sort

/-- What is behind a call that tells numbers, wherever they lie. -/
def ReadZ (zs : List Int) (w : World) (e : Ending) (w' : World) : Prop := ∃ v, e = .returned v ∧ Zs w' (fun _ => True) v zs ∧ Keep noneOf w w'
theorem compactBox_any (w : World) (p c : Nat) (t : TypeId) (l : List Int) (rest : List Value) (h : Box w p t (l.map zv ++ rest).toArray) (hc : l.length ≤ c) (hm : c ≤ maxLen) (hl : l.length ≤ 9223372036854775807) :
    Calls Try.prog 30 #[.slice (some ⟨p, 0, none⟩) l.length c] w fun e w' => ∃ v, e = .returned v ∧ Zs w' (fun i => i = p) v (Lib.compact l) ∧ Keep (fun i => i = p) w w' := by
  have hcl : (Lib.compact l).length ≤ l.length := by
    unfold Lib.compact Lib.compactUpTo
    rw [List.length_map]
    exact Nat.le_trans (List.length_filter_le _ _) (by simp)
  refine (Try.slices_Compact_int p 0 c l w (box_holds h) hl hc).mono ?_
  rintro e w' ⟨rfl, q, rfl⟩
  have hb := heap_sortedI (n := q) (os := #[]) (Lib.compact l ++ List.replicate (l.length - (Lib.compact l).length) 0).toArray h
  rw [grow_empty, putCells_front _ _ _ (by rw [List.length_append, List.length_replicate]; omega)] at hb
  have hg := Keep.of_grown (grownBy_sortedI (w := w) (g := p) (n := q) (os := #[]) (Lib.compact l ++ List.replicate (l.length - (Lib.compact l).length) 0).toArray)
  rw [grow_empty] at hg
  refine ⟨_, rfl, ?_, hg.mono (fun i _ e => Option.some.inj e)⟩
  rw [List.map_append, List.append_assoc] at hb
  exact box_zs hb (by omega) hm

set_option maxRecDepth 100000 in
set_option maxHeartbeats 1000000 in
theorem all_any (w : World) (D : Nat → Prop) (v : Value) (c : Cf) (h : CfAt w D v c) (hf : c.v.length + c.l.length ≤ 17592186044416) :
    Calls Try.prog 9 #[v] w (ReadZ (allP (c.v ++ c.l)) w) := by
  obtain ⟨_, _, rfl, h1, h2⟩ := h
  obtain ⟨A, ca, rfl, _⟩ := h1.shape
  obtain ⟨B, cb, rfl, _⟩ := h2.shape
  have K0 := ((Keep.refl noneOf w).alloc (.cells #[.slice A c.v.length ca, .slice B c.l.length cb] 24)).alloc (.cells #[.slice A c.v.length ca, .slice B c.l.length cb] 22)
  have X1 := Box.new (w.alloc (.cells #[.slice A c.v.length ca, .slice B c.l.length cb] 24)) 22 #[.slice A c.v.length ca, .slice B c.l.length cb]
  rw [show (w.alloc (.cells #[.slice A c.v.length ca, .slice B c.l.length cb] 24)).heap.size = w.heap.size + 1 from by simp] at X1
  have HC := Lib.hid (concat_any _ (w.heap.size + 1) D _ _ c.v c.l X1 (h1.keepN K0) (h2.keepN K0) hf)
  have HK0 := Lib.hid K0
  obtain ⟨xs, hxs⟩ : ∃ xs, c.v ++ c.l = xs := ⟨_, rfl⟩
  have hxl : xs.length = c.v.length + c.l.length := by rw [← hxs, List.length_append]
  rw [hxs] at HC ⊢
  have HXL := Lib.hid (show xs.length ≤ 17592186044416 by omega)
  clear h1 h2 X1 K0 hxs hxl
  go_enter Try.func9, Try.ntmps9
  go_wp2_with fail
  refine HC.out.mono ?_
  rintro e w1 ⟨v1, rfl, ho, k1⟩
  have HK1 := Lib.hid (HK0.out.trans k1 (fun _ _ h => h))
  have hs1 := HK0.out.size
  clear k1 HC
  rcases ho.2 with ⟨rfl, hx0⟩ | ⟨g, cap, cur, rfl, hgb, hg, hle, hmx, hsz, htk⟩
  · have e0 : xs = [] := List.eq_nil_of_length_eq_zero hx0
    subst e0
    have HS := Lib.hid (Try.slices_Sort_int_none none 0 w1)
    have HCM := Lib.hid (Try.slices_Compact_int_empty none 0 w1)
    have ea : allP [] = [] := List.eq_nil_of_length_eq_zero (Nat.le_zero.1 (allP_len []))
    clear ho hx0
    go_wp2_with fail
    refine HS.out.mono ?_
    rintro e w2 ⟨rfl, rfl⟩
    go_wp2_with fail
    refine HCM.out.mono ?_
    rintro e w3 ⟨rfl, rfl⟩
    go_wp2
    go_ret
    exact ⟨_, rfl, by rw [ea]; exact Zs.nil _ _, HK1.out⟩
  · have hcur : cur = (xs.map zv ++ cur.toList.drop xs.length).toArray := by
      apply Array.ext'
      show cur.toList = _
      rw [Nat.mul_one] at htk
      conv => lhs; rw [← List.take_append_drop xs.length cur.toList, htk]
    have hbx : Box w1 g 3 (xs.map zv ++ cur.toList.drop xs.length).toArray := by rw [← hcur]; exact hg
    have HS := Lib.hid (sortBox_any w1 g cap 3 xs _ hbx (by have := HXL.out; omega))
    have hgw : w.heap.size ≤ g := by omega
    have hms : (xs.mergeSort (fun x y => decide (x ≤ y))).length = xs.length := List.length_mergeSort _
    have HMS := Lib.hid hms
    have HLE := Lib.hid hle
    have HMX := Lib.hid hmx
    clear ho hg hcur hbx htk hsz hms hle hmx
    go_wp2_with fail
    refine HS.out.mono ?_
    rintro e w2 ⟨rfl, hb2, k2⟩
    have HCM := Lib.hid (compactBox_any w2 g cap 3 (xs.mergeSort (fun x y => decide (x ≤ y))) _ hb2 (by rw [HMS.out]; exact HLE.out) HMX.out (by have := HXL.out; have := HMS.out; omega))
    rw [HMS.out] at HCM
    have HK2 := Lib.hid (HK1.out.trans k2 (fun i hi e => by omega))
    clear hb2 k2 HS
    go_wp2_with fail
    refine HCM.out.mono ?_
    rintro e w3 ⟨v3, rfl, hz, k3⟩
    obtain ⟨A3, c3, rfl, _⟩ := hz.shape
    have HK3 := Lib.hid (HK2.out.trans k3 (fun i hi e => by omega))
    have HZ := Lib.hid (show Zs w3 (fun _ => True) (.slice A3 (allP xs).length c3) (allP xs) from hz.mono (fun _ _ _ => trivial))
    clear hz k3
    unfold allP at HZ ⊢
    go_wp2
    go_ret
    exact ⟨_, rfl, HZ.out, HK3.out⟩
end Go.Proofs.Ytmncjibokpieoaa
