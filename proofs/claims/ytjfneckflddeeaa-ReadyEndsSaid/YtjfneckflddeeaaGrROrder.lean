/-
  dockyardref07.Order.
-/
import Derived.Test.YtjfneckflddeeaaGrRCheck
namespace Go.Proofs.Ytjfneckflddeeaa
open Go.RowKit

set_option maxRecDepth 100000 in
set_option maxHeartbeats 1000000 in
theorem refOrder_any (w : World) (D : Nat → Prop) (v : Value) (ts : List Tg) (h : Tgs w D v ts) :
    Calls Try.prog 32 #[.agg #[v]] w (ToldInts (grOrder (ts.map Tg.plain)) w) := by
  have HH := Lib.hid h
  obtain ⟨A, c, rfl, hlc, hcm, hn, hxl, hc⟩ := h.1
  unfold maxLen at hcm
  have ka := (Keep.refl noneOf w).alloc (.cells #[.slice A ts.length c] 24)
  have HK0 := Lib.hid ka
  have HX0 := Lib.hid (Box.new w 24 #[.slice A ts.length c])
  have HCK := Lib.hid (refCheck_any _ D _ ts (HH.out.keep ka (fun _ _ _ => id)))
  have EO := Lib.hid (show grOrder (ts.map Tg.plain) = if grCheck (ts.map Tg.plain) = 0 then placesOf (ts.map Tg.plain) else [] from rfl)
  clear hc h hxl hn ka
  by_cases hq : grCheck (ts.map Tg.plain) = 0
  · rw [hq] at HCK
    rw [EO.out, if_pos hq]
    obtain ⟨h32, hfew⟩ := fits_few (check_fits hq).1
    have HFEW := Lib.hid hfew
    clear hq hfew EO
    go_enter Try.func32, Try.ntmps32
    go_wp2_with fail
    refine HCK.out.mono ?_
    rintro e w1 ⟨rfl, k1⟩
    have K1 := HK0.out.trans k1 (fun _ _ h => h)
    have X1 := HX0.out.keep k1 id
    have x1 : w1.cell? ⟨w.heap.size, 0, none⟩ = some (.slice A ts.length c) := X1.cell 0
    have AR := Lib.hid (refPlaces_any w1 D _ ts (HH.out.keep K1 (fun _ _ _ => id)) HFEW.out h32)
    clear HCK HK0 HX0 k1
    go_wp2_with fail
    refine AR.out.mono ?_
    rintro e w2 ⟨v2, rfl, hi2, k2⟩
    obtain ⟨A2, c2, hv2⟩ := hi2.shape
    subst hv2
    have HI2 := Lib.hid hi2
    have HZ := Lib.hid K1.size
    have HK2 := Lib.hid (K1.trans k2 (fun _ _ h => h))
    clear hi2 k2 K1 X1 x1 AR
    go_wp2
    go_ret
    exact ⟨_, rfl, Row.mono HI2.out (fun _ _ h => Nat.le_trans HZ.out h), HK2.out⟩
  · rw [EO.out, if_neg hq]
    have g : (grCheck (ts.map Tg.plain) != 0) = true := by rw [bne_iff_ne]; exact hq
    have g' : (grCheck (ts.map Tg.plain) == 0) = false := by rw [beq_eq_false_iff_ne]; exact hq
    generalize grCheck (ts.map Tg.plain) = R at *
    clear hq EO
    go_enter Try.func32, Try.ntmps32
    go_wp2_with fail
    refine HCK.out.mono ?_
    rintro e w1 ⟨rfl, k1⟩
    have K1 := HK0.out.trans k1 (fun _ _ h => h)
    go_wp2
    go_ret
    exact ⟨_, rfl, Ints.of_own (World.ownsRow_nil _ _ 3 1), K1⟩
end Go.Proofs.Ytjfneckflddeeaa
