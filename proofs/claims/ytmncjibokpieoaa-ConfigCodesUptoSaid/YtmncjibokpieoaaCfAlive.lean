/-
  dockyardlaw14.alive.
-/
import Derived.Test.YtmncjibokpieoaaCfEnc
import Derived.Test.YtmncjibokpieoaaCfGrp
namespace Go.Proofs.Ytmncjibokpieoaa
open Go.RowKit

theorem zs_new (w : World) (D : Nat → Prop) {g : Nat} {t : TypeId} {zs : List Int} {cs : Array Value} (h : Box w g t cs) (hc : cs = (zs.map zv).toArray) (hm : zs.length ≤ maxLen) (hD : D g) : Zs w D (.slice (some ⟨g, 0, none⟩) zs.length zs.length) zs := by
  subst hc
  have := box_zs (rest := []) (l := zs) (c := zs.length) (by rw [List.append_nil]; exact h) (Nat.le_refl _) hm
  exact this.mono (fun i _ e => by rw [e]; exact hD)
def aliveC : Cf := ⟨[0, 2], [1]⟩
theorem alive_chk : chkP aliveC = 0 := by decide

set_option maxRecDepth 100000 in
set_option maxHeartbeats 1000000 in
theorem alive_any (w : World) : Calls Try.prog 11 #[] w (TellsB true w) := by
  have K0 : Keep noneOf w (((w.alloc (.cells #[.int .i64 0, .int .i64 2] 3)).alloc (.cells #[.int .i64 1] 3)).alloc (.cells #[.slice (some ⟨w.heap.size, 0, none⟩) 2 2, .slice (some ⟨w.heap.size + 1, 0, none⟩) 1 1] 24)) := (((Keep.refl noneOf w).alloc _).alloc _).alloc _
  have B0 := ((Box.new w 3 #[.int .i64 0, .int .i64 2]).alloc (.cells #[.int .i64 1] 3)).alloc (.cells #[.slice (some ⟨w.heap.size, 0, none⟩) 2 2, .slice (some ⟨w.heap.size + 1, 0, none⟩) 1 1] 24)
  have B1 := (Box.new (w.alloc (.cells #[.int .i64 0, .int .i64 2] 3)) 3 #[.int .i64 1]).alloc (.cells #[.slice (some ⟨w.heap.size, 0, none⟩) 2 2, .slice (some ⟨w.heap.size + 1, 0, none⟩) 1 1] 24)
  have X0 := Box.new ((w.alloc (.cells #[.int .i64 0, .int .i64 2] 3)).alloc (.cells #[.int .i64 1] 3)) 24 #[.slice (some ⟨w.heap.size, 0, none⟩) 2 2, .slice (some ⟨w.heap.size + 1, 0, none⟩) 1 1]
  rw [show (w.alloc (.cells #[.int .i64 0, .int .i64 2] 3)).heap.size = w.heap.size + 1 from by simp] at B1
  rw [show ((w.alloc (.cells #[.int .i64 0, .int .i64 2] 3)).alloc (.cells #[.int .i64 1] 3)).heap.size = w.heap.size + 1 + 1 from by simp] at X0
  have C0 : CfAt (((w.alloc (.cells #[.int .i64 0, .int .i64 2] 3)).alloc (.cells #[.int .i64 1] 3)).alloc (.cells #[.slice (some ⟨w.heap.size, 0, none⟩) 2 2, .slice (some ⟨w.heap.size + 1, 0, none⟩) 1 1] 24)) (fun _ => True) (.agg #[.slice (some ⟨w.heap.size, 0, none⟩) 2 2, .slice (some ⟨w.heap.size + 1, 0, none⟩) 1 1]) aliveC := ⟨_, _, rfl, zs_new _ _ (zs := [0, 2]) B0 rfl (by unfold maxLen; simp) trivial, zs_new _ _ (zs := [1]) B1 rfl (by unfold maxLen; simp) trivial⟩
  have HK0 := Lib.hid K0
  have HX0 := Lib.hid X0
  have HC0 := Lib.hid C0
  have HE := Lib.hid (encode_any _ _ _ _ C0)
  clear K0 B0 B1 X0 C0
  go_enter Try.func11, Try.ntmps11
  go_wp2_with fail
  refine HE.out.mono ?_
  rintro e w1 he
  rcases he with ⟨_, u, rfl, hb, k1⟩ | ⟨h0, _⟩
  rotate_left
  · rw [alive_chk] at h0; cases h0
  obtain ⟨Au, cu, rfl, _⟩ := hb
  have el : (encP aliveC).length = 5 := rfl
  rw [el]
  have x0 : True := trivial
  have x1 : True := trivial
  have HK1 := Lib.hid (HK0.out.trans k1 (fun _ _ h => h))
  have HX1 := Lib.hid (HX0.out.keep k1 id)
  have HC1 := Lib.hid (HC0.out.keepN k1)
  clear x0 x1 k1
  have x0 : w1.cell? ⟨w.heap.size + 1 + 1, 0, none⟩ = some (.slice (some ⟨w.heap.size, 0, none⟩) 2 2) := HX1.out.cell 0
  have x1 : w1.cell? ⟨w.heap.size + 1 + 1, 1, none⟩ = some (.slice (some ⟨w.heap.size + 1, 0, none⟩) 1 1) := HX1.out.cell 1
  clear HE
  have HA2 := Lib.hid (check_any w1 _ _ _ HC1.out)
  go_wp2_with fail
  refine HA2.out.mono ?_
  rintro e w2 ⟨rfl, k2⟩
  clear HA2
  have HK2 := Lib.hid (HK1.out.trans k2 (fun _ _ h => h))
  have HX2 := Lib.hid (HX1.out.keep k2 id)
  have HC2 := Lib.hid (HC1.out.keepN k2)
  clear x0 x1 k2
  have x0 : w2.cell? ⟨w.heap.size + 1 + 1, 0, none⟩ = some (.slice (some ⟨w.heap.size, 0, none⟩) 2 2) := HX2.out.cell 0
  have x1 : w2.cell? ⟨w.heap.size + 1 + 1, 1, none⟩ = some (.slice (some ⟨w.heap.size + 1, 0, none⟩) 1 1) := HX2.out.cell 1
  rw [alive_chk]
  have HA3 := Lib.hid (votes_any w2 _ _ _ 2 HC2.out)
  go_wp2_with fail
  refine HA3.out.mono ?_
  rintro e w3 ⟨rfl, k3⟩
  clear HA3
  have HK3 := Lib.hid (HK2.out.trans k3 (fun _ _ h => h))
  have HX3 := Lib.hid (HX2.out.keep k3 id)
  have HC3 := Lib.hid (HC2.out.keepN k3)
  clear x0 x1 k3
  have x0 : w3.cell? ⟨w.heap.size + 1 + 1, 0, none⟩ = some (.slice (some ⟨w.heap.size, 0, none⟩) 2 2) := HX3.out.cell 0
  have x1 : w3.cell? ⟨w.heap.size + 1 + 1, 1, none⟩ = some (.slice (some ⟨w.heap.size + 1, 0, none⟩) 1 1) := HX3.out.cell 1
  rw [show inP aliveC.v 2 = true from by decide]
  have HA4 := Lib.hid (has_any w3 _ _ _ 1 HC3.out)
  go_wp2_with fail
  refine HA4.out.mono ?_
  rintro e w4 ⟨rfl, k4⟩
  clear HA4
  have HK4 := Lib.hid (HK3.out.trans k4 (fun _ _ h => h))
  have HX4 := Lib.hid (HX3.out.keep k4 id)
  have HC4 := Lib.hid (HC3.out.keepN k4)
  clear x0 x1 k4
  have x0 : w4.cell? ⟨w.heap.size + 1 + 1, 0, none⟩ = some (.slice (some ⟨w.heap.size, 0, none⟩) 2 2) := HX4.out.cell 0
  have x1 : w4.cell? ⟨w.heap.size + 1 + 1, 1, none⟩ = some (.slice (some ⟨w.heap.size + 1, 0, none⟩) 1 1) := HX4.out.cell 1
  rw [show hasP aliveC 1 = true from by decide]
  have HA5 := Lib.hid (majority_any (w4.alloc (.cells #[.int .i64 0, .int .i64 2] 3)) _ _ _ _ _ [0, 2] (HC4.out.keepN ((Keep.refl noneOf w4).alloc (.cells #[.int .i64 0, .int .i64 2] 3))) (zs_new _ (fun _ => True) (zs := [0, 2]) (Box.new w4 3 #[.int .i64 0, .int .i64 2]) rfl (by unfold maxLen; simp) trivial) (by decide))
  go_wp2_with fail
  refine HA5.out.mono ?_
  rintro e w5 ⟨rfl, kk5⟩
  have k5 := ((Keep.refl noneOf w4).alloc (.cells #[.int .i64 0, .int .i64 2] 3)).trans kk5 (fun _ _ h => h)
  clear HA5 kk5
  have HK5 := Lib.hid (HK4.out.trans k5 (fun _ _ h => h))
  have HX5 := Lib.hid (HX4.out.keep k5 id)
  have HC5 := Lib.hid (HC4.out.keepN k5)
  clear x0 x1 k5
  have x0 : w5.cell? ⟨w.heap.size + 1 + 1, 0, none⟩ = some (.slice (some ⟨w.heap.size, 0, none⟩) 2 2) := HX5.out.cell 0
  have x1 : w5.cell? ⟨w.heap.size + 1 + 1, 1, none⟩ = some (.slice (some ⟨w.heap.size + 1, 0, none⟩) 1 1) := HX5.out.cell 1
  rw [show majP aliveC [0, 2] = true from by decide]
  have HA6 := Lib.hid (majority_any (w5.alloc (.cells #[.int .i64 0, .int .i64 1] 3)) _ _ _ _ _ [0, 1] (HC5.out.keepN ((Keep.refl noneOf w5).alloc (.cells #[.int .i64 0, .int .i64 1] 3))) (zs_new _ (fun _ => True) (zs := [0, 1]) (Box.new w5 3 #[.int .i64 0, .int .i64 1]) rfl (by unfold maxLen; simp) trivial) (by decide))
  go_wp2_with fail
  refine HA6.out.mono ?_
  rintro e w6 ⟨rfl, kk6⟩
  have k6 := ((Keep.refl noneOf w5).alloc (.cells #[.int .i64 0, .int .i64 1] 3)).trans kk6 (fun _ _ h => h)
  clear HA6 kk6
  have HK6 := Lib.hid (HK5.out.trans k6 (fun _ _ h => h))
  have HX6 := Lib.hid (HX5.out.keep k6 id)
  have HC6 := Lib.hid (HC5.out.keepN k6)
  clear x0 x1 k6
  have x0 : w6.cell? ⟨w.heap.size + 1 + 1, 0, none⟩ = some (.slice (some ⟨w.heap.size, 0, none⟩) 2 2) := HX6.out.cell 0
  have x1 : w6.cell? ⟨w.heap.size + 1 + 1, 1, none⟩ = some (.slice (some ⟨w.heap.size + 1, 0, none⟩) 1 1) := HX6.out.cell 1
  rw [show majP aliveC [0, 1] = false from by decide]
  clear x0 x1
  go_wp2
  go_ret
  exact ⟨rfl, HK6.out⟩
end Go.Proofs.Ytmncjibokpieoaa
