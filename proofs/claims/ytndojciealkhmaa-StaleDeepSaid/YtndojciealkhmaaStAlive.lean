/-
  dockyardlaw08.alive: answers that the document fixes.
-/
import Derived.Test.YtndojciealkhmaaStRFresh
import Derived.Shelf.Abstract
import Derived.Test.YtndojciealkhmaaHeld
namespace Go.Proofs.Ytndojciealkhmaa
open Go.RowKit

def sa : ByteArray := ⟨#[97]⟩
def sv : ByteArray := ⟨#[]⟩
/-- The graph that is asked. -/
def alivePs : List Pt := [⟨sa, sv, []⟩]
theorem alive_order : grOrder alivePs = [0] := by decide +kernel
theorem alive_needs : needsAt alivePs ((0 : Nat) : Int) = [] := by decide +kernel
theorem alive_keys : grKeys alivePs = [keyN sv []] := by
  unfold grKeys
  rw [alive_order]
  show [keyAt alivePs [0] 0] = _
  unfold keyAt
  rw [alive_needs]
  rfl
theorem alive_fresh : grFresh alivePs (fun _ => true) = [true] := by
  unfold grFresh
  rw [alive_order]
  show [freshAt alivePs (grKeys alivePs) (fun _ => true) [false] 0] = _
  unfold freshAt
  rw [alive_needs]
  rfl
theorem Kys.nil (w : World) (D : Nat → Prop) : Kys w D (.slice none 0 0) [] :=
  ⟨⟨none, 0, rfl, Nat.le_refl _, Nat.zero_le _, fun _ => rfl, rfl, fun h => absurd h (by simp)⟩, fun k hk => by cases hk⟩

/-- Its targets, in memory. -/
def aliveTs : List Tg := [⟨sa, sv, .slice none 0 0, []⟩]
theorem alive_plain : aliveTs.map Tg.plain = alivePs := rfl
theorem alive_tgs {w : World} {q : Nat} (hq : Box w q 44 #[.string sa, .string sv, .slice none 0 0]) :
    Tgs w (fun _ => True) (.slice (some ⟨q, 0, none⟩) 1 1) aliveTs := by
  have m4 : (4 : Nat) ≤ maxLen := by unfold maxLen; decide
  refine ⟨⟨some ⟨q, 0, none⟩, 1, rfl, Nat.le_refl 1, Nat.le_trans (by decide) m4, fun e => (by cases e), rfl, fun _ => ⟨⟨q, 0, none⟩, rfl, rfl, hq.lt, trivial, fun j x hx => ?_⟩⟩, fun t ht => ?_⟩
  · show w.cell? ⟨q, 0 + j, none⟩ = some x
    rw [Nat.zero_add, hq.cell]
    simpa [aliveTs, Tg.cells] using hx
  · have ht' : t = ⟨sa, sv, .slice none 0 0, []⟩ := by simpa [aliveTs] using ht
    subst ht'
    exact ⟨Nat.le_trans (show 1 ≤ 4 by decide) m4, Nat.zero_le _, ⟨none, 0, rfl, Nat.le_refl 0, Nat.zero_le _, fun _ => rfl, rfl, fun h => absurd h (Nat.lt_irrefl 0)⟩, fun s hs => by cases hs⟩

theorem can_call_alive : CanCall 27 := enters_of Try.func27 (by kernel_rfl) rfl
theorem tells_alive (w : World) : Tells 27 #[] (fun _ => true) w := by
  intro W x _ _
  show Calls Try.prog 27 #[.int .u64 (x : Int)] W _
  go_enter Try.func27, Try.ntmps27
  go_wp2
  go_ret
  exact ⟨rfl, rfl⟩

set_option maxRecDepth 100000 in
set_option maxHeartbeats 1000000 in
theorem alive_any (w : World) : Calls Try.prog 9 #[] w fun e w' => e = .returned (.bool true) ∧ Keep noneOf w w' := by
  have q0 := (Box.new w 44 #[.string sa, .string sv, .slice none 0 0]).alloc (.cells #[.slice (some ⟨w.heap.size, 0, none⟩) 1 1] 24)
  have x0 := Box.new (w.alloc (.cells #[.string sa, .string sv, .slice none 0 0] 44)) 24 #[.slice (some ⟨w.heap.size, 0, none⟩) 1 1]
  rw [show (w.alloc (.cells #[.string sa, .string sv, .slice none 0 0] 44)).heap.size = w.heap.size + 1 from by simp] at x0
  have k0 := ((Keep.refl noneOf w).alloc (.cells #[.string sa, .string sv, .slice none 0 0] 44)).alloc (.cells #[.slice (some ⟨w.heap.size, 0, none⟩) 1 1] 24)
  have t0 := alive_tgs q0
  have KE := keys_any _ _ _ _ t0
  rw [alive_plain, alive_keys] at KE
  have HKE := Lib.hid KE
  have HX0 := Lib.hid x0
  have HT0 := Lib.hid t0
  have HK0 := Lib.hid k0
  have HEF := Lib.hid alive_fresh
  have HRK : Hid (∀ w', Calls Try.prog 11 #[.string sv, .slice none 0 0] w' fun e w'' => e = .returned (.int .u64 (keyN sv [] : Int)) ∧ Keep noneOf w' w'') := Lib.hid fun w' => refKey_any w' noneOf sv _ [] (by decide) (Kys.nil _ _)
  generalize keyN sv [] = q at *
  clear q0 x0 k0 t0 KE
  go_enter Try.func9, Try.ntmps9
  go_wp2_with fail
  refine HKE.out.mono ?_
  rintro e w1 ⟨A1, c1, rfl, o1, k1⟩
  have X1 := HX0.out.keep k1 id
  have K1 := HK0.out.trans k1 (fun _ _ h => h)
  have x1 : w1.cell? ⟨w.heap.size + 1, 0, none⟩ = some (.slice (some ⟨w.heap.size, 0, none⟩) 1 1) := X1.cell 0
  have T1 := HT0.out.keep k1 (fun _ _ _ => id)
  have FR := fresh_any w1 _ _ _ T1 _ #[] can_call_alive _ (tells_alive w1)
  rw [alive_plain, HEF.out] at FR
  have HFR := Lib.hid FR
  have HO1 := Lib.hid o1
  have HK1 := Lib.hid K1
  clear HKE HX0 HT0 HK0 k1 FR T1 X1 K1 o1 HEF
  go_wp2_with fail
  refine HFR.out.mono ?_
  rintro e w2 ⟨A2, c2, rfl, o2, k2⟩
  obtain ⟨A', c', hv', _, _, _, _, hr2⟩ := o2
  obtain ⟨rfl, rfl⟩ : A2 = A' ∧ c2 = c' := by simpa using hv'
  obtain ⟨ad, rfl, hsp, hblk, _, hcell⟩ := hr2 (by decide)
  obtain ⟨g2, o2, sp⟩ := ad
  simp only at hsp hblk hcell
  subst hsp
  have r2 : w2.cell? ⟨g2, o2, none⟩ = some (.bool true) := hcell 0 _ rfl
  obtain ⟨⟨A3, c3, hv3, _, _, _, _, hr3⟩, _⟩ := HO1.out.keep k2 (fun _ _ _ => id)
  obtain ⟨rfl, rfl⟩ : A1 = A3 ∧ c1 = c3 := by simpa using hv3
  obtain ⟨ad3, rfl, hsp3, hblk3, _, hcell3⟩ := hr3 (by simp)
  obtain ⟨g3, o3, sp3⟩ := ad3
  simp only at hsp3 hblk3 hcell3
  subst hsp3
  have r3 : w2.cell? ⟨g3, o3, none⟩ = some (.int .u64 (q : Int)) := hcell3 0 _ rfl
  have K2 := HK1.out.trans k2 (fun _ _ h => h)
  have HK2 := Lib.hid K2
  have MK : Hid (∀ w', Keep noneOf w2 w' → w'.cell? ⟨g2, o2, none⟩ = some (.bool true) ∧ w'.cell? ⟨g3, o3, none⟩ = some (.int .u64 (q : Int))) := Lib.hid fun w' k' =>
    ⟨(k'.cell (p := ⟨g2, o2, none⟩) hblk id).trans r2, (k'.cell (p := ⟨g3, o3, none⟩) hblk3 id).trans r3⟩
  have K00 := Keep.refl noneOf w2
  simp only [List.length_cons, List.length_nil, Nat.zero_add]
  clear hcell hcell3 hr2 hr3 hv' hv3 HFR HO1 HK1 k2 K2
  go_wp2
  refine wp_region_in (fun w' => Keep noneOf w2 w' ∧ w'.cell? ⟨g2, o2, none⟩ = some (.bool true) ∧ w'.cell? ⟨g3, o3, none⟩ = some (.int .u64 (q : Int))) (by kernel_rfl) (by kernel_rfl) ⟨K00.drew, MK.out _ K00.drew⟩ ?_
  repeat
    first
    | go_big_quiet_skip
    | go_big_quiet_want
      go_big_quiet_op
      go_big_quiet_on
    | go_big_quiet_want
      apply quiet_calls
      case he => intro w'; go_simp; exact ⟨rfl, rfl⟩
      case h =>
        intro w' hw'
        go_at_call 11
        refine (HRK.out w').mono ?_
        rintro e w'' ⟨rfl, k''⟩
        exact ⟨rfl, Keep.trans hw'.1 k'' (fun _ _ h => h), MK.out _ (Keep.trans hw'.1 k'' (fun _ _ h => h))⟩
      simp only [Act.put, List.setIfInBounds_toArray, List.set_cons_zero, List.set_cons_succ]
      go_big_quiet_on
    | go_big_quiet_want
      apply quiet_reads
      case h =>
        intro w' hw'
        try dsimp only at hw'
        go_split_ands
        go_simp
        rfl
      simp only [Act.put, List.setIfInBounds_toArray, List.set_cons_zero, List.set_cons_succ]
      go_big_quiet_on
  refine wpQuiet_nil ?_
  intro w9 hw9
  have HK9 := Lib.hid (HK2.out.trans hw9.1 (fun _ _ h => h))
  clear hw9 K00 MK HK2 HRK
  go_wp2
  go_ret
  exact ⟨rfl, HK9.out⟩
end Go.Proofs.Ytndojciealkhmaa
