/-
  Proved: dockyardlaw11.SessionLoads answers true for every input that can be read, and leaves its arguments as they were. No conditions.
-/
import Derived.Test.YtimnehgonlohcaaSsLoad
namespace Go.Proofs.Ytimnehgonlohcaa
open Go.ChangeShapes Go.WideShapes Go.ChangeAt Go.RowKit

set_option maxRecDepth 100000 in
set_option maxHeartbeats 4000000 in
theorem loads_walk (w : World) (A : Option Addr) (c : Nat) (l : List Ro) (A1 : Option Addr) (c1 : Nat) (cs : List Cl) (hl : Ros w (fun _ => True) (.slice A l.length c) l) (hc : Cls w (fun _ => True) (.slice A1 cs.length c1) cs) :
    Calls Try.prog 4 #[.slice A l.length c, .slice A1 cs.length c1] w (TellsB true w) := by
  have LW := Lib.hid (load_any w _ _ l hl.1 hl.2)
  have HL := Lib.hid hl
  have HC := Lib.hid hc
  have hlm := hc.1.few
  unfold maxLen at hlm
  clear hc hl
  go_enter Try.func4, Try.ntmps4
  go_wp2_with fail
  refine LW.out.mono ?_
  intro e w1 hld
  have HLD := Lib.hid hld
  clear LW hld
  by_cases hmay : MayP l
  · have HMY := Lib.hid hmay
    obtain ⟨p, m, rfl, T1, hm1, k1⟩ : ∃ p m, e = .returned (.tuple #[.pointer (some ⟨p, 0, none⟩), .int .i64 0]) ∧ TabAt w1 p m l ∧ w.heap.size ≤ m ∧ Keep noneOf w w1 := by
      rcases HLD.out with ⟨_, h⟩ | ⟨h, _⟩
      · exact h
      · exact absurd hmay h
    have HT1 := Lib.hid T1
    have HK1 := Lib.hid k1
    have HM := Lib.hid hm1
    have MW := Lib.hid (may_any w1 _ _ l (HL.out.1.keep k1 (fun _ _ _ => id)))
    clear HLD T1 k1 hm1 hmay
    go_wp2_with fail
    refine MW.out.mono ?_
    rintro e w2 ⟨b, rfl, hb, k2⟩
    obtain rfl : b = true := hb.2 HMY.out
    have HT2 := Lib.hid (HT1.out.stay k2)
    have HK2 := Lib.hid (HK1.out.trans k2 (fun _ _ h => h))
    clear MW hb k2 HT1 HK1
    go_wp2_with fail
    refine (alive_any _).mono ?_
    rintro e w3 ⟨rfl, k3⟩
    have HT3 := Lib.hid (HT2.out.stay k3)
    have HK3 := Lib.hid (HK2.out.trans k3 (fun _ _ h => h))
    have HE3 : Hid ((w3.alloc (.cells #[] 58)).ownsRow w3.heap.size 58 8 (.slice (some ⟨w3.heap.size, 0, none⟩) 0 0) ([] : List Ro).length (([] : List Ro).flatMap Ro.cells)) := Lib.hid ⟨rfl, .inr ⟨_, 0, #[], rfl, Nat.le_refl _, Box.new w3 _ _, Nat.le_refl _, Nat.zero_le _, rfl, rfl⟩⟩
    clear HT2 HK2 k3
    go_upto_region 8 with (first
      | (at_builtin; refine wpList_append_ros _ rfl _ _ rfl w3.heap.size (.slice (some ⟨w3.heap.size, 0, none⟩) 0 0) _ [] l (fun _ => True) rfl rfl HE3.out (HL.out.1.keep (HK3.out.alloc _) (fun _ _ _ => id)) (by have := HMY.out.2; simp; omega) (by simp) ?_; intro v4 w4 hown4 hg4 _; rw [List.nil_append] at hown4; have HG4 := Lib.hid ((((Keep.refl noneOf w3).alloc (.cells #[] 58)).trans (Keep.of_grown hg4) (fun i hi e => by have e2 : i = w3.heap.size := (by simpa [Value.ownBlock] using e); omega))); have HO4 := Lib.hid (show Many Ro.cells 8 w4 (fun i => w3.heap.size ≤ i) v4 l from Row.of_own hown4); clear hown4 hg4)
      | fail)
    have HB4 : Hid (Both w4 p m v4 l) := Lib.hid ⟨HT3.out.stay HG4.out, HO4.out.mono (fun i _ h => by have := HT3.out.lt.2; omega), HMY.out.2⟩
    have HK4 := Lib.hid (HK3.out.trans HG4.out (fun _ _ h => h))
    have HRW := Lib.hid (rows_any w4 p m l HB4.out.tab HB4.out.few)
    clear HT3 HK3 HE3 HG4 HO4
    go_wp2_with fail
    refine HRW.out.mono ?_
    rintro e w5 ⟨v5, rfl, hm5, k5⟩
    have HB5 := Lib.hid (HB4.out.stay k5)
    have HK5 := Lib.hid (HK4.out.trans k5 (fun _ _ h => h))
    have HSM := Lib.hid (same_any w5 _ _ v5 _ l l hm5 (HL.out.1.keep HK5.out (fun _ _ _ => id)))
    rw [decide_eq_true rfl] at HSM
    clear HRW hm5 k5 HB4 HK4
    go_wp2_with fail
    refine HSM.out.mono ?_
    rintro e w6 ⟨rfl, k6⟩
    have HB6 := Lib.hid (HB5.out.stay k6)
    have HK6 := Lib.hid (HK5.out.trans k6 (fun _ _ h => h))
    clear HSM k6 HB5 HK5
    go_wp2
    go_loopw [5, 8, 9, 10] (fun t l ok i wr => ∃ (k p m : Nat) (L : List Ro), k ≤ cs.length ∧ i = .int .i64 k ∧ ok = .bool true ∧ t = .pointer (some ⟨p, 0, none⟩) ∧ Both wr p m l L ∧ Keep noneOf w wr ∧ w.heap.size ≤ m) (fun _ _ _ i _ => cs.length - (intOf i).toNat)
    case atStart => exact ⟨0, p, m, l, Nat.zero_le _, rfl, rfl, rfl, HB6.out, HK6.out, HM.out⟩
    case round =>
      obtain ⟨k, p', m', L, hk, rfl, rfl, rfl, hboth, hkeep, hm'⟩ := hrel
      obtain ⟨B, d, rfl⟩ := hboth.row.shape
      have HBT := Lib.hid hboth
      have HKP := Lib.hid hkeep
      have HMM := Lib.hid hm'
      clear hm' HB6 HK6 HM
      by_cases hlt : k < cs.length
      · have hx : cs[k]? = some cs[k] := List.getElem?_eq_getElem hlt
        obtain ⟨b, o, rfl, hblk, _, hcell⟩ := (HC.out.1.keep hkeep (fun _ _ _ => id)).cell (fun _ => rfl) hx
        have hin := HC.out.2 _ (List.mem_of_getElem? hx)
        generalize cs[k] = cl at *
        obtain ⟨c0, c1, c2, c3, c4, c5, c6, c7, c8⟩ := nine_cells b o k _ _ hcell
        have HSP := Lib.hid (step_any _ _ _ _ _ cl hboth hin)
        obtain ⟨ck, ci, cq, ⟨ac, ai, at_, au, ag, am⟩⟩ := cl
        unfold Cl.cells at HSP
        dsimp only at c0 c1 c2 c3 c4 c5 c6 c7 c8 HSP
        have q0 : (0 : Int) ≤ (k : Int) := by omega
        have q1 : (k : Int) < (cs.length : Int) := by omega
        clear hx hcell hin hkeep hboth
        go_wp2_with fail
        refine HSP.out.mono ?_
        rintro e w7 ⟨p3, m3, v3, l3, rfl, hb3, k3, hm3⟩
        have HB3 := Lib.hid hb3
        have HK3 := Lib.hid (HKP.out.newer k3 HMM.out)
        have HM3 : Hid (w.heap.size ≤ m3) := Lib.hid (by have := HMM.out; have := HKP.out.size; rcases hm3 with h | h <;> omega)
        clear HSP hb3 k3 hm3 HKP HMM HBT c0 c1 c2 c3 c4 c5 c6 c7 c8
        go_wp2
        go_roundw
        case rel => exact ⟨k + 1, p3, m3, l3, by omega, by go_num, by trivial, by trivial, HB3.out, HK3.out, HM3.out⟩
        case measure => simp [intOf]; omega
      · have hkn : ¬ ((k : Int) < (cs.length : Int)) := by omega
        clear hlt hkeep hboth
        go_wp2
        go_ret
        exact ⟨rfl, HKP.out⟩
  · have HMY := Lib.hid hmay
    obtain ⟨rfl, k1⟩ : e = .returned (.tuple #[.pointer none, .int .i64 1]) ∧ Keep noneOf w w1 := by
      rcases HLD.out with ⟨h, _⟩ | ⟨_, h⟩
      · exact absurd h hmay
      · exact h
    have HK1 := Lib.hid k1
    have MW := Lib.hid (may_any w1 _ _ l (HL.out.1.keep k1 (fun _ _ _ => id)))
    clear HLD k1 hmay
    go_wp2_with fail
    refine MW.out.mono ?_
    rintro e w2 ⟨b, rfl, hb, k2⟩
    obtain rfl : b = false := by
      cases b with
      | false => rfl
      | true => exact absurd (hb.1 rfl) HMY.out
    have HK2 := Lib.hid (HK1.out.trans k2 (fun _ _ h => h))
    clear MW hb k2 HK1
    go_wp2_with fail
    refine (alive_any _).mono ?_
    rintro e w3 ⟨rfl, k3⟩
    have HK3 := Lib.hid (HK2.out.trans k3 (fun _ _ h => h))
    clear HK2 k3
    go_wp2
    go_ret
    exact ⟨rfl, HK3.out⟩

namespace SessionLoads
set_option maxRecDepth 100000 in
theorem lifted (os : Os) (started : os.Started) (H : Type) (enc : TypeId × Value → H) :
    ReturnsInHanded {} Try.checked os 4 .any (Rows.sessionLoadsSpec.pre6 enc Try.prog Try.f4 Rows.sessionLoadsRow.domain false) (Rows.sessionLoadsSpec.post enc Try.prog Try.f4 false true false false) := by
  refine returnsInHanded_of_change_sized (C := Try.checked) own started (by kernel_rfl) Try.func4
    (ChangeSpec.witness6 (enc := enc) (C := Try.checked) false ⟨#[], #[.slice none 0 0, .slice none 0 0], []⟩ 8 (by kernel_rfl) (by kernel_rfl) (by kernel_rfl) (by kernel_rfl)) ?_
  intro W base args ds gs before hval0 hW hcnd hsz _
  have hval : ∀ (j : Nat) t v, Try.f4.params[j]? = some t → args[j]? = some v → Value.okWide Try.prog W .any base t v := hval0
  have hW' := hW
  obtain ⟨p, q, hA0, hV, rfl, hfz, hnd⟩ := hW
  have hA : DataW.TrodAll enc Try.prog W 0 (fun _ => true) true Try.f4.params.toList args.toList ds p := hA0
  rw [Try.params4] at hA hval
  obtain ⟨v0, vs0, d0, ds0, p0, q0, hargs, rfl, rfl, h0, r0⟩ := trodAll_cons hA
  obtain ⟨v1, vs1, d1, ds1, p1, q1, rfl, rfl, rfl, h1, r1⟩ := trodAll_cons r0
  obtain ⟨rfl, rfl, rfl⟩ := trodAll_nil r1
  obtain rfl : args = #[v0, v1] := by cases args; simp_all
  obtain ⟨rfl, rfl⟩ := trodVars_none hV
  have k0 := h0
  have lt0 : ∀ x ∈ p0, x.block < W.heap.size := by obtain ⟨m, hm⟩ := k0; exact DataW.trod_lt m _ _ _ hm
  have k1 := h1
  have lt1 : ∀ x ∈ p1, x.block < W.heap.size := by obtain ⟨m, hm⟩ := k1; exact DataW.trod_lt m _ _ _ hm
  obtain ⟨A0, c0, l0, rfl, hl0⟩ := open_arg_ros (hval 0 25 v0 rfl rfl) h0 (light_arg hsz (j := 0) rfl rfl)
  obtain ⟨A1, c1, l1, rfl, hl1⟩ := open_arg_cls (hval 1 22 v1 rfl rfl) h1 (light_arg hsz (j := 1) rfl rfl)
  clear hA0 hval0
  refine (loads_walk W A0 c0 l0 A1 c1 l1 hl0 hl1).mono fun e W' ⟨he, bel0⟩ => ?_
  subst he
  have bel := bel0.all
  exact ⟨_, rfl, _, _, _, [], _, [], hW', trodAll_mk1 (shut_bool Try.underlying4 _), (trodAll_cons_mk (Below.trod laidOut (by kernel_rfl) (of_decide_eq_true (by kernel_rfl)) k0 bel lt0) (trodAll_cons_mk (Below.trod laidOut (by kernel_rfl) (of_decide_eq_true (by kernel_rfl)) k1 bel lt1) trodAll_mk0)), rfl, bel.frame _, fun h => by cases h⟩

theorem over : Rows.sessionLoadsRow.holds Try.pinned (OpenSpec.ofChange Rows.sessionLoadsSpec) :=
  OpenClaim.holds_of_wide 4 Try.f4 rfl rfl rfl rfl rfl rfl rfl ⟨rfl, rfl, rfl, rfl, rfl⟩ rfl rfl rfl rfl rfl (by kernel_rfl) Try.func4 (by kernel_rfl)
    (of_decide_eq_true (by kernel_rfl)) (by unfold Func.isWrapper; first | (rw [if_pos (by decide +kernel)]; kernel_rfl) | (rw [if_neg (by decide +kernel)]; exact ⟨rfl, rfl⟩))
    (fun os started H enc _ => lifted os started H enc)

theorem proved : Rows.SessionLoadsSaid := over
end SessionLoads
end Go.Proofs.Ytimnehgonlohcaa
