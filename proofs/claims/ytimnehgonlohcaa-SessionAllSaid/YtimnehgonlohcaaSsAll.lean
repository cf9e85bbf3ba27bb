/-
  Proved: dockyardlaw11.SessionAll answers true for every input that can be read, and leaves its arguments as they were. No conditions.
-/
import Derived.Test.YtimnehgonlohcaaSsStep
namespace Go.Proofs.Ytimnehgonlohcaa
open Go.ChangeShapes Go.WideShapes Go.ChangeAt Go.RowKit

theorem nine_cells (b o k : Nat) (w : World) (c : Cl) (h : ∀ j, j < 9 → w.cell? ⟨b, o + (k * 9 + j), none⟩ = (Cl.cells c)[j]?) :
    w.cell? ⟨b, o + k * 9, none⟩ = some (.int .i64 c.kind) ∧ w.cell? ⟨b, o + k * 9 + 1, none⟩ = some (.int .u64 c.id) ∧ w.cell? ⟨b, o + k * 9 + 2, none⟩ = some (.int .u64 c.seq) ∧ w.cell? ⟨b, o + k * 9 + 3, none⟩ = some (.int .i64 c.ans.code) ∧ w.cell? ⟨b, o + k * 9 + 4, none⟩ = some (.int .u64 c.ans.id) ∧ w.cell? ⟨b, o + k * 9 + 5, none⟩ = some (.int .u64 c.ans.tok) ∧ w.cell? ⟨b, o + k * 9 + 6, none⟩ = some (.int .u64 c.ans.unt) ∧ w.cell? ⟨b, o + k * 9 + 7, none⟩ = some (.string c.ans.tgt) ∧ w.cell? ⟨b, o + k * 9 + 8, none⟩ = some (.string c.ans.cmd) :=
  ⟨h 0 (by decide), h 1 (by decide), h 2 (by decide), h 3 (by decide), h 4 (by decide), h 5 (by decide), h 6 (by decide), h 7 (by decide), h 8 (by decide)⟩

set_option maxRecDepth 100000 in
set_option maxHeartbeats 4000000 in
theorem all_walk (w : World) (A : Option Addr) (c : Nat) (cs : List Cl) (hc : Cls w (fun _ => True) (.slice A cs.length c) cs) :
    Calls Try.prog 3 #[.slice A cs.length c] w (TellsB true w) := by
  have NW := Lib.hid (new_any w)
  have HC := Lib.hid hc
  have hlm := hc.1.few
  unfold maxLen at hlm
  clear hc
  go_enter Try.func3, Try.ntmps3
  go_wp2_with fail
  refine NW.out.mono ?_
  rintro e w1 ⟨rfl, T1, k1⟩
  have HK1 := Lib.hid k1
  have HT1 := Lib.hid T1
  clear NW T1 k1
  generalize w.heap.size + 1 = p at *
  obtain ⟨m, hm⟩ : ∃ m, w.heap.size = m := ⟨_, rfl⟩
  have HM : Hid (w.heap.size ≤ m) := Lib.hid (Nat.le_of_eq hm)
  rw [hm] at HT1
  clear hm
  go_wp2_with fail
  refine (alive_any _).mono ?_
  rintro e w2 ⟨rfl, k2⟩
  have HT2 : Hid (Both w2 p m (.slice none 0 0) []) := Lib.hid ⟨HT1.out.stay k2, Many.nil _ _ _ _, Nat.zero_le _⟩
  have HK2 := Lib.hid (HK1.out.trans k2 (fun _ _ h => h))
  clear HT1 HK1 k2
  go_wp2
  go_loopw [3, 4, 5, 6] (fun t l ok i wr => ∃ (k p m : Nat) (L : List Ro), k ≤ cs.length ∧ i = .int .i64 k ∧ ok = .bool true ∧ t = .pointer (some ⟨p, 0, none⟩) ∧ Both wr p m l L ∧ Keep noneOf w wr ∧ w.heap.size ≤ m) (fun _ _ _ i _ => cs.length - (intOf i).toNat)
  case atStart => exact ⟨0, p, m, [], Nat.zero_le _, rfl, rfl, rfl, HT2.out, HK2.out, HM.out⟩
  case round =>
    obtain ⟨k, p', m', L, hk, rfl, rfl, rfl, hboth, hkeep, hm'⟩ := hrel
    obtain ⟨B, d, rfl⟩ := hboth.row.shape
    have HBT := Lib.hid hboth
    have HKP := Lib.hid hkeep
    have HMM := Lib.hid hm'
    clear hm' HT2 HK2 HM
    by_cases hlt : k < cs.length
    · have hx : cs[k]? = some cs[k] := List.getElem?_eq_getElem hlt
      obtain ⟨b, o, rfl, hblk, _, hcell⟩ := (HC.out.1.keep hkeep (fun _ _ _ => id)).cell (fun _ => rfl) hx
      have hin := HC.out.2 _ (List.mem_of_getElem? hx)
      generalize cs[k] = cl at *
      obtain ⟨c0, c1, c2, c3, c4, c5, c6, c7, c8⟩ := nine_cells b o k _ _ hcell
      have HSP := Lib.hid (step_any _ _ _ _ _ cl hboth hin)
      obtain ⟨ck, ci, cq, ⟨ac, ai, at_, au, ag, am⟩⟩ := cl
      unfold Cl.cells at HSP
      dsimp only at c0 c1 c2 c3 c4 c5 c6 c7 c8 HSP
      have q0 : (0 : Int) ≤ (k : Int) := by omega
      have q1 : (k : Int) < (cs.length : Int) := by omega
      clear hx hcell hin hkeep hboth
      go_wp2_with fail
      refine HSP.out.mono ?_
      rintro e w3 ⟨p3, m3, v3, l3, rfl, hb3, k3, hm3⟩
      have HB3 := Lib.hid hb3
      have HK3 := Lib.hid (HKP.out.newer k3 HMM.out)
      have HM3 : Hid (w.heap.size ≤ m3) := Lib.hid (by have := HMM.out; have := HKP.out.size; rcases hm3 with h | h <;> omega)
      clear HSP hb3 k3 hm3 HKP HMM HBT c0 c1 c2 c3 c4 c5 c6 c7 c8
      go_wp2
      go_roundw
      case rel => exact ⟨k + 1, p3, m3, l3, by omega, by go_num, by trivial, by trivial, HB3.out, HK3.out, HM3.out⟩
      case measure => simp [intOf]; omega
    · have hkn : ¬ ((k : Int) < (cs.length : Int)) := by omega
      have HRW := Lib.hid (rows_any wr p' m' L hboth.tab hboth.few)
      clear hlt hkeep hboth
      go_wp2_with fail
      refine HRW.out.mono ?_
      rintro e w3 ⟨v3, rfl, hm3, k3⟩
      have HB3 := Lib.hid (HBT.out.stay k3)
      have HK3 := Lib.hid (HKP.out.trans k3 (fun _ _ h => h))
      have HSM := Lib.hid (same_any w3 _ _ v3 _ L L hm3 HB3.out.row)
      rw [decide_eq_true rfl] at HSM
      clear HRW hm3 k3 HBT HKP
      go_wp2_with fail
      refine HSM.out.mono ?_
      rintro e w4 ⟨rfl, k4⟩
      have HB4 := Lib.hid (HB3.out.stay k4)
      have HK4 := Lib.hid (HK3.out.trans k4 (fun _ _ h => h))
      clear HSM k4 HB3 HK3
      go_wp2_with fail
      refine (len_any _ _ _ _ HB4.out.tab).mono ?_
      rintro e w5 ⟨rfl, rfl⟩
      have gl : ((L.length : Int) == (L.length : Int)) = true := beq_self_eq_true _
      go_wp2
      go_ret
      exact ⟨rfl, HK4.out⟩

namespace SessionAll
set_option maxRecDepth 100000 in
theorem lifted (os : Os) (started : os.Started) (H : Type) (enc : TypeId × Value → H) :
    ReturnsInHanded {} Try.checked os 3 .any (Rows.sessionAllSpec.pre6 enc Try.prog Try.f3 Rows.sessionAllRow.domain false) (Rows.sessionAllSpec.post enc Try.prog Try.f3 false true false false) := by
  refine returnsInHanded_of_change_sized (C := Try.checked) own started (by kernel_rfl) Try.func3
    (ChangeSpec.witness6 (enc := enc) (C := Try.checked) false ⟨#[], #[.slice none 0 0], []⟩ 8 (by kernel_rfl) (by kernel_rfl) (by kernel_rfl) (by kernel_rfl)) ?_
  intro W base args ds gs before hval0 hW hcnd hsz _
  have hval : ∀ (j : Nat) t v, Try.f3.params[j]? = some t → args[j]? = some v → Value.okWide Try.prog W .any base t v := hval0
  have hW' := hW
  obtain ⟨p, q, hA0, hV, rfl, hfz, hnd⟩ := hW
  have hA : DataW.TrodAll enc Try.prog W 0 (fun _ => true) true Try.f3.params.toList args.toList ds p := hA0
  rw [Try.params3] at hA hval
  obtain ⟨v0, vs0, d0, ds0, p0, q0, hargs, rfl, rfl, h0, r0⟩ := trodAll_cons hA
  obtain ⟨rfl, rfl, rfl⟩ := trodAll_nil r0
  obtain rfl : args = #[v0] := by cases args; simp_all
  obtain ⟨rfl, rfl⟩ := trodVars_none hV
  have k0 := h0
  have lt0 : ∀ x ∈ p0, x.block < W.heap.size := by obtain ⟨m, hm⟩ := k0; exact DataW.trod_lt m _ _ _ hm
  obtain ⟨A0, c0, l0, rfl, hl0⟩ := open_arg_cls (hval 0 22 v0 rfl rfl) h0 (light_arg hsz (j := 0) rfl rfl)
  clear hA0 hval0
  refine (all_walk W A0 c0 l0 hl0).mono fun e W' ⟨he, bel0⟩ => ?_
  subst he
  have bel := bel0.all
  exact ⟨_, rfl, _, _, _, [], _, [], hW', trodAll_mk1 (shut_bool Try.underlying4 _), (trodAll_cons_mk (Below.trod laidOut (by kernel_rfl) (of_decide_eq_true (by kernel_rfl)) k0 bel lt0) trodAll_mk0), rfl, bel.frame _, fun h => by cases h⟩

theorem over : Rows.sessionAllRow.holds Try.pinned (OpenSpec.ofChange Rows.sessionAllSpec) :=
  OpenClaim.holds_of_wide 3 Try.f3 rfl rfl rfl rfl rfl rfl rfl ⟨rfl, rfl, rfl, rfl, rfl⟩ rfl rfl rfl rfl rfl (by kernel_rfl) Try.func3 (by kernel_rfl)
    (of_decide_eq_true (by kernel_rfl)) (by unfold Func.isWrapper; first | (rw [if_pos (by decide +kernel)]; kernel_rfl) | (rw [if_neg (by decide +kernel)]; exact ⟨rfl, rfl⟩))
    (fun os started H enc _ => lifted os started H enc)

theorem proved : Rows.SessionAllSaid := over
end SessionAll
end Go.Proofs.Ytimnehgonlohcaa
