import Derived.BigQuiet
import Derived.Deep.QuietTactic
import Derived.Test.YtkoikmdmejhhhaaGreatBs07
import Derived.Test.YtkoikmdmejhhhaaGreatBs10
import Derived.Test.YtkoikmdmejhhhaaGreatBs11
namespace Go.Proofs.YtkoikmdmejhhhaaGreat
open Go.RowKit
def finB (s : Int) : Bool := decide (3 ≤ s) && decide (s ≤ 6)
def TellsB (b : Bool) (w : World) (e : Ending) (w' : World) : Prop := e = .returned (.bool b) ∧ Keep noneOf w w'
theorem box3 (w : World) (t : TypeId) (x y z : Value) :
    (w.alloc (.cells #[x, y, z] t)).cell? ⟨w.heap.size, 0, none⟩ = some x ∧ (w.alloc (.cells #[x, y, z] t)).cell? ⟨w.heap.size, 1, none⟩ = some y ∧ (w.alloc (.cells #[x, y, z] t)).cell? ⟨w.heap.size, 2, none⟩ = some z := by
  have h := Box.new w t #[x, y, z]
  exact ⟨h.cell 0, h.cell 1, h.cell 2⟩
set_option maxRecDepth 100000 in
theorem final_any (w : World) (x : Pst) : Calls Tryz.prog 152 #[.agg #[.int .i64 x.s, .int .u64 x.t, .int .u64 x.u]] w (TellsB (finB x.s) w) := by
  obtain ⟨s, t, u⟩ := x
  obtain ⟨c0, -, -⟩ := box3 w 64 (.int .i64 s) (.int .u64 t) (.int .u64 u)
  have HK := Lib.hid ((Keep.refl noneOf w).alloc (.cells #[.int .i64 s, .int .u64 t, .int .u64 u] 64))
  simp only
  generalize hR : finB s = R
  have HR := Lib.hid hR
  clear hR
  go_enter Tryz.func152, Tryz.ntmps152
  go_wp2
  all_goals
    go_ret
    refine ⟨ret_bool (b := R) ?_, HK.out⟩
    rw [← HR.out]
    unfold finB
    simp only [beq_iff_eq, beq_eq_false_iff_ne, ne_eq] at *
    first
      | (show true = _; rw [eq_comm, Bool.and_eq_true, decide_eq_true_eq, decide_eq_true_eq]; omega)
      | (show false = _; rw [eq_comm, Bool.and_eq_false_iff, decide_eq_false_iff_not, decide_eq_false_iff_not]; omega)
set_option maxRecDepth 100000 in
theorem refFinal_any (w : World) (x : Pst) : Calls Tryz.prog 68 #[.agg #[.int .i64 x.s, .int .u64 x.t, .int .u64 x.u]] w (TellsB (finB x.s) w) := by
  obtain ⟨s, t, u⟩ := x
  obtain ⟨c0, -, -⟩ := box3 w 64 (.int .i64 s) (.int .u64 t) (.int .u64 u)
  have HK := Lib.hid ((Keep.refl noneOf w).alloc (.cells #[.int .i64 s, .int .u64 t, .int .u64 u] 64))
  simp only
  generalize hR : finB s = R
  have HR := Lib.hid hR
  clear hR
  go_enter Tryz.func68, Tryz.ntmps68
  go_wp2
  all_goals
    go_ret
    refine ⟨ret_bool (b := R) ?_, HK.out⟩
    rw [← HR.out]
    unfold finB
    by_cases h3 : 3 ≤ s
    · rw [decide_eq_true h3]
      first | rfl | omega
    · rw [decide_eq_false h3]
      first | rfl | omega
def nextIx (l : List Pst) : Option Nat := l.findIdx? (fun x => x.s == 1)
theorem nextIx_none {l : List Pst} (h : ∀ (j : Nat) (x : Pst), l[j]? = some x → x.s ≠ 1) : nextIx l = none := by
  unfold nextIx
  rw [List.findIdx?_eq_none_iff]
  intro x hx
  obtain ⟨j, hj⟩ := List.getElem?_of_mem hx
  rw [beq_eq_false_iff_ne]
  exact h j x hj
theorem nextIx_some {l : List Pst} {k : Nat} {x : Pst} (hx : l[k]? = some x) (h1 : x.s = 1) (h : ∀ (j : Nat) (y : Pst), j < k → l[j]? = some y → y.s ≠ 1) : nextIx l = some k := by
  unfold nextIx
  obtain ⟨hk, rfl⟩ := List.getElem?_eq_some_iff.1 hx
  rw [List.findIdx?_eq_some_iff_getElem]
  refine ⟨hk, by rw [beq_iff_eq]; exact h1, fun j hj => ?_⟩
  have := h j l[j] hj (List.getElem?_eq_getElem (by omega))
  simpa using this
def TellsAt (r : Option Nat) (w : World) (e : Ending) (w' : World) : Prop := e = .returned (.tuple #[.int .i64 ((r.getD 0 : Nat) : Int), .bool r.isSome]) ∧ Keep noneOf w w'
set_option maxRecDepth 100000 in
set_option maxHeartbeats 1000000 in
theorem rnext_any (w : World) (D : Nat → Prop) (v : Value) (l : List Pst) (h : Sts w D v l) : Calls Tryz.prog 114 #[v] w (TellsAt (nextIx l) w) := by
  obtain ⟨A, c, rfl, hlc, hcm, hn, hxl, hc⟩ := h
  unfold maxLen at hcm
  have HC := Lib.hid hc
  generalize hR : nextIx l = R
  have HR := Lib.hid hR
  clear hc hxl hR
  go_enter Tryz.func114, Tryz.ntmps114
  go_wp2
  go_loop [7] (fun i => ∃ k : Nat, k ≤ l.length ∧ i = .int .i64 k ∧ ∀ j x, j < k → l[j]? = some x → x.s ≠ 1) (fun i => l.length - (intOf i).toNat)
  case atStart => exact ⟨0, Nat.zero_le _, rfl, fun j _ hj => absurd hj (by omega)⟩
  case round =>
    obtain ⟨k, hk, rfl, hall⟩ := hrel
    have HA := Lib.hid hall
    clear hall
    by_cases hlt : k < l.length
    · obtain ⟨ad, rfl, hsp, hblk, hD, hcell⟩ := HC.out (by omega)
      obtain ⟨b, o, sp⟩ := ad
      simp only at hsp hblk hD hcell
      subst hsp
      have HS := Lib.hid (List.getElem?_eq_getElem hlt)
      generalize l[k] = x at *
      obtain ⟨c0, c1, c2⟩ := sts_at (Keep.refl noneOf w) hblk id hcell HS.out
      clear hcell c1 c2
      obtain ⟨s, t, u⟩ := x
      simp only at c0
      by_cases hs : s = 1
      · subst hs
        have hR : R = some k := by
          rw [← HR.out]
          exact nextIx_some HS.out rfl HA.out
        subst hR
        go_wp2
        go_ret2
        exact ⟨rfl, Keep.refl _ _⟩
      · have HS2 := Lib.hid hs
        have g : (s == 1) = false := by rw [beq_eq_false_iff_ne]; exact hs
        clear hs
        go_wp2
        go_round
        case rel =>
          refine ⟨k + 1, by omega, by go_num, fun j y hj e => ?_⟩
          rcases Nat.lt_or_ge j k with h | h
          · exact HA.out j y h e
          · have : j = k := by omega
            subst this
            rw [HS.out] at e
            injection e with e
            rw [← e]
            exact HS2.out
        case measure => simp [intOf]; omega
    · have hR : R = none := by
        rw [← HR.out]
        exact nextIx_none (fun j x e => HA.out j x (by have := (List.getElem?_eq_some_iff.1 e).1; omega) e)
      subst hR
      have hkn : ¬ ((k : Int) < (l.length : Int)) := by omega
      clear hlt
      go_wp2
      go_ret2
      exact ⟨rfl, Keep.refl _ _⟩
def overB (l : List Pst) : Bool := l.all (fun x => finB x.s)
set_option maxRecDepth 100000 in
set_option maxHeartbeats 1000000 in
theorem over_any (w : World) (D : Nat → Prop) (v : Value) (l : List Pst) (h : Sts w D v l) : Calls Tryz.prog 121 #[v] w (TellsB (overB l) w) := by
  obtain ⟨A, c, rfl, hlc, hcm, hn, hxl, hc⟩ := h
  unfold maxLen at hcm
  have HC := Lib.hid hc
  generalize hR : overB l = R
  have HR := Lib.hid hR
  clear hc hxl hR
  go_enter Tryz.func121, Tryz.ntmps121
  go_wp2
  go_loopw [6] (fun i wr => ∃ k : Nat, k ≤ l.length ∧ i = .int .i64 k ∧ Keep noneOf w wr ∧ ∀ j x, j < k → l[j]? = some x → finB x.s = true) (fun i _ => l.length - (intOf i).toNat)
  case atStart => exact ⟨0, Nat.zero_le _, rfl, Keep.refl _ _, fun j _ hj => absurd hj (by omega)⟩
  case round =>
    obtain ⟨k, hk, rfl, hkeep, hall⟩ := hrel
    have HA := Lib.hid hall
    have HKP := Lib.hid hkeep
    clear hall
    by_cases hlt : k < l.length
    · obtain ⟨ad, rfl, hsp, hblk, hD, hcell⟩ := HC.out (by omega)
      obtain ⟨b, o, sp⟩ := ad
      simp only at hsp hblk hD hcell
      subst hsp
      have HS := Lib.hid (List.getElem?_eq_getElem hlt)
      generalize l[k] = x at *
      obtain ⟨c0, c1, c2⟩ := sts_at hkeep hblk id hcell HS.out
      have HF := Lib.hid (final_any wr x)
      clear hcell hkeep
      generalize hf : finB x.s = fb at *
      have HFB := Lib.hid hf
      clear hf
      go_wp2_with fail
      refine HF.out.mono ?_
      rintro e w1 ⟨rfl, k1⟩
      have HK1 := Lib.hid (HKP.out.trans k1 (fun _ _ h => h))
      clear HF HKP k1 c0 c1 c2
      cases fb with
      | true =>
        go_wp2
        go_roundw
        case rel =>
          refine ⟨k + 1, by omega, by go_num, HK1.out, fun j y hj e => ?_⟩
          rcases Nat.lt_or_ge j k with h | h
          · exact HA.out j y h e
          · have : j = k := by omega
            subst this
            rw [HS.out] at e
            injection e with e
            rw [← e]
            exact HFB.out
        case measure => simp [intOf]; omega
      | false =>
        have hRf : R = false := by
          rw [← HR.out]
          unfold overB
          rw [List.all_eq_false]
          exact ⟨x, List.mem_of_getElem? HS.out, by rw [HFB.out]; decide⟩
        subst hRf
        go_wp2
        go_ret
        exact ⟨rfl, HK1.out⟩
    · have hR : R = true := by
        rw [← HR.out]
        unfold overB
        rw [List.all_eq_true]
        intro x hx
        obtain ⟨j, hj⟩ := List.getElem?_of_mem hx
        exact HA.out j x (by have := (List.getElem?_eq_some_iff.1 hj).1; omega) hj
      subst hR
      have hkn : ¬ ((k : Int) < (l.length : Int)) := by omega
      clear hlt hkeep
      go_wp2
      go_ret
      exact ⟨rfl, HKP.out⟩
set_option maxRecDepth 100000 in
set_option maxHeartbeats 1000000 in
theorem refOver_any (w : World) (D : Nat → Prop) (v : Value) (l : List Pst) (h : Sts w D v l) : Calls Tryz.prog 28 #[v] w (TellsB (overB l) w) := by
  obtain ⟨A, c, rfl, hlc, hcm, hn, hxl, hc⟩ := h
  unfold maxLen at hcm
  have HC := Lib.hid hc
  generalize hR : overB l = R
  have HR := Lib.hid hR
  clear hc hxl hR
  go_enter Tryz.func28, Tryz.ntmps28
  go_wp2
  go_loopw [3] (fun i wr => ∃ k : Nat, k ≤ l.length ∧ i = .int .i64 k ∧ Keep noneOf w wr ∧ ∀ j x, j < k → l[j]? = some x → finB x.s = true) (fun i _ => l.length - (intOf i).toNat)
  case atStart => exact ⟨0, Nat.zero_le _, rfl, Keep.refl _ _, fun j _ hj => absurd hj (by omega)⟩
  case round =>
    obtain ⟨k, hk, rfl, hkeep, hall⟩ := hrel
    have HA := Lib.hid hall
    have HKP := Lib.hid hkeep
    clear hall
    by_cases hlt : k < l.length
    · obtain ⟨ad, rfl, hsp, hblk, hD, hcell⟩ := HC.out (by omega)
      obtain ⟨b, o, sp⟩ := ad
      simp only at hsp hblk hD hcell
      subst hsp
      have HS := Lib.hid (List.getElem?_eq_getElem hlt)
      generalize l[k] = x at *
      obtain ⟨c0, c1, c2⟩ := sts_at hkeep hblk id hcell HS.out
      have HF := Lib.hid (refFinal_any wr x)
      clear hcell hkeep
      generalize hf : finB x.s = fb at *
      have HFB := Lib.hid hf
      clear hf
      go_wp2_with fail
      refine HF.out.mono ?_
      rintro e w1 ⟨rfl, k1⟩
      have HK1 := Lib.hid (HKP.out.trans k1 (fun _ _ h => h))
      clear HF HKP k1 c0 c1 c2
      cases fb with
      | true =>
        go_wp2
        go_roundw
        case rel =>
          refine ⟨k + 1, by omega, by go_num, HK1.out, fun j y hj e => ?_⟩
          rcases Nat.lt_or_ge j k with h | h
          · exact HA.out j y h e
          · have : j = k := by omega
            subst this
            rw [HS.out] at e
            injection e with e
            rw [← e]
            exact HFB.out
        case measure => simp [intOf]; omega
      | false =>
        have hRf : R = false := by
          rw [← HR.out]
          unfold overB
          rw [List.all_eq_false]
          exact ⟨x, List.mem_of_getElem? HS.out, by rw [HFB.out]; decide⟩
        subst hRf
        go_wp2
        go_ret
        exact ⟨rfl, HK1.out⟩
    · have hR : R = true := by
        rw [← HR.out]
        unfold overB
        rw [List.all_eq_true]
        intro x hx
        obtain ⟨j, hj⟩ := List.getElem?_of_mem hx
        exact HA.out j x (by have := (List.getElem?_eq_some_iff.1 hj).1; omega) hj
      subst hR
      have hkn : ¬ ((k : Int) < (l.length : Int)) := by omega
      clear hlt hkeep
      go_wp2
      go_ret
      exact ⟨rfl, HKP.out⟩
end Go.Proofs.YtkoikmdmejhhhaaGreat
