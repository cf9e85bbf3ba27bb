import Derived.BigQuiet
import Derived.Deep.QuietTactic
import Derived.Deep.RegionHeld3
import Derived.Laws.StructEq
import Derived.Test.YtffoeodjbbkdjaaGreatBs01
import Derived.Test.YtffoeodjbbkdjaaGreatBs10
namespace Go.Proofs.YtffoeodjbbkdjaaGreat
open Go.RowKit
def finB (s : Int) : Bool := decide (3 ≤ s) && decide (s ≤ 6)
def TellsB (b : Bool) (w : World) (e : Ending) (w' : World) : Prop := e = .returned (.bool b) ∧ Keep noneOf w w'
theorem box3 (w : World) (t : TypeId) (x y z : Value) :
  (w.alloc (.cells #[x, y, z] t)).cell? ⟨w.heap.size, 0, none⟩ = some x ∧ (w.alloc (.cells #[x, y, z] t)).cell? ⟨w.heap.size, 1, none⟩ = some y ∧ (w.alloc (.cells #[x, y, z] t)).cell? ⟨w.heap.size, 2, none⟩ = some z := by
 have h := Box.new w t #[x, y, z]
 exact ⟨h.cell 0, h.cell 1, h.cell 2⟩
set_option maxRecDepth 100000 in
theorem final_any (w : World) (x : Pst) : Calls Tryz.prog 141 #[.agg #[.int .i64 x.s, .int .u64 x.t, .int .u64 x.u]] w (TellsB (finB x.s) w) := by
 obtain ⟨s, t, u⟩ := x
 obtain ⟨c0, -, -⟩ := box3 w 61 (.int .i64 s) (.int .u64 t) (.int .u64 u)
 have HK := Lib.hid ((Keep.refl noneOf w).alloc (.cells #[.int .i64 s, .int .u64 t, .int .u64 u] 61))
 simp only
 generalize hR : finB s = R
 have HR := Lib.hid hR
 clear hR
 go_enter Tryz.func141, Tryz.ntmps141
 go_wp2
 all_goals
  go_ret
  refine ⟨ret_bool (b := R) ?_, HK.out⟩
  rw [← HR.out]
  unfold finB
  simp only [beq_iff_eq, beq_eq_false_iff_ne, ne_eq] at *
  first
   | (show true = _; rw [eq_comm, Bool.and_eq_true, decide_eq_true_eq, decide_eq_true_eq]; omega)
   | (show false = _; rw [eq_comm, Bool.and_eq_false_iff, decide_eq_false_iff_not, decide_eq_false_iff_not]; omega)
set_option maxRecDepth 100000 in
theorem refFinal_any (w : World) (x : Pst) : Calls Tryz.prog 115 #[.agg #[.int .i64 x.s, .int .u64 x.t, .int .u64 x.u]] w (TellsB (finB x.s) w) := by
 obtain ⟨s, t, u⟩ := x
 obtain ⟨c0, -, -⟩ := box3 w 61 (.int .i64 s) (.int .u64 t) (.int .u64 u)
 have HK := Lib.hid ((Keep.refl noneOf w).alloc (.cells #[.int .i64 s, .int .u64 t, .int .u64 u] 61))
 simp only
 generalize hR : finB s = R
 have HR := Lib.hid hR
 clear hR
 go_enter Tryz.func115, Tryz.ntmps115
 go_wp2
 all_goals
  go_ret
  refine ⟨ret_bool (b := R) ?_, HK.out⟩
  rw [← HR.out]
  unfold finB
  by_cases h3 : 3 ≤ s
  ·
   rw [decide_eq_true h3]
   first | rfl | omega
  ·
   rw [decide_eq_false h3]
   first | rfl | omega
def nextIx (l : List Pst) : Option Nat := l.findIdx? (fun x => x.s == 1)
theorem nextIx_none {l : List Pst} (h : ∀ (j : Nat) (x : Pst), l[j]? = some x → x.s ≠ 1) : nextIx l = none := by
 unfold nextIx
 rw [List.findIdx?_eq_none_iff]
 intro x hx
 obtain ⟨j, hj⟩ := List.getElem?_of_mem hx
 rw [beq_eq_false_iff_ne]
 exact h j x hj
theorem nextIx_some {l : List Pst} {k : Nat} {x : Pst} (hx : l[k]? = some x) (h1 : x.s = 1) (h : ∀ (j : Nat) (y : Pst), j < k → l[j]? = some y → y.s ≠ 1) : nextIx l = some k := by
 unfold nextIx
 obtain ⟨hk, rfl⟩ := List.getElem?_eq_some_iff.1 hx
 rw [List.findIdx?_eq_some_iff_getElem]
 refine ⟨hk, by rw [beq_iff_eq]; exact h1, fun j hj => ?_⟩
 have := h j l[j] hj (List.getElem?_eq_getElem (by omega))
 simpa using this
def TellsAt (r : Option Nat) (w : World) (e : Ending) (w' : World) : Prop := e = .returned (.tuple #[.int .i64 ((r.getD 0 : Nat) : Int), .bool r.isSome]) ∧ Keep noneOf w w'
set_option maxRecDepth 100000 in
set_option maxHeartbeats 1000000 in
theorem rnext_any (w : World) (D : Nat → Prop) (v : Value) (l : List Pst) (h : Sts w D v l) : Calls Tryz.prog 102 #[v] w (TellsAt (nextIx l) w) := by
 obtain ⟨A, c, rfl, hlc, hcm, hn, hxl, hc⟩ := h
 unfold maxLen at hcm
 have HC := Lib.hid hc
 generalize hR : nextIx l = R
 have HR := Lib.hid hR
 clear hc hxl hR
 go_enter Tryz.func102, Tryz.ntmps102
 go_wp2
 go_loop [7] (fun i => ∃ k : Nat, k ≤ l.length ∧ i = .int .i64 k ∧ ∀ j x, j < k → l[j]? = some x → x.s ≠ 1) (fun i => l.length - (intOf i).toNat)
 case atStart => exact ⟨0, Nat.zero_le _, rfl, fun j _ hj => absurd hj (by omega)⟩
 case round =>
  obtain ⟨k, hk, rfl, hall⟩ := hrel
  have HA := Lib.hid hall
  clear hall
  by_cases hlt : k < l.length
  ·
   obtain ⟨ad, rfl, hsp, hblk, hD, hcell⟩ := HC.out (by omega)
   obtain ⟨b, o, sp⟩ := ad
   simp only at hsp hblk hD hcell
   subst hsp
   have HS := Lib.hid (List.getElem?_eq_getElem hlt)
   generalize l[k] = x at *
   obtain ⟨c0, c1, c2⟩ := sts_at (Keep.refl noneOf w) hblk id hcell HS.out
   clear hcell c1 c2
   obtain ⟨s, t, u⟩ := x
   simp only at c0
   by_cases hs : s = 1
   ·
    subst hs
    have hR : R = some k := by
     rw [← HR.out]
     exact nextIx_some HS.out rfl HA.out
    subst hR
    go_wp2
    go_ret2
    exact ⟨rfl, Keep.refl _ _⟩
   ·
    have HS2 := Lib.hid hs
    have g : (s == 1) = false := by rw [beq_eq_false_iff_ne]; exact hs
    clear hs
    go_wp2
    go_round
    case rel =>
     refine ⟨k + 1, by omega, by go_num, fun j y hj e => ?_⟩
     rcases Nat.lt_or_ge j k with h | h
     ·
      exact HA.out j y h e
     ·
      have : j = k := by omega
      subst this
      rw [HS.out] at e
      injection e with e
      rw [← e]
      exact HS2.out
    case measure => simp [intOf]; omega
  ·
   have hR : R = none := by
    rw [← HR.out]
    exact nextIx_none (fun j x e => HA.out j x (by have := (List.getElem?_eq_some_iff.1 e).1; omega) e)
   subst hR
   have hkn : ¬ ((k : Int) < (l.length : Int)) := by omega
   clear hlt
   go_wp2
   go_ret2
   exact ⟨rfl, Keep.refl _ _⟩
set_option maxRecDepth 100000 in
set_option maxHeartbeats 1000000 in
theorem refNext_any (w : World) (D : Nat → Prop) (v : Value) (l : List Pst) (h : Sts w D v l) : Calls Tryz.prog 69 #[v] w (TellsAt (nextIx l) w) := by
 obtain ⟨A, c, rfl, hlc, hcm, hn, hxl, hc⟩ := h
 unfold maxLen at hcm
 have HC := Lib.hid hc
 generalize hR : nextIx l = R
 have HR := Lib.hid hR
 clear hc hxl hR
 go_enter Tryz.func69, Tryz.ntmps69
 go_wp2
 go_loop [4] (fun i => ∃ k : Nat, k ≤ l.length ∧ i = .int .i64 k ∧ ∀ j x, j < k → l[j]? = some x → x.s ≠ 1) (fun i => l.length - (intOf i).toNat)
 case atStart => exact ⟨0, Nat.zero_le _, rfl, fun j _ hj => absurd hj (by omega)⟩
 case round =>
  obtain ⟨k, hk, rfl, hall⟩ := hrel
  have HA := Lib.hid hall
  clear hall
  by_cases hlt : k < l.length
  ·
   obtain ⟨ad, rfl, hsp, hblk, hD, hcell⟩ := HC.out (by omega)
   obtain ⟨b, o, sp⟩ := ad
   simp only at hsp hblk hD hcell
   subst hsp
   have HS := Lib.hid (List.getElem?_eq_getElem hlt)
   generalize l[k] = x at *
   obtain ⟨c0, c1, c2⟩ := sts_at (Keep.refl noneOf w) hblk id hcell HS.out
   clear hcell c1 c2
   obtain ⟨s, t, u⟩ := x
   simp only at c0
   by_cases hs : s = 1
   ·
    subst hs
    have hR : R = some k := by
     rw [← HR.out]
     exact nextIx_some HS.out rfl HA.out
    subst hR
    go_wp2
    go_ret2
    exact ⟨rfl, Keep.refl _ _⟩
   ·
    have HS2 := Lib.hid hs
    have g : (s == 1) = false := by rw [beq_eq_false_iff_ne]; exact hs
    clear hs
    go_wp2
    go_round
    case rel =>
     refine ⟨k + 1, by omega, by go_num, fun j y hj e => ?_⟩
     rcases Nat.lt_or_ge j k with h | h
     ·
      exact HA.out j y h e
     ·
      have : j = k := by omega
      subst this
      rw [HS.out] at e
      injection e with e
      rw [← e]
      exact HS2.out
    case measure => simp [intOf]; omega
  ·
   have hR : R = none := by
    rw [← HR.out]
    exact nextIx_none (fun j x e => HA.out j x (by have := (List.getElem?_eq_some_iff.1 e).1; omega) e)
   subst hR
   have hkn : ¬ ((k : Int) < (l.length : Int)) := by omega
   clear hlt
   go_wp2
   go_ret2
   exact ⟨rfl, Keep.refl _ _⟩
def overB (l : List Pst) : Bool := l.all (fun x => finB x.s)
set_option maxRecDepth 100000 in
set_option maxHeartbeats 1000000 in
theorem over_any (w : World) (D : Nat → Prop) (v : Value) (l : List Pst) (h : Sts w D v l) : Calls Tryz.prog 109 #[v] w (TellsB (overB l) w) := by
 obtain ⟨A, c, rfl, hlc, hcm, hn, hxl, hc⟩ := h
 unfold maxLen at hcm
 have HC := Lib.hid hc
 generalize hR : overB l = R
 have HR := Lib.hid hR
 clear hc hxl hR
 go_enter Tryz.func109, Tryz.ntmps109
 go_wp2
 go_loopw [6] (fun i wr => ∃ k : Nat, k ≤ l.length ∧ i = .int .i64 k ∧ Keep noneOf w wr ∧ ∀ j x, j < k → l[j]? = some x → finB x.s = true) (fun i _ => l.length - (intOf i).toNat)
 case atStart => exact ⟨0, Nat.zero_le _, rfl, Keep.refl _ _, fun j _ hj => absurd hj (by omega)⟩
 case round =>
  obtain ⟨k, hk, rfl, hkeep, hall⟩ := hrel
  have HA := Lib.hid hall
  have HKP := Lib.hid hkeep
  clear hall
  by_cases hlt : k < l.length
  ·
   obtain ⟨ad, rfl, hsp, hblk, hD, hcell⟩ := HC.out (by omega)
   obtain ⟨b, o, sp⟩ := ad
   simp only at hsp hblk hD hcell
   subst hsp
   have HS := Lib.hid (List.getElem?_eq_getElem hlt)
   generalize l[k] = x at *
   obtain ⟨c0, c1, c2⟩ := sts_at hkeep hblk id hcell HS.out
   have HF := Lib.hid (final_any wr x)
   clear hcell hkeep
   generalize hf : finB x.s = fb at *
   have HFB := Lib.hid hf
   clear hf
   go_wp2_with fail
   refine HF.out.mono ?_
   rintro e w1 ⟨rfl, k1⟩
   have HK1 := Lib.hid (HKP.out.trans k1 (fun _ _ h => h))
   clear HF HKP k1 c0 c1 c2
   cases fb with
   | true =>
    go_wp2
    go_roundw
    case rel =>
     refine ⟨k + 1, by omega, by go_num, HK1.out, fun j y hj e => ?_⟩
     rcases Nat.lt_or_ge j k with h | h
     ·
      exact HA.out j y h e
     ·
      have : j = k := by omega
      subst this
      rw [HS.out] at e
      injection e with e
      rw [← e]
      exact HFB.out
    case measure => simp [intOf]; omega
   | false =>
    have hRf : R = false := by
     rw [← HR.out]
     unfold overB
     rw [List.all_eq_false]
     exact ⟨x, List.mem_of_getElem? HS.out, by rw [HFB.out]; decide⟩
    subst hRf
    go_wp2
    go_ret
    exact ⟨rfl, HK1.out⟩
  ·
   have hR : R = true := by
    rw [← HR.out]
    unfold overB
    rw [List.all_eq_true]
    intro x hx
    obtain ⟨j, hj⟩ := List.getElem?_of_mem hx
    exact HA.out j x (by have := (List.getElem?_eq_some_iff.1 hj).1; omega) hj
   subst hR
   have hkn : ¬ ((k : Int) < (l.length : Int)) := by omega
   clear hlt hkeep
   go_wp2
   go_ret
   exact ⟨rfl, HKP.out⟩
set_option maxRecDepth 100000 in
set_option maxHeartbeats 1000000 in
theorem refOver_any (w : World) (D : Nat → Prop) (v : Value) (l : List Pst) (h : Sts w D v l) : Calls Tryz.prog 75 #[v] w (TellsB (overB l) w) := by
 obtain ⟨A, c, rfl, hlc, hcm, hn, hxl, hc⟩ := h
 unfold maxLen at hcm
 have HC := Lib.hid hc
 generalize hR : overB l = R
 have HR := Lib.hid hR
 clear hc hxl hR
 go_enter Tryz.func75, Tryz.ntmps75
 go_wp2
 go_loopw [3] (fun i wr => ∃ k : Nat, k ≤ l.length ∧ i = .int .i64 k ∧ Keep noneOf w wr ∧ ∀ j x, j < k → l[j]? = some x → finB x.s = true) (fun i _ => l.length - (intOf i).toNat)
 case atStart => exact ⟨0, Nat.zero_le _, rfl, Keep.refl _ _, fun j _ hj => absurd hj (by omega)⟩
 case round =>
  obtain ⟨k, hk, rfl, hkeep, hall⟩ := hrel
  have HA := Lib.hid hall
  have HKP := Lib.hid hkeep
  clear hall
  by_cases hlt : k < l.length
  ·
   obtain ⟨ad, rfl, hsp, hblk, hD, hcell⟩ := HC.out (by omega)
   obtain ⟨b, o, sp⟩ := ad
   simp only at hsp hblk hD hcell
   subst hsp
   have HS := Lib.hid (List.getElem?_eq_getElem hlt)
   generalize l[k] = x at *
   obtain ⟨c0, c1, c2⟩ := sts_at hkeep hblk id hcell HS.out
   have HF := Lib.hid (refFinal_any wr x)
   clear hcell hkeep
   generalize hf : finB x.s = fb at *
   have HFB := Lib.hid hf
   clear hf
   go_wp2_with fail
   refine HF.out.mono ?_
   rintro e w1 ⟨rfl, k1⟩
   have HK1 := Lib.hid (HKP.out.trans k1 (fun _ _ h => h))
   clear HF HKP k1 c0 c1 c2
   cases fb with
   | true =>
    go_wp2
    go_roundw
    case rel =>
     refine ⟨k + 1, by omega, by go_num, HK1.out, fun j y hj e => ?_⟩
     rcases Nat.lt_or_ge j k with h | h
     ·
      exact HA.out j y h e
     ·
      have : j = k := by omega
      subst this
      rw [HS.out] at e
      injection e with e
      rw [← e]
      exact HFB.out
    case measure => simp [intOf]; omega
   | false =>
    have hRf : R = false := by
     rw [← HR.out]
     unfold overB
     rw [List.all_eq_false]
     exact ⟨x, List.mem_of_getElem? HS.out, by rw [HFB.out]; decide⟩
    subst hRf
    go_wp2
    go_ret
    exact ⟨rfl, HK1.out⟩
  ·
   have hR : R = true := by
    rw [← HR.out]
    unfold overB
    rw [List.all_eq_true]
    intro x hx
    obtain ⟨j, hj⟩ := List.getElem?_of_mem hx
    exact HA.out j x (by have := (List.getElem?_eq_some_iff.1 hj).1; omega) hj
   subst hR
   have hkn : ¬ ((k : Int) < (l.length : Int)) := by omega
   clear hlt hkeep
   go_wp2
   go_ret
   exact ⟨rfl, HKP.out⟩
end Go.Proofs.YtffoeodjbbkdjaaGreat
namespace Go.Proofs.YtffoeodjbbkdjaaGreat
open Go.RowKit
instance : DecidableEq Pst := fun x y => decidable_of_iff (x.same y = true) (Pst.same_iff x y)
theorem st_under : Tryz.prog.underlying 61 = some (.struct (Tryz.prog.fieldsOf 61)) := by kernel_rfl
theorem st_fields : (Tryz.prog.fieldsOf 61).toList.map (fun f => (f.name == "_", f.type, f.offset)) = [(false, 3, 0), (false, 23, 1), (false, 23, 2)] := by kernel_rfl
theorem st_held : Tryz.prog.stoodInHeld 61 = false := by kernel_rfl
theorem st_guard : Tryz.prog.eqGuardType Tryz.prog.depth 61 = false := by kernel_rfl
theorem run_part1 (w : World) (t : TypeId) (xs : Array Value) (o : Nat) (x : Value) (k : IntKind) (hi : Tryz.prog.underlying t = some (.int k)) (hx : xs[o]? = some x) : (part t xs o).run Tryz.prog w = .ok x w := by
 simp [part, isAgg, hx, run_underlying hi]
theorem run_equal3 (d : Nat) (w : World) (x y : Pst) : (Op.equalIn (d + 2) 61 (.agg #[.int .i64 x.s, .int .u64 x.t, .int .u64 x.u]) (.agg #[.int .i64 y.s, .int .u64 y.t, .int .u64 y.u])).run Tryz.prog w = .ok (decide (x = y)) w := by
 rw [run_equalIn_struct w (d + 1) _ _ _ st_under st_held]
 have h := st_fields
 generalize (Tryz.prog.fieldsOf 61).toList = fs at h
 have hl : fs.length = 3 := by simpa using congrArg List.length h
 match fs, hl with
 | [f0, f1, f2], _ =>
  simp only [List.map_cons, List.map_nil, List.cons.injEq, Prod.mk.injEq, and_true, beq_eq_false_iff_ne] at h
  obtain ⟨⟨n0, t0, o0⟩, ⟨n1, t1, o1⟩, ⟨n2, t2, o2⟩⟩ := h
  have p0 : ∀ w', (part f0.type #[.int .i64 x.s, .int .u64 x.t, .int .u64 x.u] f0.offset).run Tryz.prog w' = .ok (.int .i64 x.s) w' := fun w' => by rw [t0, o0]; exact run_part1 w' _ _ _ _ _ Tryz.underlying3 rfl
  have p1 : ∀ w', (part f1.type #[.int .i64 x.s, .int .u64 x.t, .int .u64 x.u] f1.offset).run Tryz.prog w' = .ok (.int .u64 x.t) w' := fun w' => by rw [t1, o1]; exact run_part1 w' _ _ _ _ _ Tryz.underlying23 rfl
  have p2 : ∀ w', (part f2.type #[.int .i64 x.s, .int .u64 x.t, .int .u64 x.u] f2.offset).run Tryz.prog w' = .ok (.int .u64 x.u) w' := fun w' => by rw [t2, o2]; exact run_part1 w' _ _ _ _ _ Tryz.underlying23 rfl
  have q0 : ∀ w', (part f0.type #[.int .i64 y.s, .int .u64 y.t, .int .u64 y.u] f0.offset).run Tryz.prog w' = .ok (.int .i64 y.s) w' := fun w' => by rw [t0, o0]; exact run_part1 w' _ _ _ _ _ Tryz.underlying3 rfl
  have q1 : ∀ w', (part f1.type #[.int .i64 y.s, .int .u64 y.t, .int .u64 y.u] f1.offset).run Tryz.prog w' = .ok (.int .u64 y.t) w' := fun w' => by rw [t1, o1]; exact run_part1 w' _ _ _ _ _ Tryz.underlying23 rfl
  have q2 : ∀ w', (part f2.type #[.int .i64 y.s, .int .u64 y.t, .int .u64 y.u] f2.offset).run Tryz.prog w' = .ok (.int .u64 y.u) w' := fun w' => by rw [t2, o2]; exact run_part1 w' _ _ _ _ _ Tryz.underlying23 rfl
  have e0 : ∀ w', (Op.equalIn (d + 1) f0.type (.int .i64 x.s) (.int .i64 y.s)).run Tryz.prog w' = .ok (x.s == y.s) w' := fun w' => by rw [t0]; exact run_equalIn_int w' d _ _ _ _ _ Tryz.underlying3
  have e1 : ∀ w', (Op.equalIn (d + 1) f1.type (.int .u64 x.t) (.int .u64 y.t)).run Tryz.prog w' = .ok (x.t == y.t) w' := fun w' => by rw [t1]; exact run_equalIn_int w' d _ _ _ _ _ Tryz.underlying23
  have e2 : ∀ w', (Op.equalIn (d + 1) f2.type (.int .u64 x.u) (.int .u64 y.u)).run Tryz.prog w' = .ok (x.u == y.u) w' := fun w' => by rw [t2]; exact run_equalIn_int w' d _ _ _ _ _ Tryz.underlying23
  have hd : decide (x = y) = (x.s == y.s && x.t == y.t && x.u == y.u) := by
   rw [Bool.eq_iff_iff, decide_eq_true_eq, ← Pst.same_iff]
   rfl
  rw [hd]
  simp only [Op.eqFields, n0, n1, n2, ne_eq, not_false_eq_true, if_true, Sem.run_bind, Sem.run_ite, Sem.run_pure, p0, p1, p2, q0, q1, q2, e0, e1, e2, Result.andThen_ok]
  cases x.s == y.s <;> cases x.t == y.t <;> cases x.u == y.u <;> rfl
theorem run_neq3 (w : World) (x y : Pst) : (binOp .neq 61 (.agg #[.int .i64 x.s, .int .u64 x.t, .int .u64 x.u]) (.agg #[.int .i64 y.s, .int .u64 y.t, .int .u64 y.u])).run Tryz.prog w = .ok (.bool (!decide (x = y))) w := by
 rw [run_neq_struct, run_equal3 9998 w x y]
 rfl
set_option maxRecDepth 100000 in
set_option maxHeartbeats 1000000 in
theorem same_any (w : World) (D D' : Nat → Prop) (v v' : Value) (l m : List Pst) (h : Sts w D v l) (h' : Sts w D' v' m) : Calls Tryz.prog 36 #[v, v'] w (TellsB (decide (l = m)) w) := by
 obtain ⟨A, c, rfl, hlc, hcm, hn, hxl, hc⟩ := h
 obtain ⟨A', c', rfl, hlc', hcm', hn', hxl', hc'⟩ := h'
 unfold maxLen at hcm hcm'
 have HC := Lib.hid hc
 have HC' := Lib.hid hc'
 generalize hR : decide (l = m) = R
 have HR := Lib.hid hR
 clear hc hxl hR hc' hxl' hn hn'
 obtain ⟨n, hnl⟩ : ∃ n, n = l.length := ⟨_, rfl⟩
 rw [← hnl] at HC hlc ⊢
 by_cases hlen : n = m.length
 ·
  rw [← hlen] at HC' hlc' ⊢
  have g0 : ((n : Int) != (n : Int)) = false := by rw [bne_self_eq_false]
  have HNL := Lib.hid hnl
  have HNM := Lib.hid hlen
  clear hnl hlen
  go_enter Tryz.func36, Tryz.ntmps36
  go_wp2
  go_loopw [5] (fun i wr => ∃ k : Nat, k ≤ n ∧ i = .int .i64 k ∧ Keep noneOf w wr ∧ ∀ j, j < k → l[j]? = m[j]?) (fun i _ => n - (intOf i).toNat)
  case atStart => exact ⟨0, Nat.zero_le _, rfl, Keep.refl _ _, fun j hj => absurd hj (by omega)⟩
  case round =>
   obtain ⟨k, hk, rfl, hkeep, hall⟩ := hrel
   have HA := Lib.hid hall
   have HKP := Lib.hid hkeep
   clear hall
   by_cases hlt : k < n
   ·
    obtain ⟨ad, rfl, hsp, hblk, hD, hcell⟩ := HC.out (by omega)
    obtain ⟨b, o, sp⟩ := ad
    simp only at hsp hblk hD hcell
    subst hsp
    obtain ⟨ad', rfl, hsp', hblk', hD', hcell'⟩ := HC'.out (by omega)
    obtain ⟨b', o', sp'⟩ := ad'
    simp only at hsp' hblk' hD' hcell'
    subst hsp'
    obtain ⟨x, hx⟩ : ∃ x, l[k]? = some x := ⟨_, List.getElem?_eq_getElem (by rw [← HNL.out]; exact hlt)⟩
    obtain ⟨y, hy⟩ : ∃ y, m[k]? = some y := ⟨_, List.getElem?_eq_getElem (by rw [← HNM.out]; exact hlt)⟩
    have HS := Lib.hid hx
    have HS' := Lib.hid hy
    clear hx hy
    obtain ⟨c0, c1, c2⟩ := sts_at hkeep hblk id hcell HS.out
    obtain ⟨d0, d1, d2⟩ := sts_at hkeep hblk' id hcell' HS'.out
    have q0 : (0 : Int) ≤ (k : Int) := by omega
    have q1 : (k : Int) < (n : Int) := by omega
    clear hcell hcell' hkeep
    go_wp2
    refine wp_region_in (fun w' => Keep noneOf wr w' ∧ w'.cell? ⟨b, o + k * 3, none⟩ = some (.int .i64 x.s) ∧ w'.cell? ⟨b, o + k * 3 + 1, none⟩ = some (.int .u64 x.t) ∧ w'.cell? ⟨b, o + k * 3 + 2, none⟩ = some (.int .u64 x.u) ∧ w'.cell? ⟨b', o' + k * 3, none⟩ = some (.int .i64 y.s) ∧ w'.cell? ⟨b', o' + k * 3 + 1, none⟩ = some (.int .u64 y.t) ∧ w'.cell? ⟨b', o' + k * 3 + 2, none⟩ = some (.int .u64 y.u)) (by kernel_rfl) (by kernel_rfl) ⟨(Keep.refl noneOf wr).drew, c0, c1, c2, d0, d1, d2⟩ ?_
    have EQ := fun w' => run_neq3 w' x y
    have EG := fun w' (xs ys : Array Value) => run_eqGuard_agg (P := Tryz.prog) w' .neq 61 (.tmp 20) (.tmp 24) xs ys st_guard
    repeat
     first
     | go_big_quiet_skip
     |
      go_big_quiet_want
      go_big_quiet_op
      go_big_quiet_on
     |
      go_big_quiet_want
      apply quiet_reads
      case h =>
       intro w' hw'
       try dsimp only at hw'
       go_split_ands
       go_simp
       rfl
      simp only [Act.put, List.setIfInBounds_toArray, List.set_cons_zero, List.set_cons_succ]
      go_big_quiet_on
    refine wpQuiet_nil ?_
    intro w9 hw9
    have HK9 := Lib.hid (HKP.out.trans hw9.1 (fun _ _ h => h))
    clear hw9 c0 c1 c2 d0 d1 d2 EQ EG HKP
    by_cases hxy : x = y
    ·
     have HXY := Lib.hid hxy
     rw [decide_eq_true hxy]
     clear hxy
     go_wp2
     go_roundw
     case rel =>
      refine ⟨k + 1, by omega, by go_num, HK9.out, fun j hj => ?_⟩
      rcases Nat.lt_or_ge j k with h | h
      ·
       exact HA.out j h
      ·
       have : j = k := by omega
       subst this
       rw [HS.out, HS'.out, HXY.out]
     case measure => simp [intOf]; omega
    ·
     have hRf : R = false := by
      rw [← HR.out, decide_eq_false_iff_not]
      intro e
      have h1 := HS.out
      rw [e, HS'.out] at h1
      injection h1 with h1
      exact hxy h1.symm
     subst hRf
     rw [decide_eq_false hxy]
     go_wp2
     go_ret
     exact ⟨rfl, HK9.out⟩
   ·
    have hRt : R = true := by
     rw [← HR.out, decide_eq_true_eq]
     apply list_ext3
     intro j
     rcases Nat.lt_or_ge j n with h | h
     ·
      exact HA.out j (by omega)
     ·
      rw [List.getElem?_eq_none (by rw [← HNL.out]; exact h), List.getElem?_eq_none (by rw [← HNM.out]; exact h)]
    subst hRt
    have hkn : ¬ ((k : Int) < (n : Int)) := by omega
    clear hlt hkeep
    go_wp2
    go_ret
    exact ⟨rfl, HKP.out⟩
 ·
  have hRf : R = false := by
   rw [← HR.out, decide_eq_false_iff_not]
   rintro rfl
   exact hlen hnl
  subst hRf
  generalize m.length = q at *
  have g0 : ((n : Int) != (q : Int)) = true := by rw [bne_iff_ne]; omega
  clear hlen
  go_enter Tryz.func36, Tryz.ntmps36
  go_wp2
  go_ret
  exact ⟨rfl, Keep.refl _ _⟩
end Go.Proofs.YtffoeodjbbkdjaaGreat
