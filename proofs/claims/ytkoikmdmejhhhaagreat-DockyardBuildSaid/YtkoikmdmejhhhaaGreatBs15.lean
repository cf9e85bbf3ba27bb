import Derived.Test.YtkoikmdmejhhhaaGreatRows
import Derived.BigQuiet
import Derived.Deep.DeepCutAuto
import Derived.Deep.QuietTactic
import Derived.Deep.RegionHeld3
import Derived.Laws.EntriesVeiled
import Derived.Laws.StructEq
import Derived.Lib.Hide
import Derived.Lib.MinMax
import Derived.Maps.AppendAt
import Derived.Shelf.Abstract
import Derived.Test.YtkoikmdmejhhhaaGreatBs01
import Derived.Test.YtkoikmdmejhhhaaGreatBs07
import Derived.Test.YtkoikmdmejhhhaaGreatBs10
import Derived.Test.YtkoikmdmejhhhaaGreatBs11
import Derived.Test.YtkoikmdmejhhhaaGreatBs14
namespace Go.Proofs.YtkoikmdmejhhhaaGreat
open Go.RowKit
def repl (st : Int) (f : Pst → Bool) (l : List Pst) : List Pst := l.map (fun x => if f x = true then ⟨st, 0, 0⟩ else x)
theorem repl_length (st : Int) (f : Pst → Bool) (l : List Pst) : (repl st f l).length = l.length := by unfold repl; rw [List.length_map]
theorem repl_at {l : List Pst} {k : Nat} {x : Pst} (st : Int) (f : Pst → Bool) (h : l[k]? = some x) : (repl st f l)[k]? = some (if f x = true then ⟨st, 0, 0⟩ else x) := by
  unfold repl
  rw [List.getElem?_map, h]
  rfl
def Mid (a b m : List Pst) (k : Nat) : Prop := m.length = a.length ∧ ∀ j, m[j]? = if j < k then b[j]? else a[j]?
theorem Mid.first (a b : List Pst) : Mid a b a 0 := ⟨rfl, fun j => by rw [if_neg (Nat.not_lt_zero j)]⟩
theorem Mid.more {a b m : List Pst} {k : Nat} {y : Pst} (h : Mid a b m k) (hk : k < a.length) (hy : b[k]? = some y) : Mid a b (m.set k y) (k + 1) := by
  refine ⟨by rw [List.length_set]; exact h.1, fun j => ?_⟩
  by_cases e : k = j
  · subst e
    rw [List.getElem?_set_self (by rw [h.1]; exact hk), if_pos (Nat.lt_succ_self _), hy]
  · rw [List.getElem?_set_ne e, h.2 j]
    by_cases hj : j < k
    · rw [if_pos hj, if_pos (show j < k + 1 by omega)]
    · rw [if_neg hj, if_neg (show ¬ j < k + 1 by omega)]
theorem Mid.last {a b m : List Pst} {k : Nat} (h : Mid a b m k) (hk : a.length ≤ k) (hb : b.length = a.length) : m = b := by
  apply list_ext3
  intro j
  rw [h.2 j]
  by_cases hj : j < k
  · rw [if_pos hj]
  · rw [if_neg hj, List.getElem?_eq_none (by omega), List.getElem?_eq_none (by omega)]
def Picks (g : Nat) (lb : Array Value) (f : Pst → Bool) (w : World) : Prop :=
  ∀ (W : World) (x : Pst), Keep noneOf w W → Calls Tryz.prog g (#[.agg #[.int .i64 x.s, .int .u64 x.t, .int .u64 x.u]] ++ lb) W (TellsB (f x) W)
theorem Picks.later {g : Nat} {lb : Array Value} {f : Pst → Bool} {w w' : World} (h : Picks g lb f w) (k : Keep noneOf w w') : Picks g lb f w' :=
  fun W x k' => h W x (k.trans k' (fun _ _ h => h))
set_option maxRecDepth 100000 in
set_option maxHeartbeats 4000000 in
theorem replaced_any (w : World) (D : Nat → Prop) (v : Value) (l : List Pst) (h : Sts w D v l) (h24 : l.length * 24 ≤ reachBytes) (st : Int) (g : Nat) (lb : Array Value) (eg : CanCall g) (f : Pst → Bool) (hp : Picks g lb f w) :
    Calls Tryz.prog 153 #[v, .int .i64 st, .func (.func g) #[] lb] w (OwnSts (repl st f l) w) := by
  have CP := Lib.hid (copied_any w D v l h h24)
  have HP := Lib.hid hp
  have HEG := Lib.hid eg
  have hlm := h.few
  unfold maxLen at hlm
  obtain ⟨A, c, rfl⟩ := h.shape
  have HRA : Hid (∀ k x, l[k]? = some x → (repl st f l)[k]? = some (if f x = true then ⟨st, 0, 0⟩ else x)) := Lib.hid fun k x h => repl_at st f h
  have HRL := Lib.hid (repl_length st f l)
  generalize repl st f l = R at *
  clear h h24 hp eg
  go_enter Tryz.func153, Tryz.ntmps153
  go_wp2_with fail
  refine CP.out.mono ?_
  rintro e w1 ⟨M, rfl, k1, hM, hml, hB⟩
  have HK1 := Lib.hid k1
  have HB1 := Lib.hid hB
  clear CP k1 hB
  go_wp2
  go_loopw [13] (fun i wr => ∃ k : Nat, k ≤ l.length ∧ i = .int .i64 k ∧ Keep noneOf w wr ∧ ∃ m, Mid l R m k ∧ Box wr M 64 (svs m)) (fun i _ => l.length - (intOf i).toNat)
  case atStart => exact ⟨0, Nat.zero_le _, rfl, HK1.out, l, Mid.first _ _, HB1.out⟩
  case round =>
    obtain ⟨k, hk, rfl, hkeep, m, hm, hB⟩ := hrel
    have HKP := Lib.hid hkeep
    have HB := Lib.hid hB
    have HM := Lib.hid hm
    clear hB HB1
    by_cases hlt : k < l.length
    · have hx := getS_at hlt
      have hmx : m[k]? = some (l.getD k Pst.zero) := by rw [hm.2 k, if_neg (Nat.lt_irrefl _)]; exact hx
      have hrx := HRA.out k _ hx
      generalize l.getD k Pst.zero = x at *
      obtain ⟨c0, c1, c2⟩ := HB.out.state hmx
      have HFP := Lib.hid (HP.out wr x hkeep)
      have HMX := Lib.hid hmx
      have HRX := Lib.hid hrx
      have q0 : (0 : Int) ≤ (k : Int) := by omega
      have q1 : (k : Int) < (l.length : Int) := by omega
      have eg := HEG.out
      unfold CanCall at eg
      generalize hfx : f x = fx at *
      clear hx hmx hrx hm hkeep
      go_wp2_with fail
      refine HFP.out.mono ?_
      rintro e w2 ⟨rfl, k2⟩
      have HK2 := Lib.hid (HKP.out.trans k2 (fun _ _ h => h))
      have HB2 := Lib.hid (HB.out.keep k2 id)
      clear HFP k2 HKP HB c0 c1 c2 eg
      cases fx with
      | true =>
        rw [if_pos rfl] at HRX
        obtain ⟨c0, c1, c2⟩ := HB2.out.state HMX.out
        have f0 := HB2.out.free (k * 3)
        have f1 := HB2.out.free (k * 3 + 1)
        have f2 := HB2.out.free (k * 3 + 2)
        go_wp2
        have kp := keep_put3 w2 M k (.int .i64 st) (.int .u64 0) (.int .u64 0)
        have HB7 := Lib.hid (HB2.out.putS k ⟨st, 0, 0⟩ (by rw [HM.out.1]; exact hlt))
        have HM7 := Lib.hid (HM.out.more hlt HRX.out)
        have HK7 := Lib.hid (HK2.out.own kp hM)
        clear kp HB2 HK2 c0 c1 c2 f0 f1 f2
        go_roundw
        case rel => exact ⟨k + 1, by omega, by go_num, HK7.out, _, HM7.out, HB7.out⟩
        case measure => simp [intOf]; omega
      | false =>
        rw [if_neg (by decide)] at HRX
        have hm7 := HM.out.more hlt HRX.out
        rw [set_same _ _ _ HMX.out] at hm7
        have HM7 := Lib.hid hm7
        clear hm7
        go_wp2
        go_roundw
        case rel => exact ⟨k + 1, by omega, by go_num, HK2.out, _, HM7.out, HB2.out⟩
        case measure => simp [intOf]; omega
    · have hmR := HM.out.last (by omega) HRL.out
      subst hmR
      have hkn : ¬ ((k : Int) < (l.length : Int)) := by omega
      clear hlt hkeep hm
      go_wp2
      go_ret
      exact ⟨M, by rw [HRL.out]; rfl, HKP.out, hM, by rw [HRL.out]; exact hml, HB.out⟩
def pastB (now : Int) (x : Pst) : Bool := x.s == 2 && decide (x.u ≤ now)
theorem can_call_expire : CanCall 155 := enters_of Tryz.func155 (by kernel_rfl) rfl
theorem can_call_cancel : CanCall 154 := enters_of Tryz.func154 (by kernel_rfl) rfl
set_option maxRecDepth 100000 in
theorem picks_cancel (w : World) : Picks 154 #[] (fun x => !finB x.s) w := by
  intro W x _
  show Calls Tryz.prog 154 #[.agg #[.int .i64 x.s, .int .u64 x.t, .int .u64 x.u]] W _
  obtain ⟨c0, c1, c2⟩ := box3 W 64 (.int .i64 x.s) (.int .u64 x.t) (.int .u64 x.u)
  have HK := Lib.hid ((Keep.refl noneOf W).alloc (.cells #[.int .i64 x.s, .int .u64 x.t, .int .u64 x.u] 64))
  have HF := Lib.hid (final_any (W.alloc (.cells #[.int .i64 x.s, .int .u64 x.t, .int .u64 x.u] 64)) x)
  simp only
  generalize finB x.s = R at *
  go_enter Tryz.func154, Tryz.ntmps154
  go_wp2_with fail
  refine HF.out.mono ?_
  rintro e w1 ⟨rfl, k1⟩
  have HK1 := Lib.hid (HK.out.trans k1 (fun _ _ h => h))
  clear HF k1 HK c0 c1 c2
  go_wp2
  go_ret
  exact ⟨rfl, HK1.out⟩
set_option maxRecDepth 100000 in
theorem picks_expire (w : World) (q : Nat) (now : Int) (hq : Box w q 23 #[.int .u64 now]) : Picks 155 #[.pointer (some ⟨q, 0, none⟩)] (pastB now) w := by
  intro W x k
  show Calls Tryz.prog 155 #[.agg #[.int .i64 x.s, .int .u64 x.t, .int .u64 x.u], .pointer (some ⟨q, 0, none⟩)] W _
  obtain ⟨c0, c1, c2⟩ := box3 W 64 (.int .i64 x.s) (.int .u64 x.t) (.int .u64 x.u)
  have HK := Lib.hid ((Keep.refl noneOf W).alloc (.cells #[.int .i64 x.s, .int .u64 x.t, .int .u64 x.u] 64))
  have d0 : (W.alloc (.cells #[.int .i64 x.s, .int .u64 x.t, .int .u64 x.u] 64)).cell? ⟨q, 0, none⟩ = some (.int .u64 now) := ((hq.keep k id).alloc _).cell 0
  generalize hR : pastB now x = R
  have HR := Lib.hid hR
  clear hR
  by_cases hs : x.s = 2
  · have g : (x.s == 2) = true := by rw [hs]; rfl
    have HG := Lib.hid g
    clear hs
    go_enter Tryz.func155, Tryz.ntmps155
    go_wp2
    go_ret
    refine ⟨ret_bool ?_, HK.out⟩
    rw [← HR.out]
    unfold pastB
    rw [HG.out]
    rfl
  · have g : (x.s == 2) = false := by rw [beq_eq_false_iff_ne]; exact hs
    have HG := Lib.hid g
    clear hs
    go_enter Tryz.func155, Tryz.ntmps155
    go_wp2
    go_ret
    refine ⟨ret_bool ?_, HK.out⟩
    rw [← HR.out]
    unfold pastB
    rw [HG.out]
    rfl
end Go.Proofs.YtkoikmdmejhhhaaGreat
namespace Go.Proofs.YtkoikmdmejhhhaaGreat
open Go.RowKit
instance : DecidableEq Pst := fun x y => decidable_of_iff (x.same y = true) (Pst.same_iff x y)
def TellsV (v : Value) (w : World) (e : Ending) (w' : World) : Prop := e = .returned v ∧ Keep noneOf w w'
theorem of_under : Tryz.prog.underlying 80 = some (.struct (Tryz.prog.fieldsOf 80)) := by kernel_rfl
theorem of_fields : (Tryz.prog.fieldsOf 80).toList.map (fun f => (f.name == "_", f.type, f.offset)) = [(false, 23, 0)] := by kernel_rfl
theorem of_held : Tryz.prog.stoodInHeld 80 = false := by kernel_rfl
theorem of_guard : Tryz.prog.eqGuardType Tryz.prog.depth 80 = false := by kernel_rfl
theorem run_equal1 (d : Nat) (w : World) (x y : Int) : (Op.equalIn (d + 2) 80 (.agg #[.int .u64 x]) (.agg #[.int .u64 y])).run Tryz.prog w = .ok (x == y) w := by
  rw [run_equalIn_struct w (d + 1) _ _ _ of_under of_held]
  have h := of_fields
  generalize (Tryz.prog.fieldsOf 80).toList = fs at h
  have hl : fs.length = 1 := by simpa using congrArg List.length h
  match fs, hl with
  | [f0], _ =>
    simp only [List.map_cons, List.map_nil, List.cons.injEq, Prod.mk.injEq, and_true, beq_eq_false_iff_ne] at h
    obtain ⟨n0, t0, o0⟩ := h
    have p0 : ∀ w', (part f0.type #[.int .u64 x] f0.offset).run Tryz.prog w' = .ok (.int .u64 x) w' := fun w' => by rw [t0, o0]; exact run_part1 w' _ _ _ _ _ Tryz.underlying23 rfl
    have q0 : ∀ w', (part f0.type #[.int .u64 y] f0.offset).run Tryz.prog w' = .ok (.int .u64 y) w' := fun w' => by rw [t0, o0]; exact run_part1 w' _ _ _ _ _ Tryz.underlying23 rfl
    have e0 : ∀ w', (Op.equalIn (d + 1) f0.type (.int .u64 x) (.int .u64 y)).run Tryz.prog w' = .ok (x == y) w' := fun w' => by rw [t0]; exact run_equalIn_int w' d _ _ _ _ _ Tryz.underlying23
    simp only [Op.eqFields, n0, ne_eq, not_false_eq_true, if_true, Sem.run_bind, Sem.run_ite, Sem.run_pure, p0, q0, e0, Result.andThen_ok]
    cases x == y <;> rfl
theorem run_eql1 (w : World) (x y : Int) : (binOp .eql 80 (.agg #[.int .u64 x]) (.agg #[.int .u64 y])).run Tryz.prog w = .ok (.bool (x == y)) w := by
  rw [run_eql_struct, run_equal1 9998 w x y]
  rfl
end Go.Proofs.YtkoikmdmejhhhaaGreat
namespace Go.Proofs.YtkoikmdmejhhhaaGreat
open Go.RowKit
def top : Int := 18446744073709551615
def late : Int := 18446744073709551607
def holdsB (x : Pst) (k n : Int) : Bool := x.s == 2 && x.t == k && k != 0 && decide (n < x.u)
def granted (o n : Int) : Int × Pst × Int := if o = top ∨ late < n then (o, Pst.zero, 101) else (o + 1, ⟨2, o, n + 8⟩, 0)
def renewed (x : Pst) (k n : Int) : Pst × Int := if holdsB x k n = false then (Pst.zero, 100) else if late < n then (Pst.zero, 101) else (⟨x.s, x.t, max x.u (n + 8)⟩, 0)
theorem Box.put1 {w : World} {b : Nat} {t : TypeId} {x : Value} (h : Box w b t #[x]) (u : Value) : Box (w.setCell ⟨b, 0, none⟩ u) b t #[u] := by
  have := h.put 0 u
  simpa using this
theorem Box.put3 {w : World} {b : Nat} {t : TypeId} {x y z : Value} (h : Box w b t #[x, y, z]) (u v r : Value) : Box (((w.setCell ⟨b, 0, none⟩ u).setCell ⟨b, 1, none⟩ v).setCell ⟨b, 2, none⟩ r) b t #[u, v, r] := by
  have := ((h.put 0 u).put 1 v).put 2 r
  simpa using this
def newer (w : World) : Nat → Prop := fun k => w.heap.size ≤ k
theorem ret_bool_L {b c : Bool} (h : c = b) : Ending.returned (.bool c) = .returned (.bool b) := by rw [h]
set_option maxRecDepth 100000 in
theorem new_any (w : World) (n : Int) : Calls Tryz.prog 35 #[.int .u64 n] w (TellsV (.agg #[.int .u64 (max n 1)]) w) := by
  go_enter Tryz.func35, Tryz.ntmps35
  go_wp2
  exact bodyPost_ret (v := .agg #[.int .u64 (max n 1)]) (by simp [results, Tryz.results35, go_sem]) rfl ⟨rfl, (Keep.refl noneOf w).alloc _⟩
set_option maxRecDepth 100000 in
theorem next_any_L (w : World) (n : Int) : Calls Tryz.prog 54 #[.agg #[.int .u64 n]] w (TellsV (.int .u64 n) w) := by
  have c0 : (w.alloc (.cells #[.int .u64 n] 80)).cell? ⟨w.heap.size, 0, none⟩ = some (.int .u64 n) := (Box.new w _ _).cell 0
  go_enter Tryz.func54, Tryz.ntmps54
  go_wp2
  go_ret
  exact ⟨rfl, (Keep.refl noneOf w).alloc _⟩
theorem u64_plus {n m : Int} (h0 : 0 ≤ n) (hm : 0 ≤ m) (h1 : n + m ≤ top) : IntKind.u64.wrap (n + m) = n + m := by
  unfold top at h1
  show (n + m) % 18446744073709551616 = n + m
  omega
set_option maxRecDepth 100000 in
theorem end_any (w : World) (n : Int) (h0 : 0 ≤ n) : Calls Tryz.prog 147 #[.int .u64 n] w (TellsV (.tuple #[.int .u64 (if late < n then 0 else n + 8), .bool (!decide (late < n))]) w) := by
  by_cases h : late < n
  · rw [if_pos h, decide_eq_true h]
    unfold late at h
    go_enter Tryz.func147, Tryz.ntmps147
    go_wp2
    go_ret2
    exact ⟨rfl, Keep.refl noneOf w⟩
  · rw [if_neg h, decide_eq_false h]
    have hw := u64_plus (n := n) (m := 8) h0 (by decide) (by unfold top; unfold late at h; omega)
    unfold late at h
    go_enter Tryz.func147, Tryz.ntmps147
    go_wp2
    go_ret2
    exact ⟨rfl, Keep.refl noneOf w⟩
set_option maxRecDepth 100000 in
set_option maxHeartbeats 1000000 in
theorem holds_any (w : World) (x : Pst) (k n : Int) (h0 : 0 ≤ k) : Calls Tryz.prog 133 #[.agg #[.int .i64 x.s, .int .u64 x.t, .int .u64 x.u], .int .u64 k, .int .u64 n] w (TellsB (holdsB x k n) w) := by
  obtain ⟨s, t, u⟩ := x
  obtain ⟨c0, c1, c2⟩ := box3 w 64 (.int .i64 s) (.int .u64 t) (.int .u64 u)
  have H0 := Lib.hid h0
  simp only
  generalize hR : holdsB ⟨s, t, u⟩ k n = R
  have HR := Lib.hid hR
  clear hR h0
  go_enter Tryz.func133, Tryz.ntmps133
  go_wp2
  all_goals
    go_ret
    refine ⟨ret_bool_L (b := R) ?_, (Keep.refl noneOf w).alloc _⟩
    rw [← HR.out]
    have h0 := H0.out
    unfold holdsB
    simp_all
    try omega
theorem wrap1 {o : Int} (h0 : 1 ≤ o) (h1 : o < top) : IntKind.u64.wrap (o + 1) = o + 1 := u64_plus (by omega) (by decide) (by omega)
theorem wrap8 {n : Int} (h0 : 0 ≤ n) (h1 : ¬ late < n) : IntKind.u64.wrap (n + 8) = n + 8 := u64_plus h0 (by decide) (by unfold top; unfold late at h1; omega)
theorem two_boxes (w : World) (x y : Array Value) (t t' : TypeId) :
    Keep noneOf w ((w.alloc (.cells x t)).alloc (.cells y t')) ∧ Box ((w.alloc (.cells x t)).alloc (.cells y t')) w.heap.size t x ∧ Box ((w.alloc (.cells x t)).alloc (.cells y t')) (w.heap.size + 1) t' y := by
  refine ⟨((Keep.refl _ _).alloc _).alloc _, (Box.new w t x).alloc _, ?_⟩
  have := Box.new (w.alloc (.cells x t)) t' y
  simpa only [World.size_alloc] using this
theorem Keep.put3 {w w' : World} (h : Keep noneOf w w') {g : Nat} (hg : w.heap.size ≤ g) (x y z : Value) : Keep noneOf w (((w'.setCell ⟨g, 0, none⟩ x).setCell ⟨g, 1, none⟩ y).setCell ⟨g, 2, none⟩ z) :=
  ((h.setCell (p := ⟨g, 0, none⟩) (fun h => absurd h (Nat.not_lt.2 hg)) x).setCell (p := ⟨g, 1, none⟩) (fun h => absurd h (Nat.not_lt.2 hg)) y).setCell (p := ⟨g, 2, none⟩) (fun h => absurd h (Nat.not_lt.2 hg)) z
theorem Keep.put1 {w w' : World} (h : Keep noneOf w w') {g : Nat} (hg : w.heap.size ≤ g) (x : Value) : Keep noneOf w (w'.setCell ⟨g, 0, none⟩ x) :=
  h.setCell (p := ⟨g, 0, none⟩) (fun h => absurd h (Nat.not_lt.2 hg)) x
theorem Box.put2 {w : World} {b : Nat} {t : TypeId} {x y z : Value} (h : Box w b t #[x, y, z]) (u : Value) : Box (w.setCell ⟨b, 2, none⟩ u) b t #[x, y, u] := by
  have := h.put 2 u
  simpa using this
theorem Box.three {w : World} {b : Nat} {t : TypeId} {x y z : Value} (h : Box w b t #[x, y, z]) : w.cell? ⟨b, 0, none⟩ = some x ∧ w.cell? ⟨b, 1, none⟩ = some y ∧ w.cell? ⟨b, 2, none⟩ = some z := ⟨h.cell 0, h.cell 1, h.cell 2⟩
set_option maxRecDepth 100000 in
set_option maxHeartbeats 1000000 in
theorem renew_any (w : World) (x : Pst) (k n : Int) (hk : 0 ≤ k) (h0 : 0 ≤ n) : Calls Tryz.prog 117 #[.agg #[.int .i64 x.s, .int .u64 x.t, .int .u64 x.u], .int .u64 k, .int .u64 n] w
    (TellsV (.tuple #[(renewed x k n).1.agg, .int .i64 (renewed x k n).2]) w) := by
  obtain ⟨s, t, u⟩ := x
  obtain ⟨K0, X0, Y0⟩ := two_boxes w #[.int .i64 s, .int .u64 t, .int .u64 u] #[.int .i64 0, .int .u64 0, .int .u64 0] 64 64
  have HH := Lib.hid (holds_any ((w.alloc (.cells #[.int .i64 s, .int .u64 t, .int .u64 u] 64)).alloc (.cells #[.int .i64 0, .int .u64 0, .int .u64 0] 64)) ⟨s, t, u⟩ k n hk)
  obtain ⟨c0, c1, c2⟩ := X0.three
  have HK0 := Lib.hid K0
  have HX0 := Lib.hid X0
  have HY0 := Lib.hid Y0
  have H0 := Lib.hid h0
  generalize hR : renewed ⟨s, t, u⟩ k n = R
  have HR := Lib.hid hR
  generalize hB : holdsB ⟨s, t, u⟩ k n = B at *
  have HB := Lib.hid hB
  clear K0 X0 Y0 h0 hk hR hB
  go_enter Tryz.func117, Tryz.ntmps117
  go_wp2_with fail
  refine HH.out.mono ?_
  rintro e w2 ⟨rfl, k2⟩
  have HK2 := Lib.hid (HK0.out.trans k2 (fun _ _ h => h))
  have HX2 := Lib.hid (HX0.out.keep k2 id)
  have HY2 := Lib.hid (HY0.out.keep k2 id)
  clear HH k2 HK0 HX0 HY0 c0 c1 c2
  obtain ⟨c0, c1, c2⟩ := HX2.out.three
  obtain ⟨d0, d1, d2⟩ := HY2.out.three
  have f0 := HY2.out.free 0
  have f1 := HY2.out.free 1
  have f2 := HY2.out.free 2
  have HYZ := Lib.hid (HY2.out.put3 (.int .i64 0) (.int .u64 0) (.int .u64 0))
  have HKZ := Lib.hid (HK2.out.put3 (g := w.heap.size + 1) (by omega) (.int .i64 0) (.int .u64 0) (.int .u64 0))
  cases B with
  | false =>
    have hR : R = (Pst.zero, 100) := by
      rw [← HR.out]
      unfold renewed
      rw [if_pos HB.out]
    subst hR
    go_wp2
    generalize ((w2.setCell ⟨w.heap.size + 1, 0, none⟩ (.int .i64 0)).setCell ⟨w.heap.size + 1, 1, none⟩ (.int .u64 0)).setCell ⟨w.heap.size + 1, 2, none⟩ (.int .u64 0) = wf at *
    obtain ⟨r0, r1, r2⟩ := HYZ.out.three
    exact bodyPost_ret (v := .tuple #[Pst.zero.agg, .int .i64 100]) (by simp [results, Tryz.results117, go_sem, Pst.zero, Pst.agg, r0, r1, r2]) rfl ⟨rfl, HKZ.out⟩
  | true =>
    have hB : ¬ holdsB ⟨s, t, u⟩ k n = false := by rw [HB.out]; decide
    by_cases hl : late < n
    · have hR : R = (Pst.zero, 101) := by
        rw [← HR.out]
        unfold renewed
        rw [if_neg hB, if_pos hl]
      subst hR
      have HL := Lib.hid hl
      go_wp2_with fail
      refine (end_any w2 n H0.out).mono ?_
      rintro e w3 ⟨rfl, k3⟩
      rw [if_pos HL.out, decide_eq_true HL.out]
      have HK3 := Lib.hid (HK2.out.trans k3 (fun _ _ h => h))
      have HX3 := Lib.hid (HX2.out.keep k3 id)
      have HY3 := Lib.hid (HY2.out.keep k3 id)
      clear k3 HK2 HX2 HY2 c0 c1 c2 d0 d1 d2 f0 f1 f2 HYZ HKZ hB hl
      obtain ⟨c0, c1, c2⟩ := HX3.out.three
      obtain ⟨d0, d1, d2⟩ := HY3.out.three
      have f0 := HY3.out.free 0
      have f1 := HY3.out.free 1
      have f2 := HY3.out.free 2
      have e2 := HX3.out.free 2
      have HYZ := Lib.hid (HY3.out.put3 (.int .i64 0) (.int .u64 0) (.int .u64 0))
      have HKZ := Lib.hid (HK3.out.put3 (g := w.heap.size + 1) (by omega) (.int .i64 0) (.int .u64 0) (.int .u64 0))
      go_wp2
      generalize ((w3.setCell ⟨w.heap.size + 1, 0, none⟩ (.int .i64 0)).setCell ⟨w.heap.size + 1, 1, none⟩ (.int .u64 0)).setCell ⟨w.heap.size + 1, 2, none⟩ (.int .u64 0) = wf at *
      obtain ⟨r0, r1, r2⟩ := HYZ.out.three
      exact bodyPost_ret (v := .tuple #[Pst.zero.agg, .int .i64 101]) (by simp [results, Tryz.results117, go_sem, Pst.zero, Pst.agg, r0, r1, r2]) rfl ⟨rfl, HKZ.out⟩
    · have hR : R = (⟨s, t, max u (n + 8)⟩, 0) := by
        rw [← HR.out]
        unfold renewed
        rw [if_neg hB, if_neg hl]
      subst hR
      have HL := Lib.hid hl
      have w8 := wrap8 H0.out hl
      go_wp2_with fail
      refine (end_any w2 n H0.out).mono ?_
      rintro e w3 ⟨rfl, k3⟩
      rw [if_neg (Int.not_lt.2 HL.out), decide_eq_false (Int.not_lt.2 HL.out)]
      have HK3 := Lib.hid (HK2.out.trans k3 (fun _ _ h => h))
      have HX3 := Lib.hid (HX2.out.keep k3 id)
      have HY3 := Lib.hid (HY2.out.keep k3 id)
      clear k3 HK2 HX2 HY2 c0 c1 c2 d0 d1 d2 f0 f1 f2 HYZ HKZ hB hl
      obtain ⟨c0, c1, c2⟩ := HX3.out.three
      obtain ⟨d0, d1, d2⟩ := HY3.out.three
      have f0 := HY3.out.free 0
      have f1 := HY3.out.free 1
      have f2 := HY3.out.free 2
      have e2 := HX3.out.free 2
      have kx := HK3.out.setCell (p := ⟨w.heap.size, 2, none⟩) (fun h => absurd h (Nat.lt_irrefl _)) (.int .u64 (max u (n + 8)))
      have X4 := HX3.out.put2 (.int .u64 (max u (n + 8)))
      have Y4 := HY3.out.far (p := ⟨w.heap.size, 2, none⟩) (Nat.succ_ne_self _) (.int .u64 (max u (n + 8)))
      have HYR := Lib.hid (Y4.put3 (.int .i64 s) (.int .u64 t) (.int .u64 (max u (n + 8))))
      have HKR := Lib.hid (kx.put3 (g := w.heap.size + 1) (by omega) (.int .i64 s) (.int .u64 t) (.int .u64 (max u (n + 8))))
      have HX4 := Lib.hid X4
      have HY4 := Lib.hid Y4
      clear kx X4 Y4
      go_upto_region 7 with fail
      generalize w3.setCell ⟨w.heap.size, 2, none⟩ (.int .u64 (max u (n + 8))) = w4 at *
      clear c0 c1 c2 d0 d1 d2 f0 f1 f2 e2
      obtain ⟨c0, c1, c2⟩ := HX4.out.three
      obtain ⟨d0, d1, d2⟩ := HY4.out.three
      have f0 := HY4.out.free 0
      have f1 := HY4.out.free 1
      have f2 := HY4.out.free 2
      go_wp2
      generalize ((w4.setCell ⟨w.heap.size + 1, 0, none⟩ (.int .i64 s)).setCell ⟨w.heap.size + 1, 1, none⟩ (.int .u64 t)).setCell ⟨w.heap.size + 1, 2, none⟩ (.int .u64 (max u (n + 8))) = wf at *
      obtain ⟨r0, r1, r2⟩ := HYR.out.three
      exact bodyPost_ret (v := .tuple #[Pst.agg ⟨s, t, max u (n + 8)⟩, .int .i64 0]) (by simp [results, Tryz.results117, go_sem, Pst.agg, r0, r1, r2]) rfl ⟨rfl, HKR.out⟩
end Go.Proofs.YtkoikmdmejhhhaaGreat
