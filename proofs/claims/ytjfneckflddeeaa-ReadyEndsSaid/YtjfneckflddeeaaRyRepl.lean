/-
  ready.Expire, ready.Cancel (by ready.replaced), dockyardref09.Expire, Cancel.
-/
import Derived.Test.YtjfneckflddeeaaRyRSettle
import Derived.Laws.EntriesVeiled
import Derived.Shelf.Abstract
namespace Go.Proofs.Ytjfneckflddeeaa
open Go.RowKit

/-- Those that are chosen become new ones. -/
def repl (st : Int) (f : Pst → Bool) (l : List Pst) : List Pst := l.map (fun x => if f x = true then ⟨st, 0, 0⟩ else x)
theorem repl_length (st : Int) (f : Pst → Bool) (l : List Pst) : (repl st f l).length = l.length := by unfold repl; rw [List.length_map]
theorem repl_at {l : List Pst} {k : Nat} {x : Pst} (st : Int) (f : Pst → Bool) (h : l[k]? = some x) : (repl st f l)[k]? = some (if f x = true then ⟨st, 0, 0⟩ else x) := by
  unfold repl
  rw [List.getElem?_map, h]
  rfl
/-- The first k are as they shall be, the others as they were. -/
def Mid (a b m : List Pst) (k : Nat) : Prop := m.length = a.length ∧ ∀ j, m[j]? = if j < k then b[j]? else a[j]?
theorem Mid.first (a b : List Pst) : Mid a b a 0 := ⟨rfl, fun j => by rw [if_neg (Nat.not_lt_zero j)]⟩
theorem Mid.more {a b m : List Pst} {k : Nat} {y : Pst} (h : Mid a b m k) (hk : k < a.length) (hy : b[k]? = some y) : Mid a b (m.set k y) (k + 1) := by
  refine ⟨by rw [List.length_set]; exact h.1, fun j => ?_⟩
  by_cases e : k = j
  · subst e
    rw [List.getElem?_set_self (by rw [h.1]; exact hk), if_pos (Nat.lt_succ_self _), hy]
  · rw [List.getElem?_set_ne e, h.2 j]
    by_cases hj : j < k
    · rw [if_pos hj, if_pos (show j < k + 1 by omega)]
    · rw [if_neg hj, if_neg (show ¬ j < k + 1 by omega)]
theorem Mid.last {a b m : List Pst} {k : Nat} (h : Mid a b m k) (hk : a.length ≤ k) (hb : b.length = a.length) : m = b := by
  apply list_ext3
  intro j
  rw [h.2 j]
  by_cases hj : j < k
  · rw [if_pos hj]
  · rw [if_neg hj, List.getElem?_eq_none (by omega), List.getElem?_eq_none (by omega)]

/-- A function value that tells of a state whether it is chosen, in every world in which what lay in w lies as it did. -/
def Picks (g : Nat) (lb : Array Value) (f : Pst → Bool) (w : World) : Prop :=
  ∀ (W : World) (x : Pst), Keep noneOf w W → Calls Try.prog g (#[.agg #[.int .i64 x.s, .int .u64 x.t, .int .u64 x.u]] ++ lb) W (TellsB (f x) W)
theorem Picks.later {g : Nat} {lb : Array Value} {f : Pst → Bool} {w w' : World} (h : Picks g lb f w) (k : Keep noneOf w w') : Picks g lb f w' :=
  fun W x k' => h W x (k.trans k' (fun _ _ h => h))
/-- Such a value can be called. -/
def CanCall (g : Nat) : Prop := ∀ (args : Array Value) (w : World), (callFunc g args).run Try.prog w = .ok (.enter g args) w

set_option maxRecDepth 100000 in
set_option maxHeartbeats 4000000 in
theorem replaced_any (w : World) (D : Nat → Prop) (v : Value) (l : List Pst) (h : Sts w D v l) (h24 : l.length * 24 ≤ reachBytes) (st : Int) (g : Nat) (lb : Array Value) (eg : CanCall g) (f : Pst → Bool) (hp : Picks g lb f w) :
    Calls Try.prog 33 #[v, .int .i64 st, .func (.func g) #[] lb] w (OwnSts (repl st f l) w) := by
  have CP := Lib.hid (copied_any w D v l h h24)
  have HP := Lib.hid hp
  have HEG := Lib.hid eg
  have hlm := h.few
  unfold maxLen at hlm
  obtain ⟨A, c, rfl⟩ := h.shape
  have HRA : Hid (∀ k x, l[k]? = some x → (repl st f l)[k]? = some (if f x = true then ⟨st, 0, 0⟩ else x)) := Lib.hid fun k x h => repl_at st f h
  have HRL := Lib.hid (repl_length st f l)
  generalize repl st f l = R at *
  clear h h24 hp eg
  go_enter Try.func33, Try.ntmps33
  go_wp2_with fail
  refine CP.out.mono ?_
  rintro e w1 ⟨M, rfl, k1, hM, hml, hB⟩
  have HK1 := Lib.hid k1
  have HB1 := Lib.hid hB
  clear CP k1 hB
  go_wp2
  go_loopw [13] (fun i wr => ∃ k : Nat, k ≤ l.length ∧ i = .int .i64 k ∧ Keep noneOf w wr ∧ ∃ m, Mid l R m k ∧ Box wr M 32 (svs m)) (fun i _ => l.length - (intOf i).toNat)
  case atStart => exact ⟨0, Nat.zero_le _, rfl, HK1.out, l, Mid.first _ _, HB1.out⟩
  case round =>
    obtain ⟨k, hk, rfl, hkeep, m, hm, hB⟩ := hrel
    have HKP := Lib.hid hkeep
    have HB := Lib.hid hB
    have HM := Lib.hid hm
    clear hB HB1
    by_cases hlt : k < l.length
    · have hx := getS_at hlt
      have hmx : m[k]? = some (l.getD k Pst.zero) := by rw [hm.2 k, if_neg (Nat.lt_irrefl _)]; exact hx
      have hrx := HRA.out k _ hx
      generalize l.getD k Pst.zero = x at *
      obtain ⟨c0, c1, c2⟩ := HB.out.state hmx
      have HFP := Lib.hid (HP.out wr x hkeep)
      have HMX := Lib.hid hmx
      have HRX := Lib.hid hrx
      have q0 : (0 : Int) ≤ (k : Int) := by omega
      have q1 : (k : Int) < (l.length : Int) := by omega
      have eg := HEG.out
      unfold CanCall at eg
      generalize hfx : f x = fx at *
      clear hx hmx hrx hm hkeep
      go_wp2_with fail
      refine HFP.out.mono ?_
      rintro e w2 ⟨rfl, k2⟩
      have HK2 := Lib.hid (HKP.out.trans k2 (fun _ _ h => h))
      have HB2 := Lib.hid (HB.out.keep k2 id)
      clear HFP k2 HKP HB c0 c1 c2 eg
      cases fx with
      | true =>
        rw [if_pos rfl] at HRX
        obtain ⟨c0, c1, c2⟩ := HB2.out.state HMX.out
        have f0 := HB2.out.free (k * 3)
        have f1 := HB2.out.free (k * 3 + 1)
        have f2 := HB2.out.free (k * 3 + 2)
        go_wp2
        have kp := keep_put3 w2 M k (.int .i64 st) (.int .u64 0) (.int .u64 0)
        have HB7 := Lib.hid (HB2.out.put3 k ⟨st, 0, 0⟩ (by rw [HM.out.1]; exact hlt))
        have HM7 := Lib.hid (HM.out.more hlt HRX.out)
        have HK7 := Lib.hid (HK2.out.own kp hM)
        clear kp HB2 HK2 c0 c1 c2 f0 f1 f2
        go_roundw
        case rel => exact ⟨k + 1, by omega, by go_num, HK7.out, _, HM7.out, HB7.out⟩
        case measure => simp [intOf]; omega
      | false =>
        rw [if_neg (by decide)] at HRX
        have hm7 := HM.out.more hlt HRX.out
        rw [set_same _ _ _ HMX.out] at hm7
        have HM7 := Lib.hid hm7
        clear hm7
        go_wp2
        go_roundw
        case rel => exact ⟨k + 1, by omega, by go_num, HK2.out, _, HM7.out, HB2.out⟩
        case measure => simp [intOf]; omega
    · have hmR := HM.out.last (by omega) HRL.out
      subst hmR
      have hkn : ¬ ((k : Int) < (l.length : Int)) := by omega
      clear hlt hkeep hm
      go_wp2
      go_ret
      exact ⟨M, by rw [HRL.out]; rfl, HKP.out, hM, by rw [HRL.out]; exact hml, HB.out⟩

/-- Whose lease is over. -/
def pastB (now : Int) (x : Pst) : Bool := x.s == 2 && decide (x.u ≤ now)
theorem can_call_expire : CanCall 34 := enters_of Try.func34 (by kernel_rfl) rfl
theorem can_call_cancel : CanCall 35 := enters_of Try.func35 (by kernel_rfl) rfl
set_option maxRecDepth 100000 in
theorem picks_cancel (w : World) : Picks 35 #[] (fun x => !finB x.s) w := by
  intro W x _
  show Calls Try.prog 35 #[.agg #[.int .i64 x.s, .int .u64 x.t, .int .u64 x.u]] W _
  obtain ⟨c0, c1, c2⟩ := box3 W 32 (.int .i64 x.s) (.int .u64 x.t) (.int .u64 x.u)
  have HK := Lib.hid ((Keep.refl noneOf W).alloc (.cells #[.int .i64 x.s, .int .u64 x.t, .int .u64 x.u] 32))
  have HF := Lib.hid (final_any (W.alloc (.cells #[.int .i64 x.s, .int .u64 x.t, .int .u64 x.u] 32)) x)
  simp only
  generalize finB x.s = R at *
  go_enter Try.func35, Try.ntmps35
  go_wp2_with fail
  refine HF.out.mono ?_
  rintro e w1 ⟨rfl, k1⟩
  have HK1 := Lib.hid (HK.out.trans k1 (fun _ _ h => h))
  clear HF k1 HK c0 c1 c2
  go_wp2
  go_ret
  exact ⟨rfl, HK1.out⟩
set_option maxRecDepth 100000 in
theorem picks_expire (w : World) (q : Nat) (now : Int) (hq : Box w q 30 #[.int .u64 now]) : Picks 34 #[.pointer (some ⟨q, 0, none⟩)] (pastB now) w := by
  intro W x k
  show Calls Try.prog 34 #[.agg #[.int .i64 x.s, .int .u64 x.t, .int .u64 x.u], .pointer (some ⟨q, 0, none⟩)] W _
  obtain ⟨c0, c1, c2⟩ := box3 W 32 (.int .i64 x.s) (.int .u64 x.t) (.int .u64 x.u)
  have HK := Lib.hid ((Keep.refl noneOf W).alloc (.cells #[.int .i64 x.s, .int .u64 x.t, .int .u64 x.u] 32))
  have d0 : (W.alloc (.cells #[.int .i64 x.s, .int .u64 x.t, .int .u64 x.u] 32)).cell? ⟨q, 0, none⟩ = some (.int .u64 now) := ((hq.keep k id).alloc _).cell 0
  generalize hR : pastB now x = R
  have HR := Lib.hid hR
  clear hR
  by_cases hs : x.s = 2
  · have g : (x.s == 2) = true := by rw [hs]; rfl
    have HG := Lib.hid g
    clear hs
    go_enter Try.func34, Try.ntmps34
    go_wp2
    go_ret
    refine ⟨ret_bool ?_, HK.out⟩
    rw [← HR.out]
    unfold pastB
    rw [HG.out]
    rfl
  · have g : (x.s == 2) = false := by rw [beq_eq_false_iff_ne]; exact hs
    have HG := Lib.hid g
    clear hs
    go_enter Try.func34, Try.ntmps34
    go_wp2
    go_ret
    refine ⟨ret_bool ?_, HK.out⟩
    rw [← HR.out]
    unfold pastB
    rw [HG.out]
    rfl

set_option maxRecDepth 100000 in
theorem expire_any (w : World) (D : Nat → Prop) (v : Value) (l : List Pst) (h : Sts w D v l) (h24 : l.length * 24 ≤ reachBytes) (now : Int) :
    Calls Try.prog 19 #[v, .int .u64 now] w (TellsSts (repl 1 (pastB now) l) w) := by
  have ka := (Keep.refl noneOf w).alloc (.cells #[.int .u64 now] 30)
  have HK := Lib.hid ka
  obtain ⟨A, c, rfl⟩ := h.shape
  have RP := Lib.hid (replaced_any _ D _ l (h.keep ka (fun _ _ _ => id)) h24 1 _ _ can_call_expire _ (picks_expire _ _ now (Box.new w 30 #[.int .u64 now])))
  have HL := Lib.hid (repl_length 1 (pastB now) l)
  generalize repl 1 (pastB now) l = R at *
  clear h h24 ka
  go_enter Try.func19, Try.ntmps19
  go_wp2_with fail
  refine RP.out.mono ?_
  intro e w1 ht
  obtain ⟨A1, c1, rfl, hs, k1⟩ := ht.told.tells
  have HK1 := Lib.hid (HK.out.trans k1 (fun _ _ h => h))
  have HS := Lib.hid hs
  have hsz : w.heap.size ≤ (w.alloc (.cells #[.int .u64 now] 30)).heap.size := HK.out.size
  clear RP ht hs k1
  go_wp2
  go_ret
  exact ⟨_, _, rfl, HS.out.mono (fun _ _ h => Nat.le_trans hsz h), HK1.out⟩
set_option maxRecDepth 100000 in
theorem cancel_any (w : World) (D : Nat → Prop) (v : Value) (l : List Pst) (h : Sts w D v l) (h24 : l.length * 24 ≤ reachBytes) :
    Calls Try.prog 21 #[v] w (TellsSts (repl 6 (fun x => !finB x.s) l) w) := by
  obtain ⟨A, c, rfl⟩ := h.shape
  have RP := Lib.hid (replaced_any _ D _ l h h24 6 _ _ can_call_cancel _ (picks_cancel w))
  generalize repl 6 (fun x => !finB x.s) l = R at *
  clear h h24
  go_enter Try.func21, Try.ntmps21
  go_wp2_with fail
  refine RP.out.mono ?_
  intro e w1 ht
  obtain ⟨A1, c1, rfl, hs, k1⟩ := ht.told.tells
  have HK1 := Lib.hid k1
  have HS := Lib.hid hs
  clear RP ht hs k1
  go_wp2
  go_ret
  exact ⟨_, _, rfl, HS.out, HK1.out⟩
end Go.Proofs.Ytjfneckflddeeaa
