import Derived.Test.YtffoeodjbbkdjaaGreatRows
import Derived.BigQuiet
import Derived.Deep.QuietTactic
import Derived.Deep.RegionHeld3
import Derived.Laws.EntriesVeiled
import Derived.Laws.StructEq
import Derived.Lib.Hide
import Derived.Lib.MinMax
import Derived.Shelf.Abstract
import Derived.Test.YtffoeodjbbkdjaaGreatBs01
import Derived.Test.YtffoeodjbbkdjaaGreatBs10
import Derived.Test.YtffoeodjbbkdjaaGreatBs13
namespace Go.Proofs.YtffoeodjbbkdjaaGreat
open Go.RowKit
def repl (st : Int) (f : Pst → Bool) (l : List Pst) : List Pst := l.map (fun x => if f x = true then ⟨st, 0, 0⟩ else x)
theorem repl_length (st : Int) (f : Pst → Bool) (l : List Pst) : (repl st f l).length = l.length := by unfold repl; rw [List.length_map]
theorem repl_at {l : List Pst} {k : Nat} {x : Pst} (st : Int) (f : Pst → Bool) (h : l[k]? = some x) : (repl st f l)[k]? = some (if f x = true then ⟨st, 0, 0⟩ else x) := by
 unfold repl
 rw [List.getElem?_map, h]
 rfl
def Mid (a b m : List Pst) (k : Nat) : Prop := m.length = a.length ∧ ∀ j, m[j]? = if j < k then b[j]? else a[j]?
theorem Mid.first (a b : List Pst) : Mid a b a 0 := ⟨rfl, fun j => by rw [if_neg (Nat.not_lt_zero j)]⟩
theorem Mid.more {a b m : List Pst} {k : Nat} {y : Pst} (h : Mid a b m k) (hk : k < a.length) (hy : b[k]? = some y) : Mid a b (m.set k y) (k + 1) := by
 refine ⟨by rw [List.length_set]; exact h.1, fun j => ?_⟩
 by_cases e : k = j
 ·
  subst e
  rw [List.getElem?_set_self (by rw [h.1]; exact hk), if_pos (Nat.lt_succ_self _), hy]
 ·
  rw [List.getElem?_set_ne e, h.2 j]
  by_cases hj : j < k
  ·
   rw [if_pos hj, if_pos (show j < k + 1 by omega)]
  ·
   rw [if_neg hj, if_neg (show ¬ j < k + 1 by omega)]
theorem Mid.last {a b m : List Pst} {k : Nat} (h : Mid a b m k) (hk : a.length ≤ k) (hb : b.length = a.length) : m = b := by
 apply list_ext3
 intro j
 rw [h.2 j]
 by_cases hj : j < k
 ·
  rw [if_pos hj]
 ·
  rw [if_neg hj, List.getElem?_eq_none (by omega), List.getElem?_eq_none (by omega)]
def Picks (g : Nat) (lb : Array Value) (f : Pst → Bool) (w : World) : Prop :=
 ∀ (W : World) (x : Pst), Keep noneOf w W → Calls Tryz.prog g (#[.agg #[.int .i64 x.s, .int .u64 x.t, .int .u64 x.u]] ++ lb) W (TellsB (f x) W)
theorem Picks.later {g : Nat} {lb : Array Value} {f : Pst → Bool} {w w' : World} (h : Picks g lb f w) (k : Keep noneOf w w') : Picks g lb f w' :=
 fun W x k' => h W x (k.trans k' (fun _ _ h => h))
set_option maxRecDepth 100000 in
set_option maxHeartbeats 4000000 in
theorem replaced_any (w : World) (D : Nat → Prop) (v : Value) (l : List Pst) (h : Sts w D v l) (h24 : l.length * 24 ≤ reachBytes) (st : Int) (g : Nat) (lb : Array Value) (eg : CanCall g) (f : Pst → Bool) (hp : Picks g lb f w) :
  Calls Tryz.prog 142 #[v, .int .i64 st, .func (.func g) #[] lb] w (OwnSts (repl st f l) w) := by
 have CP := Lib.hid (copied_any w D v l h h24)
 have HP := Lib.hid hp
 have HEG := Lib.hid eg
 have hlm := h.few
 unfold maxLen at hlm
 obtain ⟨A, c, rfl⟩ := h.shape
 have HRA : Hid (∀ k x, l[k]? = some x → (repl st f l)[k]? = some (if f x = true then ⟨st, 0, 0⟩ else x)) := Lib.hid fun k x h => repl_at st f h
 have HRL := Lib.hid (repl_length st f l)
 generalize repl st f l = R at *
 clear h h24 hp eg
 go_enter Tryz.func142, Tryz.ntmps142
 go_wp2_with fail
 refine CP.out.mono ?_
 rintro e w1 ⟨M, rfl, k1, hM, hml, hB⟩
 have HK1 := Lib.hid k1
 have HB1 := Lib.hid hB
 clear CP k1 hB
 go_wp2
 go_loopw [13] (fun i wr => ∃ k : Nat, k ≤ l.length ∧ i = .int .i64 k ∧ Keep noneOf w wr ∧ ∃ m, Mid l R m k ∧ Box wr M 61 (svs m)) (fun i _ => l.length - (intOf i).toNat)
 case atStart => exact ⟨0, Nat.zero_le _, rfl, HK1.out, l, Mid.first _ _, HB1.out⟩
 case round =>
  obtain ⟨k, hk, rfl, hkeep, m, hm, hB⟩ := hrel
  have HKP := Lib.hid hkeep
  have HB := Lib.hid hB
  have HM := Lib.hid hm
  clear hB HB1
  by_cases hlt : k < l.length
  ·
   have hx := getS_at hlt
   have hmx : m[k]? = some (l.getD k Pst.zero) := by rw [hm.2 k, if_neg (Nat.lt_irrefl _)]; exact hx
   have hrx := HRA.out k _ hx
   generalize l.getD k Pst.zero = x at *
   obtain ⟨c0, c1, c2⟩ := HB.out.state hmx
   have HFP := Lib.hid (HP.out wr x hkeep)
   have HMX := Lib.hid hmx
   have HRX := Lib.hid hrx
   have q0 : (0 : Int) ≤ (k : Int) := by omega
   have q1 : (k : Int) < (l.length : Int) := by omega
   have eg := HEG.out
   unfold CanCall at eg
   generalize hfx : f x = fx at *
   clear hx hmx hrx hm hkeep
   go_wp2_with fail
   refine HFP.out.mono ?_
   rintro e w2 ⟨rfl, k2⟩
   have HK2 := Lib.hid (HKP.out.trans k2 (fun _ _ h => h))
   have HB2 := Lib.hid (HB.out.keep k2 id)
   clear HFP k2 HKP HB c0 c1 c2 eg
   cases fx with
   | true =>
    rw [if_pos rfl] at HRX
    obtain ⟨c0, c1, c2⟩ := HB2.out.state HMX.out
    have f0 := HB2.out.free (k * 3)
    have f1 := HB2.out.free (k * 3 + 1)
    have f2 := HB2.out.free (k * 3 + 2)
    go_wp2
    have kp := keep_put3 w2 M k (.int .i64 st) (.int .u64 0) (.int .u64 0)
    have HB7 := Lib.hid (HB2.out.putS k ⟨st, 0, 0⟩ (by rw [HM.out.1]; exact hlt))
    have HM7 := Lib.hid (HM.out.more hlt HRX.out)
    have HK7 := Lib.hid (HK2.out.own kp hM)
    clear kp HB2 HK2 c0 c1 c2 f0 f1 f2
    go_roundw
    case rel => exact ⟨k + 1, by omega, by go_num, HK7.out, _, HM7.out, HB7.out⟩
    case measure => simp [intOf]; omega
   | false =>
    rw [if_neg (by decide)] at HRX
    have hm7 := HM.out.more hlt HRX.out
    rw [set_same _ _ _ HMX.out] at hm7
    have HM7 := Lib.hid hm7
    clear hm7
    go_wp2
    go_roundw
    case rel => exact ⟨k + 1, by omega, by go_num, HK2.out, _, HM7.out, HB2.out⟩
    case measure => simp [intOf]; omega
  ·
   have hmR := HM.out.last (by omega) HRL.out
   subst hmR
   have hkn : ¬ ((k : Int) < (l.length : Int)) := by omega
   clear hlt hkeep hm
   go_wp2
   go_ret
   exact ⟨M, by rw [HRL.out]; rfl, HKP.out, hM, by rw [HRL.out]; exact hml, HB.out⟩
def pastB (now : Int) (x : Pst) : Bool := x.s == 2 && decide (x.u ≤ now)
theorem can_call_expire : CanCall 144 := enters_of Tryz.func144 (by kernel_rfl) rfl
theorem can_call_cancel : CanCall 143 := enters_of Tryz.func143 (by kernel_rfl) rfl
set_option maxRecDepth 100000 in
theorem picks_cancel (w : World) : Picks 143 #[] (fun x => !finB x.s) w := by
 intro W x _
 show Calls Tryz.prog 143 #[.agg #[.int .i64 x.s, .int .u64 x.t, .int .u64 x.u]] W _
 obtain ⟨c0, c1, c2⟩ := box3 W 61 (.int .i64 x.s) (.int .u64 x.t) (.int .u64 x.u)
 have HK := Lib.hid ((Keep.refl noneOf W).alloc (.cells #[.int .i64 x.s, .int .u64 x.t, .int .u64 x.u] 61))
 have HF := Lib.hid (final_any (W.alloc (.cells #[.int .i64 x.s, .int .u64 x.t, .int .u64 x.u] 61)) x)
 simp only
 generalize finB x.s = R at *
 go_enter Tryz.func143, Tryz.ntmps143
 go_wp2_with fail
 refine HF.out.mono ?_
 rintro e w1 ⟨rfl, k1⟩
 have HK1 := Lib.hid (HK.out.trans k1 (fun _ _ h => h))
 clear HF k1 HK c0 c1 c2
 go_wp2
 go_ret
 exact ⟨rfl, HK1.out⟩
set_option maxRecDepth 100000 in
theorem picks_expire (w : World) (q : Nat) (now : Int) (hq : Box w q 23 #[.int .u64 now]) : Picks 144 #[.pointer (some ⟨q, 0, none⟩)] (pastB now) w := by
 intro W x k
 show Calls Tryz.prog 144 #[.agg #[.int .i64 x.s, .int .u64 x.t, .int .u64 x.u], .pointer (some ⟨q, 0, none⟩)] W _
 obtain ⟨c0, c1, c2⟩ := box3 W 61 (.int .i64 x.s) (.int .u64 x.t) (.int .u64 x.u)
 have HK := Lib.hid ((Keep.refl noneOf W).alloc (.cells #[.int .i64 x.s, .int .u64 x.t, .int .u64 x.u] 61))
 have d0 : (W.alloc (.cells #[.int .i64 x.s, .int .u64 x.t, .int .u64 x.u] 61)).cell? ⟨q, 0, none⟩ = some (.int .u64 now) := ((hq.keep k id).alloc _).cell 0
 generalize hR : pastB now x = R
 have HR := Lib.hid hR
 clear hR
 by_cases hs : x.s = 2
 ·
  have g : (x.s == 2) = true := by rw [hs]; rfl
  have HG := Lib.hid g
  clear hs
  go_enter Tryz.func144, Tryz.ntmps144
  go_wp2
  go_ret
  refine ⟨ret_bool ?_, HK.out⟩
  rw [← HR.out]
  unfold pastB
  rw [HG.out]
  rfl
 ·
  have g : (x.s == 2) = false := by rw [beq_eq_false_iff_ne]; exact hs
  have HG := Lib.hid g
  clear hs
  go_enter Tryz.func144, Tryz.ntmps144
  go_wp2
  go_ret
  refine ⟨ret_bool ?_, HK.out⟩
  rw [← HR.out]
  unfold pastB
  rw [HG.out]
  rfl
end Go.Proofs.YtffoeodjbbkdjaaGreat
namespace Go.Proofs.YtffoeodjbbkdjaaGreat
open Go.RowKit
theorem cell_three_new (w : World) (x y z : Value) (t : TypeId) : ∀ j u, [x, y, z][j]? = some u → (w.alloc (.cells #[x, y, z] t)).cell? ((⟨w.heap.size, 0, none⟩ : Addr).add j) = some u := by
 intro j u hu
 have hb := Box.new w t #[x, y, z]
 rw [Addr.add]
 split
 ·
  rename_i h0
  subst h0
  rw [hb.cell]
  simpa using hu
 ·
  show (w.alloc (.cells #[x, y, z] t)).cell? ⟨w.heap.size, 0 + j, none⟩ = some u
  rw [Nat.zero_add, hb.cell]
  simpa using hu
theorem own_block_le {w : World} {base : Nat} {e : TypeId} {size : Nat} {v : Value} {n : Nat} {xs : List Value} (h : w.ownsRow base e size v n xs) {k : Nat} (hk : some k = v.ownBlock) : base ≤ k := by
 rcases h.2 with ⟨rfl, _⟩ | ⟨g, cap, cur, rfl, hb, hg, _⟩
 ·
  cases hk
 ·
  have : k = g := by simpa [Value.ownBlock] using hk
  omega
theorem take_cells (l : List Pst) (k : Nat) (x : Pst) (h : l[k]? = some x) : (l.take (k + 1)).flatMap Pst.cells = (l.take k).flatMap Pst.cells ++ x.cells := by
 rw [List.take_add_one, h, List.flatMap_append]
 simp
set_option maxRecDepth 100000 in
set_option maxHeartbeats 4000000 in
theorem refExpire_any (w : World) (D : Nat → Prop) (v : Value) (l : List Pst) (h : Sts w D v l) (h24 : l.length * 24 ≤ reachBytes) (now : Int) :
  Calls Tryz.prog 27 #[v, .int .u64 now] w (TellsSts (repl 1 (pastB now) l) w) := by
 have h24' : l.length * 24 ≤ 140737488351232 := h24
 have HS0 := Lib.hid h
 have hlm := h.few
 unfold maxLen at hlm
 obtain ⟨A, c, rfl⟩ := h.shape
 obtain ⟨i1, hi1, hz1, hs1, hb1⟩ := info_parts stinfo
 have HRA : Hid (∀ k x, l[k]? = some x → (repl 1 (pastB now) l)[k]? = some (if pastB now x = true then ⟨1, 0, 0⟩ else x)) := Lib.hid fun k x h => repl_at 1 (pastB now) h
 have HRL := Lib.hid (repl_length 1 (pastB now) l)
 generalize repl 1 (pastB now) l = R at *
 clear h h24
 go_enter Tryz.func27, Tryz.ntmps27
 go_wp2
 go_loopw [5, 6] (fun o i wr => ∃ k : Nat, k ≤ l.length ∧ i = .int .i64 k ∧ Keep noneOf w wr ∧ wr.ownsRow w.heap.size 61 3 o k ((R.take k).flatMap Pst.cells)) (fun _ i _ => l.length - (intOf i).toNat)
 case atStart => exact ⟨0, Nat.zero_le _, rfl, Keep.refl _ _, World.ownsRow_nil _ _ _ _⟩
 case round =>
  obtain ⟨k, hk, rfl, hkeep, hown⟩ := hrel
  obtain ⟨Ao, co, rfl⟩ := own_shape hown
  have HKP := Lib.hid hkeep
  have HO := Lib.hid hown
  clear hown
  by_cases hlt : k < l.length
  ·
   have hx := getS_at hlt
   have hrx := HRA.out k _ hx
   obtain ⟨b, o, rfl, hblk, c0, c1, c2⟩ : ∃ b o, A = some ⟨b, o, none⟩ ∧ b < wr.heap.size ∧ wr.cell? ⟨b, o + k * 3, none⟩ = some (.int .i64 (l.getD k Pst.zero).s) ∧ wr.cell? ⟨b, o + k * 3 + 1, none⟩ = some (.int .u64 (l.getD k Pst.zero).t) ∧ wr.cell? ⟨b, o + k * 3 + 2, none⟩ = some (.int .u64 (l.getD k Pst.zero).u) := by
    obtain ⟨A', c', hv', _, _, _, _, hrow⟩ := HS0.out.keep hkeep (fun _ _ _ => id)
    obtain ⟨rfl, rfl⟩ : A = A' ∧ c = c' := by simpa using hv'
    obtain ⟨ad, rfl, hsp, hblk, hD, hcell⟩ := hrow (by omega)
    obtain ⟨b, o, sp⟩ := ad
    simp only at hsp hblk hD hcell
    subst hsp
    obtain ⟨c0, c1, c2⟩ := sts_at (S := noneOf) (Keep.refl noneOf wr) hblk id hcell hx
    exact ⟨b, o, rfl, hblk, c0, c1, c2⟩
   generalize l.getD k Pst.zero = x at *
   have q0 : (0 : Int) ≤ (k : Int) := by omega
   have q1 : (k : Int) < (l.length : Int) := by omega
   generalize hR : (if pastB now x = true then (⟨1, 0, 0⟩ : Pst) else x) = y at *
   have HTK := Lib.hid (take_cells R k y hrx)
   have HWS := Lib.hid hkeep.size
   clear hx hrx hkeep
   obtain ⟨s, t, u⟩ := x
   simp only at c0 c1 c2
   have hpb : pastB now ⟨s, t, u⟩ = (s == 2 && decide (u ≤ now)) := rfl
   rw [hpb] at hR
   clear hpb
   by_cases hs : s = 2
   ·
    subst hs
    by_cases hu : u ≤ now
    ·
     have hy : y = ⟨1, 0, 0⟩ := by
      rw [← hR, decide_eq_true hu]
      rfl
     subst hy
     clear hR
     have hsz1 : (wr.alloc (.cells #[.int .i64 1, .int .u64 0, .int .u64 0] 61)).heap.size = wr.heap.size + 1 := by simp
     have hcn := cell_three_new (wr.alloc (.cells #[.int .i64 1, .int .u64 0, .int .u64 0] 61)) (.int .i64 1) (.int .u64 0) (.int .u64 0) 61
     rw [hsz1] at hcn
     have HCN := Lib.hid hcn
     have HOO := Lib.hid ((HO.out.alloc (.cells #[.int .i64 1, .int .u64 0, .int .u64 0] 61)).alloc (.cells #[.int .i64 1, .int .u64 0, .int .u64 0] 61))
     have HKK := Lib.hid ((HKP.out.alloc (.cells #[.int .i64 1, .int .u64 0, .int .u64 0] 61)).alloc (.cells #[.int .i64 1, .int .u64 0, .int .u64 0] 61))
     clear hcn hsz1
     go_wp2_with (at_builtin; refine wpList_append_own _ rfl _ _ 45 rfl w.heap.size 61 i1 _ 3 24 Tryz.underlying45 hi1 hz1 hs1 hb1 rfl (by decide) _ _ _ rfl HOO.out ⟨wr.heap.size + 1, 0, none⟩ 1 1 [.int .i64 1, .int .u64 0, .int .u64 0] rfl rfl HCN.out (by simp [Value.oneCell']) (by unfold maxLen; omega) (by omega) (by have := HWS.out; simp; omega) ?_; intro v' w4 hown' hgrow _)
     have HK4 := Lib.hid (HKK.out.trans (Keep.of_grown hgrow) (fun i hi e => by
      have := own_block_le HO.out e
      omega))
     have hown2 : w4.ownsRow w.heap.size 61 3 v' (k + 1) ((R.take (k + 1)).flatMap Pst.cells) := by rw [HTK.out]; exact hown'
     have HO4 := Lib.hid hown2
     clear hown' hgrow hown2 HCN HOO HKK HO HKP
     go_wp2
     go_roundw
     case rel => exact ⟨k + 1, by omega, by go_num, HK4.out, HO4.out⟩
     case measure => simp [intOf]; omega
    ·
     have hy : y = ⟨2, t, u⟩ := by
      rw [← hR, decide_eq_false hu]
      rfl
     subst hy
     clear hR
     have hsz1 : (wr.alloc (.cells #[.int .i64 2, .int .u64 t, .int .u64 u] 61)).heap.size = wr.heap.size + 1 := by simp
     have hcn := cell_three_new (wr.alloc (.cells #[.int .i64 2, .int .u64 t, .int .u64 u] 61)) (.int .i64 2) (.int .u64 t) (.int .u64 u) 61
     rw [hsz1] at hcn
     have HCN := Lib.hid hcn
     have HOO := Lib.hid ((HO.out.alloc (.cells #[.int .i64 2, .int .u64 t, .int .u64 u] 61)).alloc (.cells #[.int .i64 2, .int .u64 t, .int .u64 u] 61))
     have HKK := Lib.hid ((HKP.out.alloc (.cells #[.int .i64 2, .int .u64 t, .int .u64 u] 61)).alloc (.cells #[.int .i64 2, .int .u64 t, .int .u64 u] 61))
     clear hcn hsz1
     go_wp2_with (at_builtin; refine wpList_append_own _ rfl _ _ 45 rfl w.heap.size 61 i1 _ 3 24 Tryz.underlying45 hi1 hz1 hs1 hb1 rfl (by decide) _ _ _ rfl HOO.out ⟨wr.heap.size + 1, 0, none⟩ 1 1 [.int .i64 2, .int .u64 t, .int .u64 u] rfl rfl HCN.out (by simp [Value.oneCell']) (by unfold maxLen; omega) (by omega) (by have := HWS.out; simp; omega) ?_; intro v' w4 hown' hgrow _)
     have HK4 := Lib.hid (HKK.out.trans (Keep.of_grown hgrow) (fun i hi e => by
      have := own_block_le HO.out e
      omega))
     have hown2 : w4.ownsRow w.heap.size 61 3 v' (k + 1) ((R.take (k + 1)).flatMap Pst.cells) := by rw [HTK.out]; exact hown'
     have HO4 := Lib.hid hown2
     clear hown' hgrow hown2 HCN HOO HKK HO HKP
     go_wp2
     go_roundw
     case rel => exact ⟨k + 1, by omega, by go_num, HK4.out, HO4.out⟩
     case measure => simp [intOf]; omega
   ·
    have g : (s == 2) = false := by rw [beq_eq_false_iff_ne]; exact hs
    have hy : y = ⟨s, t, u⟩ := by
     rw [← hR, g]
     rfl
    subst hy
    clear hR hs
    have hsz1 : (wr.alloc (.cells #[.int .i64 s, .int .u64 t, .int .u64 u] 61)).heap.size = wr.heap.size + 1 := by simp
    have hcn := cell_three_new (wr.alloc (.cells #[.int .i64 s, .int .u64 t, .int .u64 u] 61)) (.int .i64 s) (.int .u64 t) (.int .u64 u) 61
    rw [hsz1] at hcn
    have HCN := Lib.hid hcn
    have HOO := Lib.hid ((HO.out.alloc (.cells #[.int .i64 s, .int .u64 t, .int .u64 u] 61)).alloc (.cells #[.int .i64 s, .int .u64 t, .int .u64 u] 61))
    have HKK := Lib.hid ((HKP.out.alloc (.cells #[.int .i64 s, .int .u64 t, .int .u64 u] 61)).alloc (.cells #[.int .i64 s, .int .u64 t, .int .u64 u] 61))
    clear hcn hsz1
    go_wp2_with (at_builtin; refine wpList_append_own _ rfl _ _ 45 rfl w.heap.size 61 i1 _ 3 24 Tryz.underlying45 hi1 hz1 hs1 hb1 rfl (by decide) _ _ _ rfl HOO.out ⟨wr.heap.size + 1, 0, none⟩ 1 1 [.int .i64 s, .int .u64 t, .int .u64 u] rfl rfl HCN.out (by simp [Value.oneCell']) (by unfold maxLen; omega) (by omega) (by have := HWS.out; simp; omega) ?_; intro v' w4 hown' hgrow _)
    have HK4 := Lib.hid (HKK.out.trans (Keep.of_grown hgrow) (fun i hi e => by
     have := own_block_le HO.out e
     omega))
    have hown2 : w4.ownsRow w.heap.size 61 3 v' (k + 1) ((R.take (k + 1)).flatMap Pst.cells) := by rw [HTK.out]; exact hown'
    have HO4 := Lib.hid hown2
    clear hown' hgrow hown2 HCN HOO HKK HO HKP
    go_wp2
    go_roundw
    case rel => exact ⟨k + 1, by omega, by go_num, HK4.out, HO4.out⟩
    case measure => simp [intOf]; omega
  ·
   have hkn : ¬ ((k : Int) < (l.length : Int)) := by omega
   have hkl : k = l.length := by omega
   subst hkl
   have hso := HO.out
   rw [List.take_of_length_le (by rw [HRL.out]; exact Nat.le_refl _)] at hso
   have HSO := Lib.hid (show Sts wr (fun k => w.heap.size ≤ k) (.slice Ao R.length co) R by rw [HRL.out]; exact Row.of_own (by rw [HRL.out]; exact hso))
   clear hlt hkeep hso
   go_wp2
   go_ret
   exact ⟨_, _, by rw [HRL.out]; rfl, HSO.out, HKP.out⟩
set_option maxRecDepth 100000 in
set_option maxHeartbeats 4000000 in
theorem refCancel_any (w : World) (D : Nat → Prop) (v : Value) (l : List Pst) (h : Sts w D v l) (h24 : l.length * 24 ≤ reachBytes) :
  Calls Tryz.prog 76 #[v] w (TellsSts (repl 6 (fun x => !finB x.s) l) w) := by
 have h24' : l.length * 24 ≤ 140737488351232 := h24
 have HS0 := Lib.hid h
 have hlm := h.few
 unfold maxLen at hlm
 obtain ⟨A, c, rfl⟩ := h.shape
 obtain ⟨i1, hi1, hz1, hs1, hb1⟩ := info_parts stinfo
 have HRA : Hid (∀ k (x : Pst), l[k]? = some x → (repl 6 (fun x => !finB x.s) l)[k]? = some (if (!finB x.s) = true then ⟨6, 0, 0⟩ else x)) := Lib.hid fun k x h => repl_at 6 (fun x => !finB x.s) h
 have HRL := Lib.hid (repl_length 6 (fun x => !finB x.s) l)
 generalize repl 6 (fun x => !finB x.s) l = R at *
 clear h h24
 go_enter Tryz.func76, Tryz.ntmps76
 go_wp2
 go_loopw [3, 4] (fun o i wr => ∃ k : Nat, k ≤ l.length ∧ i = .int .i64 k ∧ Keep noneOf w wr ∧ wr.ownsRow w.heap.size 61 3 o k ((R.take k).flatMap Pst.cells)) (fun _ i _ => l.length - (intOf i).toNat)
 case atStart => exact ⟨0, Nat.zero_le _, rfl, Keep.refl _ _, World.ownsRow_nil _ _ _ _⟩
 case round =>
  obtain ⟨k, hk, rfl, hkeep, hown⟩ := hrel
  obtain ⟨Ao, co, rfl⟩ := own_shape hown
  have HKP := Lib.hid hkeep
  have HO := Lib.hid hown
  clear hown
  by_cases hlt : k < l.length
  ·
   have hx := getS_at hlt
   have hrx := HRA.out k _ hx
   obtain ⟨b, o, rfl, hblk, c0, c1, c2⟩ : ∃ b o, A = some ⟨b, o, none⟩ ∧ b < wr.heap.size ∧ wr.cell? ⟨b, o + k * 3, none⟩ = some (.int .i64 (l.getD k Pst.zero).s) ∧ wr.cell? ⟨b, o + k * 3 + 1, none⟩ = some (.int .u64 (l.getD k Pst.zero).t) ∧ wr.cell? ⟨b, o + k * 3 + 2, none⟩ = some (.int .u64 (l.getD k Pst.zero).u) := by
    obtain ⟨A', c', hv', _, _, _, _, hrow⟩ := HS0.out.keep hkeep (fun _ _ _ => id)
    obtain ⟨rfl, rfl⟩ : A = A' ∧ c = c' := by simpa using hv'
    obtain ⟨ad, rfl, hsp, hblk, hD, hcell⟩ := hrow (by omega)
    obtain ⟨b, o, sp⟩ := ad
    simp only at hsp hblk hD hcell
    subst hsp
    obtain ⟨c0, c1, c2⟩ := sts_at (S := noneOf) (Keep.refl noneOf wr) hblk id hcell hx
    exact ⟨b, o, rfl, hblk, c0, c1, c2⟩
   generalize l.getD k Pst.zero = x at *
   have q0 : (0 : Int) ≤ (k : Int) := by omega
   have q1 : (k : Int) < (l.length : Int) := by omega
   generalize hR : (if (!finB x.s) = true then (⟨6, 0, 0⟩ : Pst) else x) = y at *
   have HTK := Lib.hid (take_cells R k y hrx)
   have HWS := Lib.hid hkeep.size
   clear hx hrx hkeep
   obtain ⟨s, t, u⟩ := x
   simp only at c0 c1 c2 hR
   have FN := Lib.hid (refFinal_any (wr.alloc (.cells #[.int .i64 s, .int .u64 t, .int .u64 u] 61)) ⟨s, t, u⟩)
   simp only at FN
   have hbx := Box.new wr 61 #[.int .i64 s, .int .u64 t, .int .u64 u]
   have HBX := Lib.hid hbx
   have HK1 := Lib.hid (HKP.out.alloc (.cells #[.int .i64 s, .int .u64 t, .int .u64 u] 61))
   have HO1 := Lib.hid (HO.out.alloc (.cells #[.int .i64 s, .int .u64 t, .int .u64 u] 61))
   generalize hf : finB s = fb at *
   have hlw : wr.heap.size < (wr.alloc (.cells #[.int .i64 s, .int .u64 t, .int .u64 u] 61)).heap.size := hbx.lt
   clear hbx hf
   go_wp2_with fail
   refine FN.out.mono ?_
   rintro e w5 ⟨rfl, k5⟩
   have hb5 := HBX.out.keep k5 id
   have d0 := hb5.cell 0
   have d1 := hb5.cell 1
   have d2 := hb5.cell 2
   simp only [List.getElem?_toArray, List.getElem?_cons_zero, List.getElem?_cons_succ] at d0 d1 d2
   have HB5 := Lib.hid hb5
   have HK5 := Lib.hid (HK1.out.trans k5 (fun _ _ h => h))
   have HO5 := Lib.hid (own_keep HO1.out k5 (fun _ _ h => h))
   have hwq : w.heap.size ≤ wr.heap.size := HWS.out
   clear FN k5 hb5 HK1 HO1 HBX
   cases fb with
   | true =>
    have hy : y = ⟨s, t, u⟩ := by
     rw [← hR]
     rfl
    subst hy
    clear hR
    have HKW := HK5
    have HOW := HO5
    generalize w5 = W at *
    have hcn := cell_three_new W (.int .i64 s) (.int .u64 t) (.int .u64 u) 61
    have HCN := Lib.hid hcn
    have HOO := Lib.hid (HOW.out.alloc (.cells #[.int .i64 s, .int .u64 t, .int .u64 u] 61))
    have HKK := Lib.hid (HKW.out.alloc (.cells #[.int .i64 s, .int .u64 t, .int .u64 u] 61))
    clear hcn
    go_wp2_with (at_builtin; refine wpList_append_own _ rfl _ _ 45 rfl w.heap.size 61 i1 _ 3 24 Tryz.underlying45 hi1 hz1 hs1 hb1 rfl (by decide) _ _ _ rfl HOO.out ⟨W.heap.size, 0, none⟩ 1 1 [.int .i64 s, .int .u64 t, .int .u64 u] rfl rfl HCN.out (by simp [Value.oneCell']) (by unfold maxLen; omega) (by omega) (by have := HKW.out.size; simp; omega) ?_; intro v' w4 hown' hgrow _)
    have HK4 := Lib.hid (HKK.out.trans (Keep.of_grown hgrow) (fun i hi e => by
     have := own_block_le HOW.out e
     omega))
    have hown2 : w4.ownsRow w.heap.size 61 3 v' (k + 1) ((R.take (k + 1)).flatMap Pst.cells) := by rw [HTK.out]; exact hown'
    have HO4 := Lib.hid hown2
    clear hown' hgrow hown2 HCN HOO HKK HOW HKW
    go_wp2
    go_roundw
    case rel => exact ⟨k + 1, by omega, by go_num, HK4.out, HO4.out⟩
    case measure => simp [intOf]; omega
   | false =>
    have hy : y = ⟨6, 0, 0⟩ := by
     rw [← hR]
     rfl
    subst hy
    clear hR
    have f0 := HB5.out.free 0
    have f1 := HB5.out.free 1
    have f2 := HB5.out.free 2
    have ks : Keep (fun i => i = wr.heap.size) w5 (((w5.setCell ⟨wr.heap.size, 0, none⟩ (.int .i64 6)).setCell ⟨wr.heap.size, 1, none⟩ (.int .u64 0)).setCell ⟨wr.heap.size, 2, none⟩ (.int .u64 0)) := (((Keep.refl (fun i => i = wr.heap.size) w5).setCell (fun _ => rfl) _).setCell (fun _ => rfl) _).setCell (fun _ => rfl) _
    have HKW := Lib.hid (HK5.out.own ks hwq)
    have HOW := Lib.hid (own_keep HO5.out ks (fun j hj e => by
     rcases HO.out.2 with ⟨hv, _⟩ | ⟨g, cap, cur, hv, _, hg, _⟩
     ·
      rw [hv] at hj
      cases hj
     ·
      rw [hv] at hj
      have h1 : g = j := by simpa [Value.ownBlock] using hj
      have h2 := (Array.getElem?_eq_some_iff.1 hg).1
      omega))
    have hszw : (((w5.setCell ⟨wr.heap.size, 0, none⟩ (.int .i64 6)).setCell ⟨wr.heap.size, 1, none⟩ (.int .u64 0)).setCell ⟨wr.heap.size, 2, none⟩ (.int .u64 0)).heap.size = w5.heap.size := by simp [World.setCell]
    have hcn := cell_three_new (((w5.setCell ⟨wr.heap.size, 0, none⟩ (.int .i64 6)).setCell ⟨wr.heap.size, 1, none⟩ (.int .u64 0)).setCell ⟨wr.heap.size, 2, none⟩ (.int .u64 0)) (.int .i64 6) (.int .u64 0) (.int .u64 0) 61
    rw [hszw] at hcn
    have HCN := Lib.hid hcn
    have HOO := Lib.hid (HOW.out.alloc (.cells #[.int .i64 6, .int .u64 0, .int .u64 0] 61))
    have HKK := Lib.hid (HKW.out.alloc (.cells #[.int .i64 6, .int .u64 0, .int .u64 0] 61))
    clear hcn hszw
    go_wp2_with (at_builtin; refine wpList_append_own _ rfl _ _ 45 rfl w.heap.size 61 i1 _ 3 24 Tryz.underlying45 hi1 hz1 hs1 hb1 rfl (by decide) _ _ _ rfl HOO.out ⟨w5.heap.size, 0, none⟩ 1 1 [.int .i64 6, .int .u64 0, .int .u64 0] rfl rfl HCN.out (by simp [Value.oneCell']) (by unfold maxLen; omega) (by omega) (by have := HK5.out.size; simp [World.setCell]; omega) ?_; intro v' w4 hown' hgrow _)
    have HK4 := Lib.hid (HKK.out.trans (Keep.of_grown hgrow) (fun i hi e => by
     have := own_block_le HOW.out e
     omega))
    have hown2 : w4.ownsRow w.heap.size 61 3 v' (k + 1) ((R.take (k + 1)).flatMap Pst.cells) := by rw [HTK.out]; exact hown'
    have HO4 := Lib.hid hown2
    clear hown' hgrow hown2 HCN HOO HKK HOW HKW ks
    go_wp2
    go_roundw
    case rel => exact ⟨k + 1, by omega, by go_num, HK4.out, HO4.out⟩
    case measure => simp [intOf]; omega
  ·
   have hkn : ¬ ((k : Int) < (l.length : Int)) := by omega
   have hkl : k = l.length := by omega
   subst hkl
   have hso := HO.out
   rw [List.take_of_length_le (by rw [HRL.out]; exact Nat.le_refl _)] at hso
   have HSO := Lib.hid (show Sts wr (fun k => w.heap.size ≤ k) (.slice Ao R.length co) R by rw [HRL.out]; exact Row.of_own (by rw [HRL.out]; exact hso))
   clear hlt hkeep hso
   go_wp2
   go_ret
   exact ⟨_, _, by rw [HRL.out]; rfl, HSO.out, HKP.out⟩
end Go.Proofs.YtffoeodjbbkdjaaGreat
namespace Go.Proofs.YtffoeodjbbkdjaaGreat
open Go.RowKit
instance : DecidableEq Pst := fun x y => decidable_of_iff (x.same y = true) (Pst.same_iff x y)
def TellsV (v : Value) (w : World) (e : Ending) (w' : World) : Prop := e = .returned v ∧ Keep noneOf w w'
theorem of_under : Tryz.prog.underlying 67 = some (.struct (Tryz.prog.fieldsOf 67)) := by kernel_rfl
theorem of_fields : (Tryz.prog.fieldsOf 67).toList.map (fun f => (f.name == "_", f.type, f.offset)) = [(false, 23, 0)] := by kernel_rfl
theorem of_held : Tryz.prog.stoodInHeld 67 = false := by kernel_rfl
theorem of_guard : Tryz.prog.eqGuardType Tryz.prog.depth 67 = false := by kernel_rfl
theorem run_equal1 (d : Nat) (w : World) (x y : Int) : (Op.equalIn (d + 2) 67 (.agg #[.int .u64 x]) (.agg #[.int .u64 y])).run Tryz.prog w = .ok (x == y) w := by
 rw [run_equalIn_struct w (d + 1) _ _ _ of_under of_held]
 have h := of_fields
 generalize (Tryz.prog.fieldsOf 67).toList = fs at h
 have hl : fs.length = 1 := by simpa using congrArg List.length h
 match fs, hl with
 | [f0], _ =>
  simp only [List.map_cons, List.map_nil, List.cons.injEq, Prod.mk.injEq, and_true, beq_eq_false_iff_ne] at h
  obtain ⟨n0, t0, o0⟩ := h
  have p0 : ∀ w', (part f0.type #[.int .u64 x] f0.offset).run Tryz.prog w' = .ok (.int .u64 x) w' := fun w' => by rw [t0, o0]; exact run_part1 w' _ _ _ _ _ Tryz.underlying23 rfl
  have q0 : ∀ w', (part f0.type #[.int .u64 y] f0.offset).run Tryz.prog w' = .ok (.int .u64 y) w' := fun w' => by rw [t0, o0]; exact run_part1 w' _ _ _ _ _ Tryz.underlying23 rfl
  have e0 : ∀ w', (Op.equalIn (d + 1) f0.type (.int .u64 x) (.int .u64 y)).run Tryz.prog w' = .ok (x == y) w' := fun w' => by rw [t0]; exact run_equalIn_int w' d _ _ _ _ _ Tryz.underlying23
  simp only [Op.eqFields, n0, ne_eq, not_false_eq_true, if_true, Sem.run_bind, Sem.run_ite, Sem.run_pure, p0, q0, e0, Result.andThen_ok]
  cases x == y <;> rfl
theorem run_eql1 (w : World) (x y : Int) : (binOp .eql 67 (.agg #[.int .u64 x]) (.agg #[.int .u64 y])).run Tryz.prog w = .ok (.bool (x == y)) w := by
 rw [run_eql_struct, run_equal1 9998 w x y]
 rfl
end Go.Proofs.YtffoeodjbbkdjaaGreat
