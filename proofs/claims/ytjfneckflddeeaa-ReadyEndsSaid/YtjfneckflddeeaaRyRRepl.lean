/-
  dockyardref09.Expire, Cancel.
-/
import Derived.Test.YtjfneckflddeeaaRyRepl
namespace Go.Proofs.Ytjfneckflddeeaa
open Go.RowKit

theorem cell_three_new (w : World) (x y z : Value) (t : TypeId) : ∀ j u, [x, y, z][j]? = some u → (w.alloc (.cells #[x, y, z] t)).cell? ((⟨w.heap.size, 0, none⟩ : Addr).add j) = some u := by
  intro j u hu
  have hb := Box.new w t #[x, y, z]
  rw [Addr.add]
  split
  · rename_i h0
    subst h0
    rw [hb.cell]
    simpa using hu
  · show (w.alloc (.cells #[x, y, z] t)).cell? ⟨w.heap.size, 0 + j, none⟩ = some u
    rw [Nat.zero_add, hb.cell]
    simpa using hu
theorem own_block_le {w : World} {base : Nat} {e : TypeId} {size : Nat} {v : Value} {n : Nat} {xs : List Value} (h : w.ownsRow base e size v n xs) {k : Nat} (hk : some k = v.ownBlock) : base ≤ k := by
  rcases h.2 with ⟨rfl, _⟩ | ⟨g, cap, cur, rfl, hb, hg, _⟩
  · cases hk
  · have : k = g := by simpa [Value.ownBlock] using hk
    omega
theorem take_cells (l : List Pst) (k : Nat) (x : Pst) (h : l[k]? = some x) : (l.take (k + 1)).flatMap Pst.cells = (l.take k).flatMap Pst.cells ++ x.cells := by
  rw [List.take_add_one, h, List.flatMap_append]
  simp

set_option maxRecDepth 100000 in
set_option maxHeartbeats 4000000 in
theorem refExpire_any (w : World) (D : Nat → Prop) (v : Value) (l : List Pst) (h : Sts w D v l) (h24 : l.length * 24 ≤ reachBytes) (now : Int) :
    Calls Try.prog 20 #[v, .int .u64 now] w (TellsSts (repl 1 (pastB now) l) w) := by
  have h24' : l.length * 24 ≤ 140737488351232 := h24
  have HS0 := Lib.hid h
  have hlm := h.few
  unfold maxLen at hlm
  obtain ⟨A, c, rfl⟩ := h.shape
  obtain ⟨i1, hi1, hz1, hs1, hb1⟩ := info_parts stinfo
  have HRA : Hid (∀ k x, l[k]? = some x → (repl 1 (pastB now) l)[k]? = some (if pastB now x = true then ⟨1, 0, 0⟩ else x)) := Lib.hid fun k x h => repl_at 1 (pastB now) h
  have HRL := Lib.hid (repl_length 1 (pastB now) l)
  generalize repl 1 (pastB now) l = R at *
  clear h h24
  go_enter Try.func20, Try.ntmps20
  go_wp2
  go_loopw [5, 6] (fun o i wr => ∃ k : Nat, k ≤ l.length ∧ i = .int .i64 k ∧ Keep noneOf w wr ∧ wr.ownsRow w.heap.size 32 3 o k ((R.take k).flatMap Pst.cells)) (fun _ i _ => l.length - (intOf i).toNat)
  case atStart => exact ⟨0, Nat.zero_le _, rfl, Keep.refl _ _, World.ownsRow_nil _ _ _ _⟩
  case round =>
    obtain ⟨k, hk, rfl, hkeep, hown⟩ := hrel
    obtain ⟨Ao, co, rfl⟩ := own_shape hown
    have HKP := Lib.hid hkeep
    have HO := Lib.hid hown
    clear hown
    by_cases hlt : k < l.length
    · have hx := getS_at hlt
      have hrx := HRA.out k _ hx
      obtain ⟨b, o, rfl, hblk, c0, c1, c2⟩ : ∃ b o, A = some ⟨b, o, none⟩ ∧ b < wr.heap.size ∧ wr.cell? ⟨b, o + k * 3, none⟩ = some (.int .i64 (l.getD k Pst.zero).s) ∧ wr.cell? ⟨b, o + k * 3 + 1, none⟩ = some (.int .u64 (l.getD k Pst.zero).t) ∧ wr.cell? ⟨b, o + k * 3 + 2, none⟩ = some (.int .u64 (l.getD k Pst.zero).u) := by
        obtain ⟨A', c', hv', _, _, _, _, hrow⟩ := HS0.out.keep hkeep (fun _ _ _ => id)
        obtain ⟨rfl, rfl⟩ : A = A' ∧ c = c' := by simpa using hv'
        obtain ⟨ad, rfl, hsp, hblk, hD, hcell⟩ := hrow (by omega)
        obtain ⟨b, o, sp⟩ := ad
        simp only at hsp hblk hD hcell
        subst hsp
        obtain ⟨c0, c1, c2⟩ := sts_at (S := noneOf) (Keep.refl noneOf wr) hblk id hcell hx
        exact ⟨b, o, rfl, hblk, c0, c1, c2⟩
      generalize l.getD k Pst.zero = x at *
      have q0 : (0 : Int) ≤ (k : Int) := by omega
      have q1 : (k : Int) < (l.length : Int) := by omega
      generalize hR : (if pastB now x = true then (⟨1, 0, 0⟩ : Pst) else x) = y at *
      have HTK := Lib.hid (take_cells R k y hrx)
      have HWS := Lib.hid hkeep.size
      clear hx hrx hkeep
      obtain ⟨s, t, u⟩ := x
      simp only at c0 c1 c2
      have hpb : pastB now ⟨s, t, u⟩ = (s == 2 && decide (u ≤ now)) := rfl
      rw [hpb] at hR
      clear hpb
      by_cases hs : s = 2
      · subst hs
        by_cases hu : u ≤ now
        · have hy : y = ⟨1, 0, 0⟩ := by
            rw [← hR, decide_eq_true hu]
            rfl
          subst hy
          clear hR
          have hsz1 : (wr.alloc (.cells #[.int .i64 1, .int .u64 0, .int .u64 0] 32)).heap.size = wr.heap.size + 1 := by simp
          have hcn := cell_three_new (wr.alloc (.cells #[.int .i64 1, .int .u64 0, .int .u64 0] 32)) (.int .i64 1) (.int .u64 0) (.int .u64 0) 32
          rw [hsz1] at hcn
          have HCN := Lib.hid hcn
          have HOO := Lib.hid ((HO.out.alloc (.cells #[.int .i64 1, .int .u64 0, .int .u64 0] 32)).alloc (.cells #[.int .i64 1, .int .u64 0, .int .u64 0] 32))
          have HKK := Lib.hid ((HKP.out.alloc (.cells #[.int .i64 1, .int .u64 0, .int .u64 0] 32)).alloc (.cells #[.int .i64 1, .int .u64 0, .int .u64 0] 32))
          clear hcn hsz1
          go_wp2_with (at_builtin; refine wpList_append_own _ rfl _ _ 25 rfl w.heap.size 32 i1 _ 3 24 Try.underlying25 hi1 hz1 hs1 hb1 rfl (by decide) _ _ _ rfl HOO.out ⟨wr.heap.size + 1, 0, none⟩ 1 1 [.int .i64 1, .int .u64 0, .int .u64 0] rfl rfl HCN.out (by simp [Value.oneCell']) (by unfold maxLen; omega) (by omega) (by have := HWS.out; simp; omega) ?_; intro v' w4 hown' hgrow _)
          have HK4 := Lib.hid (HKK.out.trans (Keep.of_grown hgrow) (fun i hi e => by
            have := own_block_le HO.out e
            omega))
          have hown2 : w4.ownsRow w.heap.size 32 3 v' (k + 1) ((R.take (k + 1)).flatMap Pst.cells) := by rw [HTK.out]; exact hown'
          have HO4 := Lib.hid hown2
          clear hown' hgrow hown2 HCN HOO HKK HO HKP
          go_wp2
          go_roundw
          case rel => exact ⟨k + 1, by omega, by go_num, HK4.out, HO4.out⟩
          case measure => simp [intOf]; omega
        · have hy : y = ⟨2, t, u⟩ := by
            rw [← hR, decide_eq_false hu]
            rfl
          subst hy
          clear hR
          have hsz1 : (wr.alloc (.cells #[.int .i64 2, .int .u64 t, .int .u64 u] 32)).heap.size = wr.heap.size + 1 := by simp
          have hcn := cell_three_new (wr.alloc (.cells #[.int .i64 2, .int .u64 t, .int .u64 u] 32)) (.int .i64 2) (.int .u64 t) (.int .u64 u) 32
          rw [hsz1] at hcn
          have HCN := Lib.hid hcn
          have HOO := Lib.hid ((HO.out.alloc (.cells #[.int .i64 2, .int .u64 t, .int .u64 u] 32)).alloc (.cells #[.int .i64 2, .int .u64 t, .int .u64 u] 32))
          have HKK := Lib.hid ((HKP.out.alloc (.cells #[.int .i64 2, .int .u64 t, .int .u64 u] 32)).alloc (.cells #[.int .i64 2, .int .u64 t, .int .u64 u] 32))
          clear hcn hsz1
          go_wp2_with (at_builtin; refine wpList_append_own _ rfl _ _ 25 rfl w.heap.size 32 i1 _ 3 24 Try.underlying25 hi1 hz1 hs1 hb1 rfl (by decide) _ _ _ rfl HOO.out ⟨wr.heap.size + 1, 0, none⟩ 1 1 [.int .i64 2, .int .u64 t, .int .u64 u] rfl rfl HCN.out (by simp [Value.oneCell']) (by unfold maxLen; omega) (by omega) (by have := HWS.out; simp; omega) ?_; intro v' w4 hown' hgrow _)
          have HK4 := Lib.hid (HKK.out.trans (Keep.of_grown hgrow) (fun i hi e => by
            have := own_block_le HO.out e
            omega))
          have hown2 : w4.ownsRow w.heap.size 32 3 v' (k + 1) ((R.take (k + 1)).flatMap Pst.cells) := by rw [HTK.out]; exact hown'
          have HO4 := Lib.hid hown2
          clear hown' hgrow hown2 HCN HOO HKK HO HKP
          go_wp2
          go_roundw
          case rel => exact ⟨k + 1, by omega, by go_num, HK4.out, HO4.out⟩
          case measure => simp [intOf]; omega
      · have g : (s == 2) = false := by rw [beq_eq_false_iff_ne]; exact hs
        have hy : y = ⟨s, t, u⟩ := by
          rw [← hR, g]
          rfl
        subst hy
        clear hR hs
        have hsz1 : (wr.alloc (.cells #[.int .i64 s, .int .u64 t, .int .u64 u] 32)).heap.size = wr.heap.size + 1 := by simp
        have hcn := cell_three_new (wr.alloc (.cells #[.int .i64 s, .int .u64 t, .int .u64 u] 32)) (.int .i64 s) (.int .u64 t) (.int .u64 u) 32
        rw [hsz1] at hcn
        have HCN := Lib.hid hcn
        have HOO := Lib.hid ((HO.out.alloc (.cells #[.int .i64 s, .int .u64 t, .int .u64 u] 32)).alloc (.cells #[.int .i64 s, .int .u64 t, .int .u64 u] 32))
        have HKK := Lib.hid ((HKP.out.alloc (.cells #[.int .i64 s, .int .u64 t, .int .u64 u] 32)).alloc (.cells #[.int .i64 s, .int .u64 t, .int .u64 u] 32))
        clear hcn hsz1
        go_wp2_with (at_builtin; refine wpList_append_own _ rfl _ _ 25 rfl w.heap.size 32 i1 _ 3 24 Try.underlying25 hi1 hz1 hs1 hb1 rfl (by decide) _ _ _ rfl HOO.out ⟨wr.heap.size + 1, 0, none⟩ 1 1 [.int .i64 s, .int .u64 t, .int .u64 u] rfl rfl HCN.out (by simp [Value.oneCell']) (by unfold maxLen; omega) (by omega) (by have := HWS.out; simp; omega) ?_; intro v' w4 hown' hgrow _)
        have HK4 := Lib.hid (HKK.out.trans (Keep.of_grown hgrow) (fun i hi e => by
          have := own_block_le HO.out e
          omega))
        have hown2 : w4.ownsRow w.heap.size 32 3 v' (k + 1) ((R.take (k + 1)).flatMap Pst.cells) := by rw [HTK.out]; exact hown'
        have HO4 := Lib.hid hown2
        clear hown' hgrow hown2 HCN HOO HKK HO HKP
        go_wp2
        go_roundw
        case rel => exact ⟨k + 1, by omega, by go_num, HK4.out, HO4.out⟩
        case measure => simp [intOf]; omega
    · have hkn : ¬ ((k : Int) < (l.length : Int)) := by omega
      have hkl : k = l.length := by omega
      subst hkl
      have hso := HO.out
      rw [List.take_of_length_le (by rw [HRL.out]; exact Nat.le_refl _)] at hso
      have HSO := Lib.hid (show Sts wr (fun k => w.heap.size ≤ k) (.slice Ao R.length co) R by rw [HRL.out]; exact Row.of_own (by rw [HRL.out]; exact hso))
      clear hlt hkeep hso
      go_wp2
      go_ret
      exact ⟨_, _, by rw [HRL.out]; rfl, HSO.out, HKP.out⟩
set_option maxRecDepth 100000 in
set_option maxHeartbeats 4000000 in
theorem refCancel_any (w : World) (D : Nat → Prop) (v : Value) (l : List Pst) (h : Sts w D v l) (h24 : l.length * 24 ≤ reachBytes) :
    Calls Try.prog 22 #[v] w (TellsSts (repl 6 (fun x => !finB x.s) l) w) := by
  have h24' : l.length * 24 ≤ 140737488351232 := h24
  have HS0 := Lib.hid h
  have hlm := h.few
  unfold maxLen at hlm
  obtain ⟨A, c, rfl⟩ := h.shape
  obtain ⟨i1, hi1, hz1, hs1, hb1⟩ := info_parts stinfo
  have HRA : Hid (∀ k (x : Pst), l[k]? = some x → (repl 6 (fun x => !finB x.s) l)[k]? = some (if (!finB x.s) = true then ⟨6, 0, 0⟩ else x)) := Lib.hid fun k x h => repl_at 6 (fun x => !finB x.s) h
  have HRL := Lib.hid (repl_length 6 (fun x => !finB x.s) l)
  generalize repl 6 (fun x => !finB x.s) l = R at *
  clear h h24
  go_enter Try.func22, Try.ntmps22
  go_wp2
  go_loopw [3, 4] (fun o i wr => ∃ k : Nat, k ≤ l.length ∧ i = .int .i64 k ∧ Keep noneOf w wr ∧ wr.ownsRow w.heap.size 32 3 o k ((R.take k).flatMap Pst.cells)) (fun _ i _ => l.length - (intOf i).toNat)
  case atStart => exact ⟨0, Nat.zero_le _, rfl, Keep.refl _ _, World.ownsRow_nil _ _ _ _⟩
  case round =>
    obtain ⟨k, hk, rfl, hkeep, hown⟩ := hrel
    obtain ⟨Ao, co, rfl⟩ := own_shape hown
    have HKP := Lib.hid hkeep
    have HO := Lib.hid hown
    clear hown
    by_cases hlt : k < l.length
    · have hx := getS_at hlt
      have hrx := HRA.out k _ hx
      obtain ⟨b, o, rfl, hblk, c0, c1, c2⟩ : ∃ b o, A = some ⟨b, o, none⟩ ∧ b < wr.heap.size ∧ wr.cell? ⟨b, o + k * 3, none⟩ = some (.int .i64 (l.getD k Pst.zero).s) ∧ wr.cell? ⟨b, o + k * 3 + 1, none⟩ = some (.int .u64 (l.getD k Pst.zero).t) ∧ wr.cell? ⟨b, o + k * 3 + 2, none⟩ = some (.int .u64 (l.getD k Pst.zero).u) := by
        obtain ⟨A', c', hv', _, _, _, _, hrow⟩ := HS0.out.keep hkeep (fun _ _ _ => id)
        obtain ⟨rfl, rfl⟩ : A = A' ∧ c = c' := by simpa using hv'
        obtain ⟨ad, rfl, hsp, hblk, hD, hcell⟩ := hrow (by omega)
        obtain ⟨b, o, sp⟩ := ad
        simp only at hsp hblk hD hcell
        subst hsp
        obtain ⟨c0, c1, c2⟩ := sts_at (S := noneOf) (Keep.refl noneOf wr) hblk id hcell hx
        exact ⟨b, o, rfl, hblk, c0, c1, c2⟩
      generalize l.getD k Pst.zero = x at *
      have q0 : (0 : Int) ≤ (k : Int) := by omega
      have q1 : (k : Int) < (l.length : Int) := by omega
      generalize hR : (if (!finB x.s) = true then (⟨6, 0, 0⟩ : Pst) else x) = y at *
      have HTK := Lib.hid (take_cells R k y hrx)
      have HWS := Lib.hid hkeep.size
      clear hx hrx hkeep
      obtain ⟨s, t, u⟩ := x
      simp only at c0 c1 c2 hR
      have FN := Lib.hid (refFinal_any (wr.alloc (.cells #[.int .i64 s, .int .u64 t, .int .u64 u] 32)) ⟨s, t, u⟩)
      simp only at FN
      have hbx := Box.new wr 32 #[.int .i64 s, .int .u64 t, .int .u64 u]
      have HBX := Lib.hid hbx
      have HK1 := Lib.hid (HKP.out.alloc (.cells #[.int .i64 s, .int .u64 t, .int .u64 u] 32))
      have HO1 := Lib.hid (HO.out.alloc (.cells #[.int .i64 s, .int .u64 t, .int .u64 u] 32))
      generalize hf : finB s = fb at *
      have hlw : wr.heap.size < (wr.alloc (.cells #[.int .i64 s, .int .u64 t, .int .u64 u] 32)).heap.size := hbx.lt
      clear hbx hf
      go_wp2_with fail
      refine FN.out.mono ?_
      rintro e w5 ⟨rfl, k5⟩
      have hb5 := HBX.out.keep k5 id
      have d0 := hb5.cell 0
      have d1 := hb5.cell 1
      have d2 := hb5.cell 2
      simp only [List.getElem?_toArray, List.getElem?_cons_zero, List.getElem?_cons_succ] at d0 d1 d2
      have HB5 := Lib.hid hb5
      have HK5 := Lib.hid (HK1.out.trans k5 (fun _ _ h => h))
      have HO5 := Lib.hid (own_keep HO1.out k5 (fun _ _ h => h))
      have hwq : w.heap.size ≤ wr.heap.size := HWS.out
      clear FN k5 hb5 HK1 HO1 HBX
      cases fb with
      | true =>
        have hy : y = ⟨s, t, u⟩ := by
          rw [← hR]
          rfl
        subst hy
        clear hR
        have HKW := HK5
        have HOW := HO5
        generalize w5 = W at *
        have hcn := cell_three_new W (.int .i64 s) (.int .u64 t) (.int .u64 u) 32
        have HCN := Lib.hid hcn
        have HOO := Lib.hid (HOW.out.alloc (.cells #[.int .i64 s, .int .u64 t, .int .u64 u] 32))
        have HKK := Lib.hid (HKW.out.alloc (.cells #[.int .i64 s, .int .u64 t, .int .u64 u] 32))
        clear hcn
        go_wp2_with (at_builtin; refine wpList_append_own _ rfl _ _ 25 rfl w.heap.size 32 i1 _ 3 24 Try.underlying25 hi1 hz1 hs1 hb1 rfl (by decide) _ _ _ rfl HOO.out ⟨W.heap.size, 0, none⟩ 1 1 [.int .i64 s, .int .u64 t, .int .u64 u] rfl rfl HCN.out (by simp [Value.oneCell']) (by unfold maxLen; omega) (by omega) (by have := HKW.out.size; simp; omega) ?_; intro v' w4 hown' hgrow _)
        have HK4 := Lib.hid (HKK.out.trans (Keep.of_grown hgrow) (fun i hi e => by
          have := own_block_le HOW.out e
          omega))
        have hown2 : w4.ownsRow w.heap.size 32 3 v' (k + 1) ((R.take (k + 1)).flatMap Pst.cells) := by rw [HTK.out]; exact hown'
        have HO4 := Lib.hid hown2
        clear hown' hgrow hown2 HCN HOO HKK HOW HKW
        go_wp2
        go_roundw
        case rel => exact ⟨k + 1, by omega, by go_num, HK4.out, HO4.out⟩
        case measure => simp [intOf]; omega
      | false =>
        have hy : y = ⟨6, 0, 0⟩ := by
          rw [← hR]
          rfl
        subst hy
        clear hR
        have f0 := HB5.out.free 0
        have f1 := HB5.out.free 1
        have f2 := HB5.out.free 2
        have ks : Keep (fun i => i = wr.heap.size) w5 (((w5.setCell ⟨wr.heap.size, 0, none⟩ (.int .i64 6)).setCell ⟨wr.heap.size, 1, none⟩ (.int .u64 0)).setCell ⟨wr.heap.size, 2, none⟩ (.int .u64 0)) := (((Keep.refl (fun i => i = wr.heap.size) w5).setCell (fun _ => rfl) _).setCell (fun _ => rfl) _).setCell (fun _ => rfl) _
        have HKW := Lib.hid (HK5.out.own ks hwq)
        have HOW := Lib.hid (own_keep HO5.out ks (fun j hj e => by
          rcases HO.out.2 with ⟨hv, _⟩ | ⟨g, cap, cur, hv, _, hg, _⟩
          · rw [hv] at hj
            cases hj
          · rw [hv] at hj
            have h1 : g = j := by simpa [Value.ownBlock] using hj
            have h2 := (Array.getElem?_eq_some_iff.1 hg).1
            omega))
        have hszw : (((w5.setCell ⟨wr.heap.size, 0, none⟩ (.int .i64 6)).setCell ⟨wr.heap.size, 1, none⟩ (.int .u64 0)).setCell ⟨wr.heap.size, 2, none⟩ (.int .u64 0)).heap.size = w5.heap.size := by simp [World.setCell]
        have hcn := cell_three_new (((w5.setCell ⟨wr.heap.size, 0, none⟩ (.int .i64 6)).setCell ⟨wr.heap.size, 1, none⟩ (.int .u64 0)).setCell ⟨wr.heap.size, 2, none⟩ (.int .u64 0)) (.int .i64 6) (.int .u64 0) (.int .u64 0) 32
        rw [hszw] at hcn
        have HCN := Lib.hid hcn
        have HOO := Lib.hid (HOW.out.alloc (.cells #[.int .i64 6, .int .u64 0, .int .u64 0] 32))
        have HKK := Lib.hid (HKW.out.alloc (.cells #[.int .i64 6, .int .u64 0, .int .u64 0] 32))
        clear hcn hszw
        go_wp2_with (at_builtin; refine wpList_append_own _ rfl _ _ 25 rfl w.heap.size 32 i1 _ 3 24 Try.underlying25 hi1 hz1 hs1 hb1 rfl (by decide) _ _ _ rfl HOO.out ⟨w5.heap.size, 0, none⟩ 1 1 [.int .i64 6, .int .u64 0, .int .u64 0] rfl rfl HCN.out (by simp [Value.oneCell']) (by unfold maxLen; omega) (by omega) (by have := HK5.out.size; simp [World.setCell]; omega) ?_; intro v' w4 hown' hgrow _)
        have HK4 := Lib.hid (HKK.out.trans (Keep.of_grown hgrow) (fun i hi e => by
          have := own_block_le HOW.out e
          omega))
        have hown2 : w4.ownsRow w.heap.size 32 3 v' (k + 1) ((R.take (k + 1)).flatMap Pst.cells) := by rw [HTK.out]; exact hown'
        have HO4 := Lib.hid hown2
        clear hown' hgrow hown2 HCN HOO HKK HOW HKW ks
        go_wp2
        go_roundw
        case rel => exact ⟨k + 1, by omega, by go_num, HK4.out, HO4.out⟩
        case measure => simp [intOf]; omega
    · have hkn : ¬ ((k : Int) < (l.length : Int)) := by omega
      have hkl : k = l.length := by omega
      subst hkl
      have hso := HO.out
      rw [List.take_of_length_le (by rw [HRL.out]; exact Nat.le_refl _)] at hso
      have HSO := Lib.hid (show Sts wr (fun k => w.heap.size ≤ k) (.slice Ao R.length co) R by rw [HRL.out]; exact Row.of_own (by rw [HRL.out]; exact hso))
      clear hlt hkeep hso
      go_wp2
      go_ret
      exact ⟨_, _, by rw [HRL.out]; rfl, HSO.out, HKP.out⟩
end Go.Proofs.Ytjfneckflddeeaa
