/-
  dockyardref11: Open.
-/
import Derived.Test.YtimnehgonlohcaaSsRef
import Derived.Maps.AppendAt
namespace Go.Proofs.Ytimnehgonlohcaa
open Go.Shelf Go.RowKit Go.Maps

section
variable {P : Program}
/-- A slice of a slice, by an equation. -/
theorem wpList_slice_eq (w : World) {ops : Array Oper} {rest : List Oper} {o : Oper} {a : Act} {Q : Exit → Act → World → Prop} (hgd : o.guard = none) (s : Operand) (t : TypeId) (lo hi mx : Option Operand) (hop : o.op = Op.slice t s lo hi mx) (v : Value)
    (hr : (Instr.sliceAt t (a.eval s) (lo.map a.eval) (hi.map a.eval) (mx.map a.eval)).run P w = .ok v w) (h : wpList P ops Q rest (a.put o.dst v) w) : wpList P ops Q (o :: rest) a w := by
  refine wpList_plain hgd fun K hK => ?_
  unfold Oper.wp execOp
  simp [hop, hr, Result.andThen]
  exact hK _ _ h
end
theorem size_ro (w : World) : (sizeOf (Try.prog.elem 25)).run Try.prog w = .ok 8 w := by kernel_rfl
theorem elem_ro : Try.prog.underlying 25 = some (.slice (Try.prog.elem 25)) := by kernel_rfl
theorem head_run (w : World) (A : Option Addr) (len c n : Nat) (hn : n ≤ c) : (Instr.sliceAt 25 (.slice A len c) none (some (.int .i64 (n : Int))) none).run Try.prog w = .ok (sliced A 0 n c 8) w := by
  rw [run_sliceAt_slice w 25 _ _ _ _ elem_ro, run_slice_h w 25 _ _ _ elem_ro .i64 (n : Int) (by omega) (by omega), size_ro]
  rfl
theorem tail_run (w : World) (A : Option Addr) (len c n : Nat) (hn : n ≤ len) : (Instr.sliceAt 25 (.slice A len c) (some (.int .i64 (n : Int))) none none).run Try.prog w = .ok (sliced A n len c 8) w := by
  rw [run_sliceAt_slice w 25 _ _ _ _ elem_ro, run_slice_l w 25 _ _ _ elem_ro .i64 (n : Int) (by omega) (by omega), size_ro]
  rfl
theorem Many.head {w : World} {D : Nat → Prop} {A : Option Addr} {c n : Nat} {l : List Ro} (h : Many Ro.cells 8 w D (.slice A l.length c) l) (hn : n ≤ l.length) : Many Ro.cells 8 w D (sliced A 0 n c 8) (l.take n) := by
  obtain ⟨A', c', hv, h1, h2, h3, h4, h5⟩ := h
  obtain ⟨rfl, rfl⟩ : A = A' ∧ c = c' := by simpa using hv
  have htl : (l.take n).length = n := by rw [List.length_take]; omega
  have hA : sliced A 0 n c 8 = .slice A n c := by
    unfold sliced
    cases A with
    | none => simp
    | some ad =>
      split
      · simp
      · simp [Addr.add]
  refine ⟨A, c, by rw [hA, htl], by omega, h2, h3, fm_length Ro.cells 8 (fun _ => rfl) _, fun h0 => ?_⟩
  obtain ⟨ad, e, hsp, hlt, hD, hc⟩ := h5 (by omega)
  refine ⟨ad, e, hsp, hlt, hD, fun j x hj => hc j x ?_⟩
  have hjl := (List.getElem?_eq_some_iff.1 hj).1
  rw [← List.take_append_drop n l, List.flatMap_append, List.getElem?_append_left hjl]
  exact hj
theorem Many.tail {w : World} {D : Nat → Prop} {A : Option Addr} {c n : Nat} {l : List Ro} (h : Many Ro.cells 8 w D (.slice A l.length c) l) (hn : n ≤ l.length) : Many Ro.cells 8 w D (sliced A n l.length c 8) (l.drop n) := by
  obtain ⟨A', c', hv, h1, h2, h3, h4, h5⟩ := h
  obtain ⟨rfl, rfl⟩ : A = A' ∧ c = c' := by simpa using hv
  have hdl : (l.drop n).length = l.length - n := List.length_drop
  unfold sliced
  refine ⟨_, c - n, by rw [hdl], by omega, by omega, fun e => ?_, fm_length Ro.cells 8 (fun _ => rfl) _, fun h0 => ?_⟩
  · split at e
    · omega
    · cases A with
      | none => have := h3 rfl; omega
      | some ad => cases e
  · obtain ⟨ad, e, hsp, hlt, hD, hc⟩ := h5 (by omega)
    subst e
    have hne : ¬ c = n := by omega
    rw [if_neg hne]
    refine ⟨ad.add (n * 8), rfl, ?_, ?_, ?_, fun j x hj => ?_⟩
    · rw [add_at ad hsp]
    · rw [add_at ad hsp]; exact hlt
    · rw [add_at ad hsp]; exact hD
    · have hjl := (List.getElem?_eq_some_iff.1 hj).1
      rw [add_at ad hsp]
      show w.cell? ⟨ad.block, ad.off + n * 8 + j, none⟩ = _
      rw [Nat.add_assoc]
      refine hc (n * 8 + j) x ?_
      have htl : ((l.take n).flatMap Ro.cells).length = n * 8 := by rw [fm_length Ro.cells 8 (fun _ => rfl), List.length_take, Nat.min_eq_left hn]
      conv => lhs; rw [← List.take_append_drop n l, List.flatMap_append]
      rw [List.getElem?_append_right (by rw [htl]; omega), htl]
      rw [show n * 8 + j - n * 8 = j from by omega]
      exact hj

/-- Rows that lie anywhere, appended to one's own. -/
theorem run_append_ros (w : World) (base : Nat) (ty : TypeId) (v s : Value) (l m : List Ro) (D : Nat → Prop) (hown : w.ownsRow base 58 8 v l.length (l.flatMap Ro.cells)) (hs : Many Ro.cells 8 w D s m) (hb : (l.length + m.length) * 80 ≤ 140737488355328) (hbase : base ≤ w.heap.size) :
    ∃ v' w', (Builtin.append_ #[25, 25] ty #[v, s]).run Try.prog w = .ok v' w' ∧ w'.ownsRow base 58 8 v' (l ++ m).length ((l ++ m).flatMap Ro.cells) ∧ w.grownBy w' v.ownBlock ∧ (v'.ownBlock = v.ownBlock ∨ v'.ownBlock = some w.heap.size) := by
  obtain ⟨i1, hi1, hz1, hs1, hb1⟩ := info_parts roinfo
  obtain ⟨A, c, rfl, hlc, _, hn, hlen, hc⟩ := hs
  have hfl : (l ++ m).flatMap Ro.cells = l.flatMap Ro.cells ++ m.flatMap Ro.cells := List.flatMap_append
  cases A with
  | none =>
    have h0 : m = [] := List.eq_nil_of_length_eq_zero (by have := hn rfl; omega)
    subst h0
    refine ⟨v, w, ?_, by simpa using hown, World.grownBy.refl w _, .inl rfl⟩
    rcases hown.2 with ⟨rfl, _⟩ | ⟨g, cap, cur, rfl, _, _, hnc, _⟩
    · simp [Builtin.append_, run_underlying Try.underlying25, sizeOf, typeInfo, hi1, Builtin.lenOf, Builtin.firstCells]
    · simp [Builtin.append_, run_underlying Try.underlying25, sizeOf, typeInfo, hi1, Builtin.lenOf, Builtin.firstCells, hnc, storeCells]
  | some ad =>
    obtain ⟨v', w', hr, ho, hg, _, hat⟩ := run_append_own_at (P := Try.prog) w base 25 ty 58 i1 zeroR 8 80 Try.underlying25 hi1 hz1 hs1 hb1 (by rfl) (by decide) v l.length (l.flatMap Ro.cells) hown ad m.length c (m.flatMap Ro.cells) (fm_length Ro.cells 8 (fun _ => rfl) m)
      (fun j u hu => by
        have hj := (List.getElem?_eq_some_iff.1 hu).1
        rw [fm_length Ro.cells 8 (fun _ => rfl)] at hj
        obtain ⟨ad', e, hsp, _, _, hcell⟩ := hc (by omega)
        injection e with e
        subst e
        rw [add_at ad hsp]
        exact hcell j u hu)
      (fun u hu => by obtain ⟨r, _, hr⟩ := List.mem_flatMap.1 hu; exact cells_one r u hr) (by unfold maxLen; omega) hb hbase
    exact ⟨v', w', hr, by rw [List.length_append, hfl]; exact ho, hg, hat⟩
theorem wpList_append_ros (w : World) {ops : Array Oper} {rest : List Oper} {o : Oper} {a : Act} {Q : Exit → Act → World → Prop} (hgd : o.guard = none) (s x : Operand)
    (ho : o.op = .call { callee := .builtin .append, args := #[s, x], argTypes := #[25, 25] }) (base : Nat)
    (v u : Value) (l m : List Ro) (D : Nat → Prop) (hv : a.eval s = v) (hu : a.eval x = u) (hown : w.ownsRow base 58 8 v l.length (l.flatMap Ro.cells)) (hs : Many Ro.cells 8 w D u m) (hl : (l.length + m.length) * 80 ≤ 140737488355328) (hbase : base ≤ w.heap.size)
    (h : ∀ v' w', w'.ownsRow base 58 8 v' (l ++ m).length ((l ++ m).flatMap Ro.cells) → w.grownBy w' v.ownBlock → (v'.ownBlock = v.ownBlock ∨ v'.ownBlock = some w.heap.size) → wpList Try.prog ops Q rest (a.put o.dst v') w') : wpList Try.prog ops Q (o :: rest) a w := by
  refine wpList_plain hgd fun K hK => ?_
  obtain ⟨v', w', hr, h3, h4, h5⟩ := run_append_ros w base o.type v u l m D hown hs hl hbase
  unfold Oper.wp execOp
  simp only [ho, resolve, invoke, builtin, Sem.run_bind, Sem.run_pure, Result.andThen_ok, List.map_toArray, List.map_cons, List.map_nil, hv, hu, hr]
  exact hK _ _ (h v' w' h3 h4 h5)

theorem ins_take (r : Ro) : ∀ (l : List Ro) (n : Nat), (∀ (j : Nat) (g : Ro), j < n → l[j]? = some g → g.id < r.id) → (∀ g : Ro, l[n]? = some g → r.id < g.id) → n ≤ l.length → insR r l = l.take n ++ r :: l.drop n
  | [], n, _, _, hn => by
    have : n = 0 := by simpa using hn
    subst this
    rfl
  | g :: l, 0, _, h, _ => by
    unfold insR
    rw [if_pos (h g rfl)]
    rfl
  | g :: l, n + 1, h1, h2, hn => by
    unfold insR
    have hlt := h1 0 g (Nat.succ_pos _) rfl
    rw [if_neg (by omega), ins_take r l n (fun j g' hj hg => h1 (j + 1) g' (by omega) (by simpa using hg)) (fun g' hg => h2 g' (by simpa using hg)) (by simpa using hn)]
    rfl
theorem one_new (w : World) (r : Ro) : Many Ro.cells 8 (w.alloc (.cells #[.int .u64 r.id, .int .u64 r.seq, .int .i64 r.ans.code, .int .u64 r.ans.id, .int .u64 r.ans.tok, .int .u64 r.ans.unt, .string r.ans.tgt, .string r.ans.cmd] 58)) (fun _ => True) (.slice (some ⟨w.heap.size, 0, none⟩) 1 1) [r] := by
  refine ⟨_, 1, rfl, Nat.le_refl _, by decide, fun e => (by cases e), by simp [Ro.cells], fun _ => ⟨_, rfl, rfl, by simp, trivial, fun j u hj => ?_⟩⟩
  have := row_news w r j u (by simpa using hj)
  rw [add_at _ rfl] at this
  exact this
theorem Many.caps {α : Type} {enc : α → List Value} {k : Nat} {w : World} {D : Nat → Prop} {A : Option Addr} {n c : Nat} {l : List α} (h : Many enc k w D (.slice A n c) l) : l.length ≤ c := by
  obtain ⟨A', c', hv, h1, _⟩ := h
  have : c = c' := by
    injection hv
  omega
theorem zeroRo (w : World) : (zeroValue 58).run Try.prog w = .ok zeroR w := by kernel_rfl
theorem not_there {l : List Ro} {x : Int} (h : findR l x = none) {j : Nat} {g : Ro} (hg : l[j]? = some g) : g.id ≠ x := by
  intro e
  unfold findR at h
  rw [List.find?_eq_none] at h
  exact h g (List.mem_of_getElem? hg) (by simpa using e)

set_option maxRecDepth 100000 in
set_option maxHeartbeats 2000000 in
theorem refOpen_any (w : World) (D : Nat → Prop) (v : Value) (l : List Ro) (x : Int) (h : Many Ro.cells 8 w D v l) (hf : l.length ≤ 16) :
    Calls Try.prog 18 #[v, .int .u64 x] w fun e w' => ∃ v', e = .returned (.tuple #[v', .int .i64 (openE l x)]) ∧ Many Ro.cells 8 w' (fun i => D i ∨ w.heap.size ≤ i) v' (openL l x) ∧ Keep noneOf w w' := by
  obtain ⟨A, c, rfl⟩ := h.shape
  have HH := Lib.hid h
  have HF := Lib.hid hf
  by_cases hx : x = 0
  · have e1 : openE l x = 1 := by unfold openE; rw [if_pos hx]
    have e2 : openL l x = l := by unfold openL; rw [if_pos hx]
    rw [e1, e2]
    subst hx
    clear h e1 e2 hf
    go_enter Try.func18, Try.ntmps18
    go_wp2
    exact bodyPost_ret (v := .tuple #[.slice A l.length c, .int .i64 1]) (by simp [results, Try.results18, go_sem]) rfl ⟨_, rfl, HH.out.mono (fun i _ h => .inl h), Keep.refl _ _⟩
  · have g0 : (x == 0) = false := beq_eq_false_iff_ne.2 hx
    have HAT := Lib.hid (at_any w D _ l x h)
    cases hq : findR l x with
    | some r =>
      have e1 : openE l x = 0 := by unfold openE; rw [if_neg hx, hq]; rfl
      have e2 : openL l x = l := by unfold openL; rw [if_neg hx, hq]; rfl
      rw [e1, e2]
      obtain ⟨k, hat, hk⟩ := at_some hq
      rw [hat] at HAT
      unfold atV at HAT
      dsimp only at HAT
      have q0 : (0 : Int) ≤ (k : Int) := by omega
      clear h e1 e2 hf hq hat hk hx
      go_enter Try.func18, Try.ntmps18
      go_wp2_with fail
      refine HAT.out.mono ?_
      rintro e w1 ⟨rfl, rfl⟩
      go_wp2
      exact bodyPost_ret (v := .tuple #[.slice A l.length c, .int .i64 0]) (by simp [results, Try.results18, go_sem]) rfl ⟨_, rfl, HH.out.mono (fun i _ h => .inl h), Keep.refl _ _⟩
    | none =>
      rw [at_none hq] at HAT
      unfold atV at HAT
      dsimp only at HAT
      by_cases h16 : 16 ≤ l.length
      · have e1 : openE l x = 112 := by unfold openE; rw [if_neg hx, hq, if_pos h16]; rfl
        have e2 : openL l x = l := by unfold openL; rw [if_neg hx, hq, if_pos h16]; rfl
        rw [e1, e2]
        have q1 : (16 : Int) ≤ (l.length : Int) := by omega
        clear h e1 e2 hf hq hx h16
        go_enter Try.func18, Try.ntmps18
        go_wp2_with fail
        refine HAT.out.mono ?_
        rintro e w1 ⟨rfl, rfl⟩
        go_wp2
        exact bodyPost_ret (v := .tuple #[.slice A l.length c, .int .i64 112]) (by simp [results, Try.results18, go_sem]) rfl ⟨_, rfl, HH.out.mono (fun i _ h => .inl h), Keep.refl _ _⟩
      · have e1 : openE l x = 0 := by unfold openE; rw [if_neg hx, hq, if_neg h16]; rfl
        have eL : openL l x = insR ⟨x, 0, .zero⟩ l := by unfold openL; rw [if_neg hx, hq, if_neg h16]; rfl
        have q1 : ¬ (16 : Int) ≤ (l.length : Int) := by omega
        have HOE := Lib.hid e1
        have HNT : Hid (∀ (j : Nat) (g : Ro), l[j]? = some g → g.id ≠ x) := Lib.hid fun j g hg => not_there hq hg
        have hzr := zeroRo
        unfold zeroR at hzr
        have HEL := Lib.hid eL
        clear h e1 hq hx eL
        go_enter Try.func18, Try.ntmps18
        go_wp2_with fail
        refine HAT.out.mono ?_
        rintro e w1 ⟨rfl, rfl⟩
        go_wp2
        go_loopw [6] (fun i wr => ∃ (k : Nat), k ≤ l.length ∧ i = .int .i64 k ∧ wr = w1 ∧ ∀ (j : Nat) (g : Ro), j < k → l[j]? = some g → g.id < x) (fun i _ => l.length - (intOf i).toNat)
        case atStart => exact ⟨0, Nat.zero_le _, rfl, rfl, fun j g hj => absurd hj (Nat.not_lt_zero _)⟩
        case round =>
          obtain ⟨k, hk, rfl, rfl, hn⟩ := hrel
          have HN := Lib.hid hn
          clear hn
          by_cases hlt : k < l.length
          · have hy : l[k]? = some l[k] := List.getElem?_eq_getElem hlt
            obtain ⟨b, o, eA, hblk, _, hcell⟩ := HH.out.cell (fun _ => rfl) hy
            have HY := Lib.hid hy
            generalize l[k] = r at *
            obtain ⟨c0, -⟩ := ro_cells b o k _ r hcell
            have q0 : (0 : Int) ≤ (k : Int) := by omega
            have q2 : (k : Int) < (l.length : Int) := by omega
            clear hy hcell
            by_cases he : r.id < x
            · have HE := Lib.hid he
              subst eA
              go_wp2
              go_roundw
              case rel => exact ⟨k + 1, by omega, by go_num, by trivial, fun j g hj hg => by
                rcases Nat.lt_or_ge j k with h1 | h1
                · exact HN.out j g h1 hg
                · obtain rfl : j = k := by omega
                  rw [HY.out] at hg
                  injection hg with hg
                  rw [← hg]
                  exact HE.out⟩
              case measure => simp [intOf]; omega
            · have HB : Hid (∀ g : Ro, l[k]? = some g → x < g.id) := Lib.hid fun g hg => by
                have h1 := HNT.out _ _ hg
                rw [HY.out] at hg
                injection hg with hg
                subst hg
                omega
              have hge : decide (r.id < x) = false := decide_eq_false he
              subst eA
              clear he
              go_upto_region 11 with fail
              clear c0 hge
              generalize hAA : some (⟨b, o, none⟩ : Addr) = A at *
              clear hAA
              have hins := ins_take (Ro.mk x 0 .zero) l k HN.out HB.out hk
              have HE1 := Lib.hid (show openL l x = (l.take k ++ [Ro.mk x 0 .zero]) ++ l.drop k by rw [HEL.out, hins, List.append_assoc]; rfl)
              have htl : (l.take k).length = k := by rw [List.length_take]; omega
              have HH1 := Lib.hid (HH.out.head hk)
              have HT1 := Lib.hid (HH.out.tail hk)
              have hs1 := fun w' => head_run w' A l.length c k (by have := HH.out.caps; omega)
              have hs2 := fun w' => tail_run w' A l.length c k hk
              have HS1 := Lib.hid hs1
              have HS2 := Lib.hid hs2
              generalize sliced A 0 k c 8 = vh at *
              generalize sliced A k l.length c 8 = vt at *
              have HKL := Lib.hid htl
              have HKK := Lib.hid hk
              clear hins hs1 hs2 htl
              go_upto_region 12 with (first
                | (refine wpList_slice_eq _ rfl _ _ _ _ _ rfl vh (HS1.out _) ?_)
                | (at_builtin; refine wpList_append_ros _ rfl _ _ rfl wr.heap.size _ _ [] (l.take k) D rfl rfl (World.ownsRow_nil _ _ _ _) HH1.out (by have := HKL.out; have := HF.out; simp; omega) (Nat.le_refl _) ?_; intro v1 z1 hown1 hg1 _; have HK1 := Lib.hid ((Keep.of_grown hg1).mono (T := noneOf) (fun _ _ h => by cases h)); rw [List.nil_append] at hown1; have HO1 := Lib.hid hown1; clear hown1 hg1)
                | fail)
              have HA2 : Hid (∀ (v : Value) (z2 : World), z2.ownsRow wr.heap.size 58 8 v (l.take k ++ [Ro.mk x 0 .zero]).length ((l.take k ++ [Ro.mk x 0 .zero]).flatMap Ro.cells) → (z1.alloc (.cells #[.int .u64 x, .int .u64 0, .int .i64 0, .int .u64 0, .int .u64 0, .int .u64 0, .string ⟨#[]⟩, .string ⟨#[]⟩] 58)).grownBy z2 v1.ownBlock → Keep noneOf wr z2) := Lib.hid fun v z2 _ hg => ((HK1.out.alloc _).trans (Keep.of_grown hg) (fun i hi e => by have := (own_row HO1.out e).1; omega))
              go_upto_region 13 with (first
                | (at_builtin; refine wpList_append_ros _ rfl _ _ rfl wr.heap.size _ _ (l.take k) [Ro.mk x 0 .zero] (fun _ => True) rfl rfl (HO1.out.alloc _) (one_new z1 (Ro.mk x 0 .zero)) (by have := HKL.out; have := HKK.out; have := HF.out; simp; omega) (by have := HK1.out.size; simp; omega) ?_; intro v2 z2 hown2 hg2 _; have HK2 := Lib.hid (HA2.out v2 z2 hown2 hg2); have HO2 := Lib.hid hown2; clear hown2 hg2 HA2)
                | fail)
              go_wp2_with (first
                | (refine wpList_slice_eq _ rfl _ _ _ _ _ rfl vt (HS2.out _) ?_)
                | (at_builtin; refine wpList_append_ros _ rfl _ _ rfl wr.heap.size _ _ (l.take k ++ [Ro.mk x 0 .zero]) (l.drop k) D rfl rfl HO2.out (HT1.out.keep HK2.out (fun _ _ _ => id)) (by have := HKL.out; have := HKK.out; have := HF.out; simp; omega) HK2.out.size ?_; intro v3 z3 hown3 hg3 _; have HK3 := Lib.hid (HK2.out.trans (Keep.of_grown hg3) (fun i hi e => by have := (own_row HO2.out e).1; omega)); have HO3 := Lib.hid (show Many Ro.cells 8 z3 (fun i => D i ∨ wr.heap.size ≤ i) v3 (openL l x) by rw [HE1.out]; exact Row.mono (Row.of_own hown3) (fun i _ h => .inr h)); clear hown3 hg3)
                | fail)
              go_wp2
              exact bodyPost_ret (v := .tuple #[v3, .int .i64 0]) (by simp [results, Try.results18, go_sem]) rfl ⟨_, by rw [HOE.out], HO3.out, HK3.out⟩
          · have hkn : ¬ ((k : Int) < (l.length : Int)) := by omega
            have HB : Hid (∀ g : Ro, l[k]? = some g → x < g.id) := Lib.hid fun g hg => by have := (List.getElem?_eq_some_iff.1 hg).1; omega
            go_upto_region 11 with fail
            have hins := ins_take (Ro.mk x 0 .zero) l k HN.out HB.out hk
            have HE1 := Lib.hid (show openL l x = (l.take k ++ [Ro.mk x 0 .zero]) ++ l.drop k by rw [HEL.out, hins, List.append_assoc]; rfl)
            have htl : (l.take k).length = k := by rw [List.length_take]; omega
            have HH1 := Lib.hid (HH.out.head hk)
            have HT1 := Lib.hid (HH.out.tail hk)
            have hs1 := fun w' => head_run w' A l.length c k (by have := HH.out.caps; omega)
            have hs2 := fun w' => tail_run w' A l.length c k hk
            have HS1 := Lib.hid hs1
            have HS2 := Lib.hid hs2
            generalize sliced A 0 k c 8 = vh at *
            generalize sliced A k l.length c 8 = vt at *
            have HKL := Lib.hid htl
            have HKK := Lib.hid hk
            clear hins hs1 hs2 htl
            go_upto_region 12 with (first
              | (refine wpList_slice_eq _ rfl _ _ _ _ _ rfl vh (HS1.out _) ?_)
              | (at_builtin; refine wpList_append_ros _ rfl _ _ rfl wr.heap.size _ _ [] (l.take k) D rfl rfl (World.ownsRow_nil _ _ _ _) HH1.out (by have := HKL.out; have := HF.out; simp; omega) (Nat.le_refl _) ?_; intro v1 z1 hown1 hg1 _; have HK1 := Lib.hid ((Keep.of_grown hg1).mono (T := noneOf) (fun _ _ h => by cases h)); rw [List.nil_append] at hown1; have HO1 := Lib.hid hown1; clear hown1 hg1)
              | fail)
            have HA2 : Hid (∀ (v : Value) (z2 : World), z2.ownsRow wr.heap.size 58 8 v (l.take k ++ [Ro.mk x 0 .zero]).length ((l.take k ++ [Ro.mk x 0 .zero]).flatMap Ro.cells) → (z1.alloc (.cells #[.int .u64 x, .int .u64 0, .int .i64 0, .int .u64 0, .int .u64 0, .int .u64 0, .string ⟨#[]⟩, .string ⟨#[]⟩] 58)).grownBy z2 v1.ownBlock → Keep noneOf wr z2) := Lib.hid fun v z2 _ hg => ((HK1.out.alloc _).trans (Keep.of_grown hg) (fun i hi e => by have := (own_row HO1.out e).1; omega))
            go_upto_region 13 with (first
              | (at_builtin; refine wpList_append_ros _ rfl _ _ rfl wr.heap.size _ _ (l.take k) [Ro.mk x 0 .zero] (fun _ => True) rfl rfl (HO1.out.alloc _) (one_new z1 (Ro.mk x 0 .zero)) (by have := HKL.out; have := HKK.out; have := HF.out; simp; omega) (by have := HK1.out.size; simp; omega) ?_; intro v2 z2 hown2 hg2 _; have HK2 := Lib.hid (HA2.out v2 z2 hown2 hg2); have HO2 := Lib.hid hown2; clear hown2 hg2 HA2)
              | fail)
            go_wp2_with (first
              | (refine wpList_slice_eq _ rfl _ _ _ _ _ rfl vt (HS2.out _) ?_)
              | (at_builtin; refine wpList_append_ros _ rfl _ _ rfl wr.heap.size _ _ (l.take k ++ [Ro.mk x 0 .zero]) (l.drop k) D rfl rfl HO2.out (HT1.out.keep HK2.out (fun _ _ _ => id)) (by have := HKL.out; have := HKK.out; have := HF.out; simp; omega) HK2.out.size ?_; intro v3 z3 hown3 hg3 _; have HK3 := Lib.hid (HK2.out.trans (Keep.of_grown hg3) (fun i hi e => by have := (own_row HO2.out e).1; omega)); have HO3 := Lib.hid (show Many Ro.cells 8 z3 (fun i => D i ∨ wr.heap.size ≤ i) v3 (openL l x) by rw [HE1.out]; exact Row.mono (Row.of_own hown3) (fun i _ h => .inr h)); clear hown3 hg3)
              | fail)
            go_wp2
            exact bodyPost_ret (v := .tuple #[v3, .int .i64 0]) (by simp [results, Try.results18, go_sem]) rfl ⟨_, by rw [HOE.out], HO3.out, HK3.out⟩
end Go.Proofs.Ytimnehgonlohcaa
