import Derived.Maps.AppendAt
import Derived.Test.YtffoeodjbbkdjaaGreatBs01
import Derived.Test.YtffoeodjbbkdjaaGreatBs15
import Derived.Test.YtffoeodjbbkdjaaGreatBs20
namespace Go.Proofs.YtffoeodjbbkdjaaGreat
open Go.Shelf Go.RowKit Go.Maps
section
variable {P : Program}
theorem wpList_slice_eq (w : World) {ops : Array Oper} {rest : List Oper} {o : Oper} {a : Act} {Q : Exit → Act → World → Prop} (hgd : o.guard = none) (s : Operand) (t : TypeId) (lo hi mx : Option Operand) (hop : o.op = Op.slice t s lo hi mx) (v : Value)
  (hr : (Instr.sliceAt t (a.eval s) (lo.map a.eval) (hi.map a.eval) (mx.map a.eval)).run P w = .ok v w) (h : wpList P ops Q rest (a.put o.dst v) w) : wpList P ops Q (o :: rest) a w := by
 refine wpList_plain hgd fun K hK => ?_
 unfold Oper.wp execOp
 simp [hop, hr, Result.andThen]
 exact hK _ _ h
end
theorem size_ro (w : World) : (sizeOf (Tryz.prog.elem 26)).run Tryz.prog w = .ok 8 w := by kernel_rfl
theorem elem_ro : Tryz.prog.underlying 26 = some (.slice (Tryz.prog.elem 26)) := by kernel_rfl
theorem head_run (w : World) (A : Option Addr) (len c n : Nat) (hn : n ≤ c) : (Instr.sliceAt 26 (.slice A len c) none (some (.int .i64 (n : Int))) none).run Tryz.prog w = .ok (sliced A 0 n c 8) w := by
 rw [run_sliceAt_slice w 26 _ _ _ _ elem_ro, run_slice_h w 26 _ _ _ elem_ro .i64 (n : Int) (by omega) (by omega), size_ro]
 rfl
theorem tail_run (w : World) (A : Option Addr) (len c n : Nat) (hn : n ≤ len) : (Instr.sliceAt 26 (.slice A len c) (some (.int .i64 (n : Int))) none none).run Tryz.prog w = .ok (sliced A n len c 8) w := by
 rw [run_sliceAt_slice w 26 _ _ _ _ elem_ro, run_slice_l w 26 _ _ _ elem_ro .i64 (n : Int) (by omega) (by omega), size_ro]
 rfl
theorem Many.head {w : World} {D : Nat → Prop} {A : Option Addr} {c n : Nat} {l : List Ro} (h : Many Ro.cells 8 w D (.slice A l.length c) l) (hn : n ≤ l.length) : Many Ro.cells 8 w D (sliced A 0 n c 8) (l.take n) := by
 obtain ⟨A', c', hv, h1, h2, h3, h4, h5⟩ := h
 obtain ⟨rfl, rfl⟩ : A = A' ∧ c = c' := by simpa using hv
 have htl : (l.take n).length = n := by rw [List.length_take]; omega
 have hA : sliced A 0 n c 8 = .slice A n c := by
  unfold sliced
  cases A with
  | none => simp
  | some ad =>
   split
   ·
    simp
   ·
    simp [Addr.add]
 refine ⟨A, c, by rw [hA, htl], by omega, h2, h3, fm_length Ro.cells 8 (fun _ => rfl) _, fun h0 => ?_⟩
 obtain ⟨ad, e, hsp, hlt, hD, hc⟩ := h5 (by omega)
 refine ⟨ad, e, hsp, hlt, hD, fun j x hj => hc j x ?_⟩
 have hjl := (List.getElem?_eq_some_iff.1 hj).1
 rw [← List.take_append_drop n l, List.flatMap_append, List.getElem?_append_left hjl]
 exact hj
theorem Many.tail {w : World} {D : Nat → Prop} {A : Option Addr} {c n : Nat} {l : List Ro} (h : Many Ro.cells 8 w D (.slice A l.length c) l) (hn : n ≤ l.length) : Many Ro.cells 8 w D (sliced A n l.length c 8) (l.drop n) := by
 obtain ⟨A', c', hv, h1, h2, h3, h4, h5⟩ := h
 obtain ⟨rfl, rfl⟩ : A = A' ∧ c = c' := by simpa using hv
 have hdl : (l.drop n).length = l.length - n := List.length_drop
 unfold sliced
 refine ⟨_, c - n, by rw [hdl], by omega, by omega, fun e => ?_, fm_length Ro.cells 8 (fun _ => rfl) _, fun h0 => ?_⟩
 ·
  split at e
  ·
   omega
  ·
   cases A with
   | none => have := h3 rfl; omega
   | some ad => cases e
 ·
  obtain ⟨ad, e, hsp, hlt, hD, hc⟩ := h5 (by omega)
  subst e
  have hne : ¬ c = n := by omega
  rw [if_neg hne]
  refine ⟨ad.add (n * 8), rfl, ?_, ?_, ?_, fun j x hj => ?_⟩
  ·
   rw [add_at ad hsp]
  ·
   rw [add_at ad hsp]; exact hlt
  ·
   rw [add_at ad hsp]; exact hD
  ·
   have hjl := (List.getElem?_eq_some_iff.1 hj).1
   rw [add_at ad hsp]
   show w.cell? ⟨ad.block, ad.off + n * 8 + j, none⟩ = _
   rw [Nat.add_assoc]
   refine hc (n * 8 + j) x ?_
   have htl : ((l.take n).flatMap Ro.cells).length = n * 8 := by rw [fm_length Ro.cells 8 (fun _ => rfl), List.length_take, Nat.min_eq_left hn]
   conv => lhs; rw [← List.take_append_drop n l, List.flatMap_append]
   rw [List.getElem?_append_right (by rw [htl]; omega), htl]
   rw [show n * 8 + j - n * 8 = j from by omega]
   exact hj
set_option maxRecDepth 100000 in
theorem run_append_ros (w : World) (base : Nat) (ty : TypeId) (v s : Value) (l m : List Ro) (D : Nat → Prop) (hown : w.ownsRow base 115 8 v l.length (l.flatMap Ro.cells)) (hs : Many Ro.cells 8 w D s m) (hb : (l.length + m.length) * 80 ≤ 140737488355328) (hbase : base ≤ w.heap.size) :
  ∃ v' w', (Builtin.append_ #[26, 26] ty #[v, s]).run Tryz.prog w = .ok v' w' ∧ w'.ownsRow base 115 8 v' (l ++ m).length ((l ++ m).flatMap Ro.cells) ∧ w.grownBy w' v.ownBlock ∧ (v'.ownBlock = v.ownBlock ∨ v'.ownBlock = some w.heap.size) := by
 obtain ⟨i1, hi1, hz1, hs1, hb1⟩ := info_parts roinfo
 obtain ⟨A, c, rfl, hlc, _, hn, hlen, hc⟩ := hs
 have hfl : (l ++ m).flatMap Ro.cells = l.flatMap Ro.cells ++ m.flatMap Ro.cells := List.flatMap_append
 cases A with
 | none =>
  have h0 : m = [] := List.eq_nil_of_length_eq_zero (by have := hn rfl; omega)
  subst h0
  refine ⟨v, w, ?_, by simpa using hown, World.grownBy.refl w _, .inl rfl⟩
  rcases hown.2 with ⟨rfl, _⟩ | ⟨g, cap, cur, rfl, _, _, hnc, _⟩
  ·
   simp [Builtin.append_, run_underlying Tryz.underlying26, sizeOf, typeInfo, hi1, Builtin.lenOf, Builtin.firstCells]
  ·
   simp [Builtin.append_, run_underlying Tryz.underlying26, sizeOf, typeInfo, hi1, Builtin.lenOf, Builtin.firstCells, hnc, storeCells]
 | some ad =>
  obtain ⟨v', w', hr, ho, hg, _, hat⟩ := run_append_own_at (P := Tryz.prog) w base 26 ty 115 i1 zeroR 8 80 Tryz.underlying26 hi1 hz1 hs1 hb1 (by rfl) (by decide) v l.length (l.flatMap Ro.cells) hown ad m.length c (m.flatMap Ro.cells) (fm_length Ro.cells 8 (fun _ => rfl) m)
   (fun j u hu => by
    have hj := (List.getElem?_eq_some_iff.1 hu).1
    rw [fm_length Ro.cells 8 (fun _ => rfl)] at hj
    obtain ⟨ad', e, hsp, _, _, hcell⟩ := hc (by omega)
    injection e with e
    subst e
    rw [add_at ad hsp]
    exact hcell j u hu)
   (fun u hu => by obtain ⟨r, _, hr⟩ := List.mem_flatMap.1 hu; exact cells_one r u hr) (by unfold maxLen; omega) hb hbase
  exact ⟨v', w', hr, by rw [List.length_append, hfl]; exact ho, hg, hat⟩
set_option maxRecDepth 100000 in
theorem wpList_append_ros (w : World) {ops : Array Oper} {rest : List Oper} {o : Oper} {a : Act} {Q : Exit → Act → World → Prop} (hgd : o.guard = none) (s x : Operand)
  (ho : o.op = .call { callee := .builtin .append, args := #[s, x], argTypes := #[26, 26] }) (base : Nat)
  (v u : Value) (l m : List Ro) (D : Nat → Prop) (hv : a.eval s = v) (hu : a.eval x = u) (hown : w.ownsRow base 115 8 v l.length (l.flatMap Ro.cells)) (hs : Many Ro.cells 8 w D u m) (hl : (l.length + m.length) * 80 ≤ 140737488355328) (hbase : base ≤ w.heap.size)
  (h : ∀ v' w', w'.ownsRow base 115 8 v' (l ++ m).length ((l ++ m).flatMap Ro.cells) → w.grownBy w' v.ownBlock → (v'.ownBlock = v.ownBlock ∨ v'.ownBlock = some w.heap.size) → wpList Tryz.prog ops Q rest (a.put o.dst v') w') : wpList Tryz.prog ops Q (o :: rest) a w := by
 refine wpList_plain hgd fun K hK => ?_
 obtain ⟨v', w', hr, h3, h4, h5⟩ := run_append_ros w base o.type v u l m D hown hs hl hbase
 unfold Oper.wp execOp
 simp only [ho, resolve, invoke, builtin, Sem.run_bind, Sem.run_pure, Result.andThen_ok, List.map_toArray, List.map_cons, List.map_nil, hv, hu, hr]
 exact hK _ _ (h v' w' h3 h4 h5)
theorem ins_take (r : Ro) : ∀ (l : List Ro) (n : Nat), (∀ (j : Nat) (g : Ro), j < n → l[j]? = some g → g.id < r.id) → (∀ g : Ro, l[n]? = some g → r.id < g.id) → n ≤ l.length → insR r l = l.take n ++ r :: l.drop n
 | [], n, _, _, hn => by
  have : n = 0 := by simpa using hn
  subst this
  rfl
 | g :: l, 0, _, h, _ => by
  unfold insR
  rw [if_pos (h g rfl)]
  rfl
 | g :: l, n + 1, h1, h2, hn => by
  unfold insR
  have hlt := h1 0 g (Nat.succ_pos _) rfl
  rw [if_neg (by omega), ins_take r l n (fun j g' hj hg => h1 (j + 1) g' (by omega) (by simpa using hg)) (fun g' hg => h2 g' (by simpa using hg)) (by simpa using hn)]
  rfl
theorem one_new (w : World) (r : Ro) : Many Ro.cells 8 (w.alloc (.cells #[.int .u64 r.id, .int .u64 r.seq, .int .i64 r.ans.code, .int .u64 r.ans.id, .int .u64 r.ans.tok, .int .u64 r.ans.unt, .string r.ans.tgt, .string r.ans.cmd] 115)) (fun _ => True) (.slice (some ⟨w.heap.size, 0, none⟩) 1 1) [r] := by
 refine ⟨_, 1, rfl, Nat.le_refl _, by decide, fun e => (by cases e), by simp [Ro.cells], fun _ => ⟨_, rfl, rfl, by simp, trivial, fun j u hj => ?_⟩⟩
 have := row_news w r j u (by simpa using hj)
 rw [add_at _ rfl] at this
 exact this
theorem Many.caps {α : Type} {enc : α → List Value} {k : Nat} {w : World} {D : Nat → Prop} {A : Option Addr} {n c : Nat} {l : List α} (h : Many enc k w D (.slice A n c) l) : l.length ≤ c := by
 obtain ⟨A', c', hv, h1, _⟩ := h
 have : c = c' := by
  injection hv
 omega
theorem zeroRo (w : World) : (zeroValue 115).run Tryz.prog w = .ok zeroR w := by kernel_rfl
theorem not_there {l : List Ro} {x : Int} (h : findR l x = none) {j : Nat} {g : Ro} (hg : l[j]? = some g) : g.id ≠ x := by
 intro e
 unfold findR at h
 rw [List.find?_eq_none] at h
 exact h g (List.mem_of_getElem? hg) (by simpa using e)
set_option maxRecDepth 100000 in
set_option maxHeartbeats 2000000 in
theorem refOpen_any (w : World) (D : Nat → Prop) (v : Value) (l : List Ro) (x : Int) (h : Many Ro.cells 8 w D v l) (hf : l.length ≤ 16) :
  Calls Tryz.prog 28 #[v, .int .u64 x] w fun e w' => ∃ v', e = .returned (.tuple #[v', .int .i64 (openE l x)]) ∧ Many Ro.cells 8 w' (fun i => D i ∨ w.heap.size ≤ i) v' (openL l x) ∧ Keep noneOf w w' := by
 obtain ⟨A, c, rfl⟩ := h.shape
 have HH := Lib.hid h
 have HF := Lib.hid hf
 by_cases hx : x = 0
 ·
  have e1 : openE l x = 1 := by unfold openE; rw [if_pos hx]
  have e2 : openL l x = l := by unfold openL; rw [if_pos hx]
  rw [e1, e2]
  subst hx
  clear h e1 e2 hf
  go_enter Tryz.func28, Tryz.ntmps28
  go_wp2
  exact bodyPost_ret (v := .tuple #[.slice A l.length c, .int .i64 1]) (by simp [results, Tryz.results28, go_sem]) rfl ⟨_, rfl, HH.out.mono (fun i _ h => .inl h), Keep.refl _ _⟩
 ·
  have g0 : (x == 0) = false := beq_eq_false_iff_ne.2 hx
  have HAT := Lib.hid (at_any w D _ l x h)
  cases hq : findR l x with
  | some r =>
   have e1 : openE l x = 0 := by unfold openE; rw [if_neg hx, hq]; rfl
   have e2 : openL l x = l := by unfold openL; rw [if_neg hx, hq]; rfl
   rw [e1, e2]
   obtain ⟨k, hat, hk⟩ := at_some hq
   rw [hat] at HAT
   unfold atV at HAT
   dsimp only at HAT
   have q0 : (0 : Int) ≤ (k : Int) := by omega
   clear h e1 e2 hf hq hat hk hx
   go_enter Tryz.func28, Tryz.ntmps28
   go_wp2_with fail
   refine HAT.out.mono ?_
   rintro e w1 ⟨rfl, rfl⟩
   go_wp2
   exact bodyPost_ret (v := .tuple #[.slice A l.length c, .int .i64 0]) (by simp [results, Tryz.results28, go_sem]) rfl ⟨_, rfl, HH.out.mono (fun i _ h => .inl h), Keep.refl _ _⟩
  | none =>
   rw [at_none hq] at HAT
   unfold atV at HAT
   dsimp only at HAT
   by_cases h16 : 16 ≤ l.length
   ·
    have e1 : openE l x = 112 := by unfold openE; rw [if_neg hx, hq, if_pos h16]; rfl
    have e2 : openL l x = l := by unfold openL; rw [if_neg hx, hq, if_pos h16]; rfl
    rw [e1, e2]
    have q1 : (16 : Int) ≤ (l.length : Int) := by omega
    clear h e1 e2 hf hq hx h16
    go_enter Tryz.func28, Tryz.ntmps28
    go_wp2_with fail
    refine HAT.out.mono ?_
    rintro e w1 ⟨rfl, rfl⟩
    go_wp2
    exact bodyPost_ret (v := .tuple #[.slice A l.length c, .int .i64 112]) (by simp [results, Tryz.results28, go_sem]) rfl ⟨_, rfl, HH.out.mono (fun i _ h => .inl h), Keep.refl _ _⟩
   ·
    have e1 : openE l x = 0 := by unfold openE; rw [if_neg hx, hq, if_neg h16]; rfl
    have eL : openL l x = insR ⟨x, 0, .zero⟩ l := by unfold openL; rw [if_neg hx, hq, if_neg h16]; rfl
    have q1 : ¬ (16 : Int) ≤ (l.length : Int) := by omega
    have HOE := Lib.hid e1
    have HNT : Hid (∀ (j : Nat) (g : Ro), l[j]? = some g → g.id ≠ x) := Lib.hid fun j g hg => not_there hq hg
    have hzr := zeroRo
    unfold zeroR at hzr
    have HEL := Lib.hid eL
    clear h e1 hq hx eL
    go_enter Tryz.func28, Tryz.ntmps28
    go_wp2_with fail
    refine HAT.out.mono ?_
    rintro e w1 ⟨rfl, rfl⟩
    go_wp2
    go_loopw [6] (fun i wr => ∃ (k : Nat), k ≤ l.length ∧ i = .int .i64 k ∧ wr = w1 ∧ ∀ (j : Nat) (g : Ro), j < k → l[j]? = some g → g.id < x) (fun i _ => l.length - (intOf i).toNat)
    case atStart => exact ⟨0, Nat.zero_le _, rfl, rfl, fun j g hj => absurd hj (Nat.not_lt_zero _)⟩
    case round =>
     obtain ⟨k, hk, rfl, rfl, hn⟩ := hrel
     have HN := Lib.hid hn
     clear hn
     by_cases hlt : k < l.length
     ·
      have hy : l[k]? = some l[k] := List.getElem?_eq_getElem hlt
      obtain ⟨b, o, eA, hblk, _, hcell⟩ := HH.out.cell (fun _ => rfl) hy
      have HY := Lib.hid hy
      generalize l[k] = r at *
      obtain ⟨c0, -⟩ := ro_cells b o k _ r hcell
      have q0 : (0 : Int) ≤ (k : Int) := by omega
      have q2 : (k : Int) < (l.length : Int) := by omega
      clear hy hcell
      by_cases he : r.id < x
      ·
       have HE := Lib.hid he
       subst eA
       go_wp2
       go_roundw
       case rel => exact ⟨k + 1, by omega, by go_num, by trivial, fun j g hj hg => by
        rcases Nat.lt_or_ge j k with h1 | h1
        ·
         exact HN.out j g h1 hg
        ·
         obtain rfl : j = k := by omega
         rw [HY.out] at hg
         injection hg with hg
         rw [← hg]
         exact HE.out⟩
       case measure => simp [intOf]; omega
      ·
       have HB : Hid (∀ g : Ro, l[k]? = some g → x < g.id) := Lib.hid fun g hg => by
        have h1 := HNT.out _ _ hg
        rw [HY.out] at hg
        injection hg with hg
        subst hg
        omega
       have hge : decide (r.id < x) = false := decide_eq_false he
       subst eA
       clear he
       go_upto_region 11 with fail
       clear c0 hge
       generalize hAA : some (⟨b, o, none⟩ : Addr) = A at *
       clear hAA
       have hins := ins_take (Ro.mk x 0 .zero) l k HN.out HB.out hk
       have HE1 := Lib.hid (show openL l x = (l.take k ++ [Ro.mk x 0 .zero]) ++ l.drop k by rw [HEL.out, hins, List.append_assoc]; rfl)
       have htl : (l.take k).length = k := by rw [List.length_take]; omega
       have HH1 := Lib.hid (HH.out.head hk)
       have HT1 := Lib.hid (HH.out.tail hk)
       have hs1 := fun w' => head_run w' A l.length c k (by have := HH.out.caps; omega)
       have hs2 := fun w' => tail_run w' A l.length c k hk
       have HS1 := Lib.hid hs1
       have HS2 := Lib.hid hs2
       generalize sliced A 0 k c 8 = vh at *
       generalize sliced A k l.length c 8 = vt at *
       have HKL := Lib.hid htl
       have HKK := Lib.hid hk
       clear hins hs1 hs2 htl
       go_upto_region 12 with (first
        | (refine wpList_slice_eq _ rfl _ _ _ _ _ rfl vh (HS1.out _) ?_)
        | (at_builtin; refine wpList_append_ros _ rfl _ _ rfl wr.heap.size _ _ [] (l.take k) D rfl rfl (World.ownsRow_nil _ _ _ _) HH1.out (by have := HKL.out; have := HF.out; simp; omega) (Nat.le_refl _) ?_; intro v1 z1 hown1 hg1 _; have HK1 := Lib.hid ((Keep.of_grown hg1).mono (T := noneOf) (fun _ _ h => by cases h)); rw [List.nil_append] at hown1; have HO1 := Lib.hid hown1; clear hown1 hg1)
        | fail)
       have HA2 : Hid (∀ (v : Value) (z2 : World), z2.ownsRow wr.heap.size 115 8 v (l.take k ++ [Ro.mk x 0 .zero]).length ((l.take k ++ [Ro.mk x 0 .zero]).flatMap Ro.cells) → (z1.alloc (.cells #[.int .u64 x, .int .u64 0, .int .i64 0, .int .u64 0, .int .u64 0, .int .u64 0, .string ⟨#[]⟩, .string ⟨#[]⟩] 115)).grownBy z2 v1.ownBlock → Keep noneOf wr z2) := Lib.hid fun v z2 _ hg => ((HK1.out.alloc _).trans (Keep.of_grown hg) (fun i hi e => by have := (own_row HO1.out e).1; omega))
       go_upto_region 13 with (first
        | (at_builtin; refine wpList_append_ros _ rfl _ _ rfl wr.heap.size _ _ (l.take k) [Ro.mk x 0 .zero] (fun _ => True) rfl rfl (HO1.out.alloc _) (one_new z1 (Ro.mk x 0 .zero)) (by have := HKL.out; have := HKK.out; have := HF.out; simp; omega) (by have := HK1.out.size; simp; omega) ?_; intro v2 z2 hown2 hg2 _; have HK2 := Lib.hid (HA2.out v2 z2 hown2 hg2); have HO2 := Lib.hid hown2; clear hown2 hg2 HA2)
        | fail)
       go_wp2_with (first
        | (refine wpList_slice_eq _ rfl _ _ _ _ _ rfl vt (HS2.out _) ?_)
        | (at_builtin; refine wpList_append_ros _ rfl _ _ rfl wr.heap.size _ _ (l.take k ++ [Ro.mk x 0 .zero]) (l.drop k) D rfl rfl HO2.out (HT1.out.keep HK2.out (fun _ _ _ => id)) (by have := HKL.out; have := HKK.out; have := HF.out; simp; omega) HK2.out.size ?_; intro v3 z3 hown3 hg3 _; have HK3 := Lib.hid (HK2.out.trans (Keep.of_grown hg3) (fun i hi e => by have := (own_row HO2.out e).1; omega)); have HO3 := Lib.hid (show Many Ro.cells 8 z3 (fun i => D i ∨ wr.heap.size ≤ i) v3 (openL l x) by rw [HE1.out]; exact Row.mono (Row.of_own hown3) (fun i _ h => .inr h)); clear hown3 hg3)
        | fail)
       go_wp2
       exact bodyPost_ret (v := .tuple #[v3, .int .i64 0]) (by simp [results, Tryz.results28, go_sem]) rfl ⟨_, by rw [HOE.out], HO3.out, HK3.out⟩
     ·
      have hkn : ¬ ((k : Int) < (l.length : Int)) := by omega
      have HB : Hid (∀ g : Ro, l[k]? = some g → x < g.id) := Lib.hid fun g hg => by have := (List.getElem?_eq_some_iff.1 hg).1; omega
      go_upto_region 11 with fail
      have hins := ins_take (Ro.mk x 0 .zero) l k HN.out HB.out hk
      have HE1 := Lib.hid (show openL l x = (l.take k ++ [Ro.mk x 0 .zero]) ++ l.drop k by rw [HEL.out, hins, List.append_assoc]; rfl)
      have htl : (l.take k).length = k := by rw [List.length_take]; omega
      have HH1 := Lib.hid (HH.out.head hk)
      have HT1 := Lib.hid (HH.out.tail hk)
      have hs1 := fun w' => head_run w' A l.length c k (by have := HH.out.caps; omega)
      have hs2 := fun w' => tail_run w' A l.length c k hk
      have HS1 := Lib.hid hs1
      have HS2 := Lib.hid hs2
      generalize sliced A 0 k c 8 = vh at *
      generalize sliced A k l.length c 8 = vt at *
      have HKL := Lib.hid htl
      have HKK := Lib.hid hk
      clear hins hs1 hs2 htl
      go_upto_region 12 with (first
       | (refine wpList_slice_eq _ rfl _ _ _ _ _ rfl vh (HS1.out _) ?_)
       | (at_builtin; refine wpList_append_ros _ rfl _ _ rfl wr.heap.size _ _ [] (l.take k) D rfl rfl (World.ownsRow_nil _ _ _ _) HH1.out (by have := HKL.out; have := HF.out; simp; omega) (Nat.le_refl _) ?_; intro v1 z1 hown1 hg1 _; have HK1 := Lib.hid ((Keep.of_grown hg1).mono (T := noneOf) (fun _ _ h => by cases h)); rw [List.nil_append] at hown1; have HO1 := Lib.hid hown1; clear hown1 hg1)
       | fail)
      have HA2 : Hid (∀ (v : Value) (z2 : World), z2.ownsRow wr.heap.size 115 8 v (l.take k ++ [Ro.mk x 0 .zero]).length ((l.take k ++ [Ro.mk x 0 .zero]).flatMap Ro.cells) → (z1.alloc (.cells #[.int .u64 x, .int .u64 0, .int .i64 0, .int .u64 0, .int .u64 0, .int .u64 0, .string ⟨#[]⟩, .string ⟨#[]⟩] 115)).grownBy z2 v1.ownBlock → Keep noneOf wr z2) := Lib.hid fun v z2 _ hg => ((HK1.out.alloc _).trans (Keep.of_grown hg) (fun i hi e => by have := (own_row HO1.out e).1; omega))
      go_upto_region 13 with (first
       | (at_builtin; refine wpList_append_ros _ rfl _ _ rfl wr.heap.size _ _ (l.take k) [Ro.mk x 0 .zero] (fun _ => True) rfl rfl (HO1.out.alloc _) (one_new z1 (Ro.mk x 0 .zero)) (by have := HKL.out; have := HKK.out; have := HF.out; simp; omega) (by have := HK1.out.size; simp; omega) ?_; intro v2 z2 hown2 hg2 _; have HK2 := Lib.hid (HA2.out v2 z2 hown2 hg2); have HO2 := Lib.hid hown2; clear hown2 hg2 HA2)
       | fail)
      go_wp2_with (first
       | (refine wpList_slice_eq _ rfl _ _ _ _ _ rfl vt (HS2.out _) ?_)
       | (at_builtin; refine wpList_append_ros _ rfl _ _ rfl wr.heap.size _ _ (l.take k ++ [Ro.mk x 0 .zero]) (l.drop k) D rfl rfl HO2.out (HT1.out.keep HK2.out (fun _ _ _ => id)) (by have := HKL.out; have := HKK.out; have := HF.out; simp; omega) HK2.out.size ?_; intro v3 z3 hown3 hg3 _; have HK3 := Lib.hid (HK2.out.trans (Keep.of_grown hg3) (fun i hi e => by have := (own_row HO2.out e).1; omega)); have HO3 := Lib.hid (show Many Ro.cells 8 z3 (fun i => D i ∨ wr.heap.size ≤ i) v3 (openL l x) by rw [HE1.out]; exact Row.mono (Row.of_own hown3) (fun i _ h => .inr h)); clear hown3 hg3)
       | fail)
      go_wp2
      exact bodyPost_ret (v := .tuple #[v3, .int .i64 0]) (by simp [results, Tryz.results28, go_sem]) rfl ⟨_, by rw [HOE.out], HO3.out, HK3.out⟩
end Go.Proofs.YtffoeodjbbkdjaaGreat
namespace Go.Proofs.YtffoeodjbbkdjaaGreat
open Go.Shelf Go.RowKit Go.Maps Go.Sort
theorem put_set : ∀ {l : List Ro} {k : Nat} {r0 r : Ro}, l.Pairwise (fun a b => a.id < b.id) → l[k]? = some r0 → r0.id = r.id → putR l r = l.set k r
 | [], k, r0, r, _, h, _ => by simp at h
 | g :: l, 0, r0, r, hp, h, he => by
  simp at h
  subst h
  rw [List.pairwise_cons] at hp
  unfold putR
  have h1 : delR (g :: l) r.id = l := by
   unfold delR
   rw [List.filter_cons_of_neg (by simp [he]), List.filter_eq_self]
   intro x hx
   have := hp.1 x hx
   simp
   omega
  rw [h1]
  cases l with
  | nil => rfl
  | cons x l =>
   have := hp.1 x (List.mem_cons_self ..)
   unfold insR
   rw [if_pos (by omega)]
   rfl
 | g :: l, k + 1, r0, r, hp, h, he => by
  simp at h
  have hp' := hp
  rw [List.pairwise_cons] at hp
  have hlt := hp.1 r0 (List.mem_of_getElem? h)
  unfold putR
  have h1 : delR (g :: l) r.id = g :: delR l r.id := by
   unfold delR
   rw [List.filter_cons_of_pos (by simp; omega)]
  rw [h1]
  have ih := put_set (r := r) hp.2 h he
  unfold putR at ih
  unfold insR
  rw [if_neg (by omega), ih]
  rfl
theorem box_sets {w : World} {g : Nat} {t : TypeId} {cs : Array Value} (h : Box w g t cs) (k : Nat) (r : Ro) :
  Box ((((((((w.setCell ⟨g, k * 8, none⟩ (.int .u64 r.id)).setCell ⟨g, k * 8 + 1, none⟩ (.int .u64 r.seq)).setCell ⟨g, k * 8 + 2, none⟩ (.int .i64 r.ans.code)).setCell ⟨g, k * 8 + 3, none⟩ (.int .u64 r.ans.id)).setCell ⟨g, k * 8 + 4, none⟩ (.int .u64 r.ans.tok)).setCell ⟨g, k * 8 + 5, none⟩ (.int .u64 r.ans.unt)).setCell ⟨g, k * 8 + 6, none⟩ (.string r.ans.tgt)).setCell ⟨g, k * 8 + 7, none⟩ (.string r.ans.cmd)) g t (setMany cs (k * 8) r.cells) :=
 (((((((h.put (k * 8) _).put (k * 8 + 1) _).put (k * 8 + 2) _).put (k * 8 + 3) _).put (k * 8 + 4) _).put (k * 8 + 5) _).put (k * 8 + 6) _).put (k * 8 + 7) _
theorem keep_sets (w : World) (g k : Nat) (r : Ro) :
  Keep (fun i => i = g) w ((((((((w.setCell ⟨g, k * 8, none⟩ (.int .u64 r.id)).setCell ⟨g, k * 8 + 1, none⟩ (.int .u64 r.seq)).setCell ⟨g, k * 8 + 2, none⟩ (.int .i64 r.ans.code)).setCell ⟨g, k * 8 + 3, none⟩ (.int .u64 r.ans.id)).setCell ⟨g, k * 8 + 4, none⟩ (.int .u64 r.ans.tok)).setCell ⟨g, k * 8 + 5, none⟩ (.int .u64 r.ans.unt)).setCell ⟨g, k * 8 + 6, none⟩ (.string r.ans.tgt)).setCell ⟨g, k * 8 + 7, none⟩ (.string r.ans.cmd)) :=
 ((((((((Keep.refl (fun i => i = g) w).setCell (p := ⟨g, k * 8, none⟩) (fun _ => rfl) _).setCell (p := ⟨g, k * 8 + 1, none⟩) (fun _ => rfl) _).setCell (p := ⟨g, k * 8 + 2, none⟩) (fun _ => rfl) _).setCell (p := ⟨g, k * 8 + 3, none⟩) (fun _ => rfl) _).setCell (p := ⟨g, k * 8 + 4, none⟩) (fun _ => rfl) _).setCell (p := ⟨g, k * 8 + 5, none⟩) (fun _ => rfl) _).setCell (p := ⟨g, k * 8 + 6, none⟩) (fun _ => rfl) _).setCell (p := ⟨g, k * 8 + 7, none⟩) (fun _ => rfl) _
theorem many_set {w : World} {g cap k : Nat} {cur : Array Value} {l : List Ro} {r : Ro} (h : Box w g 115 (setMany cur (k * 8) r.cells)) (hsz : cur.size = cap * 8) (hn : l.length ≤ cap) (hcm : cap ≤ maxLen) (htk : cur.toList.take (l.length * 8) = l.flatMap Ro.cells) (hk : k < l.length) :
  Many Ro.cells 8 w (fun i => i = g) (.slice (some ⟨g, 0, none⟩) l.length cap) (l.set k r) := by
 have hll : (l.set k r).length = l.length := List.length_set
 refine ⟨_, cap, by rw [hll], by omega, hcm, fun e => (by cases e), fm_length Ro.cells 8 (fun _ => rfl) _, fun h0 => ⟨_, rfl, rfl, h.lt, rfl, fun j x hj => ?_⟩⟩
 have hjl := (List.getElem?_eq_some_iff.1 hj).1
 rw [fm_length Ro.cells 8 (fun _ => rfl), hll] at hjl
 have hd : j / 8 < l.length := by omega
 have hm : j % 8 < 8 := Nat.mod_lt _ (by decide)
 have hjj : j / 8 * 8 + j % 8 = j := by omega
 show w.cell? ⟨g, 0 + j, none⟩ = _
 rw [Nat.zero_add, h.cell j]
 have hjs : j < cur.size := by omega
 rw [Array.getElem?_eq_getElem (by rw [size_setMany]; exact hjs), ← getElem!_pos, get_setMany _ _ _ j hjs]
 have hrl : r.cells.length = 8 := rfl
 by_cases hi : j / 8 = k
 ·
  have hx : (l.set k r)[j / 8]? = some r := by rw [hi, List.getElem?_set_self hk]
  have := fm_at Ro.cells 8 (fun _ => rfl) hx (j % 8) hm
  rw [hjj, hj, List.getElem?_eq_getElem (by rw [hrl]; exact hm)] at this
  rw [if_pos (by rw [hrl]; omega), this, show j - k * 8 = j % 8 from by omega, getElem!_pos r.cells (j % 8) (by rw [hrl]; exact hm)]
 ·
  have hx : (l.set k r)[j / 8]? = some l[j / 8] := by rw [List.getElem?_set_ne (fun e => hi e.symm), List.getElem?_eq_getElem hd]
  have e1 := fm_at Ro.cells 8 (fun _ => rfl) hx (j % 8) hm
  have e2 := fm_at Ro.cells 8 (fun _ => rfl) (List.getElem?_eq_getElem hd) (j % 8) hm
  rw [hjj, hj] at e1
  rw [hjj, ← htk, List.getElem?_take_of_lt (by omega), Array.getElem?_toList, ← e1, Array.getElem?_eq_getElem hjs] at e2
  rw [if_neg (by rw [hrl]; omega), getElem!_pos cur j hjs]
  exact e2
theorem row_open {w : World} {g : Nat} {t : TypeId} {cur : Array Value} (h : Box w g t cur) {k : Nat} (hs : k * 8 + 8 ≤ cur.size) :
  ∃ y0 y1 y2 y3 y4 y5 y6 y7 : Value, (w.cell? ⟨g, k * 8, none⟩ = some y0 ∧ w.cell? ⟨g, k * 8 + 1, none⟩ = some y1 ∧ w.cell? ⟨g, k * 8 + 2, none⟩ = some y2 ∧ w.cell? ⟨g, k * 8 + 3, none⟩ = some y3 ∧ w.cell? ⟨g, k * 8 + 4, none⟩ = some y4 ∧ w.cell? ⟨g, k * 8 + 5, none⟩ = some y5 ∧ w.cell? ⟨g, k * 8 + 6, none⟩ = some y6 ∧ w.cell? ⟨g, k * 8 + 7, none⟩ = some y7) ∧
   w.frozen? ⟨g, k * 8, none⟩ = false ∧ w.frozen? ⟨g, k * 8 + 1, none⟩ = false ∧ w.frozen? ⟨g, k * 8 + 2, none⟩ = false ∧ w.frozen? ⟨g, k * 8 + 3, none⟩ = false ∧ w.frozen? ⟨g, k * 8 + 4, none⟩ = false ∧ w.frozen? ⟨g, k * 8 + 5, none⟩ = false ∧ w.frozen? ⟨g, k * 8 + 6, none⟩ = false ∧ w.frozen? ⟨g, k * 8 + 7, none⟩ = false := by
 have hc : ∀ i (hi : i < cur.size), w.cell? ⟨g, i, none⟩ = some cur[i] := fun i hi => by rw [h.cell i, Array.getElem?_eq_getElem hi]
 exact ⟨_, _, _, _, _, _, _, _, ⟨hc _ (by omega), hc _ (by omega), hc _ (by omega), hc _ (by omega), hc _ (by omega), hc _ (by omega), hc _ (by omega), hc _ (by omega)⟩, h.free _, h.free _, h.free _, h.free _, h.free _, h.free _, h.free _, h.free _⟩
set_option maxRecDepth 100000 in
set_option maxHeartbeats 2000000 in
set_option linter.unusedSimpArgs false in
theorem refKeep_any (w : World) (D : Nat → Prop) (v : Value) (l : List Ro) (x s : Int) (a : An) (h : Many Ro.cells 8 w D v l) (hp : l.Pairwise (fun a b => a.id < b.id)) (hf : l.length ≤ 16) :
  Calls Tryz.prog 35 #[v, .int .u64 x, .int .u64 s, a.agg] w fun e w' => ∃ v', e = .returned (.tuple #[v', .int .i64 (keepE l x s)]) ∧ Many Ro.cells 8 w' (fun i => D i ∨ w.heap.size ≤ i) v' (keepL l x s a) ∧ Keep noneOf w w' := by
 obtain ⟨A, c, rfl⟩ := h.shape
 have HH := Lib.hid h
 have HF := Lib.hid hf
 have HP := Lib.hid hp
 have HL : Hid (∀ o, Calls Tryz.prog 29 #[.slice A l.length c, .int .u64 x, .int .u64 s] (w.alloc o) fun e w' => e = .returned (.tuple #[(lookA l x s).agg, .bool (lookB l x s), .int .i64 (lookE l x s)]) ∧ Keep noneOf (w.alloc o) w') := Lib.hid fun o => refLook_any _ D _ l x s (h.keep ((Keep.refl noneOf w).alloc o) (fun _ _ _ => id))
 obtain ⟨ac, ai, at_, au, ag, am⟩ := a
 have HB0 := Lib.hid (Box.new w 40 #[.int .i64 ac, .int .u64 ai, .int .u64 at_, .int .u64 au, .string ag, .string am])
 unfold An.agg at HL ⊢
 dsimp only at HL ⊢
 clear h hf hp
 generalize lookA l x s = B at *
 obtain ⟨bc, bi, bt, bu, bg, bm⟩ := B
 by_cases he : lookE l x s = 0
 ·
  cases hbb : lookB l x s with
  | true =>
   have e1 : keepE l x s = 111 := by unfold keepE; rw [if_neg (fun h => h he), hbb]; rfl
   have e2 : keepL l x s ⟨ac, ai, at_, au, ag, am⟩ = l := by unfold keepL; rw [e1]; rfl
   rw [e1, e2]
   rw [hbb, he] at HL
   clear e1 e2 he hbb
   go_enter Tryz.func35, Tryz.ntmps35
   go_wp2_with fail
   refine (HL.out _).mono ?_
   rintro e w1 ⟨rfl, k1⟩
   have HK := Lib.hid ((((Keep.refl noneOf w).alloc _).trans k1 (fun _ _ h => h)).alloc (.cells #[.int .i64 bc, .int .u64 bi, .int .u64 bt, .int .u64 bu, .string bg, .string bm] 40))
   clear k1 HL
   go_wp2
   exact bodyPost_ret (v := .tuple #[.slice A l.length c, .int .i64 111]) (by simp [results, Tryz.results35, go_sem]) rfl ⟨_, rfl, (HH.out.keep HK.out (fun _ _ _ => id)).mono (fun i _ h => .inl h), HK.out⟩
  | false =>
   have e1 : keepE l x s = 0 := by unfold keepE; rw [if_neg (fun h => h he), hbb]; rfl
   obtain ⟨r0, hr0, _⟩ := keep_ok e1
   obtain ⟨k, hat, hk⟩ := at_some hr0
   have hid := (findR_mem hr0).2
   have e2 : keepL l x s ⟨ac, ai, at_, au, ag, am⟩ = l.set k ⟨x, s, ⟨ac, ai, at_, au, ag, am⟩⟩ := by unfold keepL; rw [if_pos e1]; exact put_set HP.out hk hid
   rw [e1, e2]
   rw [hbb, he] at HL
   have hkl := (List.getElem?_eq_some_iff.1 hk).1
   have HAT : Hid (∀ (w' : World), Many Ro.cells 8 w' D (.slice A l.length c) l → Calls Tryz.prog 66 #[.slice A l.length c, .int .u64 x] w' fun e w'' => e = .returned (.int .i64 (k : Int)) ∧ w'' = w') := Lib.hid fun w' hM => by
    have := at_any w' D _ l x hM
    rw [hat] at this
    exact this
   clear e1 e2 he hbb hr0 hat hk hid
   go_enter Tryz.func35, Tryz.ntmps35
   go_wp2_with fail
   refine (HL.out _).mono ?_
   rintro e w1 ⟨rfl, k1⟩
   have HK1 := Lib.hid (((Keep.refl noneOf w).alloc _).trans k1 (fun _ _ h => h))
   have HB1 := Lib.hid (HB0.out.keep k1 id)
   clear k1 HL HB0
   go_upto_region 6 with fail
   have hK2 := HK1.out.alloc (.cells #[.int .i64 bc, .int .u64 bi, .int .u64 bt, .int .u64 bu, .string bg, .string bm] 40)
   have hB2 := HB1.out.alloc (.cells #[.int .i64 bc, .int .u64 bi, .int .u64 bt, .int .u64 bu, .string bg, .string bm] 40)
   generalize w1.alloc (.cells #[.int .i64 bc, .int .u64 bi, .int .u64 bt, .int .u64 bu, .string bg, .string bm] 40) = w2 at *
   have HK2 := Lib.hid hK2
   have HB2 := Lib.hid hB2
   have HE2 : Hid ((w2.alloc (.cells #[] 115)).ownsRow w2.heap.size 115 8 (.slice (some ⟨w2.heap.size, 0, none⟩) 0 0) ([] : List Ro).length (([] : List Ro).flatMap Ro.cells)) := Lib.hid ⟨rfl, .inr ⟨_, 0, #[], rfl, Nat.le_refl _, Box.new w2 _ _, Nat.le_refl _, Nat.zero_le _, rfl, rfl⟩⟩
   clear hK2 hB2 HK1 HB1
   go_upto_region 7 with (first
    | (at_builtin; refine wpList_append_ros _ rfl _ _ rfl w2.heap.size (.slice (some ⟨w2.heap.size, 0, none⟩) 0 0) _ [] l D rfl rfl HE2.out (HH.out.keep (HK2.out.alloc _) (fun _ _ _ => id)) (by have := HF.out; simp; omega) (by simp) ?_; intro v3 w3 hown3 hg3 _; rw [List.nil_append] at hown3; have HO3 := Lib.hid hown3; have HG3 := Lib.hid ((((Keep.refl noneOf w2).alloc (.cells #[] 115)).trans (Keep.of_grown hg3) (fun i hi e => by have e2 : i = w2.heap.size := (by simpa [Value.ownBlock] using e); omega))); clear hown3 hg3)
    | fail)
   have hlen : l.length = (l.length - 1) + 1 := by omega
   have hown := HO3.out
   obtain ⟨hxl, ⟨_, hz0⟩ | ⟨g, cap, cur, rfl, hgb, hgh, hnc, hcm, hsz, htk⟩⟩ := hown
   ·
    omega
   have HG : Hid (¬ w.heap.size = g ∧ w.heap.size ≤ g) := Lib.hid (by have h1 := HB2.out.lt; have h2 := HK2.out.size; omega)
   have HBX := Lib.hid (show Box w3 g 115 cur from hgh)
   have HIN := Lib.hid (And.intro hsz (And.intro hnc (And.intro hcm htk)))
   have HK3 := Lib.hid (HK2.out.trans HG3.out (fun _ _ h => h))
   have HB3 := Lib.hid (HB2.out.keep HG3.out id)
   clear hxl hgb hgh hnc hcm hsz htk hlen HO3 HG3 HK2 HB2 HE2
   have MC : Hid (∀ w', Keep (fun i => i = g) w3 w' → _) := Lib.hid fun w' k' => And.intro ((HB3.out.keep k' HG.out.1).cell 0) (And.intro ((HB3.out.keep k' HG.out.1).cell 1) (And.intro ((HB3.out.keep k' HG.out.1).cell 2) (And.intro ((HB3.out.keep k' HG.out.1).cell 3) (And.intro ((HB3.out.keep k' HG.out.1).cell 4) ((HB3.out.keep k' HG.out.1).cell 5)))))
   have MD : Hid (∀ w', Keep (fun i => i = g) w3 w' → Many Ro.cells 8 w' D (.slice A l.length c) l) := Lib.hid fun w' k' => HH.out.keep (HK3.out.trans k' (T := fun i => i = g) (S := noneOf) (fun i hi e => by have := HG.out.2; omega)) (fun _ _ _ => id)
   have q0 : (0 : Int) ≤ (k : Int) := by omega
   have q1 : (k : Int) < (l.length : Int) := by omega
   have KD : Keep (fun i => i = g) w3 w3.drew := (Keep.refl (fun i => i = g) w3).drew
   refine wp_region_held_drew (S := fun w' => Keep (fun i => i = g) w3 w') (by kernel_rfl) KD (fun hHeld => ?_)
   refine' ztk 0 _ rfl (.inl ⟨by kernel_rfl, ?hy0⟩) ?_
   case hy0 => intro w' hSw; obtain ⟨_, _, _, _, _, _⟩ := MC.out w' hSw; go_simp; try with_reducible rfl
   simp only [Act.put, zga, zgb, zgc, zgd, zge, zgf]
   refine' ztk 1 _ rfl (.inl ⟨by kernel_rfl, ?hy1⟩) ?_
   case hy1 => intro w' hSw; obtain ⟨_, _, _, _, _, _⟩ := MC.out w' hSw; go_simp; try with_reducible rfl
   simp only [Act.put, zga, zgb, zgc, zgd, zge, zgf]
   refine' ztk 2 _ rfl (.inl ⟨by kernel_rfl, ?hy2⟩) ?_
   case hy2 => intro w' hSw; obtain ⟨_, _, _, _, _, _⟩ := MC.out w' hSw; go_simp; try with_reducible rfl
   simp only [Act.put, zga, zgb, zgc, zgd, zge, zgf]
   refine' ztk 4 _ rfl (.inl ⟨by kernel_rfl, ?hy4⟩) ?_
   case hy4 => intro w' hSw; obtain ⟨_, _, _, _, _, _⟩ := MC.out w' hSw; go_simp; try with_reducible rfl
   simp only [Act.put, zga, zgb, zgc, zgd, zge, zgf]
   refine' ztk 5 _ rfl (.inl ⟨by kernel_rfl, ?hy5⟩) ?_
   case hy5 => intro w' hSw; obtain ⟨_, _, _, _, _, _⟩ := MC.out w' hSw; go_simp; try with_reducible rfl
   simp only [Act.put, zga, zgb, zgc, zgd, zge, zgf]
   refine' ztk 6 _ rfl (.inl ⟨by kernel_rfl, ?hy6⟩) ?_
   case hy6 => intro w' hSw; obtain ⟨_, _, _, _, _, _⟩ := MC.out w' hSw; go_simp; try with_reducible rfl
   simp only [Act.put, zga, zgb, zgc, zgd, zge, zgf]
   refine' ztk 7 _ rfl (.inl ⟨by kernel_rfl, ?hy7⟩) ?_
   case hy7 => intro w' hSw; obtain ⟨_, _, _, _, _, _⟩ := MC.out w' hSw; go_simp; try with_reducible rfl
   simp only [Act.put, zga, zgb, zgc, zgd, zge, zgf]
   refine wpAnyH_ready (rs := [3]) (by kernel_rfl) (by simp) (AllReadyH.cons rfl (fun K hK => ?_) AllReadyH.nil)
   go_simp
   go_at_call 66
   refine (HAT.out _ (MD.out _ KD)).mono ?_
   rintro e w' ⟨rfl, rfl⟩
   go_wp2_with fail
   refine hK.out _ _ hHeld (fun hHeld2 => ?_)
   clear hK K hHeld
   try simp only [Act.put, zga, zgb, zgc, zgd, zge, zgf]
   refine' ztk 8 _ rfl (.inl ⟨by kernel_rfl, ?hy8⟩) ?_
   case hy8 => intro w' hSw; obtain ⟨_, _, _, _, _, _⟩ := MC.out w' hSw; go_simp; try with_reducible rfl
   simp only [Act.put, zga, zgb, zgc, zgd, zge, zgf]
   refine wpAnyH_ready (rs := [9]) (by kernel_rfl) (by simp) (AllReadyH.cons rfl (fun K hK => ?_) AllReadyH.nil)
   obtain ⟨y0, y1, y2, y3, y4, y5, y6, y7, ⟨m0, m1, m2, m3, m4, m5, m6, m7⟩, f0, f1, f2, f3, f4, f5, f6, f7⟩ := row_open HBX.out (k := k) (by have := HIN.out.1; have := HIN.out.2.1; omega)
   go_simp
   have KS := (keep_sets w3 g k ⟨x, s, ⟨ac, ai, at_, au, ag, am⟩⟩).drew
   have HMS := Lib.hid (many_set (box_sets HBX.out k ⟨x, s, ⟨ac, ai, at_, au, ag, am⟩⟩) HIN.out.1 HIN.out.2.1 HIN.out.2.2.1 HIN.out.2.2.2 hkl)
   refine hK.out _ _ KS (fun _ => ?_)
   have HKF := Lib.hid (HK3.out.trans KS (T := fun i => i = g) (S := noneOf) (fun i hi e => by have := HG.out.2; omega))
   have HMF := Lib.hid (HMS.out.keep (Keep.refl noneOf _).drew (fun _ _ _ => id))
   clear hK K hHeld2 KS HMS m0 m1 m2 m3 m4 m5 m6 m7 f0 f1 f2 f3 f4 f5 f6 f7
   refine wpAnyH_done (by kernel_rfl) ?_ _
   dsimp only at HKF HMF
   generalize World.drew _ = w9 at *
   go_wp2
   exact bodyPost_ret (v := .tuple #[.slice (some ⟨g, 0, none⟩) l.length cap, .int .i64 0]) (by simp [results, Tryz.results35, go_sem]) rfl ⟨_, rfl, HMF.out.mono (fun i _ e => .inr (by have := HG.out.2; omega)), HKF.out⟩
 ·
  have e1 : keepE l x s = lookE l x s := by unfold keepE; rw [if_pos he]
  have e2 : keepL l x s ⟨ac, ai, at_, au, ag, am⟩ = l := by unfold keepL; rw [e1, if_neg he]
  rw [e1, e2]
  have g : (lookE l x s != 0) = true := bne_iff_ne.2 he
  clear e1 e2 he
  generalize lookE l x s = E at *
  generalize lookB l x s = bb at *
  go_enter Tryz.func35, Tryz.ntmps35
  go_wp2_with fail
  refine (HL.out _).mono ?_
  rintro e w1 ⟨rfl, k1⟩
  have HK := Lib.hid ((((Keep.refl noneOf w).alloc _).trans k1 (fun _ _ h => h)).alloc (.cells #[.int .i64 bc, .int .u64 bi, .int .u64 bt, .int .u64 bu, .string bg, .string bm] 40))
  clear k1 HL
  go_wp2
  exact bodyPost_ret (v := .tuple #[.slice A l.length c, .int .i64 E]) (by simp [results, Tryz.results35, go_sem]) rfl ⟨_, rfl, (HH.out.keep HK.out (fun _ _ _ => id)).mono (fun i _ h => .inl h), HK.out⟩
end Go.Proofs.YtffoeodjbbkdjaaGreat
