/-
  QueueFences: a target becomes done or failed by the report alone whose token is that of its lease, ahead of its time; what is over stays; a stale report changes nothing but its session. No conditions.
-/
import Derived.Test.YtkoikmdmejhhhaaGreatRows
import Derived.BigQuiet
import Derived.Deep.QuietTactic
import Derived.Deep.RegionHeld3
import Derived.Laws.StructEq
import Derived.Lib.Hide
import Derived.Lib.MinMax
import Derived.Shelf.RegionOpen
import Derived.Test.YtkoikmdmejhhhaaGreatBs01
import Derived.Test.YtkoikmdmejhhhaaGreatBs02
import Derived.Test.YtkoikmdmejhhhaaGreatBs03
import Derived.Test.YtkoikmdmejhhhaaGreatBs04
import Derived.Test.YtkoikmdmejhhhaaGreatBs05
import Derived.Test.YtkoikmdmejhhhaaGreatBs06
import Derived.Test.YtkoikmdmejhhhaaGreatBs07
import Derived.Test.YtkoikmdmejhhhaaGreatBs08
import Derived.Test.YtkoikmdmejhhhaaGreatBs09
import Derived.Test.YtkoikmdmejhhhaaGreatBs10
import Derived.Test.YtkoikmdmejhhhaaGreatBs11
import Derived.Test.YtkoikmdmejhhhaaGreatBs12
import Derived.Test.YtkoikmdmejhhhaaGreatBs13
import Derived.Test.YtkoikmdmejhhhaaGreatBs14
import Derived.Test.YtkoikmdmejhhhaaGreatBs15
import Derived.Test.YtkoikmdmejhhhaaGreatBs16
import Derived.Test.YtkoikmdmejhhhaaGreatBs17
import Derived.Test.YtkoikmdmejhhhaaGreatBs18
import Derived.Test.YtkoikmdmejhhhaaGreatBs19
import Derived.Test.YtkoikmdmejhhhaaGreatBs20
import Derived.Test.YtkoikmdmejhhhaaGreatBs21
import Derived.Test.YtkoikmdmejhhhaaGreatBs22
import Derived.Test.YtkoikmdmejhhhaaGreatBs23
import Derived.Test.YtkoikmdmejhhhaaGreatBs24
import Derived.Test.YtkoikmdmejhhhaaGreatBs25
import Derived.Test.YtkoikmdmejhhhaaGreatBs26
import Derived.Test.YtkoikmdmejhhhaaGreatBs27
import Derived.Test.YtkoikmdmejhhhaaGreatBs28
import Derived.Test.YtkoikmdmejhhhaaGreatBs29
import Derived.Test.YtkoikmdmejhhhaaGreatBs30
import Derived.Test.YtkoikmdmejhhhaaGreatBs31
import Derived.Test.YtkoikmdmejhhhaaGreatBs32
import Derived.Test.YtkoikmdmejhhhaaGreatBs33
import Derived.Test.YtkoikmdmejhhhaaGreatBs34
import Derived.Test.YtkoikmdmejhhhaaGreatBs35
import Derived.Test.YtkoikmdmejhhhaaGreatBs36
import Derived.Test.YtkoikmdmejhhhaaGreatBs37
import Derived.Test.YtkoikmdmejhhhaaGreatBs38
import Derived.Test.YtkoikmdmejhhhaaGreatBs39
import Derived.Test.YtkoikmdmejhhhaaGreatBs40
import Derived.Test.YtkoikmdmejhhhaaGreatBs41
import Derived.Test.YtkoikmdmejhhhaaGreatBs42
import Derived.Test.YtkoikmdmejhhhaaGreatBs43
import Derived.Test.YtkoikmdmejhhhaaGreatBs44
import Derived.Test.YtkoikmdmejhhhaaGreatBs45
import Derived.Test.YtkoikmdmejhhhaaGreatBs46
import Derived.Test.YtkoikmdmejhhhaaGreatBs47
import Derived.Test.YtkoikmdmejhhhaaGreatBs48
import Derived.Test.YtkoikmdmejhhhaaGreatBs49
namespace Go.Proofs.YtkoikmdmejhhhaaGreat
open Go.RowKit
theorem LeastOk.no {nd : List (List Nat)} {l : List Nat} {n m : Nat} {nx : Int} (h : LeastOk nd l n (m + 1) nx) (hm : okAt nd l m = false) : LeastOk nd l n m nx := by
  rcases h with ⟨h1, h2⟩ | ⟨q, h1, h2, h3, h4, h5⟩
  · refine .inl ⟨h1, fun j hj hjn => ?_⟩
    by_cases e : j = m
    · subst e; exact hm
    · exact h2 j (by omega) hjn
  · refine .inr ⟨q, h1, by omega, h3, h4, fun j hj hjn => ?_⟩
    by_cases e : j = m
    · subst e; exact hm
    · exact h5 j (by omega) hjn
end Go.Proofs.YtkoikmdmejhhhaaGreat
namespace Go.Proofs.YtkoikmdmejhhhaaGreat
open Go.RowKit
theorem st_under : Tryz.prog.underlying 64 = some (.struct (Tryz.prog.fieldsOf 64)) := by kernel_rfl
theorem st_fields : (Tryz.prog.fieldsOf 64).toList.map (fun f => (f.name == "_", f.type, f.offset)) = [(false, 3, 0), (false, 23, 1), (false, 23, 2)] := by kernel_rfl
theorem st_held : Tryz.prog.stoodInHeld 64 = false := by kernel_rfl
theorem st_guard : Tryz.prog.eqGuardType Tryz.prog.depth 64 = false := by kernel_rfl
theorem run_equal3 (d : Nat) (w : World) (x y : Pst) : (Op.equalIn (d + 2) 64 (.agg #[.int .i64 x.s, .int .u64 x.t, .int .u64 x.u]) (.agg #[.int .i64 y.s, .int .u64 y.t, .int .u64 y.u])).run Tryz.prog w = .ok (decide (x = y)) w := by
  rw [run_equalIn_struct w (d + 1) _ _ _ st_under st_held]
  have h := st_fields
  generalize (Tryz.prog.fieldsOf 64).toList = fs at h
  have hl : fs.length = 3 := by simpa using congrArg List.length h
  match fs, hl with
  | [f0, f1, f2], _ =>
    simp only [List.map_cons, List.map_nil, List.cons.injEq, Prod.mk.injEq, and_true, beq_eq_false_iff_ne] at h
    obtain ⟨⟨n0, t0, o0⟩, ⟨n1, t1, o1⟩, ⟨n2, t2, o2⟩⟩ := h
    have p0 : ∀ w', (part f0.type #[.int .i64 x.s, .int .u64 x.t, .int .u64 x.u] f0.offset).run Tryz.prog w' = .ok (.int .i64 x.s) w' := fun w' => by rw [t0, o0]; exact run_part1 w' _ _ _ _ _ Tryz.underlying3 rfl
    have p1 : ∀ w', (part f1.type #[.int .i64 x.s, .int .u64 x.t, .int .u64 x.u] f1.offset).run Tryz.prog w' = .ok (.int .u64 x.t) w' := fun w' => by rw [t1, o1]; exact run_part1 w' _ _ _ _ _ Tryz.underlying23 rfl
    have p2 : ∀ w', (part f2.type #[.int .i64 x.s, .int .u64 x.t, .int .u64 x.u] f2.offset).run Tryz.prog w' = .ok (.int .u64 x.u) w' := fun w' => by rw [t2, o2]; exact run_part1 w' _ _ _ _ _ Tryz.underlying23 rfl
    have q0 : ∀ w', (part f0.type #[.int .i64 y.s, .int .u64 y.t, .int .u64 y.u] f0.offset).run Tryz.prog w' = .ok (.int .i64 y.s) w' := fun w' => by rw [t0, o0]; exact run_part1 w' _ _ _ _ _ Tryz.underlying3 rfl
    have q1 : ∀ w', (part f1.type #[.int .i64 y.s, .int .u64 y.t, .int .u64 y.u] f1.offset).run Tryz.prog w' = .ok (.int .u64 y.t) w' := fun w' => by rw [t1, o1]; exact run_part1 w' _ _ _ _ _ Tryz.underlying23 rfl
    have q2 : ∀ w', (part f2.type #[.int .i64 y.s, .int .u64 y.t, .int .u64 y.u] f2.offset).run Tryz.prog w' = .ok (.int .u64 y.u) w' := fun w' => by rw [t2, o2]; exact run_part1 w' _ _ _ _ _ Tryz.underlying23 rfl
    have e0 : ∀ w', (Op.equalIn (d + 1) f0.type (.int .i64 x.s) (.int .i64 y.s)).run Tryz.prog w' = .ok (x.s == y.s) w' := fun w' => by rw [t0]; exact run_equalIn_int w' d _ _ _ _ _ Tryz.underlying3
    have e1 : ∀ w', (Op.equalIn (d + 1) f1.type (.int .u64 x.t) (.int .u64 y.t)).run Tryz.prog w' = .ok (x.t == y.t) w' := fun w' => by rw [t1]; exact run_equalIn_int w' d _ _ _ _ _ Tryz.underlying23
    have e2 : ∀ w', (Op.equalIn (d + 1) f2.type (.int .u64 x.u) (.int .u64 y.u)).run Tryz.prog w' = .ok (x.u == y.u) w' := fun w' => by rw [t2]; exact run_equalIn_int w' d _ _ _ _ _ Tryz.underlying23
    have hd : decide (x = y) = (x.s == y.s && x.t == y.t && x.u == y.u) := by
      rw [Bool.eq_iff_iff, decide_eq_true_eq, ← Pst.same_iff]
      rfl
    rw [hd]
    simp only [Op.eqFields, n0, n1, n2, ne_eq, not_false_eq_true, if_true, Sem.run_bind, Sem.run_ite, Sem.run_pure, p0, p1, p2, q0, q1, q2, e0, e1, e2, Result.andThen_ok]
    cases x.s == y.s <;> cases x.t == y.t <;> cases x.u == y.u <;> rfl
theorem run_neq3 (w : World) (x y : Pst) : (binOp .neq 64 (.agg #[.int .i64 x.s, .int .u64 x.t, .int .u64 x.u]) (.agg #[.int .i64 y.s, .int .u64 y.t, .int .u64 y.u])).run Tryz.prog w = .ok (.bool (!decide (x = y))) w := by
  rw [run_neq_struct, run_equal3 9998 w x y]
  rfl
set_option maxRecDepth 100000 in
set_option maxHeartbeats 1000000 in
theorem same_any (w : World) (D D' : Nat → Prop) (v v' : Value) (l m : List Pst) (h : Sts w D v l) (h' : Sts w D' v' m) : Calls Tryz.prog 32 #[v, v'] w (TellsB (decide (l = m)) w) := by
  obtain ⟨A, c, rfl, hlc, hcm, hn, hxl, hc⟩ := h
  obtain ⟨A', c', rfl, hlc', hcm', hn', hxl', hc'⟩ := h'
  unfold maxLen at hcm hcm'
  have HC := Lib.hid hc
  have HC' := Lib.hid hc'
  generalize hR : decide (l = m) = R
  have HR := Lib.hid hR
  clear hc hxl hR hc' hxl' hn hn'
  obtain ⟨n, hnl⟩ : ∃ n, n = l.length := ⟨_, rfl⟩
  rw [← hnl] at HC hlc ⊢
  by_cases hlen : n = m.length
  · rw [← hlen] at HC' hlc' ⊢
    have g0 : ((n : Int) != (n : Int)) = false := by rw [bne_self_eq_false]
    have HNL := Lib.hid hnl
    have HNM := Lib.hid hlen
    clear hnl hlen
    go_enter Tryz.func32, Tryz.ntmps32
    go_wp2
    go_loopw [5] (fun i wr => ∃ k : Nat, k ≤ n ∧ i = .int .i64 k ∧ Keep noneOf w wr ∧ ∀ j, j < k → l[j]? = m[j]?) (fun i _ => n - (intOf i).toNat)
    case atStart => exact ⟨0, Nat.zero_le _, rfl, Keep.refl _ _, fun j hj => absurd hj (by omega)⟩
    case round =>
      obtain ⟨k, hk, rfl, hkeep, hall⟩ := hrel
      have HA := Lib.hid hall
      have HKP := Lib.hid hkeep
      clear hall
      by_cases hlt : k < n
      · obtain ⟨ad, rfl, hsp, hblk, hD, hcell⟩ := HC.out (by omega)
        obtain ⟨b, o, sp⟩ := ad
        simp only at hsp hblk hD hcell
        subst hsp
        obtain ⟨ad', rfl, hsp', hblk', hD', hcell'⟩ := HC'.out (by omega)
        obtain ⟨b', o', sp'⟩ := ad'
        simp only at hsp' hblk' hD' hcell'
        subst hsp'
        obtain ⟨x, hx⟩ : ∃ x, l[k]? = some x := ⟨_, List.getElem?_eq_getElem (by rw [← HNL.out]; exact hlt)⟩
        obtain ⟨y, hy⟩ : ∃ y, m[k]? = some y := ⟨_, List.getElem?_eq_getElem (by rw [← HNM.out]; exact hlt)⟩
        have HS := Lib.hid hx
        have HS' := Lib.hid hy
        clear hx hy
        obtain ⟨c0, c1, c2⟩ := sts_at hkeep hblk id hcell HS.out
        obtain ⟨d0, d1, d2⟩ := sts_at hkeep hblk' id hcell' HS'.out
        have q0 : (0 : Int) ≤ (k : Int) := by omega
        have q1 : (k : Int) < (n : Int) := by omega
        clear hcell hcell' hkeep
        go_wp2
        refine wp_region_in (fun w' => Keep noneOf wr w' ∧ w'.cell? ⟨b, o + k * 3, none⟩ = some (.int .i64 x.s) ∧ w'.cell? ⟨b, o + k * 3 + 1, none⟩ = some (.int .u64 x.t) ∧ w'.cell? ⟨b, o + k * 3 + 2, none⟩ = some (.int .u64 x.u) ∧ w'.cell? ⟨b', o' + k * 3, none⟩ = some (.int .i64 y.s) ∧ w'.cell? ⟨b', o' + k * 3 + 1, none⟩ = some (.int .u64 y.t) ∧ w'.cell? ⟨b', o' + k * 3 + 2, none⟩ = some (.int .u64 y.u)) (by kernel_rfl) (by kernel_rfl) ⟨(Keep.refl noneOf wr).drew, c0, c1, c2, d0, d1, d2⟩ ?_
        have EQ := fun w' => run_neq3 w' x y
        have EG := fun w' (xs ys : Array Value) => run_eqGuard_agg (P := Tryz.prog) w' .neq 64 (.tmp 20) (.tmp 24) xs ys st_guard
        repeat
          first
          | go_big_quiet_skip
          | go_big_quiet_want
            go_big_quiet_op
            go_big_quiet_on
          | go_big_quiet_want
            apply quiet_reads
            case h =>
              intro w' hw'
              try dsimp only at hw'
              go_split_ands
              go_simp
              rfl
            simp only [Act.put, List.setIfInBounds_toArray, List.set_cons_zero, List.set_cons_succ]
            go_big_quiet_on
        refine wpQuiet_nil ?_
        intro w9 hw9
        have HK9 := Lib.hid (HKP.out.trans hw9.1 (fun _ _ h => h))
        clear hw9 c0 c1 c2 d0 d1 d2 EQ EG HKP
        by_cases hxy : x = y
        · have HXY := Lib.hid hxy
          rw [decide_eq_true hxy]
          clear hxy
          go_wp2
          go_roundw
          case rel =>
            refine ⟨k + 1, by omega, by go_num, HK9.out, fun j hj => ?_⟩
            rcases Nat.lt_or_ge j k with h | h
            · exact HA.out j h
            · have : j = k := by omega
              subst this
              rw [HS.out, HS'.out, HXY.out]
          case measure => simp [intOf]; omega
        · have hRf : R = false := by
            rw [← HR.out, decide_eq_false_iff_not]
            intro e
            have h1 := HS.out
            rw [e, HS'.out] at h1
            injection h1 with h1
            exact hxy h1.symm
          subst hRf
          rw [decide_eq_false hxy]
          go_wp2
          go_ret
          exact ⟨rfl, HK9.out⟩
      · have hRt : R = true := by
          rw [← HR.out, decide_eq_true_eq]
          apply list_ext3
          intro j
          rcases Nat.lt_or_ge j n with h | h
          · exact HA.out j (by omega)
          · rw [List.getElem?_eq_none (by rw [← HNL.out]; exact h), List.getElem?_eq_none (by rw [← HNM.out]; exact h)]
        subst hRt
        have hkn : ¬ ((k : Int) < (n : Int)) := by omega
        clear hlt hkeep
        go_wp2
        go_ret
        exact ⟨rfl, HKP.out⟩
  · have hRf : R = false := by
      rw [← HR.out, decide_eq_false_iff_not]
      rintro rfl
      exact hlen hnl
    subst hRf
    generalize m.length = q at *
    have g0 : ((n : Int) != (q : Int)) = true := by rw [bne_iff_ne]; omega
    clear hlen
    go_enter Tryz.func32, Tryz.ntmps32
    go_wp2
    go_ret
    exact ⟨rfl, Keep.refl _ _⟩
end Go.Proofs.YtkoikmdmejhhhaaGreat
namespace Go.Proofs.YtkoikmdmejhhhaaGreat
open Go.RowKit
theorem run_eql3 (w : World) (x y : Pst) : (binOp .eql 64 (.agg #[.int .i64 x.s, .int .u64 x.t, .int .u64 x.u]) (.agg #[.int .i64 y.s, .int .u64 y.t, .int .u64 y.u])).run Tryz.prog w = .ok (.bool (decide (x = y))) w := by
  rw [run_eql_struct, run_equal3 9998 w x y]
  rfl
end Go.Proofs.YtkoikmdmejhhhaaGreat
namespace Go.Proofs.YtkoikmdmejhhhaaGreat
open Go.RowKit
theorem an_under : Tryz.prog.underlying 40 = some (.struct (Tryz.prog.fieldsOf 40)) := by kernel_rfl
theorem an_fields : (Tryz.prog.fieldsOf 40).toList.map (fun f => (f.name == "_", f.type, f.offset)) = [(false, 38, 0), (false, 23, 1), (false, 23, 2), (false, 23, 3), (false, 9, 4), (false, 9, 5)] := by kernel_rfl
theorem an_held : Tryz.prog.stoodInHeld 40 = false := by kernel_rfl
theorem ro_under : Tryz.prog.underlying 71 = some (.struct (Tryz.prog.fieldsOf 71)) := by kernel_rfl
theorem ro_fields : (Tryz.prog.fieldsOf 71).toList.map (fun f => (f.name == "_", f.type, f.offset)) = [(false, 23, 0), (false, 23, 1), (false, 40, 2)] := by kernel_rfl
theorem ro_held : Tryz.prog.stoodInHeld 71 = false := by kernel_rfl
theorem run_partS (w : World) (t : TypeId) (xs : Array Value) (o : Nat) (x : Value) (hi : Tryz.prog.underlying t = some .string) (hx : xs[o]? = some x) : (part t xs o).run Tryz.prog w = .ok x w := by
  simp [part, isAgg, hx, run_underlying hi]
theorem run_partA (w : World) (r : Ro) : (part 40 #[.int .u64 r.id, .int .u64 r.seq, .int .i64 r.ans.code, .int .u64 r.ans.id, .int .u64 r.ans.tok, .int .u64 r.ans.unt, .string r.ans.tgt, .string r.ans.cmd] 2).run Tryz.prog w = .ok r.ans.agg w := by
  simp [part, Result.andThen, An.agg]
theorem run_equalA (d : Nat) (w : World) (x y : An) : (Op.equalIn (d + 2) 40 x.agg y.agg).run Tryz.prog w = .ok (decide (x = y)) w := by
  unfold An.agg
  rw [run_equalIn_struct w (d + 1) _ _ _ an_under an_held]
  have h := an_fields
  generalize (Tryz.prog.fieldsOf 40).toList = fs at h
  have hl : fs.length = 6 := by simpa using congrArg List.length h
  match fs, hl with
  | [f0, f1, f2, f3, f4, f5], _ =>
    simp only [List.map_cons, List.map_nil, List.cons.injEq, Prod.mk.injEq, and_true, beq_eq_false_iff_ne] at h
    obtain ⟨⟨n0, t0, o0⟩, ⟨n1, t1, o1⟩, ⟨n2, t2, o2⟩, ⟨n3, t3, o3⟩, ⟨n4, t4, o4⟩, ⟨n5, t5, o5⟩⟩ := h
    have p0 : ∀ (w' : World) (z : An), (part f0.type #[.int .i64 z.code, .int .u64 z.id, .int .u64 z.tok, .int .u64 z.unt, .string z.tgt, .string z.cmd] f0.offset).run Tryz.prog w' = .ok (.int .i64 z.code) w' := fun w' z => by rw [t0, o0]; exact run_part1 w' _ _ _ _ _ Tryz.underlying38 rfl
    have p1 : ∀ (w' : World) (z : An), (part f1.type #[.int .i64 z.code, .int .u64 z.id, .int .u64 z.tok, .int .u64 z.unt, .string z.tgt, .string z.cmd] f1.offset).run Tryz.prog w' = .ok (.int .u64 z.id) w' := fun w' z => by rw [t1, o1]; exact run_part1 w' _ _ _ _ _ Tryz.underlying23 rfl
    have p2 : ∀ (w' : World) (z : An), (part f2.type #[.int .i64 z.code, .int .u64 z.id, .int .u64 z.tok, .int .u64 z.unt, .string z.tgt, .string z.cmd] f2.offset).run Tryz.prog w' = .ok (.int .u64 z.tok) w' := fun w' z => by rw [t2, o2]; exact run_part1 w' _ _ _ _ _ Tryz.underlying23 rfl
    have p3 : ∀ (w' : World) (z : An), (part f3.type #[.int .i64 z.code, .int .u64 z.id, .int .u64 z.tok, .int .u64 z.unt, .string z.tgt, .string z.cmd] f3.offset).run Tryz.prog w' = .ok (.int .u64 z.unt) w' := fun w' z => by rw [t3, o3]; exact run_part1 w' _ _ _ _ _ Tryz.underlying23 rfl
    have p4 : ∀ (w' : World) (z : An), (part f4.type #[.int .i64 z.code, .int .u64 z.id, .int .u64 z.tok, .int .u64 z.unt, .string z.tgt, .string z.cmd] f4.offset).run Tryz.prog w' = .ok (.string z.tgt) w' := fun w' z => by rw [t4, o4]; exact run_partS w' _ _ _ _ Tryz.underlying9 rfl
    have p5 : ∀ (w' : World) (z : An), (part f5.type #[.int .i64 z.code, .int .u64 z.id, .int .u64 z.tok, .int .u64 z.unt, .string z.tgt, .string z.cmd] f5.offset).run Tryz.prog w' = .ok (.string z.cmd) w' := fun w' z => by rw [t5, o5]; exact run_partS w' _ _ _ _ Tryz.underlying9 rfl
    have e0 : ∀ w', (Op.equalIn (d + 1) f0.type (.int .i64 x.code) (.int .i64 y.code)).run Tryz.prog w' = .ok (x.code == y.code) w' := fun w' => by rw [t0]; exact run_equalIn_int w' d _ _ _ _ _ Tryz.underlying38
    have e1 : ∀ w', (Op.equalIn (d + 1) f1.type (.int .u64 x.id) (.int .u64 y.id)).run Tryz.prog w' = .ok (x.id == y.id) w' := fun w' => by rw [t1]; exact run_equalIn_int w' d _ _ _ _ _ Tryz.underlying23
    have e2 : ∀ w', (Op.equalIn (d + 1) f2.type (.int .u64 x.tok) (.int .u64 y.tok)).run Tryz.prog w' = .ok (x.tok == y.tok) w' := fun w' => by rw [t2]; exact run_equalIn_int w' d _ _ _ _ _ Tryz.underlying23
    have e3 : ∀ w', (Op.equalIn (d + 1) f3.type (.int .u64 x.unt) (.int .u64 y.unt)).run Tryz.prog w' = .ok (x.unt == y.unt) w' := fun w' => by rw [t3]; exact run_equalIn_int w' d _ _ _ _ _ Tryz.underlying23
    have e4 : ∀ w', (Op.equalIn (d + 1) f4.type (.string x.tgt) (.string y.tgt)).run Tryz.prog w' = .ok (x.tgt.toList == y.tgt.toList) w' := fun w' => by rw [t4]; exact run_equalIn_string w' d _ _ _ Tryz.underlying9
    have e5 : ∀ w', (Op.equalIn (d + 1) f5.type (.string x.cmd) (.string y.cmd)).run Tryz.prog w' = .ok (x.cmd.toList == y.cmd.toList) w' := fun w' => by rw [t5]; exact run_equalIn_string w' d _ _ _ Tryz.underlying9
    have hd : decide (x = y) = (x.code == y.code && x.id == y.id && x.tok == y.tok && x.unt == y.unt && (x.tgt.toList == y.tgt.toList) && (x.cmd.toList == y.cmd.toList)) := by
      rw [Bool.eq_iff_iff, decide_eq_true_eq, ← An.same_iff]
      rfl
    rw [hd]
    simp only [Op.eqFields, n0, n1, n2, n3, n4, n5, ne_eq, not_false_eq_true, if_true, Sem.run_bind, Sem.run_ite, Sem.run_pure, p0, p1, p2, p3, p4, p5, e0, e1, e2, e3, e4, e5, Result.andThen_ok]
    cases x.code == y.code <;> cases x.id == y.id <;> cases x.tok == y.tok <;> cases x.unt == y.unt <;> cases x.tgt.toList == y.tgt.toList <;> cases x.cmd.toList == y.cmd.toList <;> rfl
theorem run_equalR (d : Nat) (w : World) (x y : Ro) : (Op.equalIn (d + 3) 71 x.agg y.agg).run Tryz.prog w = .ok (decide (x = y)) w := by
  unfold Ro.agg
  rw [run_equalIn_struct w (d + 2) _ _ _ ro_under ro_held]
  have h := ro_fields
  generalize (Tryz.prog.fieldsOf 71).toList = fs at h
  have hl : fs.length = 3 := by simpa using congrArg List.length h
  match fs, hl with
  | [f0, f1, f2], _ =>
    simp only [List.map_cons, List.map_nil, List.cons.injEq, Prod.mk.injEq, and_true, beq_eq_false_iff_ne] at h
    obtain ⟨⟨n0, t0, o0⟩, ⟨n1, t1, o1⟩, ⟨n2, t2, o2⟩⟩ := h
    have p0 : ∀ (w' : World) (r : Ro), (part f0.type #[.int .u64 r.id, .int .u64 r.seq, .int .i64 r.ans.code, .int .u64 r.ans.id, .int .u64 r.ans.tok, .int .u64 r.ans.unt, .string r.ans.tgt, .string r.ans.cmd] f0.offset).run Tryz.prog w' = .ok (.int .u64 r.id) w' := fun w' r => by rw [t0, o0]; exact run_part1 w' _ _ _ _ _ Tryz.underlying23 rfl
    have p1 : ∀ (w' : World) (r : Ro), (part f1.type #[.int .u64 r.id, .int .u64 r.seq, .int .i64 r.ans.code, .int .u64 r.ans.id, .int .u64 r.ans.tok, .int .u64 r.ans.unt, .string r.ans.tgt, .string r.ans.cmd] f1.offset).run Tryz.prog w' = .ok (.int .u64 r.seq) w' := fun w' r => by rw [t1, o1]; exact run_part1 w' _ _ _ _ _ Tryz.underlying23 rfl
    have p2 : ∀ (w' : World) (r : Ro), (part f2.type #[.int .u64 r.id, .int .u64 r.seq, .int .i64 r.ans.code, .int .u64 r.ans.id, .int .u64 r.ans.tok, .int .u64 r.ans.unt, .string r.ans.tgt, .string r.ans.cmd] f2.offset).run Tryz.prog w' = .ok r.ans.agg w' := fun w' r => by rw [t2, o2]; exact run_partA w' r
    have e0 : ∀ w', (Op.equalIn (d + 2) f0.type (.int .u64 x.id) (.int .u64 y.id)).run Tryz.prog w' = .ok (x.id == y.id) w' := fun w' => by rw [t0]; exact run_equalIn_int w' (d + 1) _ _ _ _ _ Tryz.underlying23
    have e1 : ∀ w', (Op.equalIn (d + 2) f1.type (.int .u64 x.seq) (.int .u64 y.seq)).run Tryz.prog w' = .ok (x.seq == y.seq) w' := fun w' => by rw [t1]; exact run_equalIn_int w' (d + 1) _ _ _ _ _ Tryz.underlying23
    have e2 : ∀ w', (Op.equalIn (d + 2) f2.type x.ans.agg y.ans.agg).run Tryz.prog w' = .ok (decide (x.ans = y.ans)) w' := fun w' => by rw [t2]; exact run_equalA d w' _ _
    have hd : decide (x = y) = (x.id == y.id && x.seq == y.seq && decide (x.ans = y.ans)) := by
      rw [Bool.eq_iff_iff, decide_eq_true_eq]
      simp only [Bool.and_eq_true, beq_iff_eq, decide_eq_true_eq, and_assoc]
      obtain ⟨i, s, a⟩ := x
      obtain ⟨i', s', a'⟩ := y
      simp
    rw [hd]
    simp only [Op.eqFields, n0, n1, n2, ne_eq, not_false_eq_true, if_true, Sem.run_bind, Sem.run_ite, Sem.run_pure, p0, p1, p2, e0, e1, e2, Result.andThen_ok]
    cases x.id == y.id <;> cases x.seq == y.seq <;> cases decide (x.ans = y.ans) <;> rfl
theorem run_neqR (w : World) (x y : Ro) : (binOp .neq 71 x.agg y.agg).run Tryz.prog w = .ok (.bool (!decide (x = y))) w := by
  show (binOp .neq 71 (.agg _) (.agg _)).run Tryz.prog w = _
  rw [run_neq_struct]
  have := run_equalR 9997 w x y
  unfold Ro.agg at this
  rw [this]
  rfl
end Go.Proofs.YtkoikmdmejhhhaaGreat
namespace Go.Proofs.YtkoikmdmejhhhaaGreat
theorem check_codes (ps : List Pt) : grCheck ps = 0 ∨ grCheck ps = 70 ∨ grCheck ps = 71 ∨ grCheck ps = 72 ∨ grCheck ps = 73 := by
  unfold grCheck
  split
  · simp
  · split
    · simp
    · split
      · simp
      · split <;> simp
theorem done_codes (q : Qp) (c : Cq) : (doneP q c).2.code = 0 ∨ ((doneP q c).1 = q ∧ ((doneP q c).2.code = 70 ∨ (doneP q c).2.code = 71 ∨ (doneP q c).2.code = 72 ∨ (doneP q c).2.code = 73 ∨ (doneP q c).2.code = 100 ∨ (doneP q c).2.code = 101 ∨ (doneP q c).2.code = 120 ∨ (doneP q c).2.code = 121 ∨ (doneP q c).2.code = 122)) := by
  unfold doneP
  split
  · unfold submitP
    split
    · rename_i h
      right
      refine ⟨rfl, ?_⟩
      have := check_codes c.ps
      show grCheck c.ps = 70 ∨ grCheck c.ps = 71 ∨ grCheck c.ps = 72 ∨ grCheck c.ps = 73 ∨ _
      omega
    · split
      · exact .inr ⟨rfl, by unfold An.err; simp⟩
      · exact .inl rfl
  · split
    · unfold claimP
      split
      · exact .inr ⟨rfl, by unfold An.err; simp⟩
      · simp only
        split
        · rename_i h
          right
          refine ⟨rfl, ?_⟩
          have : (granted q.nt q.now).2.2 = 0 ∨ (granted q.nt q.now).2.2 = 101 := by unfold granted; split <;> simp
          unfold An.err
          simp only
          omega
        · exact .inl rfl
    · split
      · unfold renewP
        split
        · exact .inr ⟨rfl, by unfold An.err; simp⟩
        · rename_i i n _
          simp only
          split
          · rename_i h
            right
            refine ⟨rfl, ?_⟩
            have : ∀ x : Pst, (renewed x c.tok q.now).2 = 0 ∨ (renewed x c.tok q.now).2 = 100 ∨ (renewed x c.tok q.now).2 = 101 := by
              intro x
              unfold renewed
              split
              · simp
              · split <;> simp
            have := this ((q.gs.getD i noG).st.getD n .zero)
            unfold An.err
            simp only
            omega
          · exact .inl rfl
      · split
        · unfold reportP
          split
          · exact .inr ⟨rfl, by unfold An.err; simp⟩
          · exact .inl rfl
        · unfold cancelP
          split
          · exact .inr ⟨rfl, by unfold An.err; simp⟩
          · exact .inl rfl
theorem stale_same (q : Qp) (c : Cq) (h : (applyP q c).2.code = 100) : { (applyP q c).1 with ses := q.ses } = q := by
  unfold applyP at h ⊢
  split
  · split
    · rfl
    · rename_i h1 h2
      rw [if_pos h1, if_neg h2] at h
      unfold An.zero at h
      simp at h
  · rename_i h7
    rw [if_neg h7] at h
    split
    · rfl
    · rename_i h1
      rw [if_neg h1] at h
      split
      · rfl
      · rename_i hk
        rw [if_neg hk] at h
        split
        · rfl
        · rename_i he
          rw [if_neg he] at h
          split
          · rfl
          · rename_i hb
            rw [if_neg hb] at h
            simp only at h
            rcases done_codes q c with h2 | ⟨h2, _⟩
            · omega
            · simp only [h2]
def Fair (c : Cq) (a : An) (now : Int) (x y : Pst) : Prop :=
  if finB x.s = true then x = y else if y.s = 3 ∨ y.s = 4 then c.kind = 5 ∧ a.code = 0 ∧ x.s = 2 ∧ x.t = c.tok ∧ now < x.u ∧ (y.s = 3 ↔ c.good = true) else True
theorem fair_same (c : Cq) (a : An) (now : Int) (x : Pst) : Fair c a now x x := by
  unfold Fair
  split
  · rfl
  · rename_i h
    split
    · rename_i h2
      exfalso
      apply h
      unfold finB
      simp only [Bool.and_eq_true, decide_eq_true_eq]
      omega
    · trivial
theorem fair_to {c : Cq} {a : An} {now : Int} {x y : Pst} (h : finB x.s = false) (hy : y.s ≠ 3 ∧ y.s ≠ 4) : Fair c a now x y := by
  unfold Fair
  rw [if_neg (by rw [h]; decide), if_neg (by omega)]
  trivial
def Stays (c : Cq) (a : An) (now : Int) (g : Gq) (q' : Qp) : Prop := ∃ g' ∈ q'.gs, g'.id = g.id ∧ g'.ps = g.ps ∧ g'.st.length = g.st.length ∧ ∀ (i : Nat) (x y : Pst), g.st[i]? = some x → g'.st[i]? = some y → Fair c a now x y
theorem stays_in {c : Cq} {a : An} {now : Int} {g : Gq} {q' : Qp} (h : g ∈ q'.gs) : Stays c a now g q' :=
  ⟨g, h, rfl, rfl, rfl, fun i x y hx hy => by rw [hx] at hy; injection hy with hy; subst hy; exact fair_same ..⟩
theorem stays_with {c : Cq} {a : An} {q : Qp} {i : Nat} {g0 : Gq} (hg : q.gs[i]? = some g0) {l : List Pst} (hl : l.length = g0.st.length) (hf : ∀ (j : Nat) (x y : Pst), g0.st[j]? = some x → l[j]? = some y → Fair c a q.now x y) {q' : Qp} (hq : q'.gs = (withG q i l).gs) {g : Gq} (hm : g ∈ q.gs) : Stays c a q.now g q' := by
  obtain ⟨j, hj⟩ := List.getElem?_of_mem hm
  have hw := withG_at q i l j
  by_cases e : i = j
  · subst e
    rw [hg] at hj
    injection hj with hj
    subst hj
    rw [if_pos rfl, hg] at hw
    refine ⟨{ g0 with st := l }, ?_, rfl, rfl, hl, hf⟩
    rw [hq]
    exact List.mem_of_getElem? hw
  · rw [if_neg e, hj] at hw
    refine stays_in ?_
    rw [hq]
    exact List.mem_of_getElem? hw
theorem settle_keeps {ps : List Pt} {l : List Pst} (hq : grCheck ps = 0) (hl : l.length = ps.length) {i : Nat} {x : Pst} (h : l[i]? = some x) (hx : x.s ≠ 0) : (grSettle ps l)[i]? = some x := by
  have hi := (List.getElem?_eq_some_iff.1 h).1
  rw [grSettle_sol hq hl i (by omega)]
  have hg : l.getD i Pst.zero = x := getS_some h
  unfold settleAt
  rw [hg, if_neg (fun hh => hx hh.1)]
theorem done_fair {q : Qp} (h : Inv q) (c : Cq) (hk : 2 ≤ c.kind ∧ c.kind ≤ 6) {g : Gq} (hm : g ∈ q.gs) : Stays c (doneP q c).2 q.now g (doneP q c).1 ∨ (c.kind = 6 ∧ overB g.st = true ∧ ∀ g' ∈ (doneP q c).1.gs, g'.id ≠ g.id) := by
  unfold doneP
  split
  · left
    unfold submitP
    split
    · exact stays_in hm
    · split
      · exact stays_in hm
      · exact stays_in (List.mem_append_left _ hm)
  · split
    · left
      unfold claimP
      cases hr : readyAt q with
      | none => exact stays_in hm
      | some p =>
        obtain ⟨i, n⟩ := p
        obtain ⟨g0, x, hg, hx, hs⟩ := ready_some hr
        simp only
        rw [getD_some hg]
        by_cases hb : q.nt = top ∨ late < q.now
        · have : granted q.nt q.now = (q.nt, Pst.zero, 101) := by unfold granted; rw [if_pos hb]
          rw [this, if_pos (show (101 : Int) ≠ 0 by decide)]
          exact stays_in hm
        · have : granted q.nt q.now = (q.nt + 1, ⟨2, q.nt, q.now + 8⟩, 0) := by unfold granted; rw [if_neg hb]
          rw [this, if_neg (show ¬ (0 : Int) ≠ 0 by decide)]
          refine stays_with hg (by simp) (fun j a b ha hb2 => ?_) rfl hm
          rcases set_at _ _ _ _ _ hb2 with ⟨rfl, rfl, _⟩ | ⟨_, hj⟩
          · rw [hx] at ha
            injection ha with ha
            subst ha
            exact fair_to (by rw [hs]; rfl) ⟨by show (2 : Int) ≠ 3; decide, by show (2 : Int) ≠ 4; decide⟩
          · rw [ha] at hj
            injection hj with hj
            subst hj
            exact fair_same ..
    · split
      · left
        unfold renewP
        cases hr : heldAt q c.tok with
        | none => exact stays_in hm
        | some p =>
          obtain ⟨i, n⟩ := p
          obtain ⟨g0, x, hg, hx, hh⟩ := held_some hr
          obtain ⟨hs, _, _, _⟩ := held_is hh
          simp only
          rw [getD_some hg, getS_some hx]
          by_cases hl : late < q.now
          · have hrn : renewed x c.tok q.now = (Pst.zero, 101) := by unfold renewed; rw [hh, if_neg (by simp), if_pos hl]
            rw [hrn, if_pos (show (101 : Int) ≠ 0 by decide)]
            exact stays_in hm
          · have hrn : renewed x c.tok q.now = (⟨x.s, x.t, max x.u (q.now + 8)⟩, 0) := by unfold renewed; rw [hh, if_neg (by simp), if_neg hl]
            rw [hrn, if_neg (show ¬ (0 : Int) ≠ 0 by decide)]
            refine stays_with hg (by simp) (fun j a b ha hb2 => ?_) rfl hm
            rcases set_at _ _ _ _ _ hb2 with ⟨rfl, rfl, _⟩ | ⟨_, hj⟩
            · rw [hx] at ha
              injection ha with ha
              subst ha
              exact fair_to (by rw [hs]; rfl) ⟨by show x.s ≠ 3; omega, by show x.s ≠ 4; omega⟩
            · rw [ha] at hj
              injection hj with hj
              subst hj
              exact fair_same ..
      · split
        · rename_i h5
          left
          unfold reportP
          cases hr : heldAt q c.tok with
          | none => exact stays_in hm
          | some p =>
            obtain ⟨i, n⟩ := p
            obtain ⟨g0, x, hg, hx, hh⟩ := held_some hr
            obtain ⟨hs, ht, _, hu⟩ := held_is hh
            simp only
            rw [getD_some hg]
            obtain ⟨_, _, a3, a4, _, _⟩ := h.gsIn g0 (List.mem_of_getElem? hg)
            have hz : ((if c.good = true then (3 : Int) else 4) = 3 ↔ c.good = true) ∧ ((if c.good = true then (3 : Int) else 4) = 3 ∨ (if c.good = true then (3 : Int) else 4) = 4) := by split <;> simp_all
            generalize (if c.good = true then (3 : Int) else 4) = z at *
            have hl : (g0.st.set n ⟨z, 0, 0⟩).length = g0.ps.length := by simpa using a4
            refine stays_with hg (l := grSettle g0.ps (g0.st.set n ⟨z, 0, 0⟩)) (by rw [grSettle_length (by rw [order_len a3, hl]), hl, a4]) (fun j a b ha hb2 => ?_) (by split <;> rfl) hm
            by_cases hj : j = n
            · subst hj
              have hjl := (List.getElem?_eq_some_iff.1 hx).1
              have h1 : (g0.st.set j ⟨z, 0, 0⟩)[j]? = some ⟨z, 0, 0⟩ := List.getElem?_set_self hjl
              rw [settle_keeps a3 hl h1 (by show z ≠ 0; omega)] at hb2
              injection hb2 with hb2
              subst hb2
              rw [hx] at ha
              injection ha with ha
              subst ha
              unfold Fair
              rw [if_neg (by rw [hs]; decide), if_pos (by show z = 3 ∨ z = 4; omega)]
              exact ⟨h5, rfl, hs, ht, hu, hz.1⟩
            · rcases settle_from a3 hl hb2 with h1 | ⟨hs2, _, _, x0, hx0, hx00⟩
              · rw [List.getElem?_set_ne (fun e => hj e.symm), ha] at h1
                injection h1 with h1
                subst h1
                exact fair_same ..
              · rw [List.getElem?_set_ne (fun e => hj e.symm), ha] at hx0
                injection hx0 with hx0
                subst hx0
                exact fair_to (by rw [hx00]; rfl) (by omega)
        · have h6 : c.kind = 6 := by omega
          unfold cancelP
          cases hr : findG q c.id with
          | none => exact .inl (stays_in hm)
          | some i =>
            obtain ⟨g0, hg, hid⟩ := findIdx_at hr
            simp only
            rw [getD_some hg]
            by_cases ho : overB g0.st = true
            · rw [if_pos ho]
              obtain ⟨j, hj⟩ := List.getElem?_of_mem hm
              by_cases hij : i = j
              · subst hij
                rw [hg] at hj
                injection hj with hj
                subst hj
                refine .inr ⟨h6, ho, fun g' hg' e => ?_⟩
                obtain ⟨m, hm2⟩ := List.getElem?_of_mem hg'
                have hup := List.pairwise_iff_getElem.1 h.gsUp
                have hil := (List.getElem?_eq_some_iff.1 hg)
                have hm3 : (q.gs.eraseIdx i)[m]? = some g' := hm2
                rw [List.getElem?_eraseIdx] at hm3
                split at hm3
                · rename_i hlt
                  have hml := (List.getElem?_eq_some_iff.1 hm3)
                  have := hup m i hml.1 hil.1 hlt
                  rw [hml.2, hil.2] at this
                  omega
                · rename_i hge
                  have hml := (List.getElem?_eq_some_iff.1 hm3)
                  have := hup i (m + 1) hil.1 hml.1 (by omega)
                  rw [hml.2, hil.2] at this
                  omega
              · left
                refine stays_in ?_
                show g ∈ q.gs.eraseIdx i
                rw [List.mem_eraseIdx_iff_getElem?]
                exact ⟨j, fun e => hij e.symm, hj⟩
            · rw [if_neg ho]
              left
              refine stays_with hg (repl_ln ..) (fun j a b ha hb2 => ?_) rfl hm
              obtain ⟨x, hx, e⟩ := repl_pl hb2
              rw [ha] at hx
              injection hx with hx
              subst hx
              split at e
              · rename_i hf
                subst e
                exact fair_to (by simpa using hf) ⟨by show (6 : Int) ≠ 3; decide, by show (6 : Int) ≠ 4; decide⟩
              · subst e
                exact fair_same ..
theorem apply_fair {q : Qp} (h : Inv q) (c : Cq) {g : Gq} (hm : g ∈ q.gs) : Stays c (applyP q c).2 q.now g (applyP q c).1 ∨ (c.kind = 6 ∧ overB g.st = true ∧ ∀ g' ∈ (applyP q c).1.gs, g'.id ≠ g.id) := by
  unfold applyP
  split
  · left
    split
    · exact stays_in hm
    · refine ⟨{ g with st := repl 1 (pastB c.time) g.st }, List.mem_map.2 ⟨g, hm, rfl⟩, rfl, rfl, repl_ln .., fun i x y hx hy => ?_⟩
      obtain ⟨x', hx', e⟩ := repl_pl hy
      rw [hx] at hx'
      injection hx' with hx'
      subst hx'
      split at e
      · rename_i hp
        unfold pastB at hp
        simp only [Bool.and_eq_true, beq_iff_eq] at hp
        subst e
        exact fair_to (by rw [hp.1]; rfl) ⟨by show (1 : Int) ≠ 3; decide, by show (1 : Int) ≠ 4; decide⟩
      · subst e
        exact fair_same ..
  · split
    · exact .inl (stays_in hm)
    · split
      · exact .inl (stays_in hm)
      · rename_i hk
        split
        · exact .inl (stays_in hm)
        · split
          · exact .inl (stays_in hm)
          · exact done_fair h c (by omega) hm
end Go.Proofs.YtkoikmdmejhhhaaGreat
namespace Go.Proofs.YtkoikmdmejhhhaaGreat
open Go.Shelf Go.RowKit Go.Maps
theorem list_same {l L : List Ro} (h : ∀ j : Nat, j < l.length → l[j]? = L[j]?) (hl : l.length = L.length) : l = L := by
  apply List.ext_getElem? 
  intro j
  rcases Nat.lt_or_ge j l.length with hj | hj
  · exact h j hj
  · rw [List.getElem?_eq_none hj, List.getElem?_eq_none (by omega)]
set_option maxRecDepth 100000 in
set_option maxHeartbeats 2000000 in
set_option linter.unusedSimpArgs false in
theorem same_any_S (w : World) (D D' : Nat → Prop) (v u : Value) (l L : List Ro) (h : Many Ro.cells 8 w D v l) (H : Many Ro.cells 8 w D' u L) : Calls Tryz.prog 52 #[v, u] w (TellsB (decide (l = L)) w) := by
  obtain ⟨A, c, rfl⟩ := h.shape
  obtain ⟨B, d, rfl⟩ := H.shape
  have hfew := h.few
  unfold maxLen at hfew
  by_cases hl : l.length = L.length
  · have HH := Lib.hid h
    have HHH := Lib.hid H
    have HE := Lib.hid hl
    clear h H
    have hl' : ((l.length : Int) != (L.length : Int)) = false := by rw [hl, bne_self_eq_false]
    go_enter Tryz.func52, Tryz.ntmps52
    go_wp2
    go_loopw [5] (fun i wr => ∃ (k : Nat), k ≤ l.length ∧ i = .int .i64 k ∧ Keep noneOf w wr ∧ ∀ j : Nat, j < k → l[j]? = L[j]?) (fun i _ => l.length - (intOf i).toNat)
    case atStart => exact ⟨0, Nat.zero_le _, rfl, Keep.refl _ _, fun j hj => absurd hj (Nat.not_lt_zero _)⟩
    case round =>
      obtain ⟨k, hk, rfl, hkeep, hsame⟩ := hrel
      have HKP := Lib.hid hkeep
      have HS := Lib.hid hsame
      clear hsame
      by_cases hlt : k < l.length
      · have hx : l[k]? = some l[k] := List.getElem?_eq_getElem hlt
        have hy : L[k]? = some (L[k]'(by omega)) := List.getElem?_eq_getElem (by omega)
        obtain ⟨b, o, rfl, hblk, _, hcell⟩ := HH.out.cell (fun _ => rfl) hx
        obtain ⟨b', o', rfl, hblk', _, hcell'⟩ := HHH.out.cell (fun _ => rfl) hy
        have HXY : Hid (l[k]? = some l[k] ∧ L[k]? = some (L[k]'(by omega))) := Lib.hid ⟨hx, hy⟩
        generalize l[k] = x at *
        generalize (L[k]'(by omega)) = y at *
        have q0 : (0 : Int) ≤ (k : Int) := by omega
        have q1 : (k : Int) < (l.length : Int) := by omega
        have q2 : (k : Int) < (L.length : Int) := by omega
        have q3 : k < L.length := by omega
        have MC : Hid (∀ w', Keep noneOf wr w' → _) := Lib.hid fun w' k' => And.intro (ro_cells b o k w' x (fun j hj => ((hkeep.trans k' (fun _ _ h => h)).cell (p := ⟨b, o + (k * 8 + j), none⟩) hblk id).trans (hcell j hj))) (ro_cells b' o' k w' y (fun j hj => ((hkeep.trans k' (fun _ _ h => h)).cell (p := ⟨b', o' + (k * 8 + j), none⟩) hblk' id).trans (hcell' j hj)))
        obtain ⟨nq, hnq⟩ : ∃ nq, (!decide (x = y)) = nq := ⟨_, rfl⟩
        have hneq : ∀ w', (binOp .neq 71 x.agg y.agg).run Tryz.prog w' = .ok (.bool nq) w' := fun w' => by rw [← hnq]; exact run_neqR w' x y
        have HNQ := Lib.hid hnq
        clear hnq
        obtain ⟨x1, x2, ⟨x3, x4, x5, x6, x7, x8⟩⟩ := x
        obtain ⟨y1, y2, ⟨y3, y4, y5, y6, y7, y8⟩⟩ := y
        unfold Ro.agg at hneq
        dsimp only at MC hneq
        clear hx hy hcell hcell' hkeep
        go_upto_region 6 with fail
        refine wp_region_held_drew (S := fun w' => Keep noneOf wr w') (by kernel_rfl) (Keep.refl noneOf wr).drew (fun hHeld => ?_)
        refine' wpAnyH_take (i := 0) (v := _) rfl (by kernel_rfl) (by kernel_rfl) (by kernel_rfl) (fun _ _ _ h => h) (Or.inl ⟨by kernel_rfl, ?hy0⟩) (by assumption) ?_
        case hy0 => intro w' hSw; obtain ⟨⟨_, _, _, _, _, _, _, _⟩, _, _, _, _, _, _, _, _⟩ := MC.out w' hSw; go_simp; try with_reducible rfl
        simp only [Act.put, List.getElem_toArray, List.getElem_cons_zero, List.getElem_cons_succ, List.setIfInBounds_toArray, List.set_cons_zero, List.set_cons_succ]
        refine' wpAnyH_take (i := 1) (v := _) rfl (by kernel_rfl) (by kernel_rfl) (by kernel_rfl) (fun _ _ _ h => h) (Or.inl ⟨by kernel_rfl, ?hy1⟩) (by assumption) ?_
        case hy1 => intro w' hSw; obtain ⟨⟨_, _, _, _, _, _, _, _⟩, _, _, _, _, _, _, _, _⟩ := MC.out w' hSw; go_simp; try with_reducible rfl
        simp only [Act.put, List.getElem_toArray, List.getElem_cons_zero, List.getElem_cons_succ, List.setIfInBounds_toArray, List.set_cons_zero, List.set_cons_succ]
        refine' wpAnyH_take (i := 2) (v := _) rfl (by kernel_rfl) (by kernel_rfl) (by kernel_rfl) (fun _ _ _ h => h) (Or.inl ⟨by kernel_rfl, ?hy2⟩) (by assumption) ?_
        case hy2 => intro w' hSw; obtain ⟨⟨_, _, _, _, _, _, _, _⟩, _, _, _, _, _, _, _, _⟩ := MC.out w' hSw; go_simp; try with_reducible rfl
        simp only [Act.put, List.getElem_toArray, List.getElem_cons_zero, List.getElem_cons_succ, List.setIfInBounds_toArray, List.set_cons_zero, List.set_cons_succ]
        refine' wpAnyH_take (i := 3) (v := _) rfl (by kernel_rfl) (by kernel_rfl) (by kernel_rfl) (fun _ _ _ h => h) (Or.inl ⟨by kernel_rfl, ?hy3⟩) (by assumption) ?_
        case hy3 => intro w' hSw; obtain ⟨⟨_, _, _, _, _, _, _, _⟩, _, _, _, _, _, _, _, _⟩ := MC.out w' hSw; go_simp; try with_reducible rfl
        simp only [Act.put, List.getElem_toArray, List.getElem_cons_zero, List.getElem_cons_succ, List.setIfInBounds_toArray, List.set_cons_zero, List.set_cons_succ]
        refine' wpAnyH_take (i := 4) (v := _) rfl (by kernel_rfl) (by kernel_rfl) (by kernel_rfl) (fun _ _ _ h => h) (Or.inl ⟨by kernel_rfl, ?hy4⟩) (by assumption) ?_
        case hy4 => intro w' hSw; obtain ⟨⟨_, _, _, _, _, _, _, _⟩, _, _, _, _, _, _, _, _⟩ := MC.out w' hSw; go_simp; try with_reducible rfl
        simp only [Act.put, List.getElem_toArray, List.getElem_cons_zero, List.getElem_cons_succ, List.setIfInBounds_toArray, List.set_cons_zero, List.set_cons_succ]
        refine' wpAnyH_take (i := 5) (v := _) rfl (by kernel_rfl) (by kernel_rfl) (by kernel_rfl) (fun _ _ _ h => h) (Or.inl ⟨by kernel_rfl, ?hy5⟩) (by assumption) ?_
        case hy5 => intro w' hSw; obtain ⟨⟨_, _, _, _, _, _, _, _⟩, _, _, _, _, _, _, _, _⟩ := MC.out w' hSw; go_simp; try with_reducible rfl
        simp only [Act.put, List.getElem_toArray, List.getElem_cons_zero, List.getElem_cons_succ, List.setIfInBounds_toArray, List.set_cons_zero, List.set_cons_succ]
        refine' wpAnyH_take (i := 6) (v := _) rfl (by kernel_rfl) (by kernel_rfl) (by kernel_rfl) (fun _ _ _ h => h) (Or.inl ⟨by kernel_rfl, ?hy6⟩) (by assumption) ?_
        case hy6 => intro w' hSw; obtain ⟨⟨_, _, _, _, _, _, _, _⟩, _, _, _, _, _, _, _, _⟩ := MC.out w' hSw; go_simp; try with_reducible rfl
        simp only [Act.put, List.getElem_toArray, List.getElem_cons_zero, List.getElem_cons_succ, List.setIfInBounds_toArray, List.set_cons_zero, List.set_cons_succ]
        refine' wpAnyH_take (i := 7) (v := _) rfl (by kernel_rfl) (by kernel_rfl) (by kernel_rfl) (fun _ _ _ h => h) (Or.inl ⟨by kernel_rfl, ?hy7⟩) (by assumption) ?_
        case hy7 => intro w' hSw; obtain ⟨⟨_, _, _, _, _, _, _, _⟩, _, _, _, _, _, _, _, _⟩ := MC.out w' hSw; go_simp; try with_reducible rfl
        simp only [Act.put, List.getElem_toArray, List.getElem_cons_zero, List.getElem_cons_succ, List.setIfInBounds_toArray, List.set_cons_zero, List.set_cons_succ]
        refine' wpAnyH_take (i := 8) (v := _) rfl (by kernel_rfl) (by kernel_rfl) (by kernel_rfl) (fun _ _ _ h => h) (Or.inl ⟨by kernel_rfl, ?hy8⟩) (by assumption) ?_
        case hy8 => intro w' hSw; obtain ⟨⟨_, _, _, _, _, _, _, _⟩, _, _, _, _, _, _, _, _⟩ := MC.out w' hSw; go_simp; try with_reducible rfl
        simp only [Act.put, List.getElem_toArray, List.getElem_cons_zero, List.getElem_cons_succ, List.setIfInBounds_toArray, List.set_cons_zero, List.set_cons_succ]
        refine wpAnyH_done (by kernel_rfl) ?_ _
        have HW := Lib.hid hHeld
        clear hHeld hneq MC
        cases nq with
        | true =>
          have e : decide (l = L) = false := decide_eq_false (fun e => by
            have h1 := HXY.out
            rw [e, h1.2] at h1
            have h2 := HNQ.out
            injection h1.1 with h1
            rw [h1] at h2
            simp at h2)
          have HE2 := Lib.hid e
          clear e
          go_wp2
          go_ret
          exact ⟨ret_bool HE2.out.symm, HKP.out.trans HW.out (fun _ _ h => h)⟩
        | false =>
          have e : l[k]? = L[k]? := by
            have h1 := HXY.out
            have h2 := HNQ.out
            rw [h1.1, h1.2]
            simpa using h2
          have HEQ := Lib.hid e
          clear e
          go_wp2
          go_roundw
          case rel => exact ⟨k + 1, by omega, by go_num, HKP.out.trans HW.out (fun _ _ h => h), fun j hj => by
            rcases Nat.lt_or_ge j k with h1 | h1
            · exact HS.out j h1
            · obtain rfl : j = k := by omega
              exact HEQ.out⟩
          case measure => simp [intOf]; omega
      · have hkn : ¬ ((k : Int) < (l.length : Int)) := by omega
        have e : decide (l = L) = true := decide_eq_true (list_same (fun j hj => HS.out j (by omega)) HE.out)
        have HE2 := Lib.hid e
        clear hkeep e
        go_wp2
        go_ret
        exact ⟨ret_bool HE2.out.symm, HKP.out⟩
  · have e : decide (l = L) = false := decide_eq_false (fun e => hl (by rw [e]))
    rw [e]
    have hl' : ((l.length : Int) != (L.length : Int)) = true := bne_iff_ne.2 (by omega)
    clear h H e hl
    go_enter Tryz.func52, Tryz.ntmps52
    go_wp2
    go_ret
    exact ⟨rfl, Keep.refl _ _⟩
end Go.Proofs.YtkoikmdmejhhhaaGreat
namespace Go.Proofs.YtkoikmdmejhhhaaGreat
open Go.RowKit
theorem findG_some {q : Qp} {id : Int} {i : Nat} {g : Gq} (hg : q.gs[i]? = some g) (h : g.id = id) (hno : ∀ (j : Nat) (b : Gq), j < i → q.gs[j]? = some b → b.id ≠ id) : findG q id = some i := by
  unfold findG
  rw [List.findIdx?_eq_some_iff_getElem]
  obtain ⟨hi, he⟩ := List.getElem?_eq_some_iff.1 hg
  refine ⟨hi, by rw [he]; simpa using h, fun j hj => ?_⟩
  have hjl : j < q.gs.length := by omega
  simpa using hno j _ hj (List.getElem?_eq_getElem hjl)
theorem findG_none {q : Qp} {id : Int} (hno : ∀ (j : Nat) (b : Gq), q.gs[j]? = some b → b.id ≠ id) : findG q id = none := by
  unfold findG
  rw [List.findIdx?_eq_none_iff]
  intro g hg
  obtain ⟨j, hj⟩ := List.getElem?_of_mem hg
  simpa using hno j g hj
end Go.Proofs.YtkoikmdmejhhhaaGreat
namespace Go.Proofs.YtkoikmdmejhhhaaGreat
theorem list_eq_at {α : Type} {l m : List α} (hl : l.length = m.length) (h : ∀ (j : Nat) (a b : α), l[j]? = some a → m[j]? = some b → a = b) : l = m := by
  refine List.ext_getElem hl fun j h1 h2 => ?_
  exact h j _ _ (List.getElem?_eq_getElem h1) (List.getElem?_eq_getElem h2)
theorem plain_eq {a b : Im} (h1 : a.now = b.now) (h2 : a.ng = b.ng) (h3 : a.nt = b.nt) (h4 : a.ses = b.ses) (h5 : a.gs.length = b.gs.length) (h6 : ∀ (j : Nat) (g h : Gm), a.gs[j]? = some g → b.gs[j]? = some h → g.plain = h.plain) (h7 : a.built = b.built) : a.plain = b.plain := by
  unfold Im.plain
  rw [h1, h2, h3, h4, h7]
  congr 1
  refine list_eq_at (by rw [List.length_map, List.length_map, h5]) (fun j x y hx hy => ?_)
  obtain ⟨g, hg, rfl⟩ := gm_of hx
  obtain ⟨h, hh, rfl⟩ := gm_of hy
  exact h6 j g h hg hh
theorem plain_now {a b : Im} (h : a.plain = b.plain) : a.now = b.now := congrArg Qp.now h
theorem plain_ng {a b : Im} (h : a.plain = b.plain) : a.ng = b.ng := congrArg Qp.ng h
theorem plain_nt {a b : Im} (h : a.plain = b.plain) : a.nt = b.nt := congrArg Qp.nt h
theorem plain_ses {a b : Im} (h : a.plain = b.plain) : a.ses = b.ses := congrArg Qp.ses h
theorem plain_built {a b : Im} (h : a.plain = b.plain) : a.built = b.built := congrArg Qp.built h
theorem plain_length {a b : Im} (h : a.plain = b.plain) : a.gs.length = b.gs.length := by
  have := congrArg (fun q => q.gs.length) h
  simpa [Im.plain] using this
theorem plain_gs {a b : Im} (h : a.plain = b.plain) {j : Nat} {g k : Gm} (hg : a.gs[j]? = some g) (hk : b.gs[j]? = some k) : g.plain = k.plain := by
  have e := congrArg (fun q => q.gs[j]?) h
  have e2 : (a.gs.map Gm.plain)[j]? = (b.gs.map Gm.plain)[j]? := e
  rw [gm_at hg, gm_at hk] at e2
  injection e2
theorem gm_eq {g h : Gm} : g.plain = h.plain ↔ g.id = h.id ∧ g.ts.map Tg.plain = h.ts.map Tg.plain ∧ g.st = h.st := by
  unfold Gm.plain
  constructor
  · intro e
    injection e with e1 e2 e3
    exact ⟨e1, e2, e3⟩
  · rintro ⟨e1, e2, e3⟩
    rw [e1, e2, e3]
theorem findG_at {q : Qp} (h : q.gs.Pairwise (fun a b => a.id < b.id)) {i : Nat} {g : Gq} (hg : q.gs[i]? = some g) : findG q g.id = some i := by
  refine findG_some hg rfl (fun j b hj hb e => ?_)
  obtain ⟨h1, e1⟩ := List.getElem?_eq_some_iff.1 hb
  obtain ⟨h2, e2⟩ := List.getElem?_eq_some_iff.1 hg
  have := List.pairwise_iff_getElem.1 h j i h1 h2 hj
  rw [e1, e2] at this
  omega
end Go.Proofs.YtkoikmdmejhhhaaGreat
namespace Go.Proofs.YtkoikmdmejhhhaaGreat
open Go.RowKit
def Told (b : Bool) (w : World) (e : Ending) (w' : World) : Prop := e = .returned (.bool b) ∧ ∃ n, w' = w.drewN n
set_option maxRecDepth 100000 in
set_option maxHeartbeats 1000000 in
theorem sameTexts_any (w : World) (D D' : Nat → Prop) (v v' : Value) (ss ss' : List ByteArray) (h : Strs w D v ss) (h' : Strs w D' v' ss') :
    Calls Tryz.prog 91 #[v, v'] w (Told (decide (ss = ss')) w) := by
  obtain ⟨⟨A, c, rfl, hlc, hcm, hn, hxl, hc⟩, h4⟩ := h
  obtain ⟨⟨A', c', rfl, hlc', hcm', hn', hxl', hc'⟩, h4'⟩ := h'
  unfold maxLen at hcm hcm'
  by_cases hl : ss.length = ss'.length
  · have HC := Lib.hid hc
    have HC' := Lib.hid hc'
    have HL := Lib.hid hl
    rw [← hl] at hlc' ⊢
    clear hc hc' h4 h4' hxl hxl' hl
    generalize hR : decide (ss = ss') = R
    have HR := Lib.hid hR
    clear hR
    go_enter Tryz.func91, Tryz.ntmps91
    go_wp2
    go_loopw [5] (fun i wr => ∃ k n : Nat, k ≤ ss.length ∧ i = .int .i64 k ∧ wr = w.drewN n ∧ ss.take k = ss'.take k) (fun i _ => ss.length - (intOf i).toNat)
    case atStart => exact ⟨0, 0, Nat.zero_le _, rfl, rfl, rfl⟩
    case round =>
      obtain ⟨k, n, hk, rfl, rfl, hall⟩ := hrel
      have HA := Lib.hid hall
      clear hall
      by_cases hlt : k < ss.length
      · have hlt' : k < ss'.length := by rw [← HL.out]; exact hlt
        obtain ⟨ad, rfl, hsp, hblk, _, hcell⟩ := HC.out (by omega)
        obtain ⟨b, o, sp⟩ := ad
        obtain ⟨ad', rfl, hsp', hblk', _, hcell'⟩ := HC'.out (by omega)
        obtain ⟨b', o', sp'⟩ := ad'
        simp only at hsp hblk hsp' hblk'
        subst hsp hsp'
        have q1 : w.cell? ⟨b, o + k, none⟩ = some (.string ss[k]) := hcell k _ (by simp [List.getElem?_eq_getElem hlt])
        have q2 : w.cell? ⟨b', o' + k, none⟩ = some (.string ss'[k]) := hcell' k _ (by simp [List.getElem?_eq_getElem hlt'])
        have HS := Lib.hid (List.getElem?_eq_getElem hlt)
        have HS' := Lib.hid (List.getElem?_eq_getElem hlt')
        clear hcell hcell'
        generalize ss[k] = s at *
        generalize ss'[k] = s' at *
        clear hlt'
        by_cases hs : s = s'
        · subst hs
          go_wp2
          go_quiet (fail)
          go_wp2
          go_roundw
          case rel =>
            refine ⟨k + 1, _, by omega, by go_num, rfl, ?_⟩
            rw [List.take_add_one, List.take_add_one, HA.out, HS.out, HS'.out]
          case measure => simp [intOf]; omega
        · have g : (s.toList != s'.toList) = true := by rw [bne, str_beq]; simp [hs]
          have g' : (s.toList == s'.toList) = false := by rw [str_beq]; simp [hs]
          have hR : R = false := by
            rw [← HR.out, decide_eq_false_iff_not]
            rintro rfl
            have := HS.out.symm.trans HS'.out
            injection this with this
            exact hs this
          subst hR
          clear hs
          go_wp2
          go_quiet (fail)
          go_wp2
          go_ret
          exact ⟨rfl, _, World.drewN_drewN _ _ _⟩
      · have hR : R = true := by
          rw [← HR.out, decide_eq_true_eq]
          have e1 := HA.out
          rwa [List.take_of_length_le (by omega), List.take_of_length_le (by have := HL.out; omega)] at e1
        subst hR
        go_wp2
        go_ret
        exact ⟨rfl, n, rfl⟩
  · have hR : decide (ss = ss') = false := by
      rw [decide_eq_false_iff_not]
      rintro rfl
      exact hl rfl
    rw [hR]
    clear hR
    go_enter Tryz.func91, Tryz.ntmps91
    go_wp2
    go_ret
    exact ⟨rfl, 0, rfl⟩
def Told' (b : Bool) (w : World) (e : Ending) (w' : World) : Prop := e = .returned (.bool b) ∧ Keep noneOf w w'
set_option maxRecDepth 100000 in
set_option maxHeartbeats 2000000 in
theorem sameGraph_any (w : World) (D D' : Nat → Prop) (v v' : Value) (ts ts' : List Tg) (h : Tgs w D v ts) (h' : Tgs w D' v' ts') :
    Calls Tryz.prog 53 #[.agg #[v], .agg #[v']] w (Told' (decide (ts.map Tg.plain = ts'.map Tg.plain)) w) := by
  have hT := h.2
  have hT' := h'.2
  obtain ⟨A, c, rfl, hlc, hcm, hn, hxl, hc⟩ := h.1
  obtain ⟨A', c', rfl, hlc', hcm', hn', hxl', hc'⟩ := h'.1
  unfold maxLen at hcm hcm'
  by_cases hl : ts.length = ts'.length
  · have HC := Lib.hid hc
    have HC' := Lib.hid hc'
    have HT := Lib.hid hT
    have HT' := Lib.hid hT'
    have HL := Lib.hid hl
    rw [← hl] at hlc' ⊢
    clear hc hc' hxl hxl' hl h h' hT hT'
    generalize hR : decide (ts.map Tg.plain = ts'.map Tg.plain) = R
    have HR := Lib.hid hR
    clear hR
    have K0 : Keep noneOf w ((w.alloc (.cells #[.slice A ts.length c] 35)).alloc (.cells #[.slice A' ts.length c'] 35)) := ((Keep.refl noneOf w).alloc _).alloc _
    have x0 := (Box.new w 35 #[.slice A ts.length c]).alloc (.cells #[.slice A' ts.length c'] 35)
    have y0 := Box.new (w.alloc (.cells #[.slice A ts.length c] 35)) 35 #[.slice A' ts.length c']
    have es : (w.alloc (.cells #[.slice A ts.length c] 35)).heap.size = w.heap.size + 1 := by simp
    rw [es] at y0
    have HK0 := Lib.hid K0
    have HX0 := Lib.hid x0
    have HY0 := Lib.hid y0
    clear K0 x0 y0 es
    go_enter Tryz.func53, Tryz.ntmps53
    go_wp2
    go_loopw [5] (fun i wr => ∃ k : Nat, k ≤ ts.length ∧ i = .int .i64 k ∧ Keep noneOf w wr ∧ Box wr w.heap.size 35 #[.slice A ts.length c] ∧ Box wr (w.heap.size + 1) 35 #[.slice A' ts.length c'] ∧ (ts.take k).map Tg.plain = (ts'.take k).map Tg.plain) (fun i _ => ts.length - (intOf i).toNat)
    case atStart => exact ⟨0, Nat.zero_le _, rfl, HK0.out, HX0.out, HY0.out, rfl⟩
    case round =>
      obtain ⟨k, hk, rfl, hK, hX, hY, hall⟩ := hrel
      have HA := Lib.hid hall
      have c1 : wr.cell? ⟨w.heap.size, 0, none⟩ = some (.slice A ts.length c) := hX.cell 0
      have c2 : wr.cell? ⟨w.heap.size + 1, 0, none⟩ = some (.slice A' ts.length c') := hY.cell 0
      clear hall HK0 HX0 HY0
      by_cases hlt : k < ts.length
      · have hlt' : k < ts'.length := by rw [← HL.out]; exact hlt
        obtain ⟨ad, rfl, hsp, hblk, _, hcell⟩ := HC.out (by omega)
        obtain ⟨b, o, sp⟩ := ad
        obtain ⟨ad', rfl, hsp', hblk', _, hcell'⟩ := HC'.out (by omega)
        obtain ⟨b', o', sp'⟩ := ad'
        simp only at hsp hblk hsp' hblk' hcell hcell'
        subst hsp hsp'
        have HS := Lib.hid (List.getElem?_eq_getElem hlt)
        have HS' := Lib.hid (List.getElem?_eq_getElem hlt')
        have hlies := HT.out _ (List.getElem_mem hlt)
        have hlies' := HT'.out _ (List.getElem_mem hlt')
        generalize ts[k] = t at *
        generalize ts'[k] = t' at *
        clear hlt'
        have hcc : ∀ j, j < 3 → ∀ x, t.cells[j]? = some x → wr.cell? ⟨b, o + (k * 3 + j), none⟩ = some x := fun j hj x hx =>
          (hK.cell (p := ⟨b, o + (k * 3 + j), none⟩) hblk id).trans (hcell _ x ((Nat.mul_comm k 3 ▸ cells_at HS.out j hj).trans hx))
        have hcc' : ∀ j, j < 3 → ∀ x, t'.cells[j]? = some x → wr.cell? ⟨b', o' + (k * 3 + j), none⟩ = some x := fun j hj x hx =>
          (hK.cell (p := ⟨b', o' + (k * 3 + j), none⟩) hblk' id).trans (hcell' _ x ((Nat.mul_comm k 3 ▸ cells_at HS'.out j hj).trans hx))
        have d0 : wr.cell? ⟨b, o + k * 3, none⟩ = some (.string t.name) := hcc 0 (by decide) _ rfl
        have d1 : wr.cell? ⟨b, o + k * 3 + 1, none⟩ = some (.string t.cmd) := hcc 1 (by decide) _ rfl
        have d2 : wr.cell? ⟨b, o + k * 3 + 2, none⟩ = some t.nv := hcc 2 (by decide) _ rfl
        have e0 : wr.cell? ⟨b', o' + k * 3, none⟩ = some (.string t'.name) := hcc' 0 (by decide) _ rfl
        have e1 : wr.cell? ⟨b', o' + k * 3 + 1, none⟩ = some (.string t'.cmd) := hcc' 1 (by decide) _ rfl
        have e2 : wr.cell? ⟨b', o' + k * 3 + 2, none⟩ = some t'.nv := hcc' 2 (by decide) _ rfl
        clear hcc hcc' hcell hcell'
        have ST := fun n => sameTexts_any (wr.drewN n) D D' t.nv t'.nv t.needs t'.needs ((hlies.2.2.keep hK (fun _ _ _ => id)).keep ((Keep.refl noneOf wr).drewN n) (fun _ _ _ => id)) ((hlies'.2.2.keep hK (fun _ _ _ => id)).keep ((Keep.refl noneOf wr).drewN n) (fun _ _ _ => id))
        obtain ⟨nm, cm, nv, ss⟩ := t
        obtain ⟨nm', cm', nv', ss'⟩ := t'
        simp only at d0 d1 d2 e0 e1 e2 ST
        have hv1 := hlies.2.2.1
        have hv2 := hlies'.2.2.1
        obtain ⟨B, z, hv1, _⟩ := hv1
        obtain ⟨B', z', hv2, _⟩ := hv2
        simp only at hv1 hv2
        subst hv1 hv2
        have HST : Hid (∀ n, Calls Tryz.prog 91 #[.slice B ss.length z, .slice B' ss'.length z'] (wr.drewN n) fun e w'' => e = .returned (.bool (decide (ss = ss'))) ∧ ∃ m, w'' = wr.drewN m) := fun n => Calls.quiet_of (ST n)
        generalize hq : decide (ss = ss') = q at HST
        have HQ := Lib.hid hq
        clear hlies hlies' ST hq
        cases q with
        | false =>
          have hR : R = false := by
            rw [← HR.out, decide_eq_false_iff_not]
            intro h
            have e3 := congrArg (fun l => l[k]?) h
            simp only [List.getElem?_map, HS.out, HS'.out, Option.map_some, Tg.plain, Option.some.injEq, Pt.mk.injEq] at e3
            exact absurd e3.2.2 (of_decide_eq_false HQ.out)
          subst hR
          go_wp2
          go_quiet ((go_at_call 91; exact HST.out _))
          have K1 := hK.drewN nq
          generalize wr.drewN nq = w1 at *
          go_wp2
          go_quiet (fail)
          go_wp2
          go_ret
          exact ⟨rfl, K1.drewN _⟩
        | true =>
          have hss : ss = ss' := of_decide_eq_true HQ.out
          subst hss
          go_wp2
          go_quiet ((go_at_call 91; exact HST.out _))
          have K1 := hK.drewN nq
          have X1 := hX.keep ((Keep.refl noneOf wr).drewN nq) id
          have Y1 := hY.keep ((Keep.refl noneOf wr).drewN nq) id
          replace c1 : (wr.drewN nq).cell? ⟨w.heap.size, 0, none⟩ = some (.slice (some ⟨b, o, none⟩) ts.length c) := c1
          replace c2 : (wr.drewN nq).cell? ⟨w.heap.size + 1, 0, none⟩ = some (.slice (some ⟨b', o', none⟩) ts.length c') := c2
          replace d0 : (wr.drewN nq).cell? ⟨b, o + k * 3, none⟩ = some (.string nm) := d0
          replace d1 : (wr.drewN nq).cell? ⟨b, o + k * 3 + 1, none⟩ = some (.string cm) := d1
          replace e0 : (wr.drewN nq).cell? ⟨b', o' + k * 3, none⟩ = some (.string nm') := e0
          replace e1 : (wr.drewN nq).cell? ⟨b', o' + k * 3 + 1, none⟩ = some (.string cm') := e1
          clear hK hX hY HST d2 e2
          generalize wr.drewN nq = w1 at *
          by_cases hb : nm = nm' ∧ cm = cm'
          · obtain ⟨rfl, rfl⟩ := hb
            go_wp2
            go_quiet (fail)
            go_wp2
            go_roundw
            case rel =>
              refine ⟨k + 1, by omega, by go_num, K1.drewN _, X1.keep ((Keep.refl noneOf w1).drewN _) id, Y1.keep ((Keep.refl noneOf w1).drewN _) id, ?_⟩
              rw [List.take_add_one, List.take_add_one, HS.out, HS'.out, List.map_append, List.map_append, HA.out]
              rfl
            case measure => simp [intOf]; omega
          · have hR : R = false := by
              rw [← HR.out, decide_eq_false_iff_not]
              intro h
              have e3 := congrArg (fun l => l[k]?) h
              simp only [List.getElem?_map, HS.out, HS'.out, Option.map_some, Tg.plain, Option.some.injEq, Pt.mk.injEq] at e3
              exact hb ⟨e3.1, e3.2.1⟩
            subst hR
            have hb' : nm ≠ nm' ∨ (nm = nm' ∧ cm ≠ cm') := by
              by_cases h1 : nm = nm'
              · exact .inr ⟨h1, fun h2 => hb ⟨h1, h2⟩⟩
              · exact .inl h1
            clear hb
            rcases hb' with hb | ⟨rfl, hb⟩
            · have g : (nm.toList != nm'.toList) = true := by rw [bne, str_beq]; simp [hb]
              have g' : (nm.toList == nm'.toList) = false := by rw [str_beq]; simp [hb]
              clear hb
              go_wp2
              go_quiet (fail)
              go_wp2
              go_ret
              exact ⟨rfl, K1.drewN _⟩
            · have g : (cm.toList != cm'.toList) = true := by rw [bne, str_beq]; simp [hb]
              have g' : (cm.toList == cm'.toList) = false := by rw [str_beq]; simp [hb]
              clear hb
              go_wp2
              go_quiet (fail)
              go_wp2
              go_ret
              exact ⟨rfl, K1.drewN _⟩
      · have hR : R = true := by
          rw [← HR.out, decide_eq_true_eq]
          have e1 := HA.out
          rwa [List.take_of_length_le (by omega), List.take_of_length_le (by have := HL.out; omega)] at e1
        subst hR
        go_wp2
        go_ret
        exact ⟨rfl, hK⟩
  · have hR : decide (ts.map Tg.plain = ts'.map Tg.plain) = false := by
      rw [decide_eq_false_iff_not]
      intro h
      exact hl (by simpa using congrArg List.length h)
    rw [hR]
    clear hR
    go_enter Tryz.func53, Tryz.ntmps53
    go_wp2
    go_ret
    exact ⟨rfl, ((Keep.refl _ _).alloc _).alloc _⟩
end Go.Proofs.YtkoikmdmejhhhaaGreat
namespace Go.Proofs.YtkoikmdmejhhhaaGreat
open Go.RowKit
def SameTold (a b : Im) (w : World) (e : Ending) (w' : World) : Prop := ∃ r : Bool, e = .returned (.bool r) ∧ (r = true ↔ a.plain = b.plain) ∧ Keep noneOf w w'
theorem same_no {a b : Im} {w w' : World} (h : a.plain ≠ b.plain) (k : Keep noneOf w w') : SameTold a b w (.returned (.bool false)) w' := ⟨false, rfl, ⟨fun e => (by cases e), fun e => absurd e h⟩, k⟩
theorem same_yes {a b : Im} {w w' : World} (h : a.plain = b.plain) (k : Keep noneOf w w') : SameTold a b w (.returned (.bool true)) w' := ⟨true, rfl, ⟨fun _ => h, fun _ => rfl⟩, k⟩
set_option maxRecDepth 100000 in
set_option maxHeartbeats 8000000 in
set_option linter.unusedSimpArgs false in
theorem qsame_any (w : World) (D D' : Nat → Prop) (a b : Im) (ha : a.lies w D) (hb : b.lies w D') :
    Calls Tryz.prog 22 #[a.agg, b.agg] w (SameTold a b w) := by
  obtain ⟨A1, c1, e1⟩ := ha.ses.shape
  obtain ⟨A2, c2, e2⟩ := hb.ses.shape
  obtain ⟨A3, c3, e3⟩ := ha.gs.1.shape
  obtain ⟨A4, c4, e4⟩ := hb.gs.1.shape
  obtain ⟨A5, c5, e5, hl5, hm5, _, _, hc5⟩ := ha.built.1
  obtain ⟨A6, c6, e6, hl6, hm6, _, _, hc6⟩ := hb.built.1
  have hf3 := ha.gs.1.few
  have hf4 := hb.gs.1.few
  have hs1 := ha.ses
  have hs2 := hb.ses
  have hg1 := ha.gs
  have hg2 := hb.gs
  rw [e1] at hs1
  rw [e2] at hs2
  rw [e3] at hg1
  rw [e4] at hg2
  unfold maxLen at hf3 hf4 hm5 hm6
  unfold Im.agg
  rw [e1, e2, e3, e4, e5, e6]
  clear ha hb e1 e2 e3 e4 e5 e6
  have HKA := Lib.hid (((Keep.refl noneOf w).alloc (.cells #[.int .u64 a.now, .int .u64 a.ng, .int .u64 a.nt, .slice A1 a.ses.length c1, .slice A3 a.gs.length c3, .slice A5 a.built.length c5] 30)).alloc (.cells #[.int .u64 b.now, .int .u64 b.ng, .int .u64 b.nt, .slice A2 b.ses.length c2, .slice A4 b.gs.length c4, .slice A6 b.built.length c6] 30))
  have HX := Lib.hid ((Box.new w 30 #[.int .u64 a.now, .int .u64 a.ng, .int .u64 a.nt, .slice A1 a.ses.length c1, .slice A3 a.gs.length c3, .slice A5 a.built.length c5]).alloc (.cells #[.int .u64 b.now, .int .u64 b.ng, .int .u64 b.nt, .slice A2 b.ses.length c2, .slice A4 b.gs.length c4, .slice A6 b.built.length c6] 30))
  have HY : Hid (Box ((w.alloc (.cells #[.int .u64 a.now, .int .u64 a.ng, .int .u64 a.nt, .slice A1 a.ses.length c1, .slice A3 a.gs.length c3, .slice A5 a.built.length c5] 30)).alloc (.cells #[.int .u64 b.now, .int .u64 b.ng, .int .u64 b.nt, .slice A2 b.ses.length c2, .slice A4 b.gs.length c4, .slice A6 b.built.length c6] 30)) (w.heap.size + 1) 30 #[.int .u64 b.now, .int .u64 b.ng, .int .u64 b.nt, .slice A2 b.ses.length c2, .slice A4 b.gs.length c4, .slice A6 b.built.length c6]) := Lib.hid (by
    have := Box.new (w.alloc (.cells #[.int .u64 a.now, .int .u64 a.ng, .int .u64 a.nt, .slice A1 a.ses.length c1, .slice A3 a.gs.length c3, .slice A5 a.built.length c5] 30)) 30 #[.int .u64 b.now, .int .u64 b.ng, .int .u64 b.nt, .slice A2 b.ses.length c2, .slice A4 b.gs.length c4, .slice A6 b.built.length c6]
    rw [show (w.alloc (.cells #[.int .u64 a.now, .int .u64 a.ng, .int .u64 a.nt, .slice A1 a.ses.length c1, .slice A3 a.gs.length c3, .slice A5 a.built.length c5] 30)).heap.size = w.heap.size + 1 from by simp] at this
    exact this)
  have HG1 := Lib.hid hg1
  have HG2 := Lib.hid hg2
  have HS1 := Lib.hid hs1
  have HS2 := Lib.hid hs2
  have HC5 := Lib.hid hc5
  have HC6 := Lib.hid hc6
  clear hg1 hg2 hs1 hs2 hc5 hc6
  go_enter Tryz.func22, Tryz.ntmps22
  go_upto_region 1 with fail
  generalize (w.alloc (.cells #[.int .u64 a.now, .int .u64 a.ng, .int .u64 a.nt, .slice A1 a.ses.length c1, .slice A3 a.gs.length c3, .slice A5 a.built.length c5] 30)).alloc (.cells #[.int .u64 b.now, .int .u64 b.ng, .int .u64 b.nt, .slice A2 b.ses.length c2, .slice A4 b.gs.length c4, .slice A6 b.built.length c6] 30) = w1 at *
  generalize hpa : w.heap.size = pa at *
  generalize hpb : pa + 1 = pb at *
  have HPA := Lib.hid hpa
  clear hpa hpb
  have x3 := HX.out.cell 3
  have y3 := HY.out.cell 3
  obtain ⟨rs, hrs⟩ : ∃ r, decide (a.ses = b.ses) = r := ⟨_, rfl⟩
  have SA : Hid (Calls Tryz.prog 52 #[.slice A1 a.ses.length c1, .slice A2 b.ses.length c2] w1 (TellsB rs w1)) := Lib.hid (by
    rw [← hrs]
    exact same_any_S w1 _ _ _ _ a.ses b.ses (HS1.out.keep HKA.out (fun _ _ _ => id)) (HS2.out.keep HKA.out (fun _ _ _ => id)))
  have HRS := Lib.hid hrs
  clear hrs
  go_wp2_with fail
  refine SA.out.mono ?_
  rintro e w2 ⟨rfl, k2⟩
  have x0 := (HX.out.keep k2 id).cell 0
  have x1 := (HX.out.keep k2 id).cell 1
  have x2 := (HX.out.keep k2 id).cell 2
  have x4 := (HX.out.keep k2 id).cell 4
  have x5 := (HX.out.keep k2 id).cell 5
  have y0 := (HY.out.keep k2 id).cell 0
  have y1 := (HY.out.keep k2 id).cell 1
  have y2 := (HY.out.keep k2 id).cell 2
  have y4 := (HY.out.keep k2 id).cell 4
  have y5 := (HY.out.keep k2 id).cell 5
  have HX2 := Lib.hid (HX.out.keep k2 id)
  have HY2 := Lib.hid (HY.out.keep k2 id)
  have HK2 := Lib.hid (HKA.out.trans k2 (fun _ _ h => h))
  clear SA x3 y3 k2 HX HY HKA
  cases rs with
  | false =>
    have HF := Lib.hid (same_no (a := a) (b := b) (fun e => of_decide_eq_false HRS.out (plain_ses e)) HK2.out)
    go_wp2
    go_ret
    exact HF.out
  | true =>
  rcases hn0 : (a.now != b.now) with _ | _
  case true =>
    have HF := Lib.hid (same_no (a := a) (b := b) (fun e => bne_iff_ne.1 hn0 (plain_now e)) HK2.out)
    go_wp2
    go_ret
    exact HF.out
  case false =>
  rcases hn1 : (a.ng != b.ng) with _ | _
  case true =>
    have HF := Lib.hid (same_no (a := a) (b := b) (fun e => bne_iff_ne.1 hn1 (plain_ng e)) HK2.out)
    go_wp2
    go_ret
    exact HF.out
  case false =>
  rcases hn2 : (a.nt != b.nt) with _ | _
  case true =>
    have HF := Lib.hid (same_no (a := a) (b := b) (fun e => bne_iff_ne.1 hn2 (plain_nt e)) HK2.out)
    go_wp2
    go_ret
    exact HF.out
  case false =>
  rcases hn3 : ((a.gs.length : Int) != (b.gs.length : Int)) with _ | _
  case true =>
    have HF := Lib.hid (same_no (a := a) (b := b) (fun e => bne_iff_ne.1 hn3 (by rw [plain_length e])) HK2.out)
    go_wp2
    go_ret
    exact HF.out
  case false =>
  rcases hn4 : ((a.built.length : Int) != (b.built.length : Int)) with _ | _
  case true =>
    have HF := Lib.hid (same_no (a := a) (b := b) (fun e => bne_iff_ne.1 hn4 (by rw [plain_built e])) HK2.out)
    go_wp2
    go_ret
    exact HF.out
  case false =>
  have HLG : Hid (a.gs.length = b.gs.length) := Lib.hid (by have := bne_eq_false_iff_eq.1 hn3; omega)
  have HLB : Hid (a.built.length = b.built.length) := Lib.hid (by have := bne_eq_false_iff_eq.1 hn4; omega)
  have HP : Hid (a.now = b.now ∧ a.ng = b.ng ∧ a.nt = b.nt ∧ a.ses = b.ses) := Lib.hid ⟨bne_eq_false_iff_eq.1 hn0, bne_eq_false_iff_eq.1 hn1, bne_eq_false_iff_eq.1 hn2, of_decide_eq_true HRS.out⟩
  go_wp2
  clear x0 x1 x2 x4 x5 y0 y1 y2 y4 y5 hn0 hn1 hn2 hn3 hn4 HRS
  go_loopw [6] (fun i wr => ∃ (k : Nat), k ≤ a.gs.length ∧ i = .int .i64 k ∧ Keep noneOf w2 wr ∧ ∀ (j : Nat) (g h : Gm), j < k → a.gs[j]? = some g → b.gs[j]? = some h → g.plain = h.plain) (fun i _ => a.gs.length - (intOf i).toNat)
  case atStart => exact ⟨0, Nat.zero_le _, rfl, Keep.refl _ _, fun j _ _ hj => absurd hj (Nat.not_lt_zero _)⟩
  case round =>
    obtain ⟨k, hk, rfl, hkeep, hall⟩ := hrel
    have HA := Lib.hid hall
    have HKP := Lib.hid hkeep
    have x4 := (HX2.out.keep hkeep id).cell 4
    have y4 := (HY2.out.keep hkeep id).cell 4
    clear hall
    by_cases hlt : k < a.gs.length
    · have hlt' : k < b.gs.length := by rw [← HLG.out]; exact hlt
      have hx : a.gs[k]? = some a.gs[k] := List.getElem?_eq_getElem hlt
      have hy : b.gs[k]? = some b.gs[k] := List.getElem?_eq_getElem hlt'
      have hG := HG1.out.keep (HK2.out.trans hkeep (fun _ _ h => h)) (fun _ _ _ => id)
      have hH := HG2.out.keep (HK2.out.trans hkeep (fun _ _ h => h)) (fun _ _ _ => id)
      generalize a.gs[k] = g at *
      generalize b.gs[k] = h at *
      obtain ⟨tb, o, rfl, hblk, _, hcell⟩ := hG.1.cell (fun _ => rfl) hx
      obtain ⟨tb', o', rfl, hblk', _, hcell'⟩ := hH.1.cell (fun _ => rfl) hy
      have d0 : wr.cell? ⟨tb, o + k * 3, none⟩ = some (.int .u64 g.id) := hcell 0 (by decide)
      have d1 : wr.cell? ⟨tb, o + k * 3 + 1, none⟩ = some g.gv := hcell 1 (by decide)
      have d2 : wr.cell? ⟨tb, o + k * 3 + 2, none⟩ = some g.sv := hcell 2 (by decide)
      have f0 : wr.cell? ⟨tb', o' + k * 3, none⟩ = some (.int .u64 h.id) := hcell' 0 (by decide)
      have f1 : wr.cell? ⟨tb', o' + k * 3 + 1, none⟩ = some h.gv := hcell' 1 (by decide)
      have f2 : wr.cell? ⟨tb', o' + k * 3 + 2, none⟩ = some h.sv := hcell' 2 (by decide)
      have hgl := hG.2 g (List.mem_of_getElem? hx)
      have hhl := hH.2 h (List.mem_of_getElem? hy)
      obtain ⟨rg, hrg⟩ : ∃ r, decide (g.ts.map Tg.plain = h.ts.map Tg.plain) = r := ⟨_, rfl⟩
      obtain ⟨rt, hrt⟩ : ∃ r, decide (g.st = h.st) = r := ⟨_, rfl⟩
      have SG : Hid (∀ w', Keep noneOf wr w' → Calls Tryz.prog 53 #[.agg #[g.gv], .agg #[h.gv]] w' (Told' rg w')) := Lib.hid fun w' k' => by
        rw [← hrg]
        exact sameGraph_any w' _ _ _ _ g.ts h.ts (hgl.keep k' (fun _ _ _ => id)).1 (hhl.keep k' (fun _ _ _ => id)).1
      have SS : Hid (∀ w', Keep noneOf wr w' → Calls Tryz.prog 32 #[g.sv, h.sv] w' (TellsB rt w')) := Lib.hid fun w' k' => by
        rw [← hrt]
        exact same_any w' _ _ _ _ g.st h.st (hgl.keep k' (fun _ _ _ => id)).2 (hhl.keep k' (fun _ _ _ => id)).2
      have MC : Hid (∀ w', Keep noneOf wr w' → w'.cell? ⟨pa, 4, none⟩ = some (.slice (some ⟨tb, o, none⟩) a.gs.length c3) ∧ w'.cell? ⟨pb, 4, none⟩ = some (.slice (some ⟨tb', o', none⟩) b.gs.length c4) ∧ w'.cell? ⟨tb, o + k * 3, none⟩ = some (.int .u64 g.id) ∧ w'.cell? ⟨tb, o + k * 3 + 1, none⟩ = some g.gv ∧ w'.cell? ⟨tb, o + k * 3 + 2, none⟩ = some g.sv ∧ w'.cell? ⟨tb', o' + k * 3, none⟩ = some (.int .u64 h.id) ∧ w'.cell? ⟨tb', o' + k * 3 + 1, none⟩ = some h.gv ∧ w'.cell? ⟨tb', o' + k * 3 + 2, none⟩ = some h.sv) := Lib.hid fun w' k' =>
        ⟨(HX2.out.keep (HKP.out.trans k' (fun _ _ h => h)) id).cell 4, (HY2.out.keep (HKP.out.trans k' (fun _ _ h => h)) id).cell 4, (k'.cell (p := ⟨tb, o + k * 3, none⟩) hblk id).trans d0, (k'.cell (p := ⟨tb, o + k * 3 + 1, none⟩) hblk id).trans d1, (k'.cell (p := ⟨tb, o + k * 3 + 2, none⟩) hblk id).trans d2, (k'.cell (p := ⟨tb', o' + k * 3, none⟩) hblk' id).trans f0, (k'.cell (p := ⟨tb', o' + k * 3 + 1, none⟩) hblk' id).trans f1, (k'.cell (p := ⟨tb', o' + k * 3 + 2, none⟩) hblk' id).trans f2⟩
      have q0 : (0 : Int) ≤ (k : Int) := by omega
      have q1 : (k : Int) < (a.gs.length : Int) := by omega
      have q2 : (k : Int) < (b.gs.length : Int) := by omega
      have HXY := Lib.hid (And.intro hx hy)
      have HRG := Lib.hid hrg
      have HRT := Lib.hid hrt
      have K0 := (Keep.refl noneOf wr).drew
      obtain ⟨gi, gv, gw, gt, gst⟩ := g
      obtain ⟨hi, hv, hw, ht, hst⟩ := h
      dsimp only at SG SS MC
      clear hG hH hx hy hgl hhl hcell hcell' d0 d1 d2 f0 f1 f2 hrg hrt hkeep hblk hblk'
      go_upto_region 7 with fail
      refine wp_region_held_drew (S := fun w' => Keep noneOf wr w') (by kernel_rfl) (K0) (fun hHeld => ?_)
      refine' wpAnyH_take (i := 0) (v := _) rfl (by kernel_rfl) (by kernel_rfl) (by kernel_rfl) (fun _ _ _ h => h) (Or.inl ⟨by kernel_rfl, ?hy0⟩) (by assumption) ?_
      case hy0 => intro w' hSw; obtain ⟨_, _, _, _, _, _, _, _⟩ := MC.out w' hSw; go_simp; try with_reducible rfl
      simp only [Act.put, List.getElem_toArray, List.getElem_cons_zero, List.getElem_cons_succ, List.setIfInBounds_toArray, List.set_cons_zero, List.set_cons_succ]
      refine' wpAnyH_take (i := 1) (v := _) rfl (by kernel_rfl) (by kernel_rfl) (by kernel_rfl) (fun _ _ _ h => h) (Or.inl ⟨by kernel_rfl, ?hy1⟩) (by assumption) ?_
      case hy1 => intro w' hSw; obtain ⟨_, _, _, _, _, _, _, _⟩ := MC.out w' hSw; go_simp; try with_reducible rfl
      simp only [Act.put, List.getElem_toArray, List.getElem_cons_zero, List.getElem_cons_succ, List.setIfInBounds_toArray, List.set_cons_zero, List.set_cons_succ]
      refine' wpAnyH_take (i := 2) (v := _) rfl (by kernel_rfl) (by kernel_rfl) (by kernel_rfl) (fun _ _ _ h => h) (Or.inl ⟨by kernel_rfl, ?hy2⟩) (by assumption) ?_
      case hy2 => intro w' hSw; obtain ⟨_, _, _, _, _, _, _, _⟩ := MC.out w' hSw; go_simp; try with_reducible rfl
      simp only [Act.put, List.getElem_toArray, List.getElem_cons_zero, List.getElem_cons_succ, List.setIfInBounds_toArray, List.set_cons_zero, List.set_cons_succ]
      refine' wpAnyH_take (i := 3) (v := _) rfl (by kernel_rfl) (by kernel_rfl) (by kernel_rfl) (fun _ _ _ h => h) (Or.inl ⟨by kernel_rfl, ?hy3⟩) (by assumption) ?_
      case hy3 => intro w' hSw; obtain ⟨_, _, _, _, _, _, _, _⟩ := MC.out w' hSw; go_simp; try with_reducible rfl
      simp only [Act.put, List.getElem_toArray, List.getElem_cons_zero, List.getElem_cons_succ, List.setIfInBounds_toArray, List.set_cons_zero, List.set_cons_succ]
      refine' wpAnyH_take (i := 4) (v := _) rfl (by kernel_rfl) (by kernel_rfl) (by kernel_rfl) (fun _ _ _ h => h) (Or.inl ⟨by kernel_rfl, ?hy4⟩) (by assumption) ?_
      case hy4 => intro w' hSw; obtain ⟨_, _, _, _, _, _, _, _⟩ := MC.out w' hSw; go_simp; try with_reducible rfl
      simp only [Act.put, List.getElem_toArray, List.getElem_cons_zero, List.getElem_cons_succ, List.setIfInBounds_toArray, List.set_cons_zero, List.set_cons_succ]
      refine' wpAnyH_take (i := 5) (v := _) rfl (by kernel_rfl) (by kernel_rfl) (by kernel_rfl) (fun _ _ _ h => h) (Or.inl ⟨by kernel_rfl, ?hy5⟩) (by assumption) ?_
      case hy5 => intro w' hSw; obtain ⟨_, _, _, _, _, _, _, _⟩ := MC.out w' hSw; go_simp; try with_reducible rfl
      simp only [Act.put, List.getElem_toArray, List.getElem_cons_zero, List.getElem_cons_succ, List.setIfInBounds_toArray, List.set_cons_zero, List.set_cons_succ]
      refine' wpAnyH_take (i := 6) (v := _) rfl (by kernel_rfl) (by kernel_rfl) (by kernel_rfl) (fun _ _ _ h => h) (Or.inl ⟨by kernel_rfl, ?hy6⟩) (by assumption) ?_
      case hy6 => intro w' hSw; obtain ⟨_, _, _, _, _, _, _, _⟩ := MC.out w' hSw; go_simp; try with_reducible rfl
      simp only [Act.put, List.getElem_toArray, List.getElem_cons_zero, List.getElem_cons_succ, List.setIfInBounds_toArray, List.set_cons_zero, List.set_cons_succ]
      refine' wpAnyH_take (i := 7) (v := _) rfl (by kernel_rfl) (by kernel_rfl) (by kernel_rfl) (fun _ _ _ h => h) (Or.inl ⟨by kernel_rfl, ?hy7⟩) (by assumption) ?_
      case hy7 => intro w' hSw; obtain ⟨_, _, _, _, _, _, _, _⟩ := MC.out w' hSw; go_simp; try with_reducible rfl
      simp only [Act.put, List.getElem_toArray, List.getElem_cons_zero, List.getElem_cons_succ, List.setIfInBounds_toArray, List.set_cons_zero, List.set_cons_succ]
      refine' wpAnyH_take (i := 8) (v := _) rfl (by kernel_rfl) (by kernel_rfl) (by kernel_rfl) (fun _ _ _ h => h) (Or.inl ⟨by kernel_rfl, ?hy8⟩) (by assumption) ?_
      case hy8 => intro w' hSw; obtain ⟨_, _, _, _, _, _, _, _⟩ := MC.out w' hSw; go_simp; try with_reducible rfl
      simp only [Act.put, List.getElem_toArray, List.getElem_cons_zero, List.getElem_cons_succ, List.setIfInBounds_toArray, List.set_cons_zero, List.set_cons_succ]
      refine' wpAnyH_take (i := 9) (v := _) rfl (by kernel_rfl) (by kernel_rfl) (by kernel_rfl) (fun _ _ _ h => h) (Or.inl ⟨by kernel_rfl, ?hy9⟩) (by assumption) ?_
      case hy9 => intro w' hSw; obtain ⟨_, _, _, _, _, _, _, _⟩ := MC.out w' hSw; go_simp; try with_reducible rfl
      simp only [Act.put, List.getElem_toArray, List.getElem_cons_zero, List.getElem_cons_succ, List.setIfInBounds_toArray, List.set_cons_zero, List.set_cons_succ]
      refine' wpAnyH_take (i := 10) (v := _) rfl (by kernel_rfl) (by kernel_rfl) (by kernel_rfl) (fun _ _ _ h => h) (Or.inl ⟨by kernel_rfl, ?hy10⟩) (by assumption) ?_
      case hy10 => intro w' hSw; obtain ⟨_, _, _, _, _, _, _, _⟩ := MC.out w' hSw; go_simp; try with_reducible rfl
      simp only [Act.put, List.getElem_toArray, List.getElem_cons_zero, List.getElem_cons_succ, List.setIfInBounds_toArray, List.set_cons_zero, List.set_cons_succ]
      refine' wpAnyH_take (i := 11) (v := _) rfl (by kernel_rfl) (by kernel_rfl) (by kernel_rfl) (fun _ _ _ h => h) (Or.inl ⟨by kernel_rfl, ?hy11⟩) (by assumption) ?_
      case hy11 => intro w' hSw; obtain ⟨_, _, _, _, _, _, _, _⟩ := MC.out w' hSw; go_simp; try with_reducible rfl
      simp only [Act.put, List.getElem_toArray, List.getElem_cons_zero, List.getElem_cons_succ, List.setIfInBounds_toArray, List.set_cons_zero, List.set_cons_succ]
      refine wpAnyH_ready (rs := [12]) (by kernel_rfl) (by simp) (AllReadyH.cons rfl (fun K hK => ?_) AllReadyH.nil)
      go_simp
      go_at_call 53
      refine (SG.out _ K0).mono ?_
      rintro e w3 ⟨rfl, k3⟩
      go_wp2_with fail
      refine hK.out _ _ (K0.trans k3 (fun _ _ h => h)) (fun hHeld => ?_)
      clear hK K
      try simp only [Act.put, List.getElem_toArray, List.getElem_cons_zero, List.getElem_cons_succ, List.setIfInBounds_toArray, List.set_cons_zero, List.set_cons_succ]
      refine' wpAnyH_take (i := 13) (v := _) rfl (by kernel_rfl) (by kernel_rfl) (by kernel_rfl) (fun _ _ _ h => h) (Or.inl ⟨by kernel_rfl, ?hy13⟩) (by assumption) ?_
      case hy13 => intro w' hSw; obtain ⟨_, _, _, _, _, _, _, _⟩ := MC.out w' hSw; go_simp; try with_reducible rfl
      simp only [Act.put, List.getElem_toArray, List.getElem_cons_zero, List.getElem_cons_succ, List.setIfInBounds_toArray, List.set_cons_zero, List.set_cons_succ]
      refine wpAnyH_done (by kernel_rfl) ?_ _
      have K3 : Keep noneOf wr w3 := K0.trans k3 (fun _ _ h => h)
      have K4 := Keep.drew K3
      clear SG k3 hHeld
      go_upto_region 8 with fail
      refine wp_region_held_drew (S := fun w' => Keep noneOf wr w') (by kernel_rfl) (K4) (fun hHeld => ?_)
      refine' wpAnyH_take (i := 0) (v := _) rfl (by kernel_rfl) (by kernel_rfl) (by kernel_rfl) (fun _ _ _ h => h) (Or.inl ⟨by kernel_rfl, ?hy0⟩) (by assumption) ?_
      case hy0 => intro w' hSw; obtain ⟨_, _, _, _, _, _, _, _⟩ := MC.out w' hSw; go_simp; try with_reducible rfl
      simp only [Act.put, List.getElem_toArray, List.getElem_cons_zero, List.getElem_cons_succ, List.setIfInBounds_toArray, List.set_cons_zero, List.set_cons_succ]
      refine' wpAnyH_take (i := 1) (v := _) rfl (by kernel_rfl) (by kernel_rfl) (by kernel_rfl) (fun _ _ _ h => h) (Or.inl ⟨by kernel_rfl, ?hy1⟩) (by assumption) ?_
      case hy1 => intro w' hSw; obtain ⟨_, _, _, _, _, _, _, _⟩ := MC.out w' hSw; go_simp; try with_reducible rfl
      simp only [Act.put, List.getElem_toArray, List.getElem_cons_zero, List.getElem_cons_succ, List.setIfInBounds_toArray, List.set_cons_zero, List.set_cons_succ]
      refine' wpAnyH_take (i := 2) (v := _) rfl (by kernel_rfl) (by kernel_rfl) (by kernel_rfl) (fun _ _ _ h => h) (Or.inl ⟨by kernel_rfl, ?hy2⟩) (by assumption) ?_
      case hy2 => intro w' hSw; obtain ⟨_, _, _, _, _, _, _, _⟩ := MC.out w' hSw; go_simp; try with_reducible rfl
      simp only [Act.put, List.getElem_toArray, List.getElem_cons_zero, List.getElem_cons_succ, List.setIfInBounds_toArray, List.set_cons_zero, List.set_cons_succ]
      refine' wpAnyH_take (i := 3) (v := _) rfl (by kernel_rfl) (by kernel_rfl) (by kernel_rfl) (fun _ _ _ h => h) (Or.inl ⟨by kernel_rfl, ?hy3⟩) (by assumption) ?_
      case hy3 => intro w' hSw; obtain ⟨_, _, _, _, _, _, _, _⟩ := MC.out w' hSw; go_simp; try with_reducible rfl
      simp only [Act.put, List.getElem_toArray, List.getElem_cons_zero, List.getElem_cons_succ, List.setIfInBounds_toArray, List.set_cons_zero, List.set_cons_succ]
      refine' wpAnyH_take (i := 4) (v := _) rfl (by kernel_rfl) (by kernel_rfl) (by kernel_rfl) (fun _ _ _ h => h) (Or.inl ⟨by kernel_rfl, ?hy4⟩) (by assumption) ?_
      case hy4 => intro w' hSw; obtain ⟨_, _, _, _, _, _, _, _⟩ := MC.out w' hSw; go_simp; try with_reducible rfl
      simp only [Act.put, List.getElem_toArray, List.getElem_cons_zero, List.getElem_cons_succ, List.setIfInBounds_toArray, List.set_cons_zero, List.set_cons_succ]
      refine' wpAnyH_take (i := 5) (v := _) rfl (by kernel_rfl) (by kernel_rfl) (by kernel_rfl) (fun _ _ _ h => h) (Or.inl ⟨by kernel_rfl, ?hy5⟩) (by assumption) ?_
      case hy5 => intro w' hSw; obtain ⟨_, _, _, _, _, _, _, _⟩ := MC.out w' hSw; go_simp; try with_reducible rfl
      simp only [Act.put, List.getElem_toArray, List.getElem_cons_zero, List.getElem_cons_succ, List.setIfInBounds_toArray, List.set_cons_zero, List.set_cons_succ]
      refine' wpAnyH_take (i := 6) (v := _) rfl (by kernel_rfl) (by kernel_rfl) (by kernel_rfl) (fun _ _ _ h => h) (Or.inl ⟨by kernel_rfl, ?hy6⟩) (by assumption) ?_
      case hy6 => intro w' hSw; obtain ⟨_, _, _, _, _, _, _, _⟩ := MC.out w' hSw; go_simp; try with_reducible rfl
      simp only [Act.put, List.getElem_toArray, List.getElem_cons_zero, List.getElem_cons_succ, List.setIfInBounds_toArray, List.set_cons_zero, List.set_cons_succ]
      refine' wpAnyH_take (i := 7) (v := _) rfl (by kernel_rfl) (by kernel_rfl) (by kernel_rfl) (fun _ _ _ h => h) (Or.inl ⟨by kernel_rfl, ?hy7⟩) (by assumption) ?_
      case hy7 => intro w' hSw; obtain ⟨_, _, _, _, _, _, _, _⟩ := MC.out w' hSw; go_simp; try with_reducible rfl
      simp only [Act.put, List.getElem_toArray, List.getElem_cons_zero, List.getElem_cons_succ, List.setIfInBounds_toArray, List.set_cons_zero, List.set_cons_succ]
      refine' wpAnyH_take (i := 8) (v := _) rfl (by kernel_rfl) (by kernel_rfl) (by kernel_rfl) (fun _ _ _ h => h) (Or.inl ⟨by kernel_rfl, ?hy8⟩) (by assumption) ?_
      case hy8 => intro w' hSw; obtain ⟨_, _, _, _, _, _, _, _⟩ := MC.out w' hSw; go_simp; try with_reducible rfl
      simp only [Act.put, List.getElem_toArray, List.getElem_cons_zero, List.getElem_cons_succ, List.setIfInBounds_toArray, List.set_cons_zero, List.set_cons_succ]
      refine' wpAnyH_take (i := 9) (v := _) rfl (by kernel_rfl) (by kernel_rfl) (by kernel_rfl) (fun _ _ _ h => h) (Or.inl ⟨by kernel_rfl, ?hy9⟩) (by assumption) ?_
      case hy9 => intro w' hSw; obtain ⟨_, _, _, _, _, _, _, _⟩ := MC.out w' hSw; go_simp; try with_reducible rfl
      simp only [Act.put, List.getElem_toArray, List.getElem_cons_zero, List.getElem_cons_succ, List.setIfInBounds_toArray, List.set_cons_zero, List.set_cons_succ]
      refine' wpAnyH_take (i := 10) (v := _) rfl (by kernel_rfl) (by kernel_rfl) (by kernel_rfl) (fun _ _ _ h => h) (Or.inl ⟨by kernel_rfl, ?hy10⟩) (by assumption) ?_
      case hy10 => intro w' hSw; obtain ⟨_, _, _, _, _, _, _, _⟩ := MC.out w' hSw; go_simp; try with_reducible rfl
      simp only [Act.put, List.getElem_toArray, List.getElem_cons_zero, List.getElem_cons_succ, List.setIfInBounds_toArray, List.set_cons_zero, List.set_cons_succ]
      refine' wpAnyH_take (i := 11) (v := _) rfl (by kernel_rfl) (by kernel_rfl) (by kernel_rfl) (fun _ _ _ h => h) (Or.inl ⟨by kernel_rfl, ?hy11⟩) (by assumption) ?_
      case hy11 => intro w' hSw; obtain ⟨_, _, _, _, _, _, _, _⟩ := MC.out w' hSw; go_simp; try with_reducible rfl
      simp only [Act.put, List.getElem_toArray, List.getElem_cons_zero, List.getElem_cons_succ, List.setIfInBounds_toArray, List.set_cons_zero, List.set_cons_succ]
      refine wpAnyH_ready (rs := [12]) (by kernel_rfl) (by simp) (AllReadyH.cons rfl (fun K hK => ?_) AllReadyH.nil)
      go_simp
      go_at_call 32
      refine (SS.out _ K4).mono ?_
      rintro e w5 ⟨rfl, k5⟩
      go_wp2_with fail
      refine hK.out _ _ (K4.trans k5 (fun _ _ h => h)) (fun hHeld => ?_)
      clear hK K
      try simp only [Act.put, List.getElem_toArray, List.getElem_cons_zero, List.getElem_cons_succ, List.setIfInBounds_toArray, List.set_cons_zero, List.set_cons_succ]
      refine' wpAnyH_take (i := 13) (v := _) rfl (by kernel_rfl) (by kernel_rfl) (by kernel_rfl) (fun _ _ _ h => h) (Or.inl ⟨by kernel_rfl, ?hy13⟩) (by assumption) ?_
      case hy13 => intro w' hSw; obtain ⟨_, _, _, _, _, _, _, _⟩ := MC.out w' hSw; go_simp; try with_reducible rfl
      simp only [Act.put, List.getElem_toArray, List.getElem_cons_zero, List.getElem_cons_succ, List.setIfInBounds_toArray, List.set_cons_zero, List.set_cons_succ]
      refine wpAnyH_done (by kernel_rfl) ?_ _
      have K5 : Keep noneOf wr w5 := K4.trans k5 (fun _ _ h => h)
      have HK5 := Lib.hid (HKP.out.trans K5 (fun _ _ h => h))
      obtain ⟨x4, y4, d0, _, _, f0, _, _⟩ := MC.out w5 K5
      clear SS MC K0 K3 K4 K5 k5 hHeld
      cases rg with
      | false =>
        have HF := Lib.hid (fun n => same_no (a := a) (b := b) (fun e => of_decide_eq_false HRG.out (gm_eq.1 (plain_gs e HXY.out.1 HXY.out.2)).2.1) (HK2.out.trans (HK5.out.drewN n) (fun _ _ h => h)))
        go_wp2
        go_quiet (fail)
        go_wp2
        go_ret
        exact HF.out _
      | true =>
      cases rt with
      | false =>
        have HF := Lib.hid (fun n => same_no (a := a) (b := b) (fun e => of_decide_eq_false HRT.out (gm_eq.1 (plain_gs e HXY.out.1 HXY.out.2)).2.2) (HK2.out.trans (HK5.out.drewN n) (fun _ _ h => h)))
        go_wp2
        go_quiet (fail)
        go_wp2
        go_ret
        exact HF.out _
      | true =>
      rcases hni : (gi != hi) with _ | _
      case true =>
        have HF := Lib.hid (fun n => same_no (a := a) (b := b) (fun e => bne_iff_ne.1 hni (gm_eq.1 (plain_gs e HXY.out.1 HXY.out.2)).1) (HK2.out.trans (HK5.out.drewN n) (fun _ _ h => h)))
        go_wp2
        go_quiet (fail)
        go_wp2
        go_ret
        exact HF.out _
      case false =>
        have HE : Hid (Gm.plain ⟨gi, gv, gw, gt, gst⟩ = Gm.plain ⟨hi, hv, hw, ht, hst⟩) := Lib.hid (gm_eq.2 ⟨bne_eq_false_iff_eq.1 hni, of_decide_eq_true HRG.out, of_decide_eq_true HRT.out⟩)
        go_wp2
        go_quiet (fail)
        go_wp2
        go_roundw
        case rel =>
          refine ⟨k + 1, by omega, by go_num, HK5.out.drewN _, fun j g h hj h1 h2 => ?_⟩
          rcases Nat.lt_or_ge j k with h3 | h3
          · exact HA.out j g h h3 h1 h2
          · obtain rfl : j = k := by omega
            rw [HXY.out.1] at h1
            rw [HXY.out.2] at h2
            injection h1 with h1
            injection h2 with h2
            rw [← h1, ← h2]
            exact HE.out
        case measure => simp only [intOf]; omega
    · have hke : k = a.gs.length := by omega
      subst hke
      have HALL : Hid (∀ (j : Nat) (g h : Gm), a.gs[j]? = some g → b.gs[j]? = some h → g.plain = h.plain) := Lib.hid (fun j g h h1 h2 => HA.out j g h (List.getElem?_eq_some_iff.1 h1).1 h1 h2)
      have hkn : ¬ ((a.gs.length : Int) < (a.gs.length : Int)) := by omega
      have HKW := Lib.hid (HK2.out.trans HKP.out (fun _ _ h => h))
      have HX3 := Lib.hid (HX2.out.keep HKP.out id)
      have HY3 := Lib.hid (HY2.out.keep HKP.out id)
      clear HA HKP HX2 HY2 HK2 hkeep hlt
      go_wp2
      clear x4 y4 hkn
      generalize wr = w9 at *
      go_loopw [9] (fun i wr => ∃ (k : Nat), k ≤ a.built.length ∧ i = .int .i64 k ∧ Keep noneOf w9 wr ∧ ∀ (j : Nat), j < k → a.built[j]? = b.built[j]?) (fun i _ => a.built.length - (intOf i).toNat)
      case atStart => exact ⟨0, Nat.zero_le _, rfl, Keep.refl _ _, fun j hj => absurd hj (Nat.not_lt_zero _)⟩
      case round =>
        obtain ⟨k, hk, rfl, hkeep, hall⟩ := hrel
        have HA := Lib.hid hall
        have HKP := Lib.hid hkeep
        have x5 := (HX3.out.keep hkeep id).cell 5
        have y5 := (HY3.out.keep hkeep id).cell 5
        clear hall
        by_cases hlt : k < a.built.length
        · have hlt' : k < b.built.length := by rw [← HLB.out]; exact hlt
          obtain ⟨ad, rfl, hsp, hblk, _, hcell⟩ := HC5.out (by omega)
          obtain ⟨tb, o, sp⟩ := ad
          simp only at hsp hblk
          subst hsp
          obtain ⟨ad2, rfl, hsp2, hblk2, _, hcell2⟩ := HC6.out (by omega)
          obtain ⟨tb', o', sp2⟩ := ad2
          simp only at hsp2 hblk2
          subst hsp2
          have kw := HKW.out.trans hkeep (fun _ _ h => h)
          have d0 : wr.cell? ⟨tb, o + k, none⟩ = some (.int .u64 (a.built[k] : Int)) := (kw.cell (p := ⟨tb, o + k, none⟩) (by show tb < w.heap.size; rw [HPA.out]; exact hblk) id).trans (hcell k _ (by rw [List.getElem?_map, List.getElem?_eq_getElem hlt]; rfl))
          have f0 : wr.cell? ⟨tb', o' + k, none⟩ = some (.int .u64 (b.built[k] : Int)) := (kw.cell (p := ⟨tb', o' + k, none⟩) (by show tb' < w.heap.size; rw [HPA.out]; exact hblk2) id).trans (hcell2 k _ (by rw [List.getElem?_map, List.getElem?_eq_getElem hlt']; rfl))
          have HXY := Lib.hid (And.intro (List.getElem?_eq_getElem hlt) (List.getElem?_eq_getElem hlt'))
          generalize a.built[k] = x at *
          generalize b.built[k] = y at *
          have q0 : (0 : Int) ≤ (k : Int) := by omega
          have q1 : (k : Int) < (a.built.length : Int) := by omega
          have q2 : (k : Int) < (b.built.length : Int) := by omega
          clear hcell hcell2 kw hkeep hblk hblk2
          rcases hni : ((x : Int) != (y : Int)) with _ | _
          case true =>
            have HF := Lib.hid (fun n => same_no (a := a) (b := b) (fun e => by
              have h1 := HXY.out
              rw [plain_built e, h1.2] at h1
              have h2 := h1.1
              injection h2 with h2
              exact bne_iff_ne.1 hni (by rw [h2])) (HKW.out.trans (HKP.out.drewN n) (fun _ _ h => h)))
            go_wp2
            go_quiet (fail)
            go_wp2
            go_ret
            exact HF.out _
          case false =>
            have HE : Hid (x = y) := Lib.hid (by have := bne_eq_false_iff_eq.1 hni; omega)
            go_wp2
            go_quiet (fail)
            go_wp2
            go_roundw
            case rel =>
              refine ⟨k + 1, by omega, by go_num, HKP.out.drewN _, fun j hj => ?_⟩
              rcases Nat.lt_or_ge j k with h3 | h3
              · exact HA.out j h3
              · obtain rfl : j = k := by omega
                rw [HXY.out.1, HXY.out.2, HE.out]
            case measure => simp only [intOf]; omega
        · have hke : k = a.built.length := by omega
          subst hke
          have hkn : ¬ ((a.built.length : Int) < (a.built.length : Int)) := by omega
          have HF := Lib.hid (same_yes (a := a) (b := b) (plain_eq HP.out.1 HP.out.2.1 HP.out.2.2.1 HP.out.2.2.2 HLG.out HALL.out (List.ext_getElem? fun j => by
            rcases Nat.lt_or_ge j a.built.length with h | h
            · exact HA.out j h
            · rw [List.getElem?_eq_none h, List.getElem?_eq_none (by rw [← HLB.out]; exact h)])) (HKW.out.trans HKP.out (fun _ _ h => h)))
          clear hlt hkeep
          go_wp2
          go_ret
          exact HF.out
end Go.Proofs.YtkoikmdmejhhhaaGreat
namespace Go.Proofs.YtkoikmdmejhhhaaGreat
open Go.RowKit
def foundI (r : Option Nat) : Int := match r with
  | none => -1
  | some i => (i : Int)
def TellsI (n : Int) (w : World) (e : Ending) (w' : World) : Prop := e = .returned (.int .i64 n) ∧ Keep noneOf w w'
theorem tells_i {n m : Int} {w w' : World} (h : m = n) (k : Keep noneOf w w') : TellsI n w (.returned (.int .i64 m)) w' := ⟨by rw [h], k⟩
set_option maxRecDepth 100000 in
set_option maxHeartbeats 8000000 in
set_option linter.unusedSimpArgs false in
theorem rfind_any (w : World) (D : Nat → Prop) (a : Im) (ha : a.lies w D) (id : Int) :
    Calls Tryz.prog 27 #[a.agg, .int .u64 id] w (TellsI (foundI (findG a.plain id)) w) := by
  obtain ⟨A1, c1, e1⟩ := ha.ses.shape
  obtain ⟨A3, c3, e3⟩ := ha.gs.1.shape
  obtain ⟨A5, c5, e5, _⟩ := ha.built.1
  have hf3 := ha.gs.1.few
  have hg1 := ha.gs
  rw [e3] at hg1
  unfold maxLen at hf3
  unfold Im.agg
  rw [e1, e3, e5]
  clear ha e1 e3 e5
  have HKA := Lib.hid ((Keep.refl noneOf w).alloc (.cells #[.int .u64 a.now, .int .u64 a.ng, .int .u64 a.nt, .slice A1 a.ses.length c1, .slice A3 a.gs.length c3, .slice A5 a.built.length c5] 30))
  have HX := Lib.hid (Box.new w 30 #[.int .u64 a.now, .int .u64 a.ng, .int .u64 a.nt, .slice A1 a.ses.length c1, .slice A3 a.gs.length c3, .slice A5 a.built.length c5])
  have HG1 := Lib.hid hg1
  clear hg1
  go_enter Tryz.func27, Tryz.ntmps27
  go_upto_region 1 with fail
  generalize w.alloc (.cells #[.int .u64 a.now, .int .u64 a.ng, .int .u64 a.nt, .slice A1 a.ses.length c1, .slice A3 a.gs.length c3, .slice A5 a.built.length c5] 30) = w1 at *
  generalize hpa : w.heap.size = pa at *
  clear hpa
  go_wp2
  go_loopw [5] (fun i wr => ∃ (k : Nat), k ≤ a.gs.length ∧ i = .int .i64 k ∧ Keep noneOf w1 wr ∧ ∀ (j : Nat) (g : Gm), j < k → a.gs[j]? = some g → g.id ≠ id) (fun i _ => a.gs.length - (intOf i).toNat)
  case atStart => exact ⟨0, Nat.zero_le _, rfl, Keep.refl _ _, fun j _ hj => absurd hj (Nat.not_lt_zero _)⟩
  case round =>
    obtain ⟨k, hk, rfl, hkeep, hall⟩ := hrel
    have HA := Lib.hid hall
    have HKP := Lib.hid hkeep
    have x4 := (HX.out.keep hkeep (fun h => h)).cell 4
    clear hall
    by_cases hlt : k < a.gs.length
    · have hx : a.gs[k]? = some a.gs[k] := List.getElem?_eq_getElem hlt
      have hG := HG1.out.keep (HKA.out.trans hkeep (fun _ _ h => h)) (fun _ _ _ h => h)
      generalize a.gs[k] = g at *
      obtain ⟨tb, o, rfl, hblk, _, hcell⟩ := hG.1.cell (fun _ => rfl) hx
      have d0 : wr.cell? ⟨tb, o + k * 3, none⟩ = some (.int .u64 g.id) := hcell 0 (by decide)
      have q0 : (0 : Int) ≤ (k : Int) := by omega
      have q1 : (k : Int) < (a.gs.length : Int) := by omega
      have HX1 := Lib.hid hx
      clear hG hx hcell hkeep hblk
      rcases hni : (g.id == id) with _ | _
      case true =>
        have HF : Hid (TellsI (foundI (findG a.plain id)) w (.returned (.int .i64 k)) wr) := Lib.hid (tells_i (by
          have h1 := findG_some (q := a.plain) (gm_at HX1.out) (beq_iff_eq.1 hni) (fun j b hj hb e => by
            obtain ⟨gj, hgj, rfl⟩ := gm_of hb
            exact HA.out j gj hj hgj e)
          rw [h1]
          rfl) (HKA.out.trans HKP.out (fun _ _ h => h)))
        go_wp2
        go_ret
        exact HF.out
      case false =>
        have HE : Hid (g.id ≠ id) := Lib.hid (beq_eq_false_iff_ne.1 hni)
        go_wp2
        go_roundw
        case rel =>
          refine ⟨k + 1, by omega, by go_num, HKP.out, fun j b hj h1 => ?_⟩
          rcases Nat.lt_or_ge j k with h3 | h3
          · exact HA.out j b h3 h1
          · obtain rfl : j = k := by omega
            rw [HX1.out] at h1
            injection h1 with h1
            rw [← h1]
            exact HE.out
        case measure => simp only [intOf]; omega
    · have hke : k = a.gs.length := by omega
      subst hke
      have hkn : ¬ ((a.gs.length : Int) < (a.gs.length : Int)) := by omega
      have HF : Hid (TellsI (foundI (findG a.plain id)) w (.returned (.int .i64 (-1))) wr) := Lib.hid (tells_i (by
        have h1 := findG_none (q := a.plain) (id := id) (fun j b hb e => by
          obtain ⟨gj, hgj, rfl⟩ := gm_of hb
          exact HA.out j gj (List.getElem?_eq_some_iff.1 hgj).1 hgj e)
        rw [h1]
        rfl) (HKA.out.trans HKP.out (fun _ _ h => h)))
      clear HA hlt hkeep
      go_wp2
      go_ret
      exact HF.out
end Go.Proofs.YtkoikmdmejhhhaaGreat
namespace Go.Proofs.YtkoikmdmejhhhaaGreat
open Go.RowKit Go.ChangeShapes Go.WideShapes Go.Deep
set_option maxRecDepth 100000 in
set_option maxHeartbeats 8000000 in
set_option linter.unusedSimpArgs false in
theorem fair_any (w : World) (c : Cm) (a : An) (now : Int) (x y : Pst) (Ag : Option Addr) (cg : Nat) (eg : c.gv = .slice Ag c.ts.length cg) (hF : Fair c.plain a now x y) :
    Calls Tryz.prog 29 #[c.agg, a.agg, .int .u64 now, x.agg, y.agg] w (TellsB true w) := by
  obtain ⟨kd, ses, seq, gv, ts, id, tok, good, time⟩ := c
  obtain ⟨code, aid, atok, aunt, atgt, acmd⟩ := a
  obtain ⟨xs, xt, xu⟩ := x
  obtain ⟨ys, yt, yu⟩ := y
  dsimp only at eg
  subst eg
  unfold Fair Cm.plain at hF
  dsimp only at hF
  have HB1 := Lib.hid ((((Box.new w 37 #[.int .i64 kd, .int .u64 ses, .int .u64 seq, .slice Ag ts.length cg, .int .u64 id, .int .u64 tok, .bool good, .int .u64 time]).alloc (.cells #[.int .i64 code, .int .u64 aid, .int .u64 atok, .int .u64 aunt, .string atgt, .string acmd] 40)).alloc (.cells #[.int .i64 xs, .int .u64 xt, .int .u64 xu] 64)).alloc (.cells #[.int .i64 ys, .int .u64 yt, .int .u64 yu] 64))
  have HB2 := Lib.hid (((Box.new (w.alloc (.cells #[.int .i64 kd, .int .u64 ses, .int .u64 seq, .slice Ag ts.length cg, .int .u64 id, .int .u64 tok, .bool good, .int .u64 time] 37)) 40 #[.int .i64 code, .int .u64 aid, .int .u64 atok, .int .u64 aunt, .string atgt, .string acmd]).alloc (.cells #[.int .i64 xs, .int .u64 xt, .int .u64 xu] 64)).alloc (.cells #[.int .i64 ys, .int .u64 yt, .int .u64 yu] 64))
  have HB3 := Lib.hid ((Box.new ((w.alloc (.cells #[.int .i64 kd, .int .u64 ses, .int .u64 seq, .slice Ag ts.length cg, .int .u64 id, .int .u64 tok, .bool good, .int .u64 time] 37)).alloc (.cells #[.int .i64 code, .int .u64 aid, .int .u64 atok, .int .u64 aunt, .string atgt, .string acmd] 40)) 64 #[.int .i64 xs, .int .u64 xt, .int .u64 xu]).alloc (.cells #[.int .i64 ys, .int .u64 yt, .int .u64 yu] 64))
  have HB4 := Lib.hid (Box.new (((w.alloc (.cells #[.int .i64 kd, .int .u64 ses, .int .u64 seq, .slice Ag ts.length cg, .int .u64 id, .int .u64 tok, .bool good, .int .u64 time] 37)).alloc (.cells #[.int .i64 code, .int .u64 aid, .int .u64 atok, .int .u64 aunt, .string atgt, .string acmd] 40)).alloc (.cells #[.int .i64 xs, .int .u64 xt, .int .u64 xu] 64)) 64 #[.int .i64 ys, .int .u64 yt, .int .u64 yu])
  have HK := Lib.hid (((((Keep.refl noneOf w).alloc (.cells #[.int .i64 kd, .int .u64 ses, .int .u64 seq, .slice Ag ts.length cg, .int .u64 id, .int .u64 tok, .bool good, .int .u64 time] 37)).alloc (.cells #[.int .i64 code, .int .u64 aid, .int .u64 atok, .int .u64 aunt, .string atgt, .string acmd] 40)).alloc (.cells #[.int .i64 xs, .int .u64 xt, .int .u64 xu] 64)).alloc (.cells #[.int .i64 ys, .int .u64 yt, .int .u64 yu] 64))
  simp only [World.size_alloc] at HB2 HB3 HB4
  have EQ := fun w' => run_eql3 w' ⟨xs, xt, xu⟩ ⟨ys, yt, yu⟩
  unfold Cm.agg An.agg Pst.agg
  dsimp only at EQ ⊢
  go_enter Tryz.func29, Tryz.ntmps29
  go_upto_region 1 with fail
  generalize (((w.alloc (.cells #[.int .i64 kd, .int .u64 ses, .int .u64 seq, .slice Ag ts.length cg, .int .u64 id, .int .u64 tok, .bool good, .int .u64 time] 37)).alloc (.cells #[.int .i64 code, .int .u64 aid, .int .u64 atok, .int .u64 aunt, .string atgt, .string acmd] 40)).alloc (.cells #[.int .i64 xs, .int .u64 xt, .int .u64 xu] 64)).alloc (.cells #[.int .i64 ys, .int .u64 yt, .int .u64 yu] 64) = v at *
  generalize w.heap.size = p at *
  have x0 := HB3.out.cell 0
  have x1 := HB3.out.cell 1
  have x2 := HB3.out.cell 2
  have FI := Lib.hid (refFinal_any v ⟨xs, xt, xu⟩)
  dsimp only at FI
  go_wp2_with fail
  refine FI.out.mono ?_
  obtain ⟨fb, hfb⟩ : ∃ fb, finB xs = fb := ⟨_, rfl⟩
  rw [hfb] at hF ⊢
  rintro e v2 ⟨rfl, k2⟩
  have x0 := (HB3.out.keep k2 (fun h => h)).cell 0
  have x1 := (HB3.out.keep k2 (fun h => h)).cell 1
  have x2 := (HB3.out.keep k2 (fun h => h)).cell 2
  have y0 := (HB4.out.keep k2 (fun h => h)).cell 0
  have y1 := (HB4.out.keep k2 (fun h => h)).cell 1
  have y2 := (HB4.out.keep k2 (fun h => h)).cell 2
  have HF := Lib.hid (HK.out.trans k2 (fun _ _ h => h))
  cases fb with
  | true =>
    rw [if_pos rfl] at hF
    injection hF with h1 h2 h3
    subst h1 h2 h3
    rw [decide_eq_true rfl] at EQ
    clear FI k2 HK HB1 HB2 HB3 HB4 hfb
    go_wp2
    go_ret
    exact ⟨rfl, HF.out⟩
  | false =>
    rw [if_neg (by decide)] at hF
    have c0 := (HB1.out.keep k2 (fun h => h)).cell 0
    have c5 := (HB1.out.keep k2 (fun h => h)).cell 5
    have c6 := (HB1.out.keep k2 (fun h => h)).cell 6
    have a0 := (HB2.out.keep k2 (fun h => h)).cell 0
    clear FI k2 HK HB1 HB2 HB3 HB4 hfb EQ
    by_cases h3 : ys = 3
    · rw [if_pos (.inl h3)] at hF
      obtain ⟨e1, e2, e3, e4, e5, e6⟩ := hF
      have e7 : good = true := e6.1 h3
      subst h3 e1 e2 e3 e4 e7
      go_wp2
      go_ret
      exact ⟨rfl, HF.out⟩
    · by_cases h4 : ys = 4
      · rw [if_pos (.inr h4)] at hF
        obtain ⟨e1, e2, e3, e4, e5, e6⟩ := hF
        have e7 : good = false := by
          cases good with
          | false => rfl
          | true => exact absurd (e6.2 rfl) h3
        subst h4 e1 e2 e3 e4 e7
        clear h3 e6
        go_wp2
        go_ret
        exact ⟨rfl, HF.out⟩
      · have b3 : (ys == 3) = false := beq_eq_false_iff_ne.2 h3
        have b4 : (ys == 4) = false := beq_eq_false_iff_ne.2 h4
        clear hF h3 h4
        go_wp2
        go_ret
        exact ⟨rfl, HF.out⟩
theorem stale_with {q : Qp} {c : Cq} (h : (applyP q c).2.code = 100) : { q with ses := (applyP q c).1.ses } = (applyP q c).1 := by
  have h1 := stale_same q c h
  obtain ⟨r, hr⟩ : ∃ r, (applyP q c).1 = r := ⟨_, rfl⟩
  rw [hr] at h1 ⊢
  rw [← h1]
theorem fences_at {q : Qp} (h : Inv q) (c : Cq) (hi : Inv (applyP q c).1) {g : Gq} (hm : g ∈ q.gs) :
    (findG (applyP q c).1 g.id = none ∧ c.kind = 6 ∧ overB g.st = true) ∨
    ∃ i g', findG (applyP q c).1 g.id = some i ∧ (applyP q c).1.gs[i]? = some g' ∧ g'.st.length = g.st.length ∧ ∀ (j : Nat) (x y : Pst), g.st[j]? = some x → g'.st[j]? = some y → Fair c (applyP q c).2 q.now x y := by
  rcases apply_fair h c hm with ⟨g', hg', e1, e2, e3, e4⟩ | ⟨k6, ho, hn⟩
  · obtain ⟨i, hi2⟩ := List.getElem?_of_mem hg'
    exact .inr ⟨i, g', by rw [← e1]; exact findG_at hi.gsUp hi2, hi2, e3, e4⟩
  · refine .inl ⟨?_, k6, ho⟩
    unfold findG
    rw [List.findIdx?_eq_none_iff]
    intro x hx
    exact decide_eq_false (hn x hx)
set_option maxRecDepth 100000 in
set_option maxHeartbeats 8000000 in
set_option linter.unusedSimpArgs false in
theorem fences_walk (w : World) (A : Option Addr) (cap : Nat) (cs : List Cm) (h : Cms w (fun _ => True) (.slice A cs.length cap) cs) :
    Calls Tryz.prog 6 #[.slice A cs.length cap] w (TellsB true w) := by
  have HC := Lib.hid h
  have hfew := h.1.few
  unfold maxLen at hfew
  have NW := Lib.hid (qnew_any w)
  clear h
  go_enter Tryz.func6, Tryz.ntmps6
  go_wp2_with fail
  refine NW.out.mono ?_
  rintro e w1 ⟨q, D, rfl, hq, hpl, k1, hD⟩
  have HQ1 := Lib.hid (Own.ofNew hq hpl k1 hD)
  have AL := Lib.hid (alive_any w1)
  generalize q.p = p at *
  clear NW hq hpl k1 hD
  go_wp2_with fail
  refine AL.out.mono ?_
  rintro e w2 ⟨rfl, k2⟩
  have HQ2 := Lib.hid (HQ1.out.stay k2)
  clear AL k2 HQ1
  go_wp2
  go_loopw [22] (fun i wr => ∃ (k : Nat) (s : Qm) (D : Nat → Prop), k ≤ cs.length ∧ i = .int .i64 k ∧ Own w wr D p s) (fun i _ => cs.length - (intOf i).toNat)
  case atStart => exact ⟨0, q, D, Nat.zero_le _, rfl, HQ2.out⟩
  case round =>
    obtain ⟨k, s, D, hk, rfl, hown⟩ := hrel
    have HOW := Lib.hid hown
    clear hown HQ2
    by_cases hlt : k < cs.length
    · have hx : cs[k]? = some cs[k] := List.getElem?_eq_getElem hlt
      have hC := HC.out.keep HOW.out.keep (fun _ _ _ => id)
      obtain ⟨b, o, rfl, hblk, _, hcell⟩ := hC.1.cell (fun _ => rfl) hx
      have hcl := hC.2 _ (List.mem_of_getElem? hx)
      generalize cs[k] = c at *
      obtain ⟨c0, c1, c2, c3, c4, c5, c6, c7⟩ := cm_at b o k _ _ hcell
      obtain ⟨Ag, cg, eg⟩ := hcl.shape
      rw [eg] at c3
      have q0 : (0 : Int) ≤ (k : Int) := by omega
      have q1 : (k : Int) < (cs.length : Int) := by omega
      have KA := (Keep.refl noneOf wr).alloc (.cells #[.int .i64 c.kind, .int .u64 c.ses, .int .u64 c.seq, .slice Ag c.ts.length cg, .int .u64 c.id, .int .u64 c.tok, .bool c.good, .int .u64 c.time] 37)
      have HBC := Lib.hid (Box.new wr 37 #[.int .i64 c.kind, .int .u64 c.ses, .int .u64 c.seq, .slice Ag c.ts.length cg, .int .u64 c.id, .int .u64 c.tok, .bool c.good, .int .u64 c.time])
      have HO1 := Lib.hid (HOW.out.stay KA)
      have HCL := Lib.hid (hcl.keep KA (fun _ _ _ => id))
      have HFR0 : Hid (¬ D wr.heap.size) := Lib.hid (HOW.out.free (Nat.le_refl _))
      have DU := Lib.hid (own_dump HO1.out)
      have HEG := Lib.hid eg
      have HIV := Lib.hid HOW.out.inv
      have HOKC := Lib.hid hcl.ok
      have HWP := Lib.hid HOW.out.keep.size
      clear hx hC hcell hcl hblk KA HOW eg
      go_upto_region 7 with fail
      generalize hw : wr.alloc (.cells #[.int .i64 c.kind, .int .u64 c.ses, .int .u64 c.seq, .slice Ag c.ts.length cg, .int .u64 c.id, .int .u64 c.tok, .bool c.good, .int .u64 c.time] 37) = v1 at *
      generalize hx : wr.heap.size = pc at *
      clear hw hx c0 c1 c2 c3 c4 c5 c6 c7
      go_wp2_with fail
      refine DU.out.mono ?_
      rintro e w4 ⟨im, rfl, him, hil, k4⟩
      obtain ⟨A1, a1, A2, a2, A3, a3, e1, e2, e3⟩ := hil.shapes
      have KB := (Keep.refl noneOf w4).alloc (.cells #[.int .u64 im.now, .int .u64 im.ng, .int .u64 im.nt, .slice A1 im.ses.length a1, .slice A2 im.gs.length a2, .slice A3 im.built.length a3] 30)
      have HBI := Lib.hid (Box.new w4 30 #[.int .u64 im.now, .int .u64 im.ng, .int .u64 im.nt, .slice A1 im.ses.length a1, .slice A2 im.gs.length a2, .slice A3 im.built.length a3])
      have HFI := Lib.hid (HO1.out.free (i := w4.heap.size) k4.size)
      have HNI := Lib.hid (show ¬ pc = w4.heap.size from fun e => by have h1 := HBC.out.lt; have h2 := k4.size; omega)
      have HWI := Lib.hid (Nat.le_trans HO1.out.keep.size k4.size)
      have HIM0 : Hid (∃ M : Nat → Prop, im.lies (w4.alloc (.cells #[.int .u64 im.now, .int .u64 im.ng, .int .u64 im.nt, .slice A1 im.ses.length a1, .slice A2 im.gs.length a2, .slice A3 im.built.length a3] 30)) M ∧ (∀ i, D i → ¬ M i) ∧ (∀ i, M i → i < w4.heap.size)) := Lib.hid ⟨fun i => i < w4.heap.size ∧ v1.heap.size ≤ i, (hil.mono (fun i hi h => ⟨hi, h⟩)).keep KB (fun _ _ _ h => h), fun i hd hm => by have := HO1.out.mine.at_.lt _ hd; omega, fun i hm => hm.1⟩
      have HBC2 := Lib.hid ((HBC.out.keep k4 id).keep KB id)
      have HO2 := Lib.hid ((HO1.out.stay k4).stay KB)
      have HCL2 := ((HCL.out.keep k4 (fun _ _ _ => id)).keep KB (fun _ _ _ => id))
      have AP := own_apply HO2.out c HCL2
      have HIM := Lib.hid him
      have HE := Lib.hid (And.intro e1 (And.intro e2 e3))
      unfold Cm.agg at AP
      rw [HEG.out] at AP
      replace AP := Lib.hid AP
      unfold Im.agg
      rw [e1, e2, e3]
      clear DU HO1 HCL k4 KB him hil e1 e2 e3 HCL2 HBC
      go_upto_region 8 with fail
      generalize hw : w4.alloc (.cells #[.int .u64 im.now, .int .u64 im.ng, .int .u64 im.nt, .slice A1 im.ses.length a1, .slice A2 im.gs.length a2, .slice A3 im.built.length a3] 30) = v4 at *
      generalize hx : w4.heap.size = pi at *
      clear hw hx
      obtain ⟨M, hil0, hmd0, hms0⟩ := HIM0.out
      have HIL := Lib.hid hil0
      have HMD := Lib.hid hmd0
      have HMS := Lib.hid hms0
      obtain ⟨c0, c1, c2, c3, c4, c5, c6, c7⟩ := And.intro (HBC2.out.cell 0) (And.intro (HBC2.out.cell 1) (And.intro (HBC2.out.cell 2) (And.intro (HBC2.out.cell 3) (And.intro (HBC2.out.cell 4) (And.intro (HBC2.out.cell 5) (And.intro (HBC2.out.cell 6) (HBC2.out.cell 7)))))))
      clear HIM0 hil0 hmd0 hms0
      go_wp2_with fail
      refine AP.out.mono ?_
      rintro e w6 ⟨s2, rfl, ho6, hpl6, kD⟩
      have HFA := Lib.hid (fun (g : Gq) (hm : g ∈ s.plain.gs) => fences_at HIV.out c.plain (inv_apply HIV.out HOKC.out) hm)
      have HSW := Lib.hid (stale_with (q := s.plain) (c := c.plain))
      obtain ⟨a, ha⟩ : ∃ a, (applyP s.plain c.plain).2 = a := ⟨_, rfl⟩
      rw [ha, ← hpl6] at HFA HSW
      rw [ha]
      obtain ⟨code, aid, atok, aunt, atgt, acmd⟩ := a
      unfold An.agg
      dsimp only
      have KC := (Keep.refl noneOf w6).alloc (.cells #[.int .i64 code, .int .u64 aid, .int .u64 atok, .int .u64 aunt, .string atgt, .string acmd] 40)
      have HBA := Lib.hid (Box.new w6 40 #[.int .i64 code, .int .u64 aid, .int .u64 atok, .int .u64 aunt, .string atgt, .string acmd])
      have HNA := Lib.hid (show ¬ w6.heap.size = pi from fun e => by have h1 := HBI.out.lt; have h2 := kD.size; omega)
      have HBI3 := Lib.hid ((HBI.out.keep kD HFI.out).keep KC id)
      have HIL3 := Lib.hid ((HIL.out.keep kD (fun i _ hm hd => HMD.out i hd hm)).keep KC (fun _ _ _ => id))
      have HFI3 := Lib.hid (show ¬ grown v4 w6 D pi from fun hd => hd.elim HFI.out (fun h => by have := HBI.out.lt; omega))
      have HO3 := Lib.hid (ho6.stay KC)
      have HBC3 := Lib.hid ((HBC2.out.keep kD HFR0.out).keep KC id)
      have DU := Lib.hid (own_dump HO3.out)
      have HPI := Lib.hid HBI3.out.lt
      clear AP HBI HIL HO2 HBC2 kD ho6 hpl6 ha c0 c1 c2 c3 c4 c5 c6 c7 KC HFI HMD
      go_upto_region 9 with fail
      generalize hw : w6.alloc (.cells #[.int .i64 code, .int .u64 aid, .int .u64 atok, .int .u64 aunt, .string atgt, .string acmd] 40) = v6 at *
      generalize hx : w6.heap.size = pa at *
      clear hw hx
      go_wp2_with fail
      refine DU.out.mono ?_
      rintro e w8 ⟨in2, rfl, him2, hil2, k8⟩
      obtain ⟨C1, c1, C2, c2, C3, c3, e1, e2, e3⟩ := hil2.shapes
      have KB := (Keep.refl noneOf w8).alloc (.cells #[.int .u64 in2.now, .int .u64 in2.ng, .int .u64 in2.nt, .slice C1 in2.ses.length c1, .slice C2 in2.gs.length c2, .slice C3 in2.built.length c3] 30)
      have HBN := Lib.hid (Box.new w8 30 #[.int .u64 in2.now, .int .u64 in2.ng, .int .u64 in2.nt, .slice C1 in2.ses.length c1, .slice C2 in2.gs.length c2, .slice C3 in2.built.length c3])
      have HNN := Lib.hid (show ¬ w8.heap.size = pi from fun e => by have h1 := HPI.out; have h2 := k8.size; omega)
      have HBI5 := Lib.hid ((HBI3.out.keep k8 id).keep KB id)
      have HBA5 := Lib.hid ((HBA.out.keep k8 id).keep KB id)
      have HBC5 := Lib.hid ((HBC3.out.keep k8 id).keep KB id)
      have HIL5 := Lib.hid (((HIL3.out.keep k8 (fun _ _ _ => id)).keep KB (fun _ _ _ => id)).mono (D' := fun i => i ≠ pi) (fun i _ hm e => by have := HMS.out i hm; omega))
      have HIN5 := Lib.hid ((hil2.mono (D' := fun i => i ≠ pi) (fun i _ hm e => by have := HPI.out; omega)).keep KB (fun _ _ _ => id))
      have HO5 := Lib.hid ((HO3.out.stay k8).stay KB)
      have HIN := Lib.hid him2
      have HE2 := Lib.hid (And.intro e1 (And.intro e2 e3))
      unfold Im.agg
      rw [e1, e2, e3]
      clear DU HO3 HBI3 HBA HBC3 HIL3 k8 KB him2 hil2 e1 e2 e3 HMS HPI
      go_upto_region 10 with fail
      generalize hw : w8.alloc (.cells #[.int .u64 in2.now, .int .u64 in2.ng, .int .u64 in2.nt, .slice C1 in2.ses.length c1, .slice C2 in2.gs.length c2, .slice C3 in2.built.length c3] 30) = v8 at *
      generalize hx : w8.heap.size = pn at *
      clear hw hx
      have a0 := HBA5.out.cell 0
      by_cases hst : code = 100
      · subst hst
        have i3 := HBI5.out.cell 3
        have z3 := HBI5.out.free 3
        have n3 := HBN.out.cell 3
        have KS := (Keep.refl (fun i => i = pi) v8).setCell (p := ⟨pi, 3, none⟩) (fun _ => rfl) (.slice C1 in2.ses.length c1)
        have SXI := Lib.hid (HBI5.out.put 3 (.slice C1 in2.ses.length c1))
        have SXN := Lib.hid (HBN.out.keep KS HNN.out)
        have SXA := Lib.hid (HBA5.out.keep KS HNA.out)
        have SXC := Lib.hid (HBC5.out.keep KS HNI.out)
        have SO := Lib.hid (HO5.out.off KS (fun i hd e => HFI3.out (e ▸ hd)) (fun i hi e => by have := HWI.out; omega))
        have SI1 := Lib.hid (HIL5.out.keep KS (fun _ _ h => h))
        have SI2 := Lib.hid (HIN5.out.keep KS (fun _ _ h => h))
        have HPS := Lib.hid (show { im.plain with ses := in2.plain.ses } = in2.plain from by rw [HIM.out, HIN.out]; exact HSW.out rfl)
        clear KS HBI5 HBN HBA5 HBC5 HO5 HIL5 HIN5
        go_upto_region 12 with fail
        generalize hw : v8.setCell ⟨pi, 3, none⟩ (.slice C1 in2.ses.length c1) = vs at *
        clear hw i3 z3 n3 a0
        have SM : Hid (Calls Tryz.prog 22 #[.agg #[.int .u64 im.now, .int .u64 im.ng, .int .u64 im.nt, .slice C1 in2.ses.length c1, .slice A2 im.gs.length a2, .slice A3 im.built.length a3], .agg #[.int .u64 in2.now, .int .u64 in2.ng, .int .u64 in2.nt, .slice C1 in2.ses.length c1, .slice C2 in2.gs.length c2, .slice C3 in2.built.length c3]] vs (SameTold { im with sv := in2.sv, ses := in2.ses } in2 vs)) := Lib.hid (by
          have := qsame_any vs _ _ { im with sv := in2.sv, ses := in2.ses } in2 ⟨SI2.out.ses, SI1.out.gs, SI1.out.built⟩ SI2.out
          unfold Im.agg at this
          dsimp only at this
          rw [HE.out.2.1, HE.out.2.2, HE2.out.1, HE2.out.2.1, HE2.out.2.2] at this
          exact this)
        have i0 := SXI.out.cell 0
        have i1 := SXI.out.cell 1
        have i2 := SXI.out.cell 2
        have i3 := SXI.out.cell 3
        have i4 := SXI.out.cell 4
        have i5 := SXI.out.cell 5
        have n0 := SXN.out.cell 0
        have n1 := SXN.out.cell 1
        have n2 := SXN.out.cell 2
        have n3 := SXN.out.cell 3
        have n4 := SXN.out.cell 4
        have n5 := SXN.out.cell 5
        go_wp2_with fail
        refine SM.out.mono ?_
        rintro e vx ⟨r, rfl, hr, k9⟩
        obtain rfl : r = true := hr.2 HPS.out
        have HBX := Lib.hid (SXI.out.keep k9 id)
        have HAX := Lib.hid (SXA.out.keep k9 id)
        have HCX := Lib.hid (SXC.out.keep k9 id)
        have HNX := Lib.hid (SXN.out.keep k9 id)
        have hgx := (SI1.out.keep k9 (fun _ _ _ h => h)).gs
        rw [HE.out.2.1] at hgx
        have HGX := Lib.hid hgx
        have HIX := Lib.hid (SI2.out.keep k9 (fun _ _ _ h => h))
        have HOX := Lib.hid (SO.out.stay k9)
        obtain ⟨code, hcd⟩ : ∃ code : Int, 100 = code := ⟨_, rfl⟩
        rw [hcd] at HFA HAX
        clear SM hr k9 SXI SXA SXC SXN SI1 SI2 SO hgx HPS HSW hcd i0 i1 i2 i3 i4 i5 n0 n1 n2 n3 n4 n5
        have i4 := HBX.out.cell 4
        have hf4 := HGX.out.1.few
        unfold maxLen at hf4
        go_wp2
        go_loopw [46] (fun i wr => ∃ (k2 : Nat), k2 ≤ im.gs.length ∧ i = .int .i64 k2 ∧ Keep noneOf vx wr) (fun i _ => im.gs.length - (intOf i).toNat)
        case atStart => exact ⟨0, Nat.zero_le _, rfl, Keep.refl _ _⟩
        case round =>
          clear i4
          obtain ⟨k2, hk2, rfl, hkeep⟩ := hrel
          have HKP := Lib.hid hkeep
          by_cases hlt2 : k2 < im.gs.length
          · have hx : im.gs[k2]? = some im.gs[k2] := List.getElem?_eq_getElem hlt2
            have hG := HGX.out.keep hkeep (fun _ _ _ h => h)
            have HFG := HFA.out (im.gs[k2]).plain (by rw [← HIM.out]; exact List.mem_of_getElem? (gm_at hx))
            generalize im.gs[k2] = g at *
            obtain ⟨tb, o2, rfl, hblk, _, hcell⟩ := hG.1.cell (fun _ => rfl) hx
            have d0 : wr.cell? ⟨tb, o2 + k2 * 3, none⟩ = some (.int .u64 g.id) := hcell 0 (by decide)
            have d1 : wr.cell? ⟨tb, o2 + k2 * 3 + 1, none⟩ = some g.gv := hcell 1 (by decide)
            have d2 : wr.cell? ⟨tb, o2 + k2 * 3 + 2, none⟩ = some g.sv := hcell 2 (by decide)
            have hgl := hG.2 g (List.mem_of_getElem? hx)
            obtain ⟨B1, b1, f1, _⟩ := hgl.1.1
            obtain ⟨B2, b2, f2⟩ := Sts.shape hgl.2
            rw [f1] at d1
            rw [f2] at d2
            have p0 : (0 : Int) ≤ (k2 : Int) := by omega
            have p1 : (k2 : Int) < (im.gs.length : Int) := by omega
            have KA := (Keep.refl noneOf wr).alloc (.cells #[.int .u64 g.id, .slice B1 g.ts.length b1, .slice B2 g.st.length b2] 59)
            have HBG := Lib.hid (Box.new wr 59 #[.int .u64 g.id, .slice B1 g.ts.length b1, .slice B2 g.st.length b2])
            have HKG := Lib.hid (hkeep.trans KA (fun _ _ h => h))
            have HSG := hgl.2.keep KA (fun _ _ _ h => h)
            rw [f2] at HSG
            have hfs := Many.few (enc := Pst.cells) (k := 3) HSG
            unfold maxLen at hfs
            replace HSG := Lib.hid HSG
            clear hG hx hcell hblk KA hkeep hgl f1 f2
            go_upto_region 17 with fail
            generalize hw : wr.alloc (.cells #[.int .u64 g.id, .slice B1 g.ts.length b1, .slice B2 g.st.length b2] 59) = wg at *
            generalize hx : wr.heap.size = pg at *
            clear hw hx d0 d1 d2
            have FI := rfind_any wg _ in2 (HIX.out.keep HKG.out (fun _ _ _ h => h)) g.id
            unfold Im.agg at FI
            rw [HE2.out.1, HE2.out.2.1, HE2.out.2.2] at FI
            replace FI := Lib.hid FI
            have n0 := (HNX.out.keep HKG.out id).cell 0
            have n1 := (HNX.out.keep HKG.out id).cell 1
            have n2 := (HNX.out.keep HKG.out id).cell 2
            have n3 := (HNX.out.keep HKG.out id).cell 3
            have n4 := (HNX.out.keep HKG.out id).cell 4
            have n5 := (HNX.out.keep HKG.out id).cell 5
            have g0 := HBG.out.cell 0
            go_wp2_with fail
            refine FI.out.mono ?_
            obtain ⟨n, hn⟩ : ∃ n, foundI (findG in2.plain g.id) = n := ⟨_, rfl⟩
            rw [hn]
            rintro e w10 ⟨rfl, k10⟩
            have HKF := Lib.hid (HKG.out.trans k10 (fun _ _ h => h))
            have HBF := Lib.hid (HBG.out.keep k10 id)
            have HSF := Lib.hid (HSG.out.keep k10 (fun _ _ _ h => h))
            clear FI n0 n1 n2 n3 n4 n5 g0 HKG HBG HSG k10
            rw [HIN.out] at hn
            have g2 := HBF.out.cell 2
            rcases HFG with ⟨hf, hk6, hov⟩ | ⟨i, g', hf, hg', hlen, hfair⟩
            · rw [show (Gm.plain g).id = g.id from rfl] at hf
              rw [hf] at hn
              unfold foundI at hn
              dsimp only at hn
              subst hn
              have c0 := (HCX.out.keep HKF.out id).cell 0
              rw [show c.kind = 6 from hk6] at c0
              have OV := refOver_any _ _ _ _ HSF.out
              rw [show overB g.st = true from hov] at OV
              replace OV := Lib.hid OV
              go_wp2_with fail
              refine OV.out.mono ?_
              rintro e w11 ⟨rfl, k11⟩
              have HKH := Lib.hid (HKF.out.trans k11 (fun _ _ h => h))
              clear OV c0 g2 k11 HBF HSF HKF HKP
              go_wp2
              go_roundw
              case rel => exact ⟨k2 + 1, by omega, by go_num, HKH.out⟩
              case measure => simp only [intOf]; omega
            · rw [show (Gm.plain g).id = g.id from rfl] at hf
              rw [hf] at hn
              unfold foundI at hn
              dsimp only at hn
              subst hn
              rw [← HIN.out] at hg'
              obtain ⟨m', hm', rfl⟩ := gm_of hg'
              have r0 : ¬ ((i : Int) < 0) := by omega
              have r1 : (0 : Int) ≤ (i : Int) := by omega
              have hil : i < in2.gs.length := (List.getElem?_eq_some_iff.1 hm').1
              have r2 : (i : Int) < (in2.gs.length : Int) := by omega
              have HFR := Lib.hid hfair
              have HLN : Hid (m'.st.length = g.st.length) := Lib.hid hlen
              have hN := (HIX.out.keep HKF.out (fun _ _ _ h => h)).gs
              rw [HE2.out.2.1] at hN
              obtain ⟨nb, no, e9, hnblk, _, hncell⟩ := hN.1.cell (fun _ => rfl) hm'
              have hml := hN.2 m' (List.mem_of_getElem? hm')
              obtain ⟨B3, b3, f3⟩ := Sts.shape hml.2
              have HSM := hml.2
              rw [f3] at HSM
              have HNC : Hid (∀ w', Keep noneOf w10 w' → w'.cell? ⟨nb, no + i * 3 + 2, none⟩ = some (.slice B3 m'.st.length b3)) := Lib.hid (fun w' k' => by
                have h1 := (k'.cell (p := ⟨nb, no + (i * 3 + 2), none⟩) hnblk (fun h => h)).trans (hncell 2 (by decide))
                rw [← f3]
                exact h1)
              have HE9 := Lib.hid e9
              replace HSM := Lib.hid HSM
              clear hfair hlen hg' hm' hN hncell hml f3 e9 hf hnblk
              go_wp2
              go_loopw [68] (fun i wr => ∃ (k3 : Nat), k3 ≤ g.st.length ∧ i = .int .i64 k3 ∧ Keep noneOf w10 wr) (fun i _ => g.st.length - (intOf i).toNat)
              case atStart => exact ⟨0, Nat.zero_le _, rfl, Keep.refl _ _⟩
              case round =>
                clear g2
                obtain ⟨k3, hk3, rfl, hkeep⟩ := hrel
                have HKR := Lib.hid (HKF.out.trans hkeep (fun _ _ h => h))
                by_cases hlt3 : k3 < g.st.length
                · have hx : g.st[k3]? = some g.st[k3] := List.getElem?_eq_getElem hlt3
                  have hl2 : k3 < m'.st.length := by rw [HLN.out]; exact hlt3
                  have hy : m'.st[k3]? = some m'.st[k3] := List.getElem?_eq_getElem hl2
                  have HF := HFR.out k3 _ _ hx hy
                  generalize g.st[k3] = x at *
                  generalize m'.st[k3] = y at *
                  have hS : Many Pst.cells 3 wr _ _ g.st := HSF.out.keep hkeep (fun _ _ _ h => h)
                  obtain ⟨sb, so, es, hsblk, _, hscell⟩ := hS.cell (fun _ => rfl) hx
                  have hT : Many Pst.cells 3 wr _ _ m'.st := HSM.out.keep hkeep (fun _ _ _ h => h)
                  obtain ⟨ub, uo, eu, hublk, _, hucell⟩ := hT.cell (fun _ => rfl) hy
                  have FC : Hid (∀ w', Calls Tryz.prog 29 #[.agg #[.int .i64 c.kind, .int .u64 c.ses, .int .u64 c.seq, .slice Ag c.ts.length cg, .int .u64 c.id, .int .u64 c.tok, .bool c.good, .int .u64 c.time], .agg #[.int .i64 code, .int .u64 aid, .int .u64 atok, .int .u64 aunt, .string atgt, .string acmd], .int .u64 im.now, .agg #[.int .i64 x.s, .int .u64 x.t, .int .u64 x.u], .agg #[.int .i64 y.s, .int .u64 y.t, .int .u64 y.u]] w' (TellsB true w')) := Lib.hid fun w' => by
                    have := fair_any w' c ⟨code, aid, atok, aunt, atgt, acmd⟩ im.now x y Ag cg HEG.out (by rw [show im.now = s.plain.now from congrArg Qp.now HIM.out]; exact HF)
                    unfold Cm.agg An.agg Pst.agg at this
                    rw [HEG.out] at this
                    exact this
                  have MC : Hid (∀ w', Keep noneOf wr w' → (w'.cell? ⟨pc, 0, none⟩ = some (.int .i64 c.kind) ∧ w'.cell? ⟨pc, 1, none⟩ = some (.int .u64 c.ses) ∧ w'.cell? ⟨pc, 2, none⟩ = some (.int .u64 c.seq) ∧ w'.cell? ⟨pc, 3, none⟩ = some (.slice Ag c.ts.length cg) ∧ w'.cell? ⟨pc, 4, none⟩ = some (.int .u64 c.id) ∧ w'.cell? ⟨pc, 5, none⟩ = some (.int .u64 c.tok) ∧ w'.cell? ⟨pc, 6, none⟩ = some (.bool c.good) ∧ w'.cell? ⟨pc, 7, none⟩ = some (.int .u64 c.time)) ∧
                      (w'.cell? ⟨pa, 0, none⟩ = some (.int .i64 code) ∧ w'.cell? ⟨pa, 1, none⟩ = some (.int .u64 aid) ∧ w'.cell? ⟨pa, 2, none⟩ = some (.int .u64 atok) ∧ w'.cell? ⟨pa, 3, none⟩ = some (.int .u64 aunt) ∧ w'.cell? ⟨pa, 4, none⟩ = some (.string atgt) ∧ w'.cell? ⟨pa, 5, none⟩ = some (.string acmd)) ∧
                      (w'.cell? ⟨pi, 0, none⟩ = some (.int .u64 im.now) ∧ w'.cell? ⟨pg, 2, none⟩ = some (.slice (some ⟨sb, so, none⟩) g.st.length b2) ∧ w'.cell? ⟨pn, 4, none⟩ = some (.slice (some ⟨nb, no, none⟩) in2.gs.length c2) ∧ w'.cell? ⟨nb, no + i * 3 + 2, none⟩ = some (.slice (some ⟨ub, uo, none⟩) m'.st.length b3)) ∧
                      (w'.cell? ⟨sb, so + k3 * 3, none⟩ = some (.int .i64 x.s) ∧ w'.cell? ⟨sb, so + k3 * 3 + 1, none⟩ = some (.int .u64 x.t) ∧ w'.cell? ⟨sb, so + k3 * 3 + 2, none⟩ = some (.int .u64 x.u)) ∧
                      (w'.cell? ⟨ub, uo + k3 * 3, none⟩ = some (.int .i64 y.s) ∧ w'.cell? ⟨ub, uo + k3 * 3 + 1, none⟩ = some (.int .u64 y.t) ∧ w'.cell? ⟨ub, uo + k3 * 3 + 2, none⟩ = some (.int .u64 y.u))) := Lib.hid fun w' k' => by
                    have kc := HCX.out.keep (HKR.out.trans k' (fun _ _ h => h)) id
                    have ka := HAX.out.keep (HKR.out.trans k' (fun _ _ h => h)) id
                    have kn := (HNX.out.keep (HKR.out.trans k' (fun _ _ h => h)) id).cell 4
                    have ki := (HBX.out.keep (HKR.out.trans k' (fun _ _ h => h)) id).cell 0
                    have kg := (HBF.out.keep (hkeep.trans k' (fun _ _ h => h)) id).cell 2
                    have km := HNC.out w' (hkeep.trans k' (fun _ _ h => h))
                    have ks := fun j hj => (k'.cell (p := ⟨sb, so + (k3 * 3 + j), none⟩) hsblk (fun h => h)).trans (hscell j hj)
                    have ku := fun j hj => (k'.cell (p := ⟨ub, uo + (k3 * 3 + j), none⟩) hublk (fun h => h)).trans (hucell j hj)
                    rw [es] at kg
                    rw [HE9.out] at kn
                    rw [eu] at km
                    exact ⟨⟨kc.cell 0, kc.cell 1, kc.cell 2, kc.cell 3, kc.cell 4, kc.cell 5, kc.cell 6, kc.cell 7⟩, ⟨ka.cell 0, ka.cell 1, ka.cell 2, ka.cell 3, ka.cell 4, ka.cell 5⟩, ⟨ki, kg, kn, km⟩, ⟨ks 0 (by decide), ks 1 (by decide), ks 2 (by decide)⟩, ⟨ku 0 (by decide), ku 1 (by decide), ku 2 (by decide)⟩⟩
                  have s0 : (0 : Int) ≤ (k3 : Int) := by omega
                  have s1 : (k3 : Int) < (g.st.length : Int) := by omega
                  have s2' : (k3 : Int) < (m'.st.length : Int) := by omega
                  have K0 := (Keep.refl noneOf wr).drew
                  have HKW := Lib.hid hkeep
                  clear hS hT hscell hucell hsblk hublk es eu hx hy HF hkeep hl2
                  go_upto_region 24 with fail
                  refine wp_region_held_drew (S := fun w' => Keep noneOf wr w') (by kernel_rfl) (K0) (fun hHeld => ?_)
                  refine' wpAnyH_take (i := 0) (v := _) rfl (by kernel_rfl) (by kernel_rfl) (by kernel_rfl) (fun _ _ _ h => h) (Or.inl ⟨by kernel_rfl, ?hy0⟩) (by assumption) ?_
                  case hy0 => intro w' hSw; obtain ⟨⟨_, _, _, _, _, _, _, _⟩, ⟨_, _, _, _, _, _⟩, ⟨_, _, _, _⟩, ⟨_, _, _⟩, ⟨_, _, _⟩⟩ := MC.out w' hSw; go_simp; try with_reducible rfl
                  simp only [Act.put, List.getElem_toArray, List.getElem_cons_zero, List.getElem_cons_succ, List.setIfInBounds_toArray, List.set_cons_zero, List.set_cons_succ]
                  refine' wpAnyH_take (i := 1) (v := _) rfl (by kernel_rfl) (by kernel_rfl) (by kernel_rfl) (fun _ _ _ h => h) (Or.inl ⟨by kernel_rfl, ?hy1⟩) (by assumption) ?_
                  case hy1 => intro w' hSw; obtain ⟨⟨_, _, _, _, _, _, _, _⟩, ⟨_, _, _, _, _, _⟩, ⟨_, _, _, _⟩, ⟨_, _, _⟩, ⟨_, _, _⟩⟩ := MC.out w' hSw; go_simp; try with_reducible rfl
                  simp only [Act.put, List.getElem_toArray, List.getElem_cons_zero, List.getElem_cons_succ, List.setIfInBounds_toArray, List.set_cons_zero, List.set_cons_succ]
                  refine' wpAnyH_take (i := 2) (v := _) rfl (by kernel_rfl) (by kernel_rfl) (by kernel_rfl) (fun _ _ _ h => h) (Or.inl ⟨by kernel_rfl, ?hy2⟩) (by assumption) ?_
                  case hy2 => intro w' hSw; obtain ⟨⟨_, _, _, _, _, _, _, _⟩, ⟨_, _, _, _, _, _⟩, ⟨_, _, _, _⟩, ⟨_, _, _⟩, ⟨_, _, _⟩⟩ := MC.out w' hSw; go_simp; try with_reducible rfl
                  simp only [Act.put, List.getElem_toArray, List.getElem_cons_zero, List.getElem_cons_succ, List.setIfInBounds_toArray, List.set_cons_zero, List.set_cons_succ]
                  refine' wpAnyH_take (i := 3) (v := _) rfl (by kernel_rfl) (by kernel_rfl) (by kernel_rfl) (fun _ _ _ h => h) (Or.inl ⟨by kernel_rfl, ?hy3⟩) (by assumption) ?_
                  case hy3 => intro w' hSw; obtain ⟨⟨_, _, _, _, _, _, _, _⟩, ⟨_, _, _, _, _, _⟩, ⟨_, _, _, _⟩, ⟨_, _, _⟩, ⟨_, _, _⟩⟩ := MC.out w' hSw; go_simp; try with_reducible rfl
                  simp only [Act.put, List.getElem_toArray, List.getElem_cons_zero, List.getElem_cons_succ, List.setIfInBounds_toArray, List.set_cons_zero, List.set_cons_succ]
                  refine' wpAnyH_take (i := 4) (v := _) rfl (by kernel_rfl) (by kernel_rfl) (by kernel_rfl) (fun _ _ _ h => h) (Or.inl ⟨by kernel_rfl, ?hy4⟩) (by assumption) ?_
                  case hy4 => intro w' hSw; obtain ⟨⟨_, _, _, _, _, _, _, _⟩, ⟨_, _, _, _, _, _⟩, ⟨_, _, _, _⟩, ⟨_, _, _⟩, ⟨_, _, _⟩⟩ := MC.out w' hSw; go_simp; try with_reducible rfl
                  simp only [Act.put, List.getElem_toArray, List.getElem_cons_zero, List.getElem_cons_succ, List.setIfInBounds_toArray, List.set_cons_zero, List.set_cons_succ]
                  refine' wpAnyH_take (i := 5) (v := _) rfl (by kernel_rfl) (by kernel_rfl) (by kernel_rfl) (fun _ _ _ h => h) (Or.inl ⟨by kernel_rfl, ?hy5⟩) (by assumption) ?_
                  case hy5 => intro w' hSw; obtain ⟨⟨_, _, _, _, _, _, _, _⟩, ⟨_, _, _, _, _, _⟩, ⟨_, _, _, _⟩, ⟨_, _, _⟩, ⟨_, _, _⟩⟩ := MC.out w' hSw; go_simp; try with_reducible rfl
                  simp only [Act.put, List.getElem_toArray, List.getElem_cons_zero, List.getElem_cons_succ, List.setIfInBounds_toArray, List.set_cons_zero, List.set_cons_succ]
                  refine' wpAnyH_take (i := 6) (v := _) rfl (by kernel_rfl) (by kernel_rfl) (by kernel_rfl) (fun _ _ _ h => h) (Or.inl ⟨by kernel_rfl, ?hy6⟩) (by assumption) ?_
                  case hy6 => intro w' hSw; obtain ⟨⟨_, _, _, _, _, _, _, _⟩, ⟨_, _, _, _, _, _⟩, ⟨_, _, _, _⟩, ⟨_, _, _⟩, ⟨_, _, _⟩⟩ := MC.out w' hSw; go_simp; try with_reducible rfl
                  simp only [Act.put, List.getElem_toArray, List.getElem_cons_zero, List.getElem_cons_succ, List.setIfInBounds_toArray, List.set_cons_zero, List.set_cons_succ]
                  refine' wpAnyH_take (i := 7) (v := _) rfl (by kernel_rfl) (by kernel_rfl) (by kernel_rfl) (fun _ _ _ h => h) (Or.inl ⟨by kernel_rfl, ?hy7⟩) (by assumption) ?_
                  case hy7 => intro w' hSw; obtain ⟨⟨_, _, _, _, _, _, _, _⟩, ⟨_, _, _, _, _, _⟩, ⟨_, _, _, _⟩, ⟨_, _, _⟩, ⟨_, _, _⟩⟩ := MC.out w' hSw; go_simp; try with_reducible rfl
                  simp only [Act.put, List.getElem_toArray, List.getElem_cons_zero, List.getElem_cons_succ, List.setIfInBounds_toArray, List.set_cons_zero, List.set_cons_succ]
                  refine' wpAnyH_take (i := 8) (v := _) rfl (by kernel_rfl) (by kernel_rfl) (by kernel_rfl) (fun _ _ _ h => h) (Or.inl ⟨by kernel_rfl, ?hy8⟩) (by assumption) ?_
                  case hy8 => intro w' hSw; obtain ⟨⟨_, _, _, _, _, _, _, _⟩, ⟨_, _, _, _, _, _⟩, ⟨_, _, _, _⟩, ⟨_, _, _⟩, ⟨_, _, _⟩⟩ := MC.out w' hSw; go_simp; try with_reducible rfl
                  simp only [Act.put, List.getElem_toArray, List.getElem_cons_zero, List.getElem_cons_succ, List.setIfInBounds_toArray, List.set_cons_zero, List.set_cons_succ]
                  refine' wpAnyH_take (i := 9) (v := _) rfl (by kernel_rfl) (by kernel_rfl) (by kernel_rfl) (fun _ _ _ h => h) (Or.inl ⟨by kernel_rfl, ?hy9⟩) (by assumption) ?_
                  case hy9 => intro w' hSw; obtain ⟨⟨_, _, _, _, _, _, _, _⟩, ⟨_, _, _, _, _, _⟩, ⟨_, _, _, _⟩, ⟨_, _, _⟩, ⟨_, _, _⟩⟩ := MC.out w' hSw; go_simp; try with_reducible rfl
                  simp only [Act.put, List.getElem_toArray, List.getElem_cons_zero, List.getElem_cons_succ, List.setIfInBounds_toArray, List.set_cons_zero, List.set_cons_succ]
                  refine' wpAnyH_take (i := 10) (v := _) rfl (by kernel_rfl) (by kernel_rfl) (by kernel_rfl) (fun _ _ _ h => h) (Or.inl ⟨by kernel_rfl, ?hy10⟩) (by assumption) ?_
                  case hy10 => intro w' hSw; obtain ⟨⟨_, _, _, _, _, _, _, _⟩, ⟨_, _, _, _, _, _⟩, ⟨_, _, _, _⟩, ⟨_, _, _⟩, ⟨_, _, _⟩⟩ := MC.out w' hSw; go_simp; try with_reducible rfl
                  simp only [Act.put, List.getElem_toArray, List.getElem_cons_zero, List.getElem_cons_succ, List.setIfInBounds_toArray, List.set_cons_zero, List.set_cons_succ]
                  refine' wpAnyH_take (i := 11) (v := _) rfl (by kernel_rfl) (by kernel_rfl) (by kernel_rfl) (fun _ _ _ h => h) (Or.inl ⟨by kernel_rfl, ?hy11⟩) (by assumption) ?_
                  case hy11 => intro w' hSw; obtain ⟨⟨_, _, _, _, _, _, _, _⟩, ⟨_, _, _, _, _, _⟩, ⟨_, _, _, _⟩, ⟨_, _, _⟩, ⟨_, _, _⟩⟩ := MC.out w' hSw; go_simp; try with_reducible rfl
                  simp only [Act.put, List.getElem_toArray, List.getElem_cons_zero, List.getElem_cons_succ, List.setIfInBounds_toArray, List.set_cons_zero, List.set_cons_succ]
                  refine' wpAnyH_take (i := 12) (v := _) rfl (by kernel_rfl) (by kernel_rfl) (by kernel_rfl) (fun _ _ _ h => h) (Or.inl ⟨by kernel_rfl, ?hy12⟩) (by assumption) ?_
                  case hy12 => intro w' hSw; obtain ⟨⟨_, _, _, _, _, _, _, _⟩, ⟨_, _, _, _, _, _⟩, ⟨_, _, _, _⟩, ⟨_, _, _⟩, ⟨_, _, _⟩⟩ := MC.out w' hSw; go_simp; try with_reducible rfl
                  simp only [Act.put, List.getElem_toArray, List.getElem_cons_zero, List.getElem_cons_succ, List.setIfInBounds_toArray, List.set_cons_zero, List.set_cons_succ]
                  refine' wpAnyH_take (i := 13) (v := _) rfl (by kernel_rfl) (by kernel_rfl) (by kernel_rfl) (fun _ _ _ h => h) (Or.inl ⟨by kernel_rfl, ?hy13⟩) (by assumption) ?_
                  case hy13 => intro w' hSw; obtain ⟨⟨_, _, _, _, _, _, _, _⟩, ⟨_, _, _, _, _, _⟩, ⟨_, _, _, _⟩, ⟨_, _, _⟩, ⟨_, _, _⟩⟩ := MC.out w' hSw; go_simp; try with_reducible rfl
                  simp only [Act.put, List.getElem_toArray, List.getElem_cons_zero, List.getElem_cons_succ, List.setIfInBounds_toArray, List.set_cons_zero, List.set_cons_succ]
                  refine' wpAnyH_take (i := 14) (v := _) rfl (by kernel_rfl) (by kernel_rfl) (by kernel_rfl) (fun _ _ _ h => h) (Or.inl ⟨by kernel_rfl, ?hy14⟩) (by assumption) ?_
                  case hy14 => intro w' hSw; obtain ⟨⟨_, _, _, _, _, _, _, _⟩, ⟨_, _, _, _, _, _⟩, ⟨_, _, _, _⟩, ⟨_, _, _⟩, ⟨_, _, _⟩⟩ := MC.out w' hSw; go_simp; try with_reducible rfl
                  simp only [Act.put, List.getElem_toArray, List.getElem_cons_zero, List.getElem_cons_succ, List.setIfInBounds_toArray, List.set_cons_zero, List.set_cons_succ]
                  refine' wpAnyH_take (i := 15) (v := _) rfl (by kernel_rfl) (by kernel_rfl) (by kernel_rfl) (fun _ _ _ h => h) (Or.inl ⟨by kernel_rfl, ?hy15⟩) (by assumption) ?_
                  case hy15 => intro w' hSw; obtain ⟨⟨_, _, _, _, _, _, _, _⟩, ⟨_, _, _, _, _, _⟩, ⟨_, _, _, _⟩, ⟨_, _, _⟩, ⟨_, _, _⟩⟩ := MC.out w' hSw; go_simp; try with_reducible rfl
                  simp only [Act.put, List.getElem_toArray, List.getElem_cons_zero, List.getElem_cons_succ, List.setIfInBounds_toArray, List.set_cons_zero, List.set_cons_succ]
                  refine' wpAnyH_take (i := 16) (v := _) rfl (by kernel_rfl) (by kernel_rfl) (by kernel_rfl) (fun _ _ _ h => h) (Or.inl ⟨by kernel_rfl, ?hy16⟩) (by assumption) ?_
                  case hy16 => intro w' hSw; obtain ⟨⟨_, _, _, _, _, _, _, _⟩, ⟨_, _, _, _, _, _⟩, ⟨_, _, _, _⟩, ⟨_, _, _⟩, ⟨_, _, _⟩⟩ := MC.out w' hSw; go_simp; try with_reducible rfl
                  simp only [Act.put, List.getElem_toArray, List.getElem_cons_zero, List.getElem_cons_succ, List.setIfInBounds_toArray, List.set_cons_zero, List.set_cons_succ]
                  refine' wpAnyH_take (i := 17) (v := _) rfl (by kernel_rfl) (by kernel_rfl) (by kernel_rfl) (fun _ _ _ h => h) (Or.inl ⟨by kernel_rfl, ?hy17⟩) (by assumption) ?_
                  case hy17 => intro w' hSw; obtain ⟨⟨_, _, _, _, _, _, _, _⟩, ⟨_, _, _, _, _, _⟩, ⟨_, _, _, _⟩, ⟨_, _, _⟩, ⟨_, _, _⟩⟩ := MC.out w' hSw; go_simp; try with_reducible rfl
                  simp only [Act.put, List.getElem_toArray, List.getElem_cons_zero, List.getElem_cons_succ, List.setIfInBounds_toArray, List.set_cons_zero, List.set_cons_succ]
                  refine wpAnyH_ready (rs := [18]) (by kernel_rfl) (by simp) (AllReadyH.cons rfl (fun K hK => ?_) AllReadyH.nil)
                  go_simp
                  go_at_call 29
                  refine (FC.out _).mono ?_
                  rintro e w12 ⟨rfl, k12⟩
                  have K12 : Keep noneOf wr w12 := K0.trans k12 (fun _ _ h => h)
                  go_wp2_with fail
                  refine hK.out _ _ (K12) (fun hHeld => ?_)
                  clear hK K
                  try simp only [Act.put, List.getElem_toArray, List.getElem_cons_zero, List.getElem_cons_succ, List.setIfInBounds_toArray, List.set_cons_zero, List.set_cons_succ]
                  refine' wpAnyH_take (i := 19) (v := .bool false) rfl (by kernel_rfl) (by kernel_rfl) (by kernel_rfl) (fun _ _ _ h => h) (Or.inl ⟨by kernel_rfl, ?hy19⟩) (by assumption) ?_
                  case hy19 => intro w' hSw; obtain ⟨⟨_, _, _, _, _, _, _, _⟩, ⟨_, _, _, _, _, _⟩, ⟨_, _, _, _⟩, ⟨_, _, _⟩, ⟨_, _, _⟩⟩ := MC.out w' hSw; first | rfl | (go_simp; try simp only [List.getElem?_cons_zero, Option.getD_some]; try go_simp)
                  simp only [Act.put, List.getElem_toArray, List.getElem_cons_zero, List.getElem_cons_succ, List.setIfInBounds_toArray, List.set_cons_zero, List.set_cons_succ]
                  refine wpAnyH_done (by kernel_rfl) ?_ _
                  have HK12 := Lib.hid (HKW.out.trans K12 (fun _ _ h => h))
                  clear FC MC K0 K12 k12 hHeld HKW HKR
                  go_wp2
                  go_roundw
                  case rel => exact ⟨k3 + 1, by omega, by go_num, HK12.out⟩
                  case measure => simp only [intOf]; omega
                · have hkn3 : ¬ ((k3 : Int) < (g.st.length : Int)) := by omega
                  clear hlt3 hkeep
                  go_wp2
                  go_roundw
                  case rel => exact ⟨k2 + 1, by omega, by go_num, HKR.out⟩
                  case measure => simp only [intOf]; omega
          · have hkn2 : ¬ ((k2 : Int) < (im.gs.length : Int)) := by omega
            have HOZ := Lib.hid (HOX.out.stay HKP.out)
            clear hlt2 hkeep
            go_wp2
            go_roundw
            case rel => exact ⟨k + 1, _, _, by omega, by go_num, HOZ.out⟩
            case measure => simp only [intOf]; omega
      · have hc1 : (code == 100) = false := beq_eq_false_iff_ne.2 hst
        have HBX := HBI5
        have HAX := HBA5
        have HCX := HBC5
        have HNX := HBN
        have hgx := HIL5.out.gs
        rw [HE.out.2.1] at hgx
        have HGX := Lib.hid hgx
        have HIX := HIN5
        have HOX := HO5
        clear hgx HIL5 HSW
        generalize v8 = vx at *
        clear HBI5 HBA5 HBC5 HBN HIN5 HO5
        have i4 := HBX.out.cell 4
        have hf4 := HGX.out.1.few
        unfold maxLen at hf4
        go_wp2
        go_loopw [46] (fun i wr => ∃ (k2 : Nat), k2 ≤ im.gs.length ∧ i = .int .i64 k2 ∧ Keep noneOf vx wr) (fun i _ => im.gs.length - (intOf i).toNat)
        case atStart => exact ⟨0, Nat.zero_le _, rfl, Keep.refl _ _⟩
        case round =>
          clear i4
          obtain ⟨k2, hk2, rfl, hkeep⟩ := hrel
          have HKP := Lib.hid hkeep
          by_cases hlt2 : k2 < im.gs.length
          · have hx : im.gs[k2]? = some im.gs[k2] := List.getElem?_eq_getElem hlt2
            have hG := HGX.out.keep hkeep (fun _ _ _ h => h)
            have HFG := HFA.out (im.gs[k2]).plain (by rw [← HIM.out]; exact List.mem_of_getElem? (gm_at hx))
            generalize im.gs[k2] = g at *
            obtain ⟨tb, o2, rfl, hblk, _, hcell⟩ := hG.1.cell (fun _ => rfl) hx
            have d0 : wr.cell? ⟨tb, o2 + k2 * 3, none⟩ = some (.int .u64 g.id) := hcell 0 (by decide)
            have d1 : wr.cell? ⟨tb, o2 + k2 * 3 + 1, none⟩ = some g.gv := hcell 1 (by decide)
            have d2 : wr.cell? ⟨tb, o2 + k2 * 3 + 2, none⟩ = some g.sv := hcell 2 (by decide)
            have hgl := hG.2 g (List.mem_of_getElem? hx)
            obtain ⟨B1, b1, f1, _⟩ := hgl.1.1
            obtain ⟨B2, b2, f2⟩ := Sts.shape hgl.2
            rw [f1] at d1
            rw [f2] at d2
            have p0 : (0 : Int) ≤ (k2 : Int) := by omega
            have p1 : (k2 : Int) < (im.gs.length : Int) := by omega
            have KA := (Keep.refl noneOf wr).alloc (.cells #[.int .u64 g.id, .slice B1 g.ts.length b1, .slice B2 g.st.length b2] 59)
            have HBG := Lib.hid (Box.new wr 59 #[.int .u64 g.id, .slice B1 g.ts.length b1, .slice B2 g.st.length b2])
            have HKG := Lib.hid (hkeep.trans KA (fun _ _ h => h))
            have HSG := hgl.2.keep KA (fun _ _ _ h => h)
            rw [f2] at HSG
            have hfs := Many.few (enc := Pst.cells) (k := 3) HSG
            unfold maxLen at hfs
            replace HSG := Lib.hid HSG
            clear hG hx hcell hblk KA hkeep hgl f1 f2
            go_upto_region 17 with fail
            generalize hw : wr.alloc (.cells #[.int .u64 g.id, .slice B1 g.ts.length b1, .slice B2 g.st.length b2] 59) = wg at *
            generalize hx : wr.heap.size = pg at *
            clear hw hx d0 d1 d2
            have FI := rfind_any wg _ in2 (HIX.out.keep HKG.out (fun _ _ _ h => h)) g.id
            unfold Im.agg at FI
            rw [HE2.out.1, HE2.out.2.1, HE2.out.2.2] at FI
            replace FI := Lib.hid FI
            have n0 := (HNX.out.keep HKG.out id).cell 0
            have n1 := (HNX.out.keep HKG.out id).cell 1
            have n2 := (HNX.out.keep HKG.out id).cell 2
            have n3 := (HNX.out.keep HKG.out id).cell 3
            have n4 := (HNX.out.keep HKG.out id).cell 4
            have n5 := (HNX.out.keep HKG.out id).cell 5
            have g0 := HBG.out.cell 0
            go_wp2_with fail
            refine FI.out.mono ?_
            obtain ⟨n, hn⟩ : ∃ n, foundI (findG in2.plain g.id) = n := ⟨_, rfl⟩
            rw [hn]
            rintro e w10 ⟨rfl, k10⟩
            have HKF := Lib.hid (HKG.out.trans k10 (fun _ _ h => h))
            have HBF := Lib.hid (HBG.out.keep k10 id)
            have HSF := Lib.hid (HSG.out.keep k10 (fun _ _ _ h => h))
            clear FI n0 n1 n2 n3 n4 n5 g0 HKG HBG HSG k10
            rw [HIN.out] at hn
            have g2 := HBF.out.cell 2
            rcases HFG with ⟨hf, hk6, hov⟩ | ⟨i, g', hf, hg', hlen, hfair⟩
            · rw [show (Gm.plain g).id = g.id from rfl] at hf
              rw [hf] at hn
              unfold foundI at hn
              dsimp only at hn
              subst hn
              have c0 := (HCX.out.keep HKF.out id).cell 0
              rw [show c.kind = 6 from hk6] at c0
              have OV := refOver_any _ _ _ _ HSF.out
              rw [show overB g.st = true from hov] at OV
              replace OV := Lib.hid OV
              go_wp2_with fail
              refine OV.out.mono ?_
              rintro e w11 ⟨rfl, k11⟩
              have HKH := Lib.hid (HKF.out.trans k11 (fun _ _ h => h))
              clear OV c0 g2 k11 HBF HSF HKF HKP
              go_wp2
              go_roundw
              case rel => exact ⟨k2 + 1, by omega, by go_num, HKH.out⟩
              case measure => simp only [intOf]; omega
            · rw [show (Gm.plain g).id = g.id from rfl] at hf
              rw [hf] at hn
              unfold foundI at hn
              dsimp only at hn
              subst hn
              rw [← HIN.out] at hg'
              obtain ⟨m', hm', rfl⟩ := gm_of hg'
              have r0 : ¬ ((i : Int) < 0) := by omega
              have r1 : (0 : Int) ≤ (i : Int) := by omega
              have hil : i < in2.gs.length := (List.getElem?_eq_some_iff.1 hm').1
              have r2 : (i : Int) < (in2.gs.length : Int) := by omega
              have HFR := Lib.hid hfair
              have HLN : Hid (m'.st.length = g.st.length) := Lib.hid hlen
              have hN := (HIX.out.keep HKF.out (fun _ _ _ h => h)).gs
              rw [HE2.out.2.1] at hN
              obtain ⟨nb, no, e9, hnblk, _, hncell⟩ := hN.1.cell (fun _ => rfl) hm'
              have hml := hN.2 m' (List.mem_of_getElem? hm')
              obtain ⟨B3, b3, f3⟩ := Sts.shape hml.2
              have HSM := hml.2
              rw [f3] at HSM
              have HNC : Hid (∀ w', Keep noneOf w10 w' → w'.cell? ⟨nb, no + i * 3 + 2, none⟩ = some (.slice B3 m'.st.length b3)) := Lib.hid (fun w' k' => by
                have h1 := (k'.cell (p := ⟨nb, no + (i * 3 + 2), none⟩) hnblk (fun h => h)).trans (hncell 2 (by decide))
                rw [← f3]
                exact h1)
              have HE9 := Lib.hid e9
              replace HSM := Lib.hid HSM
              clear hfair hlen hg' hm' hN hncell hml f3 e9 hf hnblk
              go_wp2
              go_loopw [68] (fun i wr => ∃ (k3 : Nat), k3 ≤ g.st.length ∧ i = .int .i64 k3 ∧ Keep noneOf w10 wr) (fun i _ => g.st.length - (intOf i).toNat)
              case atStart => exact ⟨0, Nat.zero_le _, rfl, Keep.refl _ _⟩
              case round =>
                clear g2
                obtain ⟨k3, hk3, rfl, hkeep⟩ := hrel
                have HKR := Lib.hid (HKF.out.trans hkeep (fun _ _ h => h))
                by_cases hlt3 : k3 < g.st.length
                · have hx : g.st[k3]? = some g.st[k3] := List.getElem?_eq_getElem hlt3
                  have hl2 : k3 < m'.st.length := by rw [HLN.out]; exact hlt3
                  have hy : m'.st[k3]? = some m'.st[k3] := List.getElem?_eq_getElem hl2
                  have HF := HFR.out k3 _ _ hx hy
                  generalize g.st[k3] = x at *
                  generalize m'.st[k3] = y at *
                  have hS : Many Pst.cells 3 wr _ _ g.st := HSF.out.keep hkeep (fun _ _ _ h => h)
                  obtain ⟨sb, so, es, hsblk, _, hscell⟩ := hS.cell (fun _ => rfl) hx
                  have hT : Many Pst.cells 3 wr _ _ m'.st := HSM.out.keep hkeep (fun _ _ _ h => h)
                  obtain ⟨ub, uo, eu, hublk, _, hucell⟩ := hT.cell (fun _ => rfl) hy
                  have FC : Hid (∀ w', Calls Tryz.prog 29 #[.agg #[.int .i64 c.kind, .int .u64 c.ses, .int .u64 c.seq, .slice Ag c.ts.length cg, .int .u64 c.id, .int .u64 c.tok, .bool c.good, .int .u64 c.time], .agg #[.int .i64 code, .int .u64 aid, .int .u64 atok, .int .u64 aunt, .string atgt, .string acmd], .int .u64 im.now, .agg #[.int .i64 x.s, .int .u64 x.t, .int .u64 x.u], .agg #[.int .i64 y.s, .int .u64 y.t, .int .u64 y.u]] w' (TellsB true w')) := Lib.hid fun w' => by
                    have := fair_any w' c ⟨code, aid, atok, aunt, atgt, acmd⟩ im.now x y Ag cg HEG.out (by rw [show im.now = s.plain.now from congrArg Qp.now HIM.out]; exact HF)
                    unfold Cm.agg An.agg Pst.agg at this
                    rw [HEG.out] at this
                    exact this
                  have MC : Hid (∀ w', Keep noneOf wr w' → (w'.cell? ⟨pc, 0, none⟩ = some (.int .i64 c.kind) ∧ w'.cell? ⟨pc, 1, none⟩ = some (.int .u64 c.ses) ∧ w'.cell? ⟨pc, 2, none⟩ = some (.int .u64 c.seq) ∧ w'.cell? ⟨pc, 3, none⟩ = some (.slice Ag c.ts.length cg) ∧ w'.cell? ⟨pc, 4, none⟩ = some (.int .u64 c.id) ∧ w'.cell? ⟨pc, 5, none⟩ = some (.int .u64 c.tok) ∧ w'.cell? ⟨pc, 6, none⟩ = some (.bool c.good) ∧ w'.cell? ⟨pc, 7, none⟩ = some (.int .u64 c.time)) ∧
                      (w'.cell? ⟨pa, 0, none⟩ = some (.int .i64 code) ∧ w'.cell? ⟨pa, 1, none⟩ = some (.int .u64 aid) ∧ w'.cell? ⟨pa, 2, none⟩ = some (.int .u64 atok) ∧ w'.cell? ⟨pa, 3, none⟩ = some (.int .u64 aunt) ∧ w'.cell? ⟨pa, 4, none⟩ = some (.string atgt) ∧ w'.cell? ⟨pa, 5, none⟩ = some (.string acmd)) ∧
                      (w'.cell? ⟨pi, 0, none⟩ = some (.int .u64 im.now) ∧ w'.cell? ⟨pg, 2, none⟩ = some (.slice (some ⟨sb, so, none⟩) g.st.length b2) ∧ w'.cell? ⟨pn, 4, none⟩ = some (.slice (some ⟨nb, no, none⟩) in2.gs.length c2) ∧ w'.cell? ⟨nb, no + i * 3 + 2, none⟩ = some (.slice (some ⟨ub, uo, none⟩) m'.st.length b3)) ∧
                      (w'.cell? ⟨sb, so + k3 * 3, none⟩ = some (.int .i64 x.s) ∧ w'.cell? ⟨sb, so + k3 * 3 + 1, none⟩ = some (.int .u64 x.t) ∧ w'.cell? ⟨sb, so + k3 * 3 + 2, none⟩ = some (.int .u64 x.u)) ∧
                      (w'.cell? ⟨ub, uo + k3 * 3, none⟩ = some (.int .i64 y.s) ∧ w'.cell? ⟨ub, uo + k3 * 3 + 1, none⟩ = some (.int .u64 y.t) ∧ w'.cell? ⟨ub, uo + k3 * 3 + 2, none⟩ = some (.int .u64 y.u))) := Lib.hid fun w' k' => by
                    have kc := HCX.out.keep (HKR.out.trans k' (fun _ _ h => h)) id
                    have ka := HAX.out.keep (HKR.out.trans k' (fun _ _ h => h)) id
                    have kn := (HNX.out.keep (HKR.out.trans k' (fun _ _ h => h)) id).cell 4
                    have ki := (HBX.out.keep (HKR.out.trans k' (fun _ _ h => h)) id).cell 0
                    have kg := (HBF.out.keep (hkeep.trans k' (fun _ _ h => h)) id).cell 2
                    have km := HNC.out w' (hkeep.trans k' (fun _ _ h => h))
                    have ks := fun j hj => (k'.cell (p := ⟨sb, so + (k3 * 3 + j), none⟩) hsblk (fun h => h)).trans (hscell j hj)
                    have ku := fun j hj => (k'.cell (p := ⟨ub, uo + (k3 * 3 + j), none⟩) hublk (fun h => h)).trans (hucell j hj)
                    rw [es] at kg
                    rw [HE9.out] at kn
                    rw [eu] at km
                    exact ⟨⟨kc.cell 0, kc.cell 1, kc.cell 2, kc.cell 3, kc.cell 4, kc.cell 5, kc.cell 6, kc.cell 7⟩, ⟨ka.cell 0, ka.cell 1, ka.cell 2, ka.cell 3, ka.cell 4, ka.cell 5⟩, ⟨ki, kg, kn, km⟩, ⟨ks 0 (by decide), ks 1 (by decide), ks 2 (by decide)⟩, ⟨ku 0 (by decide), ku 1 (by decide), ku 2 (by decide)⟩⟩
                  have s0 : (0 : Int) ≤ (k3 : Int) := by omega
                  have s1 : (k3 : Int) < (g.st.length : Int) := by omega
                  have s2' : (k3 : Int) < (m'.st.length : Int) := by omega
                  have K0 := (Keep.refl noneOf wr).drew
                  have HKW := Lib.hid hkeep
                  clear hS hT hscell hucell hsblk hublk es eu hx hy HF hkeep hl2
                  go_upto_region 24 with fail
                  refine wp_region_held_drew (S := fun w' => Keep noneOf wr w') (by kernel_rfl) (K0) (fun hHeld => ?_)
                  refine' wpAnyH_take (i := 0) (v := _) rfl (by kernel_rfl) (by kernel_rfl) (by kernel_rfl) (fun _ _ _ h => h) (Or.inl ⟨by kernel_rfl, ?hy0⟩) (by assumption) ?_
                  case hy0 => intro w' hSw; obtain ⟨⟨_, _, _, _, _, _, _, _⟩, ⟨_, _, _, _, _, _⟩, ⟨_, _, _, _⟩, ⟨_, _, _⟩, ⟨_, _, _⟩⟩ := MC.out w' hSw; go_simp; try with_reducible rfl
                  simp only [Act.put, List.getElem_toArray, List.getElem_cons_zero, List.getElem_cons_succ, List.setIfInBounds_toArray, List.set_cons_zero, List.set_cons_succ]
                  refine' wpAnyH_take (i := 1) (v := _) rfl (by kernel_rfl) (by kernel_rfl) (by kernel_rfl) (fun _ _ _ h => h) (Or.inl ⟨by kernel_rfl, ?hy1⟩) (by assumption) ?_
                  case hy1 => intro w' hSw; obtain ⟨⟨_, _, _, _, _, _, _, _⟩, ⟨_, _, _, _, _, _⟩, ⟨_, _, _, _⟩, ⟨_, _, _⟩, ⟨_, _, _⟩⟩ := MC.out w' hSw; go_simp; try with_reducible rfl
                  simp only [Act.put, List.getElem_toArray, List.getElem_cons_zero, List.getElem_cons_succ, List.setIfInBounds_toArray, List.set_cons_zero, List.set_cons_succ]
                  refine' wpAnyH_take (i := 2) (v := _) rfl (by kernel_rfl) (by kernel_rfl) (by kernel_rfl) (fun _ _ _ h => h) (Or.inl ⟨by kernel_rfl, ?hy2⟩) (by assumption) ?_
                  case hy2 => intro w' hSw; obtain ⟨⟨_, _, _, _, _, _, _, _⟩, ⟨_, _, _, _, _, _⟩, ⟨_, _, _, _⟩, ⟨_, _, _⟩, ⟨_, _, _⟩⟩ := MC.out w' hSw; go_simp; try with_reducible rfl
                  simp only [Act.put, List.getElem_toArray, List.getElem_cons_zero, List.getElem_cons_succ, List.setIfInBounds_toArray, List.set_cons_zero, List.set_cons_succ]
                  refine' wpAnyH_take (i := 3) (v := _) rfl (by kernel_rfl) (by kernel_rfl) (by kernel_rfl) (fun _ _ _ h => h) (Or.inl ⟨by kernel_rfl, ?hy3⟩) (by assumption) ?_
                  case hy3 => intro w' hSw; obtain ⟨⟨_, _, _, _, _, _, _, _⟩, ⟨_, _, _, _, _, _⟩, ⟨_, _, _, _⟩, ⟨_, _, _⟩, ⟨_, _, _⟩⟩ := MC.out w' hSw; go_simp; try with_reducible rfl
                  simp only [Act.put, List.getElem_toArray, List.getElem_cons_zero, List.getElem_cons_succ, List.setIfInBounds_toArray, List.set_cons_zero, List.set_cons_succ]
                  refine' wpAnyH_take (i := 4) (v := _) rfl (by kernel_rfl) (by kernel_rfl) (by kernel_rfl) (fun _ _ _ h => h) (Or.inl ⟨by kernel_rfl, ?hy4⟩) (by assumption) ?_
                  case hy4 => intro w' hSw; obtain ⟨⟨_, _, _, _, _, _, _, _⟩, ⟨_, _, _, _, _, _⟩, ⟨_, _, _, _⟩, ⟨_, _, _⟩, ⟨_, _, _⟩⟩ := MC.out w' hSw; go_simp; try with_reducible rfl
                  simp only [Act.put, List.getElem_toArray, List.getElem_cons_zero, List.getElem_cons_succ, List.setIfInBounds_toArray, List.set_cons_zero, List.set_cons_succ]
                  refine' wpAnyH_take (i := 5) (v := _) rfl (by kernel_rfl) (by kernel_rfl) (by kernel_rfl) (fun _ _ _ h => h) (Or.inl ⟨by kernel_rfl, ?hy5⟩) (by assumption) ?_
                  case hy5 => intro w' hSw; obtain ⟨⟨_, _, _, _, _, _, _, _⟩, ⟨_, _, _, _, _, _⟩, ⟨_, _, _, _⟩, ⟨_, _, _⟩, ⟨_, _, _⟩⟩ := MC.out w' hSw; go_simp; try with_reducible rfl
                  simp only [Act.put, List.getElem_toArray, List.getElem_cons_zero, List.getElem_cons_succ, List.setIfInBounds_toArray, List.set_cons_zero, List.set_cons_succ]
                  refine' wpAnyH_take (i := 6) (v := _) rfl (by kernel_rfl) (by kernel_rfl) (by kernel_rfl) (fun _ _ _ h => h) (Or.inl ⟨by kernel_rfl, ?hy6⟩) (by assumption) ?_
                  case hy6 => intro w' hSw; obtain ⟨⟨_, _, _, _, _, _, _, _⟩, ⟨_, _, _, _, _, _⟩, ⟨_, _, _, _⟩, ⟨_, _, _⟩, ⟨_, _, _⟩⟩ := MC.out w' hSw; go_simp; try with_reducible rfl
                  simp only [Act.put, List.getElem_toArray, List.getElem_cons_zero, List.getElem_cons_succ, List.setIfInBounds_toArray, List.set_cons_zero, List.set_cons_succ]
                  refine' wpAnyH_take (i := 7) (v := _) rfl (by kernel_rfl) (by kernel_rfl) (by kernel_rfl) (fun _ _ _ h => h) (Or.inl ⟨by kernel_rfl, ?hy7⟩) (by assumption) ?_
                  case hy7 => intro w' hSw; obtain ⟨⟨_, _, _, _, _, _, _, _⟩, ⟨_, _, _, _, _, _⟩, ⟨_, _, _, _⟩, ⟨_, _, _⟩, ⟨_, _, _⟩⟩ := MC.out w' hSw; go_simp; try with_reducible rfl
                  simp only [Act.put, List.getElem_toArray, List.getElem_cons_zero, List.getElem_cons_succ, List.setIfInBounds_toArray, List.set_cons_zero, List.set_cons_succ]
                  refine' wpAnyH_take (i := 8) (v := _) rfl (by kernel_rfl) (by kernel_rfl) (by kernel_rfl) (fun _ _ _ h => h) (Or.inl ⟨by kernel_rfl, ?hy8⟩) (by assumption) ?_
                  case hy8 => intro w' hSw; obtain ⟨⟨_, _, _, _, _, _, _, _⟩, ⟨_, _, _, _, _, _⟩, ⟨_, _, _, _⟩, ⟨_, _, _⟩, ⟨_, _, _⟩⟩ := MC.out w' hSw; go_simp; try with_reducible rfl
                  simp only [Act.put, List.getElem_toArray, List.getElem_cons_zero, List.getElem_cons_succ, List.setIfInBounds_toArray, List.set_cons_zero, List.set_cons_succ]
                  refine' wpAnyH_take (i := 9) (v := _) rfl (by kernel_rfl) (by kernel_rfl) (by kernel_rfl) (fun _ _ _ h => h) (Or.inl ⟨by kernel_rfl, ?hy9⟩) (by assumption) ?_
                  case hy9 => intro w' hSw; obtain ⟨⟨_, _, _, _, _, _, _, _⟩, ⟨_, _, _, _, _, _⟩, ⟨_, _, _, _⟩, ⟨_, _, _⟩, ⟨_, _, _⟩⟩ := MC.out w' hSw; go_simp; try with_reducible rfl
                  simp only [Act.put, List.getElem_toArray, List.getElem_cons_zero, List.getElem_cons_succ, List.setIfInBounds_toArray, List.set_cons_zero, List.set_cons_succ]
                  refine' wpAnyH_take (i := 10) (v := _) rfl (by kernel_rfl) (by kernel_rfl) (by kernel_rfl) (fun _ _ _ h => h) (Or.inl ⟨by kernel_rfl, ?hy10⟩) (by assumption) ?_
                  case hy10 => intro w' hSw; obtain ⟨⟨_, _, _, _, _, _, _, _⟩, ⟨_, _, _, _, _, _⟩, ⟨_, _, _, _⟩, ⟨_, _, _⟩, ⟨_, _, _⟩⟩ := MC.out w' hSw; go_simp; try with_reducible rfl
                  simp only [Act.put, List.getElem_toArray, List.getElem_cons_zero, List.getElem_cons_succ, List.setIfInBounds_toArray, List.set_cons_zero, List.set_cons_succ]
                  refine' wpAnyH_take (i := 11) (v := _) rfl (by kernel_rfl) (by kernel_rfl) (by kernel_rfl) (fun _ _ _ h => h) (Or.inl ⟨by kernel_rfl, ?hy11⟩) (by assumption) ?_
                  case hy11 => intro w' hSw; obtain ⟨⟨_, _, _, _, _, _, _, _⟩, ⟨_, _, _, _, _, _⟩, ⟨_, _, _, _⟩, ⟨_, _, _⟩, ⟨_, _, _⟩⟩ := MC.out w' hSw; go_simp; try with_reducible rfl
                  simp only [Act.put, List.getElem_toArray, List.getElem_cons_zero, List.getElem_cons_succ, List.setIfInBounds_toArray, List.set_cons_zero, List.set_cons_succ]
                  refine' wpAnyH_take (i := 12) (v := _) rfl (by kernel_rfl) (by kernel_rfl) (by kernel_rfl) (fun _ _ _ h => h) (Or.inl ⟨by kernel_rfl, ?hy12⟩) (by assumption) ?_
                  case hy12 => intro w' hSw; obtain ⟨⟨_, _, _, _, _, _, _, _⟩, ⟨_, _, _, _, _, _⟩, ⟨_, _, _, _⟩, ⟨_, _, _⟩, ⟨_, _, _⟩⟩ := MC.out w' hSw; go_simp; try with_reducible rfl
                  simp only [Act.put, List.getElem_toArray, List.getElem_cons_zero, List.getElem_cons_succ, List.setIfInBounds_toArray, List.set_cons_zero, List.set_cons_succ]
                  refine' wpAnyH_take (i := 13) (v := _) rfl (by kernel_rfl) (by kernel_rfl) (by kernel_rfl) (fun _ _ _ h => h) (Or.inl ⟨by kernel_rfl, ?hy13⟩) (by assumption) ?_
                  case hy13 => intro w' hSw; obtain ⟨⟨_, _, _, _, _, _, _, _⟩, ⟨_, _, _, _, _, _⟩, ⟨_, _, _, _⟩, ⟨_, _, _⟩, ⟨_, _, _⟩⟩ := MC.out w' hSw; go_simp; try with_reducible rfl
                  simp only [Act.put, List.getElem_toArray, List.getElem_cons_zero, List.getElem_cons_succ, List.setIfInBounds_toArray, List.set_cons_zero, List.set_cons_succ]
                  refine' wpAnyH_take (i := 14) (v := _) rfl (by kernel_rfl) (by kernel_rfl) (by kernel_rfl) (fun _ _ _ h => h) (Or.inl ⟨by kernel_rfl, ?hy14⟩) (by assumption) ?_
                  case hy14 => intro w' hSw; obtain ⟨⟨_, _, _, _, _, _, _, _⟩, ⟨_, _, _, _, _, _⟩, ⟨_, _, _, _⟩, ⟨_, _, _⟩, ⟨_, _, _⟩⟩ := MC.out w' hSw; go_simp; try with_reducible rfl
                  simp only [Act.put, List.getElem_toArray, List.getElem_cons_zero, List.getElem_cons_succ, List.setIfInBounds_toArray, List.set_cons_zero, List.set_cons_succ]
                  refine' wpAnyH_take (i := 15) (v := _) rfl (by kernel_rfl) (by kernel_rfl) (by kernel_rfl) (fun _ _ _ h => h) (Or.inl ⟨by kernel_rfl, ?hy15⟩) (by assumption) ?_
                  case hy15 => intro w' hSw; obtain ⟨⟨_, _, _, _, _, _, _, _⟩, ⟨_, _, _, _, _, _⟩, ⟨_, _, _, _⟩, ⟨_, _, _⟩, ⟨_, _, _⟩⟩ := MC.out w' hSw; go_simp; try with_reducible rfl
                  simp only [Act.put, List.getElem_toArray, List.getElem_cons_zero, List.getElem_cons_succ, List.setIfInBounds_toArray, List.set_cons_zero, List.set_cons_succ]
                  refine' wpAnyH_take (i := 16) (v := _) rfl (by kernel_rfl) (by kernel_rfl) (by kernel_rfl) (fun _ _ _ h => h) (Or.inl ⟨by kernel_rfl, ?hy16⟩) (by assumption) ?_
                  case hy16 => intro w' hSw; obtain ⟨⟨_, _, _, _, _, _, _, _⟩, ⟨_, _, _, _, _, _⟩, ⟨_, _, _, _⟩, ⟨_, _, _⟩, ⟨_, _, _⟩⟩ := MC.out w' hSw; go_simp; try with_reducible rfl
                  simp only [Act.put, List.getElem_toArray, List.getElem_cons_zero, List.getElem_cons_succ, List.setIfInBounds_toArray, List.set_cons_zero, List.set_cons_succ]
                  refine' wpAnyH_take (i := 17) (v := _) rfl (by kernel_rfl) (by kernel_rfl) (by kernel_rfl) (fun _ _ _ h => h) (Or.inl ⟨by kernel_rfl, ?hy17⟩) (by assumption) ?_
                  case hy17 => intro w' hSw; obtain ⟨⟨_, _, _, _, _, _, _, _⟩, ⟨_, _, _, _, _, _⟩, ⟨_, _, _, _⟩, ⟨_, _, _⟩, ⟨_, _, _⟩⟩ := MC.out w' hSw; go_simp; try with_reducible rfl
                  simp only [Act.put, List.getElem_toArray, List.getElem_cons_zero, List.getElem_cons_succ, List.setIfInBounds_toArray, List.set_cons_zero, List.set_cons_succ]
                  refine wpAnyH_ready (rs := [18]) (by kernel_rfl) (by simp) (AllReadyH.cons rfl (fun K hK => ?_) AllReadyH.nil)
                  go_simp
                  go_at_call 29
                  refine (FC.out _).mono ?_
                  rintro e w12 ⟨rfl, k12⟩
                  have K12 : Keep noneOf wr w12 := K0.trans k12 (fun _ _ h => h)
                  go_wp2_with fail
                  refine hK.out _ _ (K12) (fun hHeld => ?_)
                  clear hK K
                  try simp only [Act.put, List.getElem_toArray, List.getElem_cons_zero, List.getElem_cons_succ, List.setIfInBounds_toArray, List.set_cons_zero, List.set_cons_succ]
                  refine' wpAnyH_take (i := 19) (v := .bool false) rfl (by kernel_rfl) (by kernel_rfl) (by kernel_rfl) (fun _ _ _ h => h) (Or.inl ⟨by kernel_rfl, ?hy19⟩) (by assumption) ?_
                  case hy19 => intro w' hSw; obtain ⟨⟨_, _, _, _, _, _, _, _⟩, ⟨_, _, _, _, _, _⟩, ⟨_, _, _, _⟩, ⟨_, _, _⟩, ⟨_, _, _⟩⟩ := MC.out w' hSw; first | rfl | (go_simp; try simp only [List.getElem?_cons_zero, Option.getD_some]; try go_simp)
                  simp only [Act.put, List.getElem_toArray, List.getElem_cons_zero, List.getElem_cons_succ, List.setIfInBounds_toArray, List.set_cons_zero, List.set_cons_succ]
                  refine wpAnyH_done (by kernel_rfl) ?_ _
                  have HK12 := Lib.hid (HKW.out.trans K12 (fun _ _ h => h))
                  clear FC MC K0 K12 k12 hHeld HKW HKR
                  go_wp2
                  go_roundw
                  case rel => exact ⟨k3 + 1, by omega, by go_num, HK12.out⟩
                  case measure => simp only [intOf]; omega
                · have hkn3 : ¬ ((k3 : Int) < (g.st.length : Int)) := by omega
                  clear hlt3 hkeep
                  go_wp2
                  go_roundw
                  case rel => exact ⟨k2 + 1, by omega, by go_num, HKR.out⟩
                  case measure => simp only [intOf]; omega
          · have hkn2 : ¬ ((k2 : Int) < (im.gs.length : Int)) := by omega
            have HOZ := Lib.hid (HOX.out.stay HKP.out)
            clear hlt2 hkeep
            go_wp2
            go_roundw
            case rel => exact ⟨k + 1, _, _, by omega, by go_num, HOZ.out⟩
            case measure => simp only [intOf]; omega
    · have hkn : ¬ ((k : Int) < (cs.length : Int)) := by omega
      clear hlt
      go_wp2
      go_ret
      exact ⟨rfl, HOW.out.keep⟩
namespace QueueFences
set_option maxRecDepth 100000 in
theorem lifted (os : Os) (started : os.Started) (H : Type) (enc : TypeId × Value → H) :
    ReturnsInHanded {} Tryz.checked os 6 .any (Rows.queueFencesSpec.pre6 enc Tryz.prog Tryz.f6 Rows.queueFencesRow.domain false) (Rows.queueFencesSpec.post enc Tryz.prog Tryz.f6 false true false false) := by
  refine returnsInHanded_of_change_sized (C := Tryz.checked) own started (by kernel_rfl) Tryz.func6
    (ChangeSpec.witness6 (enc := enc) (C := Tryz.checked) false ⟨#[], #[.slice none 0 0], []⟩ 8 (by kernel_rfl) (by kernel_rfl) (by kernel_rfl) (by kernel_rfl)) ?_
  intro W base args ds gs before hval0 hW hcnd hsz _
  have hval : ∀ (j : Nat) t v, Tryz.f6.params[j]? = some t → args[j]? = some v → Value.okWide Tryz.prog W .any base t v := hval0
  have hW' := hW
  obtain ⟨p, q, hA0, hV, rfl, hfz, hnd⟩ := hW
  have hA : DataW.TrodAll enc Tryz.prog W 0 (fun _ => true) true Tryz.f6.params.toList args.toList ds p := hA0
  rw [Tryz.params6] at hA hval
  obtain ⟨v0, vs0, d0, ds0, p0, q0, hargs, rfl, rfl, h0, r0⟩ := trodAll_cons hA
  obtain ⟨rfl, rfl, rfl⟩ := trodAll_nil r0
  obtain rfl : args = #[v0] := by cases args; simp_all
  obtain ⟨rfl, rfl⟩ := trodVars_none hV
  have k0 := h0
  have lt0 : ∀ x ∈ p0, x.block < W.heap.size := by obtain ⟨m, hm⟩ := k0; exact DataW.trod_lt m _ _ _ hm
  obtain ⟨A0, c0, l0, rfl, hl0⟩ := open_arg_cms (hval 0 22 v0 rfl rfl) h0 (light_arg hsz (j := 0) rfl rfl)
  clear hA0 hval0
  refine (fences_walk W A0 c0 l0 hl0).mono fun e W' ⟨he, bel0⟩ => ?_
  subst he
  have bel := bel0.all
  exact ⟨_, rfl, _, _, _, [], _, [], hW', trodAll_mk1 (shut_bool Tryz.underlying4 _), (trodAll_cons_mk (Below.trod laidOut (by kernel_rfl) (of_decide_eq_true (by kernel_rfl)) k0 bel lt0) trodAll_mk0), rfl, bel.frame _, fun h => by cases h⟩
theorem over : Rows.queueFencesRow.holds Tryz.pinned (OpenSpec.ofChange Rows.queueFencesSpec) :=
  OpenClaim.holds_of_wide 6 Tryz.f6 rfl rfl rfl rfl rfl rfl rfl ⟨rfl, rfl, rfl, rfl, rfl⟩ rfl rfl rfl rfl rfl (by kernel_rfl) Tryz.func6 (by kernel_rfl)
    (of_decide_eq_true (by kernel_rfl)) (by unfold Func.isWrapper; first | (rw [if_pos (by decide +kernel)]; kernel_rfl) | (rw [if_neg (by decide +kernel)]; exact ⟨rfl, rfl⟩))
    (fun os started H enc _ => lifted os started H enc)
theorem proved : Rows.QueueFencesSaid := over
end QueueFences
end Go.Proofs.YtkoikmdmejhhhaaGreat
