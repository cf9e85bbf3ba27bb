/-
  DockyardBuild: a graph that is built by executors, some of which fail, ends with each target skipped just if a need of it was not done, failed if it was reported so, else done. No conditions.
-/
import Derived.Test.YtkoikmdmejhhhaaGreatRows
import Derived.BigQuiet
import Derived.ChangeOld
import Derived.Deep.QuietTactic
import Derived.Deep.RegionHeld3
import Derived.Deep.Slices
import Derived.Laws.StructEq
import Derived.OpenShut
import Derived.ProofKit
import Derived.Shelf.RegionOpen
import Derived.SizedLaws
import Derived.Test.YtkoikmdmejhhhaaGreatBs01
import Derived.Test.YtkoikmdmejhhhaaGreatBs02
import Derived.Test.YtkoikmdmejhhhaaGreatBs03
import Derived.Test.YtkoikmdmejhhhaaGreatBs04
import Derived.Test.YtkoikmdmejhhhaaGreatBs05
import Derived.Test.YtkoikmdmejhhhaaGreatBs06
import Derived.Test.YtkoikmdmejhhhaaGreatBs07
import Derived.Test.YtkoikmdmejhhhaaGreatBs08
import Derived.Test.YtkoikmdmejhhhaaGreatBs09
import Derived.Test.YtkoikmdmejhhhaaGreatBs10
import Derived.Test.YtkoikmdmejhhhaaGreatBs11
import Derived.Test.YtkoikmdmejhhhaaGreatBs12
import Derived.Test.YtkoikmdmejhhhaaGreatBs13
import Derived.Test.YtkoikmdmejhhhaaGreatBs14
import Derived.Test.YtkoikmdmejhhhaaGreatBs15
import Derived.Test.YtkoikmdmejhhhaaGreatBs16
import Derived.Test.YtkoikmdmejhhhaaGreatBs17
import Derived.Test.YtkoikmdmejhhhaaGreatBs18
import Derived.Test.YtkoikmdmejhhhaaGreatBs19
import Derived.Test.YtkoikmdmejhhhaaGreatBs20
import Derived.Test.YtkoikmdmejhhhaaGreatBs21
import Derived.Test.YtkoikmdmejhhhaaGreatBs22
import Derived.Test.YtkoikmdmejhhhaaGreatBs23
import Derived.Test.YtkoikmdmejhhhaaGreatBs24
import Derived.Test.YtkoikmdmejhhhaaGreatBs25
import Derived.Test.YtkoikmdmejhhhaaGreatBs26
import Derived.Test.YtkoikmdmejhhhaaGreatBs27
import Derived.Test.YtkoikmdmejhhhaaGreatBs28
import Derived.Test.YtkoikmdmejhhhaaGreatBs29
import Derived.Test.YtkoikmdmejhhhaaGreatBs30
import Derived.Test.YtkoikmdmejhhhaaGreatBs31
import Derived.Test.YtkoikmdmejhhhaaGreatBs32
import Derived.Test.YtkoikmdmejhhhaaGreatBs33
import Derived.Test.YtkoikmdmejhhhaaGreatBs34
import Derived.Test.YtkoikmdmejhhhaaGreatBs35
import Derived.Test.YtkoikmdmejhhhaaGreatBs36
import Derived.Test.YtkoikmdmejhhhaaGreatBs37
import Derived.Test.YtkoikmdmejhhhaaGreatBs38
import Derived.Test.YtkoikmdmejhhhaaGreatBs39
import Derived.Test.YtkoikmdmejhhhaaGreatBs40
import Derived.Test.YtkoikmdmejhhhaaGreatBs41
import Derived.Test.YtkoikmdmejhhhaaGreatBs42
import Derived.Test.YtkoikmdmejhhhaaGreatBs43
import Derived.Test.YtkoikmdmejhhhaaGreatBs44
import Derived.Test.YtkoikmdmejhhhaaGreatBs45
import Derived.Test.YtkoikmdmejhhhaaGreatBs46
import Derived.Test.YtkoikmdmejhhhaaGreatBs47
import Derived.Test.YtkoikmdmejhhhaaGreatBs48
import Derived.Test.YtkoikmdmejhhhaaGreatBs49
import Derived.Test.YtkoikmdmejhhhaaGreatBs50
namespace Go.Proofs.YtkoikmdmejhhhaaGreat
theorem findIx_name {ps : List Pt} {s : ByteArray} {k : Nat} (h : findIx ps s = some k) : ∃ p, ps[k]? = some p ∧ p.name = s := by
  unfold findIx at h
  rw [List.findIdx?_eq_some_iff_getElem] at h
  obtain ⟨hk, hp, _⟩ := h
  exact ⟨ps[k], List.getElem?_eq_getElem hk, by simpa using hp⟩
end Go.Proofs.YtkoikmdmejhhhaaGreat
namespace Go.Proofs.YtkoikmdmejhhhaaGreat
open Go.RowKit Go.ChangeShapes Go.WideShapes Go.Deep
section
variable {H : Type} {enc : TypeId × Value → H} {w : World} {base : Nat} {held : Bool}
set_option maxRecDepth 100000 in
theorem open_graph {v : Value} {d : DataW H} {p : List MemPlace} (hv : Value.okWide Tryz.prog w .any base 35 v) (h : DataW.Trod enc Tryz.prog w 0 (fun _ => true) true 35 v d p) (hw : Light 35 d) :
    ∃ (A : Option Addr) (c : Nat) (ts : List Tg), v = .agg #[.slice A ts.length c] ∧ Tgs w (fun _ => True) (.slice A ts.length c) ts ∧ ts.length * 56 ≤ reachBytes ∧ ∀ t ∈ ts, t.needs.length * 16 ≤ reachBytes := by
  obtain ⟨cs, rfl, hsz⟩ := okWide_struct Tryz.underlying35 hv
  have hC : Tryz.prog.cellsOf 35 = 1 := by kernel_rfl
  have o5 : Tryz.prog.cellsOf 33 = 1 := by kernel_rfl
  obtain ⟨l⟩ := cs
  obtain ⟨fuel, hf⟩ := h
  obtain ⟨xs, n, _, hy, _, hxl, hg⟩ := DataW.trod_struct Tryz.underlying35 hf
  match l, hsz.trans hC with
  | [c0], _ =>
    have g0 := hg 0 _ rfl
    match xs, hxl with
    | [x0], _ =>
      simp [o5, Value.cells] at g0
      have hd : d = .agg [x0.1] := by simpa using congrArg Prod.fst hy
      have hl : Light 33 x0.1 := fun k hk => hw k (by
        rw [hd]
        simp only [DataW.weights, Tryz.underlying35]
        exact DataW.weights_mem_each (j := 0) (t := 33) (d := x0.1) rfl rfl k hk)
      obtain ⟨ts, hts, h56, h16⟩ := open_tgs g0 hl
      obtain ⟨A, c, hc0, _⟩ := id hts.1
      subst hc0
      exact ⟨A, c, ts, rfl, hts, h56, h16⟩
end
end Go.Proofs.YtkoikmdmejhhhaaGreat
namespace Go.Proofs.YtkoikmdmejhhhaaGreat
theorem freshAt_looks (ps : List Pt) (ks : List Nat) (P : Nat → Bool) : Looks (ps.map (needsOf ps)) (freshAt ps ks P) := by
  intro l m p h
  unfold freshAt
  congr 1
  rw [Bool.eq_iff_iff, List.all_eq_true, List.all_eq_true]
  have e : ∀ n ∈ needsAt ps (p : Int), l.getD n false = m.getD n false := fun n hn => by
    rw [List.getD_eq_getElem?_getD, List.getD_eq_getElem?_getD, h n (by rw [needsAt_nd]; exact hn)]
  exact ⟨fun hh n hn => by rw [← e n hn]; exact hh n hn, fun hh n hn => by rw [e n hn]; exact hh n hn⟩
theorem grFresh_sol {ps : List Pt} (P : Nat → Bool) (h : grCheck ps = 0) (p : Nat) (hp : p < ps.length) : (grFresh ps P)[p]? = some (freshAt ps (grKeys ps) P (grFresh ps P) p) := by
  have hp' := order_covers (Ordered.places ps).nodup (by simpa using (Ordered.places ps).lt) (by rw [← order_is h, order_len h]) p hp
  have := runOf_sol (freshAt_looks ps (grKeys ps) P) (Ordered.places ps) (List.replicate (grOrder ps).length false) (by rw [List.length_replicate, order_len h, List.length_map]) (placesOf ps).length p (by rw [List.take_length]; exact hp')
  rw [List.take_length] at this
  unfold grFresh
  rw [order_is h] at this ⊢
  exact this
end Go.Proofs.YtkoikmdmejhhhaaGreat
namespace Go.Proofs.YtkoikmdmejhhhaaGreat
open Go.RowKit
theorem LeastOk.yes {nd : List (List Nat)} {l : List Nat} {n m : Nat} (hm : m < n) (h : okAt nd l m = true) : LeastOk nd l n m m := .inr ⟨m, rfl, Nat.le_refl _, hm, h, fun j h1 h2 => by omega⟩
theorem LeastOk.no {nd : List (List Nat)} {l : List Nat} {n m : Nat} {nx : Int} (h : LeastOk nd l n (m + 1) nx) (hm : okAt nd l m = false) : LeastOk nd l n m nx := by
  rcases h with ⟨h1, h2⟩ | ⟨q, h1, h2, h3, h4, h5⟩
  · refine .inl ⟨h1, fun j hj hjn => ?_⟩
    by_cases e : j = m
    · subst e; exact hm
    · exact h2 j (by omega) hjn
  · refine .inr ⟨q, h1, by omega, h3, h4, fun j hj hjn => ?_⟩
    by_cases e : j = m
    · subst e; exact hm
    · exact h5 j (by omega) hjn
end Go.Proofs.YtkoikmdmejhhhaaGreat
namespace Go.Proofs.YtkoikmdmejhhhaaGreat
open Go.RowKit
theorem st_under : Tryz.prog.underlying 64 = some (.struct (Tryz.prog.fieldsOf 64)) := by kernel_rfl
theorem st_fields : (Tryz.prog.fieldsOf 64).toList.map (fun f => (f.name == "_", f.type, f.offset)) = [(false, 3, 0), (false, 23, 1), (false, 23, 2)] := by kernel_rfl
theorem st_held : Tryz.prog.stoodInHeld 64 = false := by kernel_rfl
theorem st_guard : Tryz.prog.eqGuardType Tryz.prog.depth 64 = false := by kernel_rfl
theorem run_equal3 (d : Nat) (w : World) (x y : Pst) : (Op.equalIn (d + 2) 64 (.agg #[.int .i64 x.s, .int .u64 x.t, .int .u64 x.u]) (.agg #[.int .i64 y.s, .int .u64 y.t, .int .u64 y.u])).run Tryz.prog w = .ok (decide (x = y)) w := by
  rw [run_equalIn_struct w (d + 1) _ _ _ st_under st_held]
  have h := st_fields
  generalize (Tryz.prog.fieldsOf 64).toList = fs at h
  have hl : fs.length = 3 := by simpa using congrArg List.length h
  match fs, hl with
  | [f0, f1, f2], _ =>
    simp only [List.map_cons, List.map_nil, List.cons.injEq, Prod.mk.injEq, and_true, beq_eq_false_iff_ne] at h
    obtain ⟨⟨n0, t0, o0⟩, ⟨n1, t1, o1⟩, ⟨n2, t2, o2⟩⟩ := h
    have p0 : ∀ w', (part f0.type #[.int .i64 x.s, .int .u64 x.t, .int .u64 x.u] f0.offset).run Tryz.prog w' = .ok (.int .i64 x.s) w' := fun w' => by rw [t0, o0]; exact run_part1 w' _ _ _ _ _ Tryz.underlying3 rfl
    have p1 : ∀ w', (part f1.type #[.int .i64 x.s, .int .u64 x.t, .int .u64 x.u] f1.offset).run Tryz.prog w' = .ok (.int .u64 x.t) w' := fun w' => by rw [t1, o1]; exact run_part1 w' _ _ _ _ _ Tryz.underlying23 rfl
    have p2 : ∀ w', (part f2.type #[.int .i64 x.s, .int .u64 x.t, .int .u64 x.u] f2.offset).run Tryz.prog w' = .ok (.int .u64 x.u) w' := fun w' => by rw [t2, o2]; exact run_part1 w' _ _ _ _ _ Tryz.underlying23 rfl
    have q0 : ∀ w', (part f0.type #[.int .i64 y.s, .int .u64 y.t, .int .u64 y.u] f0.offset).run Tryz.prog w' = .ok (.int .i64 y.s) w' := fun w' => by rw [t0, o0]; exact run_part1 w' _ _ _ _ _ Tryz.underlying3 rfl
    have q1 : ∀ w', (part f1.type #[.int .i64 y.s, .int .u64 y.t, .int .u64 y.u] f1.offset).run Tryz.prog w' = .ok (.int .u64 y.t) w' := fun w' => by rw [t1, o1]; exact run_part1 w' _ _ _ _ _ Tryz.underlying23 rfl
    have q2 : ∀ w', (part f2.type #[.int .i64 y.s, .int .u64 y.t, .int .u64 y.u] f2.offset).run Tryz.prog w' = .ok (.int .u64 y.u) w' := fun w' => by rw [t2, o2]; exact run_part1 w' _ _ _ _ _ Tryz.underlying23 rfl
    have e0 : ∀ w', (Op.equalIn (d + 1) f0.type (.int .i64 x.s) (.int .i64 y.s)).run Tryz.prog w' = .ok (x.s == y.s) w' := fun w' => by rw [t0]; exact run_equalIn_int w' d _ _ _ _ _ Tryz.underlying3
    have e1 : ∀ w', (Op.equalIn (d + 1) f1.type (.int .u64 x.t) (.int .u64 y.t)).run Tryz.prog w' = .ok (x.t == y.t) w' := fun w' => by rw [t1]; exact run_equalIn_int w' d _ _ _ _ _ Tryz.underlying23
    have e2 : ∀ w', (Op.equalIn (d + 1) f2.type (.int .u64 x.u) (.int .u64 y.u)).run Tryz.prog w' = .ok (x.u == y.u) w' := fun w' => by rw [t2]; exact run_equalIn_int w' d _ _ _ _ _ Tryz.underlying23
    have hd : decide (x = y) = (x.s == y.s && x.t == y.t && x.u == y.u) := by
      rw [Bool.eq_iff_iff, decide_eq_true_eq, ← Pst.same_iff]
      rfl
    rw [hd]
    simp only [Op.eqFields, n0, n1, n2, ne_eq, not_false_eq_true, if_true, Sem.run_bind, Sem.run_ite, Sem.run_pure, p0, p1, p2, q0, q1, q2, e0, e1, e2, Result.andThen_ok]
    cases x.s == y.s <;> cases x.t == y.t <;> cases x.u == y.u <;> rfl
theorem run_neq3 (w : World) (x y : Pst) : (binOp .neq 64 (.agg #[.int .i64 x.s, .int .u64 x.t, .int .u64 x.u]) (.agg #[.int .i64 y.s, .int .u64 y.t, .int .u64 y.u])).run Tryz.prog w = .ok (.bool (!decide (x = y))) w := by
  rw [run_neq_struct, run_equal3 9998 w x y]
  rfl
set_option maxRecDepth 100000 in
set_option maxHeartbeats 1000000 in
theorem same_any (w : World) (D D' : Nat → Prop) (v v' : Value) (l m : List Pst) (h : Sts w D v l) (h' : Sts w D' v' m) : Calls Tryz.prog 32 #[v, v'] w (TellsB (decide (l = m)) w) := by
  obtain ⟨A, c, rfl, hlc, hcm, hn, hxl, hc⟩ := h
  obtain ⟨A', c', rfl, hlc', hcm', hn', hxl', hc'⟩ := h'
  unfold maxLen at hcm hcm'
  have HC := Lib.hid hc
  have HC' := Lib.hid hc'
  generalize hR : decide (l = m) = R
  have HR := Lib.hid hR
  clear hc hxl hR hc' hxl' hn hn'
  obtain ⟨n, hnl⟩ : ∃ n, n = l.length := ⟨_, rfl⟩
  rw [← hnl] at HC hlc ⊢
  by_cases hlen : n = m.length
  · rw [← hlen] at HC' hlc' ⊢
    have g0 : ((n : Int) != (n : Int)) = false := by rw [bne_self_eq_false]
    have HNL := Lib.hid hnl
    have HNM := Lib.hid hlen
    clear hnl hlen
    go_enter Tryz.func32, Tryz.ntmps32
    go_wp2
    go_loopw [5] (fun i wr => ∃ k : Nat, k ≤ n ∧ i = .int .i64 k ∧ Keep noneOf w wr ∧ ∀ j, j < k → l[j]? = m[j]?) (fun i _ => n - (intOf i).toNat)
    case atStart => exact ⟨0, Nat.zero_le _, rfl, Keep.refl _ _, fun j hj => absurd hj (by omega)⟩
    case round =>
      obtain ⟨k, hk, rfl, hkeep, hall⟩ := hrel
      have HA := Lib.hid hall
      have HKP := Lib.hid hkeep
      clear hall
      by_cases hlt : k < n
      · obtain ⟨ad, rfl, hsp, hblk, hD, hcell⟩ := HC.out (by omega)
        obtain ⟨b, o, sp⟩ := ad
        simp only at hsp hblk hD hcell
        subst hsp
        obtain ⟨ad', rfl, hsp', hblk', hD', hcell'⟩ := HC'.out (by omega)
        obtain ⟨b', o', sp'⟩ := ad'
        simp only at hsp' hblk' hD' hcell'
        subst hsp'
        obtain ⟨x, hx⟩ : ∃ x, l[k]? = some x := ⟨_, List.getElem?_eq_getElem (by rw [← HNL.out]; exact hlt)⟩
        obtain ⟨y, hy⟩ : ∃ y, m[k]? = some y := ⟨_, List.getElem?_eq_getElem (by rw [← HNM.out]; exact hlt)⟩
        have HS := Lib.hid hx
        have HS' := Lib.hid hy
        clear hx hy
        obtain ⟨c0, c1, c2⟩ := sts_at hkeep hblk id hcell HS.out
        obtain ⟨d0, d1, d2⟩ := sts_at hkeep hblk' id hcell' HS'.out
        have q0 : (0 : Int) ≤ (k : Int) := by omega
        have q1 : (k : Int) < (n : Int) := by omega
        clear hcell hcell' hkeep
        go_wp2
        refine wp_region_in (fun w' => Keep noneOf wr w' ∧ w'.cell? ⟨b, o + k * 3, none⟩ = some (.int .i64 x.s) ∧ w'.cell? ⟨b, o + k * 3 + 1, none⟩ = some (.int .u64 x.t) ∧ w'.cell? ⟨b, o + k * 3 + 2, none⟩ = some (.int .u64 x.u) ∧ w'.cell? ⟨b', o' + k * 3, none⟩ = some (.int .i64 y.s) ∧ w'.cell? ⟨b', o' + k * 3 + 1, none⟩ = some (.int .u64 y.t) ∧ w'.cell? ⟨b', o' + k * 3 + 2, none⟩ = some (.int .u64 y.u)) (by kernel_rfl) (by kernel_rfl) ⟨(Keep.refl noneOf wr).drew, c0, c1, c2, d0, d1, d2⟩ ?_
        have EQ := fun w' => run_neq3 w' x y
        have EG := fun w' (xs ys : Array Value) => run_eqGuard_agg (P := Tryz.prog) w' .neq 64 (.tmp 20) (.tmp 24) xs ys st_guard
        repeat
          first
          | go_big_quiet_skip
          | go_big_quiet_want
            go_big_quiet_op
            go_big_quiet_on
          | go_big_quiet_want
            apply quiet_reads
            case h =>
              intro w' hw'
              try dsimp only at hw'
              go_split_ands
              go_simp
              rfl
            simp only [Act.put, List.setIfInBounds_toArray, List.set_cons_zero, List.set_cons_succ]
            go_big_quiet_on
        refine wpQuiet_nil ?_
        intro w9 hw9
        have HK9 := Lib.hid (HKP.out.trans hw9.1 (fun _ _ h => h))
        clear hw9 c0 c1 c2 d0 d1 d2 EQ EG HKP
        by_cases hxy : x = y
        · have HXY := Lib.hid hxy
          rw [decide_eq_true hxy]
          clear hxy
          go_wp2
          go_roundw
          case rel =>
            refine ⟨k + 1, by omega, by go_num, HK9.out, fun j hj => ?_⟩
            rcases Nat.lt_or_ge j k with h | h
            · exact HA.out j h
            · have : j = k := by omega
              subst this
              rw [HS.out, HS'.out, HXY.out]
          case measure => simp [intOf]; omega
        · have hRf : R = false := by
            rw [← HR.out, decide_eq_false_iff_not]
            intro e
            have h1 := HS.out
            rw [e, HS'.out] at h1
            injection h1 with h1
            exact hxy h1.symm
          subst hRf
          rw [decide_eq_false hxy]
          go_wp2
          go_ret
          exact ⟨rfl, HK9.out⟩
      · have hRt : R = true := by
          rw [← HR.out, decide_eq_true_eq]
          apply list_ext3
          intro j
          rcases Nat.lt_or_ge j n with h | h
          · exact HA.out j (by omega)
          · rw [List.getElem?_eq_none (by rw [← HNL.out]; exact h), List.getElem?_eq_none (by rw [← HNM.out]; exact h)]
        subst hRt
        have hkn : ¬ ((k : Int) < (n : Int)) := by omega
        clear hlt hkeep
        go_wp2
        go_ret
        exact ⟨rfl, HKP.out⟩
  · have hRf : R = false := by
      rw [← HR.out, decide_eq_false_iff_not]
      rintro rfl
      exact hlen hnl
    subst hRf
    generalize m.length = q at *
    have g0 : ((n : Int) != (q : Int)) = true := by rw [bne_iff_ne]; omega
    clear hlen
    go_enter Tryz.func32, Tryz.ntmps32
    go_wp2
    go_ret
    exact ⟨rfl, Keep.refl _ _⟩
end Go.Proofs.YtkoikmdmejhhhaaGreat
namespace Go.Proofs.YtkoikmdmejhhhaaGreat
open Go.RowKit
theorem an_under : Tryz.prog.underlying 40 = some (.struct (Tryz.prog.fieldsOf 40)) := by kernel_rfl
theorem an_fields : (Tryz.prog.fieldsOf 40).toList.map (fun f => (f.name == "_", f.type, f.offset)) = [(false, 38, 0), (false, 23, 1), (false, 23, 2), (false, 23, 3), (false, 9, 4), (false, 9, 5)] := by kernel_rfl
theorem an_held : Tryz.prog.stoodInHeld 40 = false := by kernel_rfl
theorem ro_under : Tryz.prog.underlying 71 = some (.struct (Tryz.prog.fieldsOf 71)) := by kernel_rfl
theorem ro_fields : (Tryz.prog.fieldsOf 71).toList.map (fun f => (f.name == "_", f.type, f.offset)) = [(false, 23, 0), (false, 23, 1), (false, 40, 2)] := by kernel_rfl
theorem ro_held : Tryz.prog.stoodInHeld 71 = false := by kernel_rfl
theorem run_partS (w : World) (t : TypeId) (xs : Array Value) (o : Nat) (x : Value) (hi : Tryz.prog.underlying t = some .string) (hx : xs[o]? = some x) : (part t xs o).run Tryz.prog w = .ok x w := by
  simp [part, isAgg, hx, run_underlying hi]
theorem run_partA (w : World) (r : Ro) : (part 40 #[.int .u64 r.id, .int .u64 r.seq, .int .i64 r.ans.code, .int .u64 r.ans.id, .int .u64 r.ans.tok, .int .u64 r.ans.unt, .string r.ans.tgt, .string r.ans.cmd] 2).run Tryz.prog w = .ok r.ans.agg w := by
  simp [part, Result.andThen, An.agg]
theorem run_equalA (d : Nat) (w : World) (x y : An) : (Op.equalIn (d + 2) 40 x.agg y.agg).run Tryz.prog w = .ok (decide (x = y)) w := by
  unfold An.agg
  rw [run_equalIn_struct w (d + 1) _ _ _ an_under an_held]
  have h := an_fields
  generalize (Tryz.prog.fieldsOf 40).toList = fs at h
  have hl : fs.length = 6 := by simpa using congrArg List.length h
  match fs, hl with
  | [f0, f1, f2, f3, f4, f5], _ =>
    simp only [List.map_cons, List.map_nil, List.cons.injEq, Prod.mk.injEq, and_true, beq_eq_false_iff_ne] at h
    obtain ⟨⟨n0, t0, o0⟩, ⟨n1, t1, o1⟩, ⟨n2, t2, o2⟩, ⟨n3, t3, o3⟩, ⟨n4, t4, o4⟩, ⟨n5, t5, o5⟩⟩ := h
    have p0 : ∀ (w' : World) (z : An), (part f0.type #[.int .i64 z.code, .int .u64 z.id, .int .u64 z.tok, .int .u64 z.unt, .string z.tgt, .string z.cmd] f0.offset).run Tryz.prog w' = .ok (.int .i64 z.code) w' := fun w' z => by rw [t0, o0]; exact run_part1 w' _ _ _ _ _ Tryz.underlying38 rfl
    have p1 : ∀ (w' : World) (z : An), (part f1.type #[.int .i64 z.code, .int .u64 z.id, .int .u64 z.tok, .int .u64 z.unt, .string z.tgt, .string z.cmd] f1.offset).run Tryz.prog w' = .ok (.int .u64 z.id) w' := fun w' z => by rw [t1, o1]; exact run_part1 w' _ _ _ _ _ Tryz.underlying23 rfl
    have p2 : ∀ (w' : World) (z : An), (part f2.type #[.int .i64 z.code, .int .u64 z.id, .int .u64 z.tok, .int .u64 z.unt, .string z.tgt, .string z.cmd] f2.offset).run Tryz.prog w' = .ok (.int .u64 z.tok) w' := fun w' z => by rw [t2, o2]; exact run_part1 w' _ _ _ _ _ Tryz.underlying23 rfl
    have p3 : ∀ (w' : World) (z : An), (part f3.type #[.int .i64 z.code, .int .u64 z.id, .int .u64 z.tok, .int .u64 z.unt, .string z.tgt, .string z.cmd] f3.offset).run Tryz.prog w' = .ok (.int .u64 z.unt) w' := fun w' z => by rw [t3, o3]; exact run_part1 w' _ _ _ _ _ Tryz.underlying23 rfl
    have p4 : ∀ (w' : World) (z : An), (part f4.type #[.int .i64 z.code, .int .u64 z.id, .int .u64 z.tok, .int .u64 z.unt, .string z.tgt, .string z.cmd] f4.offset).run Tryz.prog w' = .ok (.string z.tgt) w' := fun w' z => by rw [t4, o4]; exact run_partS w' _ _ _ _ Tryz.underlying9 rfl
    have p5 : ∀ (w' : World) (z : An), (part f5.type #[.int .i64 z.code, .int .u64 z.id, .int .u64 z.tok, .int .u64 z.unt, .string z.tgt, .string z.cmd] f5.offset).run Tryz.prog w' = .ok (.string z.cmd) w' := fun w' z => by rw [t5, o5]; exact run_partS w' _ _ _ _ Tryz.underlying9 rfl
    have e0 : ∀ w', (Op.equalIn (d + 1) f0.type (.int .i64 x.code) (.int .i64 y.code)).run Tryz.prog w' = .ok (x.code == y.code) w' := fun w' => by rw [t0]; exact run_equalIn_int w' d _ _ _ _ _ Tryz.underlying38
    have e1 : ∀ w', (Op.equalIn (d + 1) f1.type (.int .u64 x.id) (.int .u64 y.id)).run Tryz.prog w' = .ok (x.id == y.id) w' := fun w' => by rw [t1]; exact run_equalIn_int w' d _ _ _ _ _ Tryz.underlying23
    have e2 : ∀ w', (Op.equalIn (d + 1) f2.type (.int .u64 x.tok) (.int .u64 y.tok)).run Tryz.prog w' = .ok (x.tok == y.tok) w' := fun w' => by rw [t2]; exact run_equalIn_int w' d _ _ _ _ _ Tryz.underlying23
    have e3 : ∀ w', (Op.equalIn (d + 1) f3.type (.int .u64 x.unt) (.int .u64 y.unt)).run Tryz.prog w' = .ok (x.unt == y.unt) w' := fun w' => by rw [t3]; exact run_equalIn_int w' d _ _ _ _ _ Tryz.underlying23
    have e4 : ∀ w', (Op.equalIn (d + 1) f4.type (.string x.tgt) (.string y.tgt)).run Tryz.prog w' = .ok (x.tgt.toList == y.tgt.toList) w' := fun w' => by rw [t4]; exact run_equalIn_string w' d _ _ _ Tryz.underlying9
    have e5 : ∀ w', (Op.equalIn (d + 1) f5.type (.string x.cmd) (.string y.cmd)).run Tryz.prog w' = .ok (x.cmd.toList == y.cmd.toList) w' := fun w' => by rw [t5]; exact run_equalIn_string w' d _ _ _ Tryz.underlying9
    have hd : decide (x = y) = (x.code == y.code && x.id == y.id && x.tok == y.tok && x.unt == y.unt && (x.tgt.toList == y.tgt.toList) && (x.cmd.toList == y.cmd.toList)) := by
      rw [Bool.eq_iff_iff, decide_eq_true_eq, ← An.same_iff]
      rfl
    rw [hd]
    simp only [Op.eqFields, n0, n1, n2, n3, n4, n5, ne_eq, not_false_eq_true, if_true, Sem.run_bind, Sem.run_ite, Sem.run_pure, p0, p1, p2, p3, p4, p5, e0, e1, e2, e3, e4, e5, Result.andThen_ok]
    cases x.code == y.code <;> cases x.id == y.id <;> cases x.tok == y.tok <;> cases x.unt == y.unt <;> cases x.tgt.toList == y.tgt.toList <;> cases x.cmd.toList == y.cmd.toList <;> rfl
theorem run_equalR (d : Nat) (w : World) (x y : Ro) : (Op.equalIn (d + 3) 71 x.agg y.agg).run Tryz.prog w = .ok (decide (x = y)) w := by
  unfold Ro.agg
  rw [run_equalIn_struct w (d + 2) _ _ _ ro_under ro_held]
  have h := ro_fields
  generalize (Tryz.prog.fieldsOf 71).toList = fs at h
  have hl : fs.length = 3 := by simpa using congrArg List.length h
  match fs, hl with
  | [f0, f1, f2], _ =>
    simp only [List.map_cons, List.map_nil, List.cons.injEq, Prod.mk.injEq, and_true, beq_eq_false_iff_ne] at h
    obtain ⟨⟨n0, t0, o0⟩, ⟨n1, t1, o1⟩, ⟨n2, t2, o2⟩⟩ := h
    have p0 : ∀ (w' : World) (r : Ro), (part f0.type #[.int .u64 r.id, .int .u64 r.seq, .int .i64 r.ans.code, .int .u64 r.ans.id, .int .u64 r.ans.tok, .int .u64 r.ans.unt, .string r.ans.tgt, .string r.ans.cmd] f0.offset).run Tryz.prog w' = .ok (.int .u64 r.id) w' := fun w' r => by rw [t0, o0]; exact run_part1 w' _ _ _ _ _ Tryz.underlying23 rfl
    have p1 : ∀ (w' : World) (r : Ro), (part f1.type #[.int .u64 r.id, .int .u64 r.seq, .int .i64 r.ans.code, .int .u64 r.ans.id, .int .u64 r.ans.tok, .int .u64 r.ans.unt, .string r.ans.tgt, .string r.ans.cmd] f1.offset).run Tryz.prog w' = .ok (.int .u64 r.seq) w' := fun w' r => by rw [t1, o1]; exact run_part1 w' _ _ _ _ _ Tryz.underlying23 rfl
    have p2 : ∀ (w' : World) (r : Ro), (part f2.type #[.int .u64 r.id, .int .u64 r.seq, .int .i64 r.ans.code, .int .u64 r.ans.id, .int .u64 r.ans.tok, .int .u64 r.ans.unt, .string r.ans.tgt, .string r.ans.cmd] f2.offset).run Tryz.prog w' = .ok r.ans.agg w' := fun w' r => by rw [t2, o2]; exact run_partA w' r
    have e0 : ∀ w', (Op.equalIn (d + 2) f0.type (.int .u64 x.id) (.int .u64 y.id)).run Tryz.prog w' = .ok (x.id == y.id) w' := fun w' => by rw [t0]; exact run_equalIn_int w' (d + 1) _ _ _ _ _ Tryz.underlying23
    have e1 : ∀ w', (Op.equalIn (d + 2) f1.type (.int .u64 x.seq) (.int .u64 y.seq)).run Tryz.prog w' = .ok (x.seq == y.seq) w' := fun w' => by rw [t1]; exact run_equalIn_int w' (d + 1) _ _ _ _ _ Tryz.underlying23
    have e2 : ∀ w', (Op.equalIn (d + 2) f2.type x.ans.agg y.ans.agg).run Tryz.prog w' = .ok (decide (x.ans = y.ans)) w' := fun w' => by rw [t2]; exact run_equalA d w' _ _
    have hd : decide (x = y) = (x.id == y.id && x.seq == y.seq && decide (x.ans = y.ans)) := by
      rw [Bool.eq_iff_iff, decide_eq_true_eq]
      simp only [Bool.and_eq_true, beq_iff_eq, decide_eq_true_eq, and_assoc]
      obtain ⟨i, s, a⟩ := x
      obtain ⟨i', s', a'⟩ := y
      simp
    rw [hd]
    simp only [Op.eqFields, n0, n1, n2, ne_eq, not_false_eq_true, if_true, Sem.run_bind, Sem.run_ite, Sem.run_pure, p0, p1, p2, e0, e1, e2, Result.andThen_ok]
    cases x.id == y.id <;> cases x.seq == y.seq <;> cases decide (x.ans = y.ans) <;> rfl
theorem run_neqR (w : World) (x y : Ro) : (binOp .neq 71 x.agg y.agg).run Tryz.prog w = .ok (.bool (!decide (x = y))) w := by
  show (binOp .neq 71 (.agg _) (.agg _)).run Tryz.prog w = _
  rw [run_neq_struct]
  have := run_equalR 9997 w x y
  unfold Ro.agg at this
  rw [this]
  rfl
end Go.Proofs.YtkoikmdmejhhhaaGreat
namespace Go.Proofs.YtkoikmdmejhhhaaGreat
theorem settle_keeps {ps : List Pt} {l : List Pst} (hq : grCheck ps = 0) (hl : l.length = ps.length) {i : Nat} {x : Pst} (h : l[i]? = some x) (hx : x.s ≠ 0) : (grSettle ps l)[i]? = some x := by
  have hi := (List.getElem?_eq_some_iff.1 h).1
  rw [grSettle_sol hq hl i (by omega)]
  have hg : l.getD i Pst.zero = x := getS_some h
  unfold settleAt
  rw [hg, if_neg (fun hh => hx hh.1)]
end Go.Proofs.YtkoikmdmejhhhaaGreat
namespace Go.Proofs.YtkoikmdmejhhhaaGreat
theorem claim_is {q : Qp} {i n : Nat} {g : Gq} (hr : readyAt q = some (i, n)) (hg : q.gs[i]? = some g) (hnt : q.nt ≠ top) (hnow : q.now ≤ late) :
    claimP q = ({ withG q i (g.st.set n ⟨2, q.nt, q.now + 8⟩) with nt := q.nt + 1 }, ⟨0, g.id, q.nt, q.now + 8, g.name n, g.cmd n⟩) := by
  have hgr : granted q.nt q.now = (q.nt + 1, ⟨2, q.nt, q.now + 8⟩, 0) := by unfold granted; rw [if_neg (by omega)]
  unfold claimP
  rw [hr]
  simp only
  rw [getD_some hg, hgr, if_neg (show ¬ (0 : Int) ≠ 0 by decide)]
theorem report_none {q : Qp} {c : Cq} (h : heldAt q c.tok = none) : reportP q c = (q, .err 100) := by unfold reportP; rw [h]
theorem renew_none {q : Qp} {c : Cq} (h : heldAt q c.tok = none) : renewP q c = (q, .err 100) := by unfold renewP; rw [h]
theorem ready_is {q : Qp} {g : Gq} {x : Pst} (hg : g ∈ q.gs) (hx : x ∈ g.st) (hs : x.s = 1) : ∃ p, readyAt q = some p := by
  cases hr : readyAt q with
  | some p => exact ⟨p, rfl⟩
  | none =>
    exfalso
    have := first_none hr g hg
    unfold nextIx at this
    rw [List.findIdx?_eq_none_iff] at this
    have := this x hx
    rw [hs] at this
    simp at this
theorem not_held {q : Qp} {t : Int} (h : ∀ g ∈ q.gs, ∀ x ∈ g.st, x.s = 2 → x.t ≠ t) : heldAt q t = none := by
  cases hh : heldAt q t with
  | none => rfl
  | some p =>
    exfalso
    obtain ⟨i, n⟩ := p
    obtain ⟨g, x, hg, hx, hb⟩ := held_some hh
    obtain ⟨h1, h2, _⟩ := held_is hb
    exact h g (List.mem_of_getElem? hg) x (List.mem_of_getElem? hx) h1 h2
theorem is_held {q : Qp} {t : Int} {i n : Nat} {g : Gq} {x : Pst} (hg : q.gs[i]? = some g) (hx : g.st[n]? = some x) (hb : holdsB x t q.now = true) (hu : ∀ (j : Nat) (b : Gq) (m : Nat) (y : Pst), q.gs[j]? = some b → b.st[m]? = some y → y.s = 2 → y.t = t → j = i ∧ m = n) : heldAt q t = some (i, n) := by
  have hsome : ∃ p, heldAt q t = some p := by
    cases hh : heldAt q t with
    | some p => exact ⟨p, rfl⟩
    | none =>
      exfalso
      have hm := first_none hh _ (List.mem_of_getElem? hg)
      unfold heldIn at hm
      rw [List.findIdx?_eq_none_iff] at hm
      have := hm x (List.mem_of_getElem? hx)
      rw [hb] at this
      cases this
  obtain ⟨⟨j, m⟩, hp⟩ := hsome
  obtain ⟨b, y, h1, h2, h3⟩ := held_some hp
  obtain ⟨h4, h5, _⟩ := held_is h3
  obtain ⟨rfl, rfl⟩ := hu j b m y h1 h2 h4 h5
  exact hp
theorem with_states {q : Qp} {i n : Nat} {g : Gq} {x y : Pst} (hg : q.gs[i]? = some g) (_ : g.st[n]? = some x) {j m : Nat} {b : Gq} {z : Pst} (hb : (withG q i (g.st.set n y)).gs[j]? = some b) (hz : b.st[m]? = some z) : (j = i ∧ m = n ∧ z = y) ∨ ∃ b', q.gs[j]? = some b' ∧ b'.st[m]? = some z := by
  rw [withG_at] at hb
  by_cases e : i = j
  · subst e
    rw [if_pos rfl, hg] at hb
    simp only [Option.map_some, Option.some.injEq] at hb
    subst hb
    rcases set_at _ _ _ _ _ hz with ⟨e, e2, _⟩ | ⟨_, h2⟩
    · exact .inl ⟨rfl, e, e2⟩
    · exact .inr ⟨g, hg, h2⟩
  · rw [if_neg e] at hb
    exact .inr ⟨b, hb, hz⟩
theorem fence {q0 : Qp} (h0 : Inv q0) {p : Nat × Nat} (hr : readyAt q0 = some p) {T : Int} (hT : q0.now + 8 ≤ T) (hT2 : T ≤ late) (hnt : q0.nt + 1 < top) (c : Cq) (c2 : Cq) (hc : c.tok = q0.nt) (hc2 : c2.tok = q0.nt + 1) :
    let q1 := (claimP q0).1
    let q2 : Qp := { q1 with now := T, gs := q1.gs.map (fun g => { g with st := repl 1 (pastB T) g.st }) }
    let q3 := (claimP q2).1
    (claimP q0).2.code = 0 ∧ (claimP q0).2.tok = q0.nt ∧ (claimP q0).2.unt = q0.now + 8 ∧ (claimP q2).2.code = 0 ∧ (claimP q2).2.tok = q0.nt + 1 ∧ reportP q3 c = (q3, .err 100) ∧ renewP q3 c = (q3, .err 100) ∧
      (reportP q3 c2).2.code = 0 ∧ (reportP q3 c2).2.id = (claimP q2).2.id ∧ (reportP q3 c2).2.tgt = (claimP q2).2.tgt ∧ ∀ c3 : Cq, c3.tok = q0.nt + 1 → reportP (reportP q3 c2).1 c3 = ((reportP q3 c2).1, .err 100) := by
  intro q1 q2 q3
  obtain ⟨i, n⟩ := p
  obtain ⟨g, x, hg, hx, hs⟩ := ready_some hr
  have hn0 := h0.nt
  have hw0 := h0.now0
  have hcl := claim_is hr hg (by omega) (by omega)
  have e1 : q1 = { withG q0 i (g.st.set n ⟨2, q0.nt, q0.now + 8⟩) with nt := q0.nt + 1 } := by show (claimP q0).1 = _; rw [hcl]
  have i1 : Inv q1 := inv_claim h0
  have n1 : q1.nt = q0.nt + 1 := by rw [e1]
  have w1 : q1.now = q0.now := by rw [e1]; rfl
  have i2 : Inv q2 := inv_expire i1 (by omega) (by unfold late at hT2; unfold top; omega)
  have gs1 : q1.gs = (withG q0 i (g.st.set n ⟨2, q0.nt, q0.now + 8⟩)).gs := by rw [e1]
  have hnl := (List.getElem?_eq_some_iff.1 hx).1
  have at1 : q1.gs[i]? = some { g with st := g.st.set n ⟨2, q0.nt, q0.now + 8⟩ } := by
    rw [gs1, withG_at, if_pos rfl, hg]
    rfl
  -- what is leased in the second queue has an elder token
  have t1 : ∀ b ∈ q1.gs, ∀ y ∈ b.st, y.s = 2 → y.t = q0.nt → y = ⟨2, q0.nt, q0.now + 8⟩ := by
    intro b hb y hy h2 ht
    obtain ⟨j, hj⟩ := List.getElem?_of_mem hb
    obtain ⟨m, hm⟩ := List.getElem?_of_mem hy
    rw [gs1] at hj
    rcases with_states hg hx hj hm with ⟨_, _, e⟩ | ⟨b', hb', hz⟩
    · exact e
    · have := ((h0.gsIn b' (List.mem_of_getElem? hb')).2.2.2.2.2 y (List.mem_of_getElem? hz)).2.2 h2
      omega
  have t2 : ∀ b ∈ q2.gs, ∀ y ∈ b.st, y.s = 2 → y.t < q0.nt := by
    intro b hb y hy h2
    obtain ⟨b', hb', rfl⟩ := List.mem_map.1 hb
    obtain ⟨m, hm⟩ := List.getElem?_of_mem hy
    obtain ⟨z, hz, e⟩ := repl_pl hm
    split at e
    · subst e
      cases h2
    · rename_i hp
      subst e
      have hym := List.mem_of_getElem? hz
      have := ((i1.gsIn b' hb').2.2.2.2.2 y hym).2.2 h2
      rw [n1] at this
      by_cases e : y.t = q0.nt
      · exfalso
        apply hp
        rw [t1 b' hb' y hym h2 e]
        unfold pastB
        simp only [beq_self_eq_true, Bool.true_and, decide_eq_true_eq]
        exact hT
      · omega
  have hready : ∃ p, readyAt q2 = some p := by
    refine ready_is (g := { { g with st := g.st.set n ⟨2, q0.nt, q0.now + 8⟩ } with st := repl 1 (pastB T) (g.st.set n ⟨2, q0.nt, q0.now + 8⟩) }) (x := ⟨1, 0, 0⟩) (List.mem_map.2 ⟨_, List.mem_of_getElem? at1, rfl⟩) ?_ rfl
    show _ ∈ repl 1 (pastB T) (g.st.set n ⟨2, q0.nt, q0.now + 8⟩)
    unfold repl
    refine List.mem_map.2 ⟨_, List.mem_of_getElem? (List.getElem?_set_self hnl), ?_⟩
    rw [if_pos]
    unfold pastB
    simp only [beq_self_eq_true, Bool.true_and, decide_eq_true_eq]
    exact hT
  obtain ⟨⟨i', n'⟩, hr2⟩ := hready
  obtain ⟨g', x', hg', hx', hs'⟩ := ready_some hr2
  have hnt2 : q2.nt = q0.nt + 1 := n1
  have hnow2 : q2.now = T := rfl
  have hcl2 := claim_is hr2 hg' (by omega) (by omega)
  have e3 : q3 = { withG q2 i' (g'.st.set n' ⟨2, q2.nt, q2.now + 8⟩) with nt := q2.nt + 1 } := by show (claimP q2).1 = _; rw [hcl2]
  have gs3 : q3.gs = (withG q2 i' (g'.st.set n' ⟨2, q2.nt, q2.now + 8⟩)).gs := by rw [e3]
  have w3 : q3.now = T := by rw [e3]; rfl
  have i3 : Inv q3 := inv_claim i2
  have hnl' := (List.getElem?_eq_some_iff.1 hx').1
  have at3 : q3.gs[i']? = some { g' with st := g'.st.set n' ⟨2, q2.nt, q2.now + 8⟩ } := by
    rw [gs3, withG_at, if_pos rfl, hg']
    rfl
  have u3 : ∀ (j : Nat) (b : Gq) (m : Nat) (y : Pst), q3.gs[j]? = some b → b.st[m]? = some y → y.s = 2 → (j = i' ∧ m = n' ∧ y = ⟨2, q2.nt, q2.now + 8⟩) ∨ y.t < q0.nt := by
    intro j b m y hb hy h2
    rw [gs3] at hb
    rcases with_states hg' hx' hb hy with h | ⟨b', hb', hz⟩
    · exact .inl h
    · exact .inr (t2 b' (List.mem_of_getElem? hb') y (List.mem_of_getElem? hz) h2)
  have no1 : heldAt q3 c.tok = none := not_held (fun b hb y hy h2 e => by
    obtain ⟨j, hj⟩ := List.getElem?_of_mem hb
    obtain ⟨m, hm⟩ := List.getElem?_of_mem hy
    rcases u3 j b m y hj hm h2 with ⟨_, _, e2⟩ | h
    · rw [e2] at e
      have : q2.nt = c.tok := e
      omega
    · omega)
  have hh : holdsB ⟨2, q2.nt, q2.now + 8⟩ c2.tok q3.now = true := by
    unfold holdsB
    simp only [beq_self_eq_true, bne_iff_ne, ne_eq, Bool.and_eq_true, decide_eq_true_eq, true_and, beq_iff_eq]
    omega
  have yes : heldAt q3 c2.tok = some (i', n') := is_held at3 (List.getElem?_set_self hnl') hh (fun j b m y hb hy h2 e => by
    rcases u3 j b m y hb hy h2 with ⟨e1, e2, _⟩ | h
    · exact ⟨e1, e2⟩
    · omega)
  obtain ⟨_, _, a3, a4, _, _⟩ := i2.gsIn g' (List.mem_of_getElem? hg')
  have hset : (g'.st.set n' ⟨2, q2.nt, q2.now + 8⟩).set n' ⟨if c2.good = true then 3 else 4, 0, 0⟩ = g'.st.set n' ⟨if c2.good = true then 3 else 4, 0, 0⟩ := by rw [List.set_set]
  have rep : (reportP q3 c2).1.gs = (withG q3 i' (grSettle g'.ps (g'.st.set n' ⟨if c2.good = true then 3 else 4, 0, 0⟩))).gs ∧ (reportP q3 c2).1.now = q3.now ∧ (reportP q3 c2).2 = ⟨0, g'.id, 0, 0, g'.name n', ⟨#[]⟩⟩ := by
    unfold reportP
    rw [yes]
    dsimp only
    rw [getD_some at3]
    dsimp only
    rw [hset]
    split
    · exact ⟨rfl, rfl, rfl⟩
    · exact ⟨rfl, rfl, rfl⟩
  obtain ⟨r1, r2, r3⟩ := rep
  refine ⟨by rw [hcl], by rw [hcl], by rw [hcl], by rw [hcl2], by rw [hcl2]; exact hnt2, ?_, ?_, by rw [r3], by rw [r3, hcl2], by rw [r3, hcl2], fun c3 hc3 => ?_⟩
  · exact report_none no1
  · exact renew_none no1
  · have hz : (if c2.good = true then (3 : Int) else 4) = 3 ∨ (if c2.good = true then (3 : Int) else 4) = 4 := by split <;> simp
    generalize (if c2.good = true then (3 : Int) else 4) = z at *
    have hl : (g'.st.set n' ⟨z, 0, 0⟩).length = g'.ps.length := by simpa using a4
    have no2 : heldAt (reportP q3 c2).1 c3.tok = none := not_held (fun b hb y hy h2 e => by
      rw [r1] at hb
      obtain ⟨j, hj⟩ := List.getElem?_of_mem hb
      obtain ⟨m, hm⟩ := List.getElem?_of_mem hy
      rw [withG_at] at hj
      by_cases e2 : i' = j
      · subst e2
        rw [if_pos rfl, at3] at hj
        simp only [Option.map_some, Option.some.injEq] at hj
        subst hj
        rcases settle_from a3 hl hm with hm | ⟨hs, _⟩
        · rcases set_at _ _ _ _ _ hm with ⟨_, rfl, _⟩ | ⟨_, hb2⟩
          · have : z = 2 := h2
            omega
          · have := t2 g' (List.mem_of_getElem? hg') y (List.mem_of_getElem? hb2) h2
            omega
        · omega
      · rw [if_neg e2] at hj
        rcases u3 j b m y hj hm h2 with ⟨e3, _, _⟩ | h
        · exact e2 e3.symm
        · omega)
    exact report_none no2
end Go.Proofs.YtkoikmdmejhhhaaGreat
namespace Go.Proofs.YtkoikmdmejhhhaaGreat
theorem bld_settle {ps : List Pt} {F : Nat → Prop} {l : List Pst} (hq : grCheck ps = 0) (h : Bld ps F l) : Bld ps F (grSettle ps l) := by
  have hl := h.len
  have hR : (grSettle ps l).length = ps.length := by rw [grSettle_length (by rw [order_len hq, hl]), hl]
  have kept : ∀ k : Nat, (l.getD k .zero).s ≠ 0 → ((grSettle ps l).getD k .zero) = l.getD k .zero := by
    intro k hk
    by_cases hkl : k < l.length
    · have h1 : l[k]? = some l[k] := List.getElem?_eq_getElem hkl
      have e1 := getS_some h1
      rw [e1] at hk
      rw [getS_some (settle_keeps hq hl h1 hk), e1]
    · rw [List.getD_eq_getElem?_getD, List.getElem?_eq_none (by omega)] at hk
      exact absurd rfl hk
  refine ⟨hR, fun y hy => ?_, fun i y hy hs k hk => ?_, fun i y hy hs => ?_, fun i y hy => ?_⟩
  · obtain ⟨i, hi⟩ := List.getElem?_of_mem hy
    rcases settle_from hq hl hi with hi | ⟨hs, _⟩
    · exact h.rng y (List.mem_of_getElem? hi)
    · omega
  · rcases settle_from hq hl hy with hi | ⟨hs5, _, _, x, hx, hx0⟩
    · have := h.had i y hi hs k hk
      rw [kept k (by omega)]
      exact this
    · have hil : i < ps.length := by rw [← hR]; exact (List.getElem?_eq_some_iff.1 hy).1
      have hsol := grSettle_sol hq hl i hil
      rw [hy] at hsol
      injection hsol with hsol
      have hs1 : y.s = 1 := by omega
      unfold settleAt at hsol
      rw [getS_some hx] at hsol
      by_cases hc : x.s = 0 ∧ outc (needSt ps (grSettle ps l) i) ≠ 0
      · rw [if_pos hc] at hsol
        have ho : outc (needSt ps (grSettle ps l) i) = 1 := by rw [hsol] at hs1; exact hs1
        unfold outc at ho
        split at ho
        · omega
        · split at ho
          · rename_i hall
            rw [List.all_eq_true] at hall
            have := hall _ (by unfold needSt; exact List.mem_map.2 ⟨k, hk, rfl⟩)
            simpa using this
          · omega
      · rw [if_neg hc] at hsol
        rw [hsol] at hs1
        omega
  · rcases settle_from hq hl hy with hi | ⟨hs5, _, _, x, hx, hx0⟩
    · obtain ⟨k, hk, hlo⟩ := h.lost i y hi hs
      refine ⟨k, hk, ?_⟩
      rw [kept k (fun e => by rw [e] at hlo; exact absurd hlo (by decide))]
      exact hlo
    · have hil : i < ps.length := by rw [← hR]; exact (List.getElem?_eq_some_iff.1 hy).1
      have hsol := grSettle_sol hq hl i hil
      rw [hy] at hsol
      injection hsol with hsol
      unfold settleAt at hsol
      rw [getS_some hx] at hsol
      by_cases hc : x.s = 0 ∧ outc (needSt ps (grSettle ps l) i) ≠ 0
      · rw [if_pos hc] at hsol
        have ho : outc (needSt ps (grSettle ps l) i) = 5 := by rw [hsol] at hs; exact hs
        unfold outc at ho
        split at ho
        · rename_i hany
          rw [List.any_eq_true] at hany
          obtain ⟨s, hs', hs2⟩ := hany
          unfold needSt at hs'
          obtain ⟨k, hk, rfl⟩ := List.mem_map.1 hs'
          exact ⟨k, hk, hs2⟩
        · split at ho <;> omega
      · rw [if_neg hc] at hsol
        rw [hsol] at hs
        omega
  · rcases settle_from hq hl hy with hi | ⟨hs5, _, _, x, hx, hx0⟩
    · exact h.fail i y hi
    · have := (h.fail i x hx)
      constructor
      · intro e; omega
      · intro e
        have := this.2 e
        omega
theorem bld_set {ps : List Pt} {F : Nat → Prop} {l : List Pst} (h : Bld ps F l) {n : Nat} {x : Pst} (hx : l[n]? = some x) (h1 : x.s = 1) (good : Bool) : Bld ps (fun i => F i ∨ (i = n ∧ good = false)) (l.set n ⟨if good = true then 3 else 4, 0, 0⟩) := by
  have hz : ((if good = true then (3 : Int) else 4) = 4 ↔ good = false) ∧ ((if good = true then (3 : Int) else 4) = 3 ∨ (if good = true then (3 : Int) else 4) = 4) := by cases good <;> simp
  generalize (if good = true then (3 : Int) else 4) = z at *
  have hnl := (List.getElem?_eq_some_iff.1 hx).1
  have get : ∀ k : Nat, k ≠ n → (l.set n ⟨z, 0, 0⟩).getD k .zero = l.getD k .zero := fun k hk => by
    rw [List.getD_eq_getElem?_getD, List.getD_eq_getElem?_getD, List.getElem?_set_ne (fun e => hk e.symm)]
  have getn : (l.set n ⟨z, 0, 0⟩).getD n .zero = ⟨z, 0, 0⟩ := by rw [List.getD_eq_getElem?_getD, List.getElem?_set_self hnl]; rfl
  have old : l.getD n .zero = x := getS_some hx
  refine ⟨by simpa using h.len, fun y hy => ?_, fun i y hy hs k hk => ?_, fun i y hy hs => ?_, fun i y hy => ?_⟩
  · obtain ⟨i, hi⟩ := List.getElem?_of_mem hy
    rcases set_at _ _ _ _ _ hi with ⟨_, rfl, _⟩ | ⟨_, hi⟩
    · show z = 0 ∨ z = 1 ∨ z = 3 ∨ z = 4 ∨ z = 5
      omega
    · exact h.rng y (List.mem_of_getElem? hi)
  · have key : (l.getD k .zero).s = 3 := by
      rcases set_at _ _ _ _ _ hy with ⟨rfl, _, _⟩ | ⟨_, hi⟩
      · exact h.had i x hx (.inl h1) k hk
      · exact h.had i y hi hs k hk
    have hkn : k ≠ n := fun e => by rw [e, old] at key; omega
    rw [get k hkn]
    exact key
  · rcases set_at _ _ _ _ _ hy with ⟨_, rfl, _⟩ | ⟨_, hi⟩
    · have : z = 5 := hs
      omega
    · obtain ⟨k, hk, hlo⟩ := h.lost i y hi hs
      refine ⟨k, hk, ?_⟩
      have hkn : k ≠ n := fun e => by rw [e, old, h1] at hlo; exact absurd hlo (by decide)
      rw [get k hkn]
      exact hlo
  · rcases set_at _ _ _ _ _ hy with ⟨rfl, rfl, _⟩ | ⟨hin, hi⟩
    · show z = 4 ↔ _
      rw [hz.1]
      constructor
      · exact fun e => .inr ⟨rfl, e⟩
      · rintro (e | ⟨_, e⟩)
        · have := (h.fail i x hx).2 e
          omega
        · exact e
    · rw [h.fail i y hi]
      constructor
      · exact fun e => .inl e
      · rintro (e | ⟨e, _⟩)
        · exact e
        · exact absurd e hin
theorem bld_start {ps : List Pt} (hq : grCheck ps = 0) (P : Nat → Bool) : Bld ps (fun _ => False) (grStart ps (grFresh ps P)) := by
  unfold grStart
  refine bld_settle hq ?_
  have at_ : ∀ i : Nat, (stBegin ps.length (grFresh ps P))[i]? = if i < ps.length then some ⟨if (grFresh ps P).getD i false = true then 3 else 0, 0, 0⟩ else none := by
    intro i
    unfold stBegin
    rw [List.getElem?_map]
    by_cases hi : i < ps.length
    · rw [if_pos hi, List.getElem?_range hi]
      rfl
    · rw [if_neg hi, List.getElem?_eq_none (by simpa using hi)]
      rfl
  have is_ : ∀ (i : Nat) (x : Pst), (stBegin ps.length (grFresh ps P))[i]? = some x → i < ps.length ∧ x.s = if (grFresh ps P).getD i false = true then 3 else 0 := by
    intro i x hx
    rw [at_] at hx
    split at hx
    · rename_i hi
      injection hx with hx
      rw [← hx]
      exact ⟨hi, rfl⟩
    · cases hx
  refine ⟨by unfold stBegin; simp, fun x hx => ?_, fun i x hx hs k hk => ?_, fun i x hx hs => ?_, fun i x hx => ?_⟩
  · obtain ⟨i, hi⟩ := List.getElem?_of_mem hx
    have := (is_ i x hi).2
    split at this <;> omega
  · obtain ⟨hi, he⟩ := is_ i x hx
    have hfi : (grFresh ps P).getD i false = true := by
      refine Classical.byContradiction fun hn => ?_
      rw [if_neg hn] at he
      omega
    have hsol := grFresh_sol P hq i hi
    rw [List.getD_eq_getElem?_getD, hsol] at hfi
    have hfi2 : freshAt ps (grKeys ps) P (grFresh ps P) i = true := hfi
    unfold freshAt at hfi2
    rw [Bool.and_eq_true, List.all_eq_true] at hfi2
    have hkf := hfi2.1 k hk
    have hkl : k < ps.length := needsAt_lt hk
    rw [List.getD_eq_getElem?_getD, at_, if_pos hkl, if_pos hkf]
    rfl
  · have := (is_ i x hx).2
    split at this <;> omega
  · have := (is_ i x hx).2
    constructor
    · intro e; split at this <;> omega
    · exact fun e => e.elim
theorem bld_over {ps : List Pt} {F : Nat → Prop} {l : List Pst} (h : Bld ps F l) (ho : overB l = true) {i : Nat} {x : Pst} (hx : l[i]? = some x) :
    (x.s = 5 ↔ ∃ k ∈ needsAt ps (i : Int), (l.getD k .zero).s ≠ 3) ∧ (x.s = 4 ↔ F i) ∧ (x.s = 3 ↔ ¬ (∃ k ∈ needsAt ps (i : Int), (l.getD k .zero).s ≠ 3) ∧ ¬ F i) := by
  unfold overB at ho
  rw [List.all_eq_true] at ho
  have hf := ho x (List.mem_of_getElem? hx)
  unfold finB at hf
  simp only [Bool.and_eq_true, decide_eq_true_eq] at hf
  have hr := h.rng x (List.mem_of_getElem? hx)
  have h4 := h.fail i x hx
  have h5 : x.s = 5 ↔ ∃ k ∈ needsAt ps (i : Int), (l.getD k .zero).s ≠ 3 := by
    constructor
    · intro e
      obtain ⟨k, hk, hlo⟩ := h.lost i x hx e
      refine ⟨k, hk, fun e => ?_⟩
      rw [e] at hlo
      exact absurd hlo (by decide)
    · rintro ⟨k, hk, hne⟩
      refine Classical.byContradiction fun hn => ?_
      exact hne (h.had i x hx (by omega) k hk)
  refine ⟨h5, h4, ?_⟩
  rw [← h5, ← h4]
  omega
end Go.Proofs.YtkoikmdmejhhhaaGreat
namespace Go.Proofs.YtkoikmdmejhhhaaGreat
theorem cancel_over {q : Qp} (h : Inv q) (c : Cq) : (∀ g ∈ (cancelP q c).1.gs, overB g.st = true ∨ (g ∈ q.gs ∧ g.id ≠ c.id)) ∧ (cancelP q c).1.built = q.built ∧ (cancelP q c).1.now = q.now ∧ (cancelP q c).1.nt = q.nt := by
  unfold cancelP
  cases hf : findG q c.id with
  | none =>
    refine ⟨fun g hg => .inr ⟨hg, fun e => ?_⟩, rfl, rfl, rfl⟩
    unfold findG at hf
    rw [List.findIdx?_eq_none_iff] at hf
    have := hf g hg
    simp [e] at this
  | some i =>
    dsimp only
    obtain ⟨g0, hg0, hid⟩ := findIdx_at hf
    have hid : g0.id = c.id := by simpa using hid
    rw [getD_some hg0]
    have apart : ∀ (j : Nat) (g : Gq), q.gs[j]? = some g → j ≠ i → g.id ≠ c.id := by
      intro j g hj hne e
      have hp := List.pairwise_iff_getElem.1 h.gsUp
      obtain ⟨hjl, hje⟩ := List.getElem?_eq_some_iff.1 hj
      obtain ⟨hil, hie⟩ := List.getElem?_eq_some_iff.1 hg0
      rcases Nat.lt_or_gt_of_ne hne with hlt | hlt
      · have := hp j i hjl hil hlt
        rw [hje, hie] at this
        omega
      · have := hp i j hil hjl hlt
        rw [hje, hie] at this
        omega
    by_cases ho : overB g0.st = true
    · rw [if_pos ho]
      refine ⟨fun g hg => ?_, rfl, rfl, rfl⟩
      obtain ⟨j, hj, hje⟩ := List.mem_eraseIdx_iff_getElem?.1 hg
      exact .inr ⟨List.mem_of_getElem? hje, apart j g hje hj⟩
    · rw [if_neg ho]
      refine ⟨fun g hg => ?_, rfl, rfl, rfl⟩
      obtain ⟨j, hj⟩ := List.getElem?_of_mem hg
      rw [withG_at] at hj
      split at hj
      · rename_i e
        subst e
        rw [hg0] at hj
        simp only [Option.map_some, Option.some.injEq] at hj
        subst hj
        left
        show overB (repl 6 _ g0.st) = true
        unfold overB
        rw [List.all_eq_true]
        intro y hy
        obtain ⟨m, hm⟩ := List.getElem?_of_mem hy
        obtain ⟨x, hx, rfl⟩ := repl_pl hm
        split
        · rfl
        · rename_i hn
          simpa using hn
      · rename_i e
        exact .inr ⟨List.mem_of_getElem? hj, apart j g hj (fun e2 => e e2.symm)⟩
structure Clr (q : Qp) (ids : List Int) (b0 : List Nat) (now nt : Int) (S s : Int) : Prop where
  inv : Inv q
  over : ∀ g ∈ q.gs, overB g.st = true ∨ g.id ∈ ids
  built : q.built = b0
  now : q.now = now
  nt : q.nt = nt
  ses : Behind q S s
theorem clr_step {q : Qp} {x : Int} {ids : List Int} {b0 : List Nat} {now nt S s : Int} (h : Clr q (x :: ids) b0 now nt S s) (hs : 1 ≤ s) (hS : 0 ≤ S ∧ S ≤ top) (hsm : s ≤ top) {c : Cq} (hc : c.kind = 6 ∧ c.ses = S ∧ c.seq = s ∧ c.id = x ∧ 0 ≤ c.time ∧ c.time ≤ top) :
    Clr (applyP q c).1 ids b0 now nt S (s + 1) := by
  obtain ⟨k1, k2, k3, k4, k5, k6⟩ := hc
  obtain ⟨e1, b1⟩ := told (q := q) (c := c) (by omega) (by rw [k2, k3]; exact h.ses) (by omega)
  have hd : doneP q c = cancelP q c := by unfold doneP; rw [if_neg (by omega), if_neg (by omega), if_neg (by omega), if_neg (by omega)]
  have i1 := inv_apply h.inv (c := c) ⟨by rw [k2]; exact hS, by omega, ⟨k5, k6⟩⟩
  obtain ⟨c1, c2, c3, c4⟩ := cancel_over h.inv c
  have f : (applyP q c).1.gs = (cancelP q c).1.gs ∧ (applyP q c).1.built = (cancelP q c).1.built ∧ (applyP q c).1.now = (cancelP q c).1.now ∧ (applyP q c).1.nt = (cancelP q c).1.nt := by
    rw [e1, hd]
    exact ⟨rfl, rfl, rfl, rfl⟩
  obtain ⟨f1, f2, f3, f4⟩ := f
  refine ⟨i1, fun g hg => ?_, by rw [f2, c2]; exact h.built, by rw [f3, c3]; exact h.now, by rw [f4, c4]; exact h.nt, by rw [← k2, ← k3]; exact b1⟩
  rw [f1] at hg
  rcases c1 g hg with ho | ⟨hm, hne⟩
  · exact .inl ho
  · rcases h.over g hm with ho | hin
    · exact .inl ho
    · right
      rcases List.mem_cons.1 hin with e | hin
      · exact absurd (e.trans k4.symm) hne
      · exact hin
end Go.Proofs.YtkoikmdmejhhhaaGreat
namespace Go.Proofs.YtkoikmdmejhhhaaGreat
open Go.Shelf Go.RowKit Go.Maps
theorem list_same {l L : List Ro} (h : ∀ j : Nat, j < l.length → l[j]? = L[j]?) (hl : l.length = L.length) : l = L := by
  apply List.ext_getElem? 
  intro j
  rcases Nat.lt_or_ge j l.length with hj | hj
  · exact h j hj
  · rw [List.getElem?_eq_none hj, List.getElem?_eq_none (by omega)]
set_option maxRecDepth 100000 in
set_option maxHeartbeats 2000000 in
set_option linter.unusedSimpArgs false in
theorem same_any_S (w : World) (D D' : Nat → Prop) (v u : Value) (l L : List Ro) (h : Many Ro.cells 8 w D v l) (H : Many Ro.cells 8 w D' u L) : Calls Tryz.prog 52 #[v, u] w (TellsB (decide (l = L)) w) := by
  obtain ⟨A, c, rfl⟩ := h.shape
  obtain ⟨B, d, rfl⟩ := H.shape
  have hfew := h.few
  unfold maxLen at hfew
  by_cases hl : l.length = L.length
  · have HH := Lib.hid h
    have HHH := Lib.hid H
    have HE := Lib.hid hl
    clear h H
    have hl' : ((l.length : Int) != (L.length : Int)) = false := by rw [hl, bne_self_eq_false]
    go_enter Tryz.func52, Tryz.ntmps52
    go_wp2
    go_loopw [5] (fun i wr => ∃ (k : Nat), k ≤ l.length ∧ i = .int .i64 k ∧ Keep noneOf w wr ∧ ∀ j : Nat, j < k → l[j]? = L[j]?) (fun i _ => l.length - (intOf i).toNat)
    case atStart => exact ⟨0, Nat.zero_le _, rfl, Keep.refl _ _, fun j hj => absurd hj (Nat.not_lt_zero _)⟩
    case round =>
      obtain ⟨k, hk, rfl, hkeep, hsame⟩ := hrel
      have HKP := Lib.hid hkeep
      have HS := Lib.hid hsame
      clear hsame
      by_cases hlt : k < l.length
      · have hx : l[k]? = some l[k] := List.getElem?_eq_getElem hlt
        have hy : L[k]? = some (L[k]'(by omega)) := List.getElem?_eq_getElem (by omega)
        obtain ⟨b, o, rfl, hblk, _, hcell⟩ := HH.out.cell (fun _ => rfl) hx
        obtain ⟨b', o', rfl, hblk', _, hcell'⟩ := HHH.out.cell (fun _ => rfl) hy
        have HXY : Hid (l[k]? = some l[k] ∧ L[k]? = some (L[k]'(by omega))) := Lib.hid ⟨hx, hy⟩
        generalize l[k] = x at *
        generalize (L[k]'(by omega)) = y at *
        have q0 : (0 : Int) ≤ (k : Int) := by omega
        have q1 : (k : Int) < (l.length : Int) := by omega
        have q2 : (k : Int) < (L.length : Int) := by omega
        have q3 : k < L.length := by omega
        have MC : Hid (∀ w', Keep noneOf wr w' → _) := Lib.hid fun w' k' => And.intro (ro_cells b o k w' x (fun j hj => ((hkeep.trans k' (fun _ _ h => h)).cell (p := ⟨b, o + (k * 8 + j), none⟩) hblk id).trans (hcell j hj))) (ro_cells b' o' k w' y (fun j hj => ((hkeep.trans k' (fun _ _ h => h)).cell (p := ⟨b', o' + (k * 8 + j), none⟩) hblk' id).trans (hcell' j hj)))
        obtain ⟨nq, hnq⟩ : ∃ nq, (!decide (x = y)) = nq := ⟨_, rfl⟩
        have hneq : ∀ w', (binOp .neq 71 x.agg y.agg).run Tryz.prog w' = .ok (.bool nq) w' := fun w' => by rw [← hnq]; exact run_neqR w' x y
        have HNQ := Lib.hid hnq
        clear hnq
        obtain ⟨x1, x2, ⟨x3, x4, x5, x6, x7, x8⟩⟩ := x
        obtain ⟨y1, y2, ⟨y3, y4, y5, y6, y7, y8⟩⟩ := y
        unfold Ro.agg at hneq
        dsimp only at MC hneq
        clear hx hy hcell hcell' hkeep
        go_upto_region 6 with fail
        refine wp_region_held_drew (S := fun w' => Keep noneOf wr w') (by kernel_rfl) (Keep.refl noneOf wr).drew (fun hHeld => ?_)
        refine' wpAnyH_take (i := 0) (v := _) rfl (by kernel_rfl) (by kernel_rfl) (by kernel_rfl) (fun _ _ _ h => h) (Or.inl ⟨by kernel_rfl, ?hy0⟩) (by assumption) ?_
        case hy0 => intro w' hSw; obtain ⟨⟨_, _, _, _, _, _, _, _⟩, _, _, _, _, _, _, _, _⟩ := MC.out w' hSw; go_simp; try with_reducible rfl
        simp only [Act.put, List.getElem_toArray, List.getElem_cons_zero, List.getElem_cons_succ, List.setIfInBounds_toArray, List.set_cons_zero, List.set_cons_succ]
        refine' wpAnyH_take (i := 1) (v := _) rfl (by kernel_rfl) (by kernel_rfl) (by kernel_rfl) (fun _ _ _ h => h) (Or.inl ⟨by kernel_rfl, ?hy1⟩) (by assumption) ?_
        case hy1 => intro w' hSw; obtain ⟨⟨_, _, _, _, _, _, _, _⟩, _, _, _, _, _, _, _, _⟩ := MC.out w' hSw; go_simp; try with_reducible rfl
        simp only [Act.put, List.getElem_toArray, List.getElem_cons_zero, List.getElem_cons_succ, List.setIfInBounds_toArray, List.set_cons_zero, List.set_cons_succ]
        refine' wpAnyH_take (i := 2) (v := _) rfl (by kernel_rfl) (by kernel_rfl) (by kernel_rfl) (fun _ _ _ h => h) (Or.inl ⟨by kernel_rfl, ?hy2⟩) (by assumption) ?_
        case hy2 => intro w' hSw; obtain ⟨⟨_, _, _, _, _, _, _, _⟩, _, _, _, _, _, _, _, _⟩ := MC.out w' hSw; go_simp; try with_reducible rfl
        simp only [Act.put, List.getElem_toArray, List.getElem_cons_zero, List.getElem_cons_succ, List.setIfInBounds_toArray, List.set_cons_zero, List.set_cons_succ]
        refine' wpAnyH_take (i := 3) (v := _) rfl (by kernel_rfl) (by kernel_rfl) (by kernel_rfl) (fun _ _ _ h => h) (Or.inl ⟨by kernel_rfl, ?hy3⟩) (by assumption) ?_
        case hy3 => intro w' hSw; obtain ⟨⟨_, _, _, _, _, _, _, _⟩, _, _, _, _, _, _, _, _⟩ := MC.out w' hSw; go_simp; try with_reducible rfl
        simp only [Act.put, List.getElem_toArray, List.getElem_cons_zero, List.getElem_cons_succ, List.setIfInBounds_toArray, List.set_cons_zero, List.set_cons_succ]
        refine' wpAnyH_take (i := 4) (v := _) rfl (by kernel_rfl) (by kernel_rfl) (by kernel_rfl) (fun _ _ _ h => h) (Or.inl ⟨by kernel_rfl, ?hy4⟩) (by assumption) ?_
        case hy4 => intro w' hSw; obtain ⟨⟨_, _, _, _, _, _, _, _⟩, _, _, _, _, _, _, _, _⟩ := MC.out w' hSw; go_simp; try with_reducible rfl
        simp only [Act.put, List.getElem_toArray, List.getElem_cons_zero, List.getElem_cons_succ, List.setIfInBounds_toArray, List.set_cons_zero, List.set_cons_succ]
        refine' wpAnyH_take (i := 5) (v := _) rfl (by kernel_rfl) (by kernel_rfl) (by kernel_rfl) (fun _ _ _ h => h) (Or.inl ⟨by kernel_rfl, ?hy5⟩) (by assumption) ?_
        case hy5 => intro w' hSw; obtain ⟨⟨_, _, _, _, _, _, _, _⟩, _, _, _, _, _, _, _, _⟩ := MC.out w' hSw; go_simp; try with_reducible rfl
        simp only [Act.put, List.getElem_toArray, List.getElem_cons_zero, List.getElem_cons_succ, List.setIfInBounds_toArray, List.set_cons_zero, List.set_cons_succ]
        refine' wpAnyH_take (i := 6) (v := _) rfl (by kernel_rfl) (by kernel_rfl) (by kernel_rfl) (fun _ _ _ h => h) (Or.inl ⟨by kernel_rfl, ?hy6⟩) (by assumption) ?_
        case hy6 => intro w' hSw; obtain ⟨⟨_, _, _, _, _, _, _, _⟩, _, _, _, _, _, _, _, _⟩ := MC.out w' hSw; go_simp; try with_reducible rfl
        simp only [Act.put, List.getElem_toArray, List.getElem_cons_zero, List.getElem_cons_succ, List.setIfInBounds_toArray, List.set_cons_zero, List.set_cons_succ]
        refine' wpAnyH_take (i := 7) (v := _) rfl (by kernel_rfl) (by kernel_rfl) (by kernel_rfl) (fun _ _ _ h => h) (Or.inl ⟨by kernel_rfl, ?hy7⟩) (by assumption) ?_
        case hy7 => intro w' hSw; obtain ⟨⟨_, _, _, _, _, _, _, _⟩, _, _, _, _, _, _, _, _⟩ := MC.out w' hSw; go_simp; try with_reducible rfl
        simp only [Act.put, List.getElem_toArray, List.getElem_cons_zero, List.getElem_cons_succ, List.setIfInBounds_toArray, List.set_cons_zero, List.set_cons_succ]
        refine' wpAnyH_take (i := 8) (v := _) rfl (by kernel_rfl) (by kernel_rfl) (by kernel_rfl) (fun _ _ _ h => h) (Or.inl ⟨by kernel_rfl, ?hy8⟩) (by assumption) ?_
        case hy8 => intro w' hSw; obtain ⟨⟨_, _, _, _, _, _, _, _⟩, _, _, _, _, _, _, _, _⟩ := MC.out w' hSw; go_simp; try with_reducible rfl
        simp only [Act.put, List.getElem_toArray, List.getElem_cons_zero, List.getElem_cons_succ, List.setIfInBounds_toArray, List.set_cons_zero, List.set_cons_succ]
        refine wpAnyH_done (by kernel_rfl) ?_ _
        have HW := Lib.hid hHeld
        clear hHeld hneq MC
        cases nq with
        | true =>
          have e : decide (l = L) = false := decide_eq_false (fun e => by
            have h1 := HXY.out
            rw [e, h1.2] at h1
            have h2 := HNQ.out
            injection h1.1 with h1
            rw [h1] at h2
            simp at h2)
          have HE2 := Lib.hid e
          clear e
          go_wp2
          go_ret
          exact ⟨ret_bool HE2.out.symm, HKP.out.trans HW.out (fun _ _ h => h)⟩
        | false =>
          have e : l[k]? = L[k]? := by
            have h1 := HXY.out
            have h2 := HNQ.out
            rw [h1.1, h1.2]
            simpa using h2
          have HEQ := Lib.hid e
          clear e
          go_wp2
          go_roundw
          case rel => exact ⟨k + 1, by omega, by go_num, HKP.out.trans HW.out (fun _ _ h => h), fun j hj => by
            rcases Nat.lt_or_ge j k with h1 | h1
            · exact HS.out j h1
            · obtain rfl : j = k := by omega
              exact HEQ.out⟩
          case measure => simp [intOf]; omega
      · have hkn : ¬ ((k : Int) < (l.length : Int)) := by omega
        have e : decide (l = L) = true := decide_eq_true (list_same (fun j hj => HS.out j (by omega)) HE.out)
        have HE2 := Lib.hid e
        clear hkeep e
        go_wp2
        go_ret
        exact ⟨ret_bool HE2.out.symm, HKP.out⟩
  · have e : decide (l = L) = false := decide_eq_false (fun e => hl (by rw [e]))
    rw [e]
    have hl' : ((l.length : Int) != (L.length : Int)) = true := bne_iff_ne.2 (by omega)
    clear h H e hl
    go_enter Tryz.func52, Tryz.ntmps52
    go_wp2
    go_ret
    exact ⟨rfl, Keep.refl _ _⟩
end Go.Proofs.YtkoikmdmejhhhaaGreat
namespace Go.Proofs.YtkoikmdmejhhhaaGreat
open Go.RowKit
theorem findG_some {q : Qp} {id : Int} {i : Nat} {g : Gq} (hg : q.gs[i]? = some g) (h : g.id = id) (hno : ∀ (j : Nat) (b : Gq), j < i → q.gs[j]? = some b → b.id ≠ id) : findG q id = some i := by
  unfold findG
  rw [List.findIdx?_eq_some_iff_getElem]
  obtain ⟨hi, he⟩ := List.getElem?_eq_some_iff.1 hg
  refine ⟨hi, by rw [he]; simpa using h, fun j hj => ?_⟩
  have hjl : j < q.gs.length := by omega
  simpa using hno j _ hj (List.getElem?_eq_getElem hjl)
theorem findG_none {q : Qp} {id : Int} (hno : ∀ (j : Nat) (b : Gq), q.gs[j]? = some b → b.id ≠ id) : findG q id = none := by
  unfold findG
  rw [List.findIdx?_eq_none_iff]
  intro g hg
  obtain ⟨j, hj⟩ := List.getElem?_of_mem hg
  simpa using hno j g hj
end Go.Proofs.YtkoikmdmejhhhaaGreat
namespace Go.Proofs.YtkoikmdmejhhhaaGreat
theorem list_eq_at {α : Type} {l m : List α} (hl : l.length = m.length) (h : ∀ (j : Nat) (a b : α), l[j]? = some a → m[j]? = some b → a = b) : l = m := by
  refine List.ext_getElem hl fun j h1 h2 => ?_
  exact h j _ _ (List.getElem?_eq_getElem h1) (List.getElem?_eq_getElem h2)
theorem plain_eq {a b : Im} (h1 : a.now = b.now) (h2 : a.ng = b.ng) (h3 : a.nt = b.nt) (h4 : a.ses = b.ses) (h5 : a.gs.length = b.gs.length) (h6 : ∀ (j : Nat) (g h : Gm), a.gs[j]? = some g → b.gs[j]? = some h → g.plain = h.plain) (h7 : a.built = b.built) : a.plain = b.plain := by
  unfold Im.plain
  rw [h1, h2, h3, h4, h7]
  congr 1
  refine list_eq_at (by rw [List.length_map, List.length_map, h5]) (fun j x y hx hy => ?_)
  obtain ⟨g, hg, rfl⟩ := gm_of hx
  obtain ⟨h, hh, rfl⟩ := gm_of hy
  exact h6 j g h hg hh
theorem plain_now {a b : Im} (h : a.plain = b.plain) : a.now = b.now := congrArg Qp.now h
theorem plain_ng {a b : Im} (h : a.plain = b.plain) : a.ng = b.ng := congrArg Qp.ng h
theorem plain_nt {a b : Im} (h : a.plain = b.plain) : a.nt = b.nt := congrArg Qp.nt h
theorem plain_ses {a b : Im} (h : a.plain = b.plain) : a.ses = b.ses := congrArg Qp.ses h
theorem plain_built {a b : Im} (h : a.plain = b.plain) : a.built = b.built := congrArg Qp.built h
theorem plain_length {a b : Im} (h : a.plain = b.plain) : a.gs.length = b.gs.length := by
  have := congrArg (fun q => q.gs.length) h
  simpa [Im.plain] using this
theorem plain_gs {a b : Im} (h : a.plain = b.plain) {j : Nat} {g k : Gm} (hg : a.gs[j]? = some g) (hk : b.gs[j]? = some k) : g.plain = k.plain := by
  have e := congrArg (fun q => q.gs[j]?) h
  have e2 : (a.gs.map Gm.plain)[j]? = (b.gs.map Gm.plain)[j]? := e
  rw [gm_at hg, gm_at hk] at e2
  injection e2
theorem gm_eq {g h : Gm} : g.plain = h.plain ↔ g.id = h.id ∧ g.ts.map Tg.plain = h.ts.map Tg.plain ∧ g.st = h.st := by
  unfold Gm.plain
  constructor
  · intro e
    injection e with e1 e2 e3
    exact ⟨e1, e2, e3⟩
  · rintro ⟨e1, e2, e3⟩
    rw [e1, e2, e3]
theorem findG_at {q : Qp} (h : q.gs.Pairwise (fun a b => a.id < b.id)) {i : Nat} {g : Gq} (hg : q.gs[i]? = some g) : findG q g.id = some i := by
  refine findG_some hg rfl (fun j b hj hb e => ?_)
  obtain ⟨h1, e1⟩ := List.getElem?_eq_some_iff.1 hb
  obtain ⟨h2, e2⟩ := List.getElem?_eq_some_iff.1 hg
  have := List.pairwise_iff_getElem.1 h j i h1 h2 hj
  rw [e1, e2] at this
  omega
end Go.Proofs.YtkoikmdmejhhhaaGreat
namespace Go.Proofs.YtkoikmdmejhhhaaGreat
open Go.RowKit
def Told (b : Bool) (w : World) (e : Ending) (w' : World) : Prop := e = .returned (.bool b) ∧ ∃ n, w' = w.drewN n
set_option maxRecDepth 100000 in
set_option maxHeartbeats 1000000 in
theorem sameTexts_any (w : World) (D D' : Nat → Prop) (v v' : Value) (ss ss' : List ByteArray) (h : Strs w D v ss) (h' : Strs w D' v' ss') :
    Calls Tryz.prog 91 #[v, v'] w (Told (decide (ss = ss')) w) := by
  obtain ⟨⟨A, c, rfl, hlc, hcm, hn, hxl, hc⟩, h4⟩ := h
  obtain ⟨⟨A', c', rfl, hlc', hcm', hn', hxl', hc'⟩, h4'⟩ := h'
  unfold maxLen at hcm hcm'
  by_cases hl : ss.length = ss'.length
  · have HC := Lib.hid hc
    have HC' := Lib.hid hc'
    have HL := Lib.hid hl
    rw [← hl] at hlc' ⊢
    clear hc hc' h4 h4' hxl hxl' hl
    generalize hR : decide (ss = ss') = R
    have HR := Lib.hid hR
    clear hR
    go_enter Tryz.func91, Tryz.ntmps91
    go_wp2
    go_loopw [5] (fun i wr => ∃ k n : Nat, k ≤ ss.length ∧ i = .int .i64 k ∧ wr = w.drewN n ∧ ss.take k = ss'.take k) (fun i _ => ss.length - (intOf i).toNat)
    case atStart => exact ⟨0, 0, Nat.zero_le _, rfl, rfl, rfl⟩
    case round =>
      obtain ⟨k, n, hk, rfl, rfl, hall⟩ := hrel
      have HA := Lib.hid hall
      clear hall
      by_cases hlt : k < ss.length
      · have hlt' : k < ss'.length := by rw [← HL.out]; exact hlt
        obtain ⟨ad, rfl, hsp, hblk, _, hcell⟩ := HC.out (by omega)
        obtain ⟨b, o, sp⟩ := ad
        obtain ⟨ad', rfl, hsp', hblk', _, hcell'⟩ := HC'.out (by omega)
        obtain ⟨b', o', sp'⟩ := ad'
        simp only at hsp hblk hsp' hblk'
        subst hsp hsp'
        have q1 : w.cell? ⟨b, o + k, none⟩ = some (.string ss[k]) := hcell k _ (by simp [List.getElem?_eq_getElem hlt])
        have q2 : w.cell? ⟨b', o' + k, none⟩ = some (.string ss'[k]) := hcell' k _ (by simp [List.getElem?_eq_getElem hlt'])
        have HS := Lib.hid (List.getElem?_eq_getElem hlt)
        have HS' := Lib.hid (List.getElem?_eq_getElem hlt')
        clear hcell hcell'
        generalize ss[k] = s at *
        generalize ss'[k] = s' at *
        clear hlt'
        by_cases hs : s = s'
        · subst hs
          go_wp2
          go_quiet (fail)
          go_wp2
          go_roundw
          case rel =>
            refine ⟨k + 1, _, by omega, by go_num, rfl, ?_⟩
            rw [List.take_add_one, List.take_add_one, HA.out, HS.out, HS'.out]
          case measure => simp [intOf]; omega
        · have g : (s.toList != s'.toList) = true := by rw [bne, str_beq]; simp [hs]
          have g' : (s.toList == s'.toList) = false := by rw [str_beq]; simp [hs]
          have hR : R = false := by
            rw [← HR.out, decide_eq_false_iff_not]
            rintro rfl
            have := HS.out.symm.trans HS'.out
            injection this with this
            exact hs this
          subst hR
          clear hs
          go_wp2
          go_quiet (fail)
          go_wp2
          go_ret
          exact ⟨rfl, _, World.drewN_drewN _ _ _⟩
      · have hR : R = true := by
          rw [← HR.out, decide_eq_true_eq]
          have e1 := HA.out
          rwa [List.take_of_length_le (by omega), List.take_of_length_le (by have := HL.out; omega)] at e1
        subst hR
        go_wp2
        go_ret
        exact ⟨rfl, n, rfl⟩
  · have hR : decide (ss = ss') = false := by
      rw [decide_eq_false_iff_not]
      rintro rfl
      exact hl rfl
    rw [hR]
    clear hR
    go_enter Tryz.func91, Tryz.ntmps91
    go_wp2
    go_ret
    exact ⟨rfl, 0, rfl⟩
def Told' (b : Bool) (w : World) (e : Ending) (w' : World) : Prop := e = .returned (.bool b) ∧ Keep noneOf w w'
set_option maxRecDepth 100000 in
set_option maxHeartbeats 2000000 in
theorem sameGraph_any (w : World) (D D' : Nat → Prop) (v v' : Value) (ts ts' : List Tg) (h : Tgs w D v ts) (h' : Tgs w D' v' ts') :
    Calls Tryz.prog 53 #[.agg #[v], .agg #[v']] w (Told' (decide (ts.map Tg.plain = ts'.map Tg.plain)) w) := by
  have hT := h.2
  have hT' := h'.2
  obtain ⟨A, c, rfl, hlc, hcm, hn, hxl, hc⟩ := h.1
  obtain ⟨A', c', rfl, hlc', hcm', hn', hxl', hc'⟩ := h'.1
  unfold maxLen at hcm hcm'
  by_cases hl : ts.length = ts'.length
  · have HC := Lib.hid hc
    have HC' := Lib.hid hc'
    have HT := Lib.hid hT
    have HT' := Lib.hid hT'
    have HL := Lib.hid hl
    rw [← hl] at hlc' ⊢
    clear hc hc' hxl hxl' hl h h' hT hT'
    generalize hR : decide (ts.map Tg.plain = ts'.map Tg.plain) = R
    have HR := Lib.hid hR
    clear hR
    have K0 : Keep noneOf w ((w.alloc (.cells #[.slice A ts.length c] 35)).alloc (.cells #[.slice A' ts.length c'] 35)) := ((Keep.refl noneOf w).alloc _).alloc _
    have x0 := (Box.new w 35 #[.slice A ts.length c]).alloc (.cells #[.slice A' ts.length c'] 35)
    have y0 := Box.new (w.alloc (.cells #[.slice A ts.length c] 35)) 35 #[.slice A' ts.length c']
    have es : (w.alloc (.cells #[.slice A ts.length c] 35)).heap.size = w.heap.size + 1 := by simp
    rw [es] at y0
    have HK0 := Lib.hid K0
    have HX0 := Lib.hid x0
    have HY0 := Lib.hid y0
    clear K0 x0 y0 es
    go_enter Tryz.func53, Tryz.ntmps53
    go_wp2
    go_loopw [5] (fun i wr => ∃ k : Nat, k ≤ ts.length ∧ i = .int .i64 k ∧ Keep noneOf w wr ∧ Box wr w.heap.size 35 #[.slice A ts.length c] ∧ Box wr (w.heap.size + 1) 35 #[.slice A' ts.length c'] ∧ (ts.take k).map Tg.plain = (ts'.take k).map Tg.plain) (fun i _ => ts.length - (intOf i).toNat)
    case atStart => exact ⟨0, Nat.zero_le _, rfl, HK0.out, HX0.out, HY0.out, rfl⟩
    case round =>
      obtain ⟨k, hk, rfl, hK, hX, hY, hall⟩ := hrel
      have HA := Lib.hid hall
      have c1 : wr.cell? ⟨w.heap.size, 0, none⟩ = some (.slice A ts.length c) := hX.cell 0
      have c2 : wr.cell? ⟨w.heap.size + 1, 0, none⟩ = some (.slice A' ts.length c') := hY.cell 0
      clear hall HK0 HX0 HY0
      by_cases hlt : k < ts.length
      · have hlt' : k < ts'.length := by rw [← HL.out]; exact hlt
        obtain ⟨ad, rfl, hsp, hblk, _, hcell⟩ := HC.out (by omega)
        obtain ⟨b, o, sp⟩ := ad
        obtain ⟨ad', rfl, hsp', hblk', _, hcell'⟩ := HC'.out (by omega)
        obtain ⟨b', o', sp'⟩ := ad'
        simp only at hsp hblk hsp' hblk' hcell hcell'
        subst hsp hsp'
        have HS := Lib.hid (List.getElem?_eq_getElem hlt)
        have HS' := Lib.hid (List.getElem?_eq_getElem hlt')
        have hlies := HT.out _ (List.getElem_mem hlt)
        have hlies' := HT'.out _ (List.getElem_mem hlt')
        generalize ts[k] = t at *
        generalize ts'[k] = t' at *
        clear hlt'
        have hcc : ∀ j, j < 3 → ∀ x, t.cells[j]? = some x → wr.cell? ⟨b, o + (k * 3 + j), none⟩ = some x := fun j hj x hx =>
          (hK.cell (p := ⟨b, o + (k * 3 + j), none⟩) hblk id).trans (hcell _ x ((Nat.mul_comm k 3 ▸ cells_at HS.out j hj).trans hx))
        have hcc' : ∀ j, j < 3 → ∀ x, t'.cells[j]? = some x → wr.cell? ⟨b', o' + (k * 3 + j), none⟩ = some x := fun j hj x hx =>
          (hK.cell (p := ⟨b', o' + (k * 3 + j), none⟩) hblk' id).trans (hcell' _ x ((Nat.mul_comm k 3 ▸ cells_at HS'.out j hj).trans hx))
        have d0 : wr.cell? ⟨b, o + k * 3, none⟩ = some (.string t.name) := hcc 0 (by decide) _ rfl
        have d1 : wr.cell? ⟨b, o + k * 3 + 1, none⟩ = some (.string t.cmd) := hcc 1 (by decide) _ rfl
        have d2 : wr.cell? ⟨b, o + k * 3 + 2, none⟩ = some t.nv := hcc 2 (by decide) _ rfl
        have e0 : wr.cell? ⟨b', o' + k * 3, none⟩ = some (.string t'.name) := hcc' 0 (by decide) _ rfl
        have e1 : wr.cell? ⟨b', o' + k * 3 + 1, none⟩ = some (.string t'.cmd) := hcc' 1 (by decide) _ rfl
        have e2 : wr.cell? ⟨b', o' + k * 3 + 2, none⟩ = some t'.nv := hcc' 2 (by decide) _ rfl
        clear hcc hcc' hcell hcell'
        have ST := fun n => sameTexts_any (wr.drewN n) D D' t.nv t'.nv t.needs t'.needs ((hlies.2.2.keep hK (fun _ _ _ => id)).keep ((Keep.refl noneOf wr).drewN n) (fun _ _ _ => id)) ((hlies'.2.2.keep hK (fun _ _ _ => id)).keep ((Keep.refl noneOf wr).drewN n) (fun _ _ _ => id))
        obtain ⟨nm, cm, nv, ss⟩ := t
        obtain ⟨nm', cm', nv', ss'⟩ := t'
        simp only at d0 d1 d2 e0 e1 e2 ST
        have hv1 := hlies.2.2.1
        have hv2 := hlies'.2.2.1
        obtain ⟨B, z, hv1, _⟩ := hv1
        obtain ⟨B', z', hv2, _⟩ := hv2
        simp only at hv1 hv2
        subst hv1 hv2
        have HST : Hid (∀ n, Calls Tryz.prog 91 #[.slice B ss.length z, .slice B' ss'.length z'] (wr.drewN n) fun e w'' => e = .returned (.bool (decide (ss = ss'))) ∧ ∃ m, w'' = wr.drewN m) := fun n => Calls.quiet_of (ST n)
        generalize hq : decide (ss = ss') = q at HST
        have HQ := Lib.hid hq
        clear hlies hlies' ST hq
        cases q with
        | false =>
          have hR : R = false := by
            rw [← HR.out, decide_eq_false_iff_not]
            intro h
            have e3 := congrArg (fun l => l[k]?) h
            simp only [List.getElem?_map, HS.out, HS'.out, Option.map_some, Tg.plain, Option.some.injEq, Pt.mk.injEq] at e3
            exact absurd e3.2.2 (of_decide_eq_false HQ.out)
          subst hR
          go_wp2
          go_quiet ((go_at_call 91; exact HST.out _))
          have K1 := hK.drewN nq
          generalize wr.drewN nq = w1 at *
          go_wp2
          go_quiet (fail)
          go_wp2
          go_ret
          exact ⟨rfl, K1.drewN _⟩
        | true =>
          have hss : ss = ss' := of_decide_eq_true HQ.out
          subst hss
          go_wp2
          go_quiet ((go_at_call 91; exact HST.out _))
          have K1 := hK.drewN nq
          have X1 := hX.keep ((Keep.refl noneOf wr).drewN nq) id
          have Y1 := hY.keep ((Keep.refl noneOf wr).drewN nq) id
          replace c1 : (wr.drewN nq).cell? ⟨w.heap.size, 0, none⟩ = some (.slice (some ⟨b, o, none⟩) ts.length c) := c1
          replace c2 : (wr.drewN nq).cell? ⟨w.heap.size + 1, 0, none⟩ = some (.slice (some ⟨b', o', none⟩) ts.length c') := c2
          replace d0 : (wr.drewN nq).cell? ⟨b, o + k * 3, none⟩ = some (.string nm) := d0
          replace d1 : (wr.drewN nq).cell? ⟨b, o + k * 3 + 1, none⟩ = some (.string cm) := d1
          replace e0 : (wr.drewN nq).cell? ⟨b', o' + k * 3, none⟩ = some (.string nm') := e0
          replace e1 : (wr.drewN nq).cell? ⟨b', o' + k * 3 + 1, none⟩ = some (.string cm') := e1
          clear hK hX hY HST d2 e2
          generalize wr.drewN nq = w1 at *
          by_cases hb : nm = nm' ∧ cm = cm'
          · obtain ⟨rfl, rfl⟩ := hb
            go_wp2
            go_quiet (fail)
            go_wp2
            go_roundw
            case rel =>
              refine ⟨k + 1, by omega, by go_num, K1.drewN _, X1.keep ((Keep.refl noneOf w1).drewN _) id, Y1.keep ((Keep.refl noneOf w1).drewN _) id, ?_⟩
              rw [List.take_add_one, List.take_add_one, HS.out, HS'.out, List.map_append, List.map_append, HA.out]
              rfl
            case measure => simp [intOf]; omega
          · have hR : R = false := by
              rw [← HR.out, decide_eq_false_iff_not]
              intro h
              have e3 := congrArg (fun l => l[k]?) h
              simp only [List.getElem?_map, HS.out, HS'.out, Option.map_some, Tg.plain, Option.some.injEq, Pt.mk.injEq] at e3
              exact hb ⟨e3.1, e3.2.1⟩
            subst hR
            have hb' : nm ≠ nm' ∨ (nm = nm' ∧ cm ≠ cm') := by
              by_cases h1 : nm = nm'
              · exact .inr ⟨h1, fun h2 => hb ⟨h1, h2⟩⟩
              · exact .inl h1
            clear hb
            rcases hb' with hb | ⟨rfl, hb⟩
            · have g : (nm.toList != nm'.toList) = true := by rw [bne, str_beq]; simp [hb]
              have g' : (nm.toList == nm'.toList) = false := by rw [str_beq]; simp [hb]
              clear hb
              go_wp2
              go_quiet (fail)
              go_wp2
              go_ret
              exact ⟨rfl, K1.drewN _⟩
            · have g : (cm.toList != cm'.toList) = true := by rw [bne, str_beq]; simp [hb]
              have g' : (cm.toList == cm'.toList) = false := by rw [str_beq]; simp [hb]
              clear hb
              go_wp2
              go_quiet (fail)
              go_wp2
              go_ret
              exact ⟨rfl, K1.drewN _⟩
      · have hR : R = true := by
          rw [← HR.out, decide_eq_true_eq]
          have e1 := HA.out
          rwa [List.take_of_length_le (by omega), List.take_of_length_le (by have := HL.out; omega)] at e1
        subst hR
        go_wp2
        go_ret
        exact ⟨rfl, hK⟩
  · have hR : decide (ts.map Tg.plain = ts'.map Tg.plain) = false := by
      rw [decide_eq_false_iff_not]
      intro h
      exact hl (by simpa using congrArg List.length h)
    rw [hR]
    clear hR
    go_enter Tryz.func53, Tryz.ntmps53
    go_wp2
    go_ret
    exact ⟨rfl, ((Keep.refl _ _).alloc _).alloc _⟩
end Go.Proofs.YtkoikmdmejhhhaaGreat
namespace Go.Proofs.YtkoikmdmejhhhaaGreat
open Go.RowKit
def SameTold (a b : Im) (w : World) (e : Ending) (w' : World) : Prop := ∃ r : Bool, e = .returned (.bool r) ∧ (r = true ↔ a.plain = b.plain) ∧ Keep noneOf w w'
theorem same_no {a b : Im} {w w' : World} (h : a.plain ≠ b.plain) (k : Keep noneOf w w') : SameTold a b w (.returned (.bool false)) w' := ⟨false, rfl, ⟨fun e => (by cases e), fun e => absurd e h⟩, k⟩
theorem same_yes {a b : Im} {w w' : World} (h : a.plain = b.plain) (k : Keep noneOf w w') : SameTold a b w (.returned (.bool true)) w' := ⟨true, rfl, ⟨fun _ => h, fun _ => rfl⟩, k⟩
set_option maxRecDepth 100000 in
set_option maxHeartbeats 8000000 in
set_option linter.unusedSimpArgs false in
theorem qsame_any (w : World) (D D' : Nat → Prop) (a b : Im) (ha : a.lies w D) (hb : b.lies w D') :
    Calls Tryz.prog 22 #[a.agg, b.agg] w (SameTold a b w) := by
  obtain ⟨A1, c1, e1⟩ := ha.ses.shape
  obtain ⟨A2, c2, e2⟩ := hb.ses.shape
  obtain ⟨A3, c3, e3⟩ := ha.gs.1.shape
  obtain ⟨A4, c4, e4⟩ := hb.gs.1.shape
  obtain ⟨A5, c5, e5, hl5, hm5, _, _, hc5⟩ := ha.built.1
  obtain ⟨A6, c6, e6, hl6, hm6, _, _, hc6⟩ := hb.built.1
  have hf3 := ha.gs.1.few
  have hf4 := hb.gs.1.few
  have hs1 := ha.ses
  have hs2 := hb.ses
  have hg1 := ha.gs
  have hg2 := hb.gs
  rw [e1] at hs1
  rw [e2] at hs2
  rw [e3] at hg1
  rw [e4] at hg2
  unfold maxLen at hf3 hf4 hm5 hm6
  unfold Im.agg
  rw [e1, e2, e3, e4, e5, e6]
  clear ha hb e1 e2 e3 e4 e5 e6
  have HKA := Lib.hid (((Keep.refl noneOf w).alloc (.cells #[.int .u64 a.now, .int .u64 a.ng, .int .u64 a.nt, .slice A1 a.ses.length c1, .slice A3 a.gs.length c3, .slice A5 a.built.length c5] 30)).alloc (.cells #[.int .u64 b.now, .int .u64 b.ng, .int .u64 b.nt, .slice A2 b.ses.length c2, .slice A4 b.gs.length c4, .slice A6 b.built.length c6] 30))
  have HX := Lib.hid ((Box.new w 30 #[.int .u64 a.now, .int .u64 a.ng, .int .u64 a.nt, .slice A1 a.ses.length c1, .slice A3 a.gs.length c3, .slice A5 a.built.length c5]).alloc (.cells #[.int .u64 b.now, .int .u64 b.ng, .int .u64 b.nt, .slice A2 b.ses.length c2, .slice A4 b.gs.length c4, .slice A6 b.built.length c6] 30))
  have HY : Hid (Box ((w.alloc (.cells #[.int .u64 a.now, .int .u64 a.ng, .int .u64 a.nt, .slice A1 a.ses.length c1, .slice A3 a.gs.length c3, .slice A5 a.built.length c5] 30)).alloc (.cells #[.int .u64 b.now, .int .u64 b.ng, .int .u64 b.nt, .slice A2 b.ses.length c2, .slice A4 b.gs.length c4, .slice A6 b.built.length c6] 30)) (w.heap.size + 1) 30 #[.int .u64 b.now, .int .u64 b.ng, .int .u64 b.nt, .slice A2 b.ses.length c2, .slice A4 b.gs.length c4, .slice A6 b.built.length c6]) := Lib.hid (by
    have := Box.new (w.alloc (.cells #[.int .u64 a.now, .int .u64 a.ng, .int .u64 a.nt, .slice A1 a.ses.length c1, .slice A3 a.gs.length c3, .slice A5 a.built.length c5] 30)) 30 #[.int .u64 b.now, .int .u64 b.ng, .int .u64 b.nt, .slice A2 b.ses.length c2, .slice A4 b.gs.length c4, .slice A6 b.built.length c6]
    rw [show (w.alloc (.cells #[.int .u64 a.now, .int .u64 a.ng, .int .u64 a.nt, .slice A1 a.ses.length c1, .slice A3 a.gs.length c3, .slice A5 a.built.length c5] 30)).heap.size = w.heap.size + 1 from by simp] at this
    exact this)
  have HG1 := Lib.hid hg1
  have HG2 := Lib.hid hg2
  have HS1 := Lib.hid hs1
  have HS2 := Lib.hid hs2
  have HC5 := Lib.hid hc5
  have HC6 := Lib.hid hc6
  clear hg1 hg2 hs1 hs2 hc5 hc6
  go_enter Tryz.func22, Tryz.ntmps22
  go_upto_region 1 with fail
  generalize (w.alloc (.cells #[.int .u64 a.now, .int .u64 a.ng, .int .u64 a.nt, .slice A1 a.ses.length c1, .slice A3 a.gs.length c3, .slice A5 a.built.length c5] 30)).alloc (.cells #[.int .u64 b.now, .int .u64 b.ng, .int .u64 b.nt, .slice A2 b.ses.length c2, .slice A4 b.gs.length c4, .slice A6 b.built.length c6] 30) = w1 at *
  generalize hpa : w.heap.size = pa at *
  generalize hpb : pa + 1 = pb at *
  have HPA := Lib.hid hpa
  clear hpa hpb
  have x3 := HX.out.cell 3
  have y3 := HY.out.cell 3
  obtain ⟨rs, hrs⟩ : ∃ r, decide (a.ses = b.ses) = r := ⟨_, rfl⟩
  have SA : Hid (Calls Tryz.prog 52 #[.slice A1 a.ses.length c1, .slice A2 b.ses.length c2] w1 (TellsB rs w1)) := Lib.hid (by
    rw [← hrs]
    exact same_any_S w1 _ _ _ _ a.ses b.ses (HS1.out.keep HKA.out (fun _ _ _ => id)) (HS2.out.keep HKA.out (fun _ _ _ => id)))
  have HRS := Lib.hid hrs
  clear hrs
  go_wp2_with fail
  refine SA.out.mono ?_
  rintro e w2 ⟨rfl, k2⟩
  have x0 := (HX.out.keep k2 id).cell 0
  have x1 := (HX.out.keep k2 id).cell 1
  have x2 := (HX.out.keep k2 id).cell 2
  have x4 := (HX.out.keep k2 id).cell 4
  have x5 := (HX.out.keep k2 id).cell 5
  have y0 := (HY.out.keep k2 id).cell 0
  have y1 := (HY.out.keep k2 id).cell 1
  have y2 := (HY.out.keep k2 id).cell 2
  have y4 := (HY.out.keep k2 id).cell 4
  have y5 := (HY.out.keep k2 id).cell 5
  have HX2 := Lib.hid (HX.out.keep k2 id)
  have HY2 := Lib.hid (HY.out.keep k2 id)
  have HK2 := Lib.hid (HKA.out.trans k2 (fun _ _ h => h))
  clear SA x3 y3 k2 HX HY HKA
  cases rs with
  | false =>
    have HF := Lib.hid (same_no (a := a) (b := b) (fun e => of_decide_eq_false HRS.out (plain_ses e)) HK2.out)
    go_wp2
    go_ret
    exact HF.out
  | true =>
  rcases hn0 : (a.now != b.now) with _ | _
  case true =>
    have HF := Lib.hid (same_no (a := a) (b := b) (fun e => bne_iff_ne.1 hn0 (plain_now e)) HK2.out)
    go_wp2
    go_ret
    exact HF.out
  case false =>
  rcases hn1 : (a.ng != b.ng) with _ | _
  case true =>
    have HF := Lib.hid (same_no (a := a) (b := b) (fun e => bne_iff_ne.1 hn1 (plain_ng e)) HK2.out)
    go_wp2
    go_ret
    exact HF.out
  case false =>
  rcases hn2 : (a.nt != b.nt) with _ | _
  case true =>
    have HF := Lib.hid (same_no (a := a) (b := b) (fun e => bne_iff_ne.1 hn2 (plain_nt e)) HK2.out)
    go_wp2
    go_ret
    exact HF.out
  case false =>
  rcases hn3 : ((a.gs.length : Int) != (b.gs.length : Int)) with _ | _
  case true =>
    have HF := Lib.hid (same_no (a := a) (b := b) (fun e => bne_iff_ne.1 hn3 (by rw [plain_length e])) HK2.out)
    go_wp2
    go_ret
    exact HF.out
  case false =>
  rcases hn4 : ((a.built.length : Int) != (b.built.length : Int)) with _ | _
  case true =>
    have HF := Lib.hid (same_no (a := a) (b := b) (fun e => bne_iff_ne.1 hn4 (by rw [plain_built e])) HK2.out)
    go_wp2
    go_ret
    exact HF.out
  case false =>
  have HLG : Hid (a.gs.length = b.gs.length) := Lib.hid (by have := bne_eq_false_iff_eq.1 hn3; omega)
  have HLB : Hid (a.built.length = b.built.length) := Lib.hid (by have := bne_eq_false_iff_eq.1 hn4; omega)
  have HP : Hid (a.now = b.now ∧ a.ng = b.ng ∧ a.nt = b.nt ∧ a.ses = b.ses) := Lib.hid ⟨bne_eq_false_iff_eq.1 hn0, bne_eq_false_iff_eq.1 hn1, bne_eq_false_iff_eq.1 hn2, of_decide_eq_true HRS.out⟩
  go_wp2
  clear x0 x1 x2 x4 x5 y0 y1 y2 y4 y5 hn0 hn1 hn2 hn3 hn4 HRS
  go_loopw [6] (fun i wr => ∃ (k : Nat), k ≤ a.gs.length ∧ i = .int .i64 k ∧ Keep noneOf w2 wr ∧ ∀ (j : Nat) (g h : Gm), j < k → a.gs[j]? = some g → b.gs[j]? = some h → g.plain = h.plain) (fun i _ => a.gs.length - (intOf i).toNat)
  case atStart => exact ⟨0, Nat.zero_le _, rfl, Keep.refl _ _, fun j _ _ hj => absurd hj (Nat.not_lt_zero _)⟩
  case round =>
    obtain ⟨k, hk, rfl, hkeep, hall⟩ := hrel
    have HA := Lib.hid hall
    have HKP := Lib.hid hkeep
    have x4 := (HX2.out.keep hkeep id).cell 4
    have y4 := (HY2.out.keep hkeep id).cell 4
    clear hall
    by_cases hlt : k < a.gs.length
    · have hlt' : k < b.gs.length := by rw [← HLG.out]; exact hlt
      have hx : a.gs[k]? = some a.gs[k] := List.getElem?_eq_getElem hlt
      have hy : b.gs[k]? = some b.gs[k] := List.getElem?_eq_getElem hlt'
      have hG := HG1.out.keep (HK2.out.trans hkeep (fun _ _ h => h)) (fun _ _ _ => id)
      have hH := HG2.out.keep (HK2.out.trans hkeep (fun _ _ h => h)) (fun _ _ _ => id)
      generalize a.gs[k] = g at *
      generalize b.gs[k] = h at *
      obtain ⟨tb, o, rfl, hblk, _, hcell⟩ := hG.1.cell (fun _ => rfl) hx
      obtain ⟨tb', o', rfl, hblk', _, hcell'⟩ := hH.1.cell (fun _ => rfl) hy
      have d0 : wr.cell? ⟨tb, o + k * 3, none⟩ = some (.int .u64 g.id) := hcell 0 (by decide)
      have d1 : wr.cell? ⟨tb, o + k * 3 + 1, none⟩ = some g.gv := hcell 1 (by decide)
      have d2 : wr.cell? ⟨tb, o + k * 3 + 2, none⟩ = some g.sv := hcell 2 (by decide)
      have f0 : wr.cell? ⟨tb', o' + k * 3, none⟩ = some (.int .u64 h.id) := hcell' 0 (by decide)
      have f1 : wr.cell? ⟨tb', o' + k * 3 + 1, none⟩ = some h.gv := hcell' 1 (by decide)
      have f2 : wr.cell? ⟨tb', o' + k * 3 + 2, none⟩ = some h.sv := hcell' 2 (by decide)
      have hgl := hG.2 g (List.mem_of_getElem? hx)
      have hhl := hH.2 h (List.mem_of_getElem? hy)
      obtain ⟨rg, hrg⟩ : ∃ r, decide (g.ts.map Tg.plain = h.ts.map Tg.plain) = r := ⟨_, rfl⟩
      obtain ⟨rt, hrt⟩ : ∃ r, decide (g.st = h.st) = r := ⟨_, rfl⟩
      have SG : Hid (∀ w', Keep noneOf wr w' → Calls Tryz.prog 53 #[.agg #[g.gv], .agg #[h.gv]] w' (Told' rg w')) := Lib.hid fun w' k' => by
        rw [← hrg]
        exact sameGraph_any w' _ _ _ _ g.ts h.ts (hgl.keep k' (fun _ _ _ => id)).1 (hhl.keep k' (fun _ _ _ => id)).1
      have SS : Hid (∀ w', Keep noneOf wr w' → Calls Tryz.prog 32 #[g.sv, h.sv] w' (TellsB rt w')) := Lib.hid fun w' k' => by
        rw [← hrt]
        exact same_any w' _ _ _ _ g.st h.st (hgl.keep k' (fun _ _ _ => id)).2 (hhl.keep k' (fun _ _ _ => id)).2
      have MC : Hid (∀ w', Keep noneOf wr w' → w'.cell? ⟨pa, 4, none⟩ = some (.slice (some ⟨tb, o, none⟩) a.gs.length c3) ∧ w'.cell? ⟨pb, 4, none⟩ = some (.slice (some ⟨tb', o', none⟩) b.gs.length c4) ∧ w'.cell? ⟨tb, o + k * 3, none⟩ = some (.int .u64 g.id) ∧ w'.cell? ⟨tb, o + k * 3 + 1, none⟩ = some g.gv ∧ w'.cell? ⟨tb, o + k * 3 + 2, none⟩ = some g.sv ∧ w'.cell? ⟨tb', o' + k * 3, none⟩ = some (.int .u64 h.id) ∧ w'.cell? ⟨tb', o' + k * 3 + 1, none⟩ = some h.gv ∧ w'.cell? ⟨tb', o' + k * 3 + 2, none⟩ = some h.sv) := Lib.hid fun w' k' =>
        ⟨(HX2.out.keep (HKP.out.trans k' (fun _ _ h => h)) id).cell 4, (HY2.out.keep (HKP.out.trans k' (fun _ _ h => h)) id).cell 4, (k'.cell (p := ⟨tb, o + k * 3, none⟩) hblk id).trans d0, (k'.cell (p := ⟨tb, o + k * 3 + 1, none⟩) hblk id).trans d1, (k'.cell (p := ⟨tb, o + k * 3 + 2, none⟩) hblk id).trans d2, (k'.cell (p := ⟨tb', o' + k * 3, none⟩) hblk' id).trans f0, (k'.cell (p := ⟨tb', o' + k * 3 + 1, none⟩) hblk' id).trans f1, (k'.cell (p := ⟨tb', o' + k * 3 + 2, none⟩) hblk' id).trans f2⟩
      have q0 : (0 : Int) ≤ (k : Int) := by omega
      have q1 : (k : Int) < (a.gs.length : Int) := by omega
      have q2 : (k : Int) < (b.gs.length : Int) := by omega
      have HXY := Lib.hid (And.intro hx hy)
      have HRG := Lib.hid hrg
      have HRT := Lib.hid hrt
      have K0 := (Keep.refl noneOf wr).drew
      obtain ⟨gi, gv, gw, gt, gst⟩ := g
      obtain ⟨hi, hv, hw, ht, hst⟩ := h
      dsimp only at SG SS MC
      clear hG hH hx hy hgl hhl hcell hcell' d0 d1 d2 f0 f1 f2 hrg hrt hkeep hblk hblk'
      go_upto_region 7 with fail
      refine wp_region_held_drew (S := fun w' => Keep noneOf wr w') (by kernel_rfl) (K0) (fun hHeld => ?_)
      refine' wpAnyH_take (i := 0) (v := _) rfl (by kernel_rfl) (by kernel_rfl) (by kernel_rfl) (fun _ _ _ h => h) (Or.inl ⟨by kernel_rfl, ?hy0⟩) (by assumption) ?_
      case hy0 => intro w' hSw; obtain ⟨_, _, _, _, _, _, _, _⟩ := MC.out w' hSw; go_simp; try with_reducible rfl
      simp only [Act.put, List.getElem_toArray, List.getElem_cons_zero, List.getElem_cons_succ, List.setIfInBounds_toArray, List.set_cons_zero, List.set_cons_succ]
      refine' wpAnyH_take (i := 1) (v := _) rfl (by kernel_rfl) (by kernel_rfl) (by kernel_rfl) (fun _ _ _ h => h) (Or.inl ⟨by kernel_rfl, ?hy1⟩) (by assumption) ?_
      case hy1 => intro w' hSw; obtain ⟨_, _, _, _, _, _, _, _⟩ := MC.out w' hSw; go_simp; try with_reducible rfl
      simp only [Act.put, List.getElem_toArray, List.getElem_cons_zero, List.getElem_cons_succ, List.setIfInBounds_toArray, List.set_cons_zero, List.set_cons_succ]
      refine' wpAnyH_take (i := 2) (v := _) rfl (by kernel_rfl) (by kernel_rfl) (by kernel_rfl) (fun _ _ _ h => h) (Or.inl ⟨by kernel_rfl, ?hy2⟩) (by assumption) ?_
      case hy2 => intro w' hSw; obtain ⟨_, _, _, _, _, _, _, _⟩ := MC.out w' hSw; go_simp; try with_reducible rfl
      simp only [Act.put, List.getElem_toArray, List.getElem_cons_zero, List.getElem_cons_succ, List.setIfInBounds_toArray, List.set_cons_zero, List.set_cons_succ]
      refine' wpAnyH_take (i := 3) (v := _) rfl (by kernel_rfl) (by kernel_rfl) (by kernel_rfl) (fun _ _ _ h => h) (Or.inl ⟨by kernel_rfl, ?hy3⟩) (by assumption) ?_
      case hy3 => intro w' hSw; obtain ⟨_, _, _, _, _, _, _, _⟩ := MC.out w' hSw; go_simp; try with_reducible rfl
      simp only [Act.put, List.getElem_toArray, List.getElem_cons_zero, List.getElem_cons_succ, List.setIfInBounds_toArray, List.set_cons_zero, List.set_cons_succ]
      refine' wpAnyH_take (i := 4) (v := _) rfl (by kernel_rfl) (by kernel_rfl) (by kernel_rfl) (fun _ _ _ h => h) (Or.inl ⟨by kernel_rfl, ?hy4⟩) (by assumption) ?_
      case hy4 => intro w' hSw; obtain ⟨_, _, _, _, _, _, _, _⟩ := MC.out w' hSw; go_simp; try with_reducible rfl
      simp only [Act.put, List.getElem_toArray, List.getElem_cons_zero, List.getElem_cons_succ, List.setIfInBounds_toArray, List.set_cons_zero, List.set_cons_succ]
      refine' wpAnyH_take (i := 5) (v := _) rfl (by kernel_rfl) (by kernel_rfl) (by kernel_rfl) (fun _ _ _ h => h) (Or.inl ⟨by kernel_rfl, ?hy5⟩) (by assumption) ?_
      case hy5 => intro w' hSw; obtain ⟨_, _, _, _, _, _, _, _⟩ := MC.out w' hSw; go_simp; try with_reducible rfl
      simp only [Act.put, List.getElem_toArray, List.getElem_cons_zero, List.getElem_cons_succ, List.setIfInBounds_toArray, List.set_cons_zero, List.set_cons_succ]
      refine' wpAnyH_take (i := 6) (v := _) rfl (by kernel_rfl) (by kernel_rfl) (by kernel_rfl) (fun _ _ _ h => h) (Or.inl ⟨by kernel_rfl, ?hy6⟩) (by assumption) ?_
      case hy6 => intro w' hSw; obtain ⟨_, _, _, _, _, _, _, _⟩ := MC.out w' hSw; go_simp; try with_reducible rfl
      simp only [Act.put, List.getElem_toArray, List.getElem_cons_zero, List.getElem_cons_succ, List.setIfInBounds_toArray, List.set_cons_zero, List.set_cons_succ]
      refine' wpAnyH_take (i := 7) (v := _) rfl (by kernel_rfl) (by kernel_rfl) (by kernel_rfl) (fun _ _ _ h => h) (Or.inl ⟨by kernel_rfl, ?hy7⟩) (by assumption) ?_
      case hy7 => intro w' hSw; obtain ⟨_, _, _, _, _, _, _, _⟩ := MC.out w' hSw; go_simp; try with_reducible rfl
      simp only [Act.put, List.getElem_toArray, List.getElem_cons_zero, List.getElem_cons_succ, List.setIfInBounds_toArray, List.set_cons_zero, List.set_cons_succ]
      refine' wpAnyH_take (i := 8) (v := _) rfl (by kernel_rfl) (by kernel_rfl) (by kernel_rfl) (fun _ _ _ h => h) (Or.inl ⟨by kernel_rfl, ?hy8⟩) (by assumption) ?_
      case hy8 => intro w' hSw; obtain ⟨_, _, _, _, _, _, _, _⟩ := MC.out w' hSw; go_simp; try with_reducible rfl
      simp only [Act.put, List.getElem_toArray, List.getElem_cons_zero, List.getElem_cons_succ, List.setIfInBounds_toArray, List.set_cons_zero, List.set_cons_succ]
      refine' wpAnyH_take (i := 9) (v := _) rfl (by kernel_rfl) (by kernel_rfl) (by kernel_rfl) (fun _ _ _ h => h) (Or.inl ⟨by kernel_rfl, ?hy9⟩) (by assumption) ?_
      case hy9 => intro w' hSw; obtain ⟨_, _, _, _, _, _, _, _⟩ := MC.out w' hSw; go_simp; try with_reducible rfl
      simp only [Act.put, List.getElem_toArray, List.getElem_cons_zero, List.getElem_cons_succ, List.setIfInBounds_toArray, List.set_cons_zero, List.set_cons_succ]
      refine' wpAnyH_take (i := 10) (v := _) rfl (by kernel_rfl) (by kernel_rfl) (by kernel_rfl) (fun _ _ _ h => h) (Or.inl ⟨by kernel_rfl, ?hy10⟩) (by assumption) ?_
      case hy10 => intro w' hSw; obtain ⟨_, _, _, _, _, _, _, _⟩ := MC.out w' hSw; go_simp; try with_reducible rfl
      simp only [Act.put, List.getElem_toArray, List.getElem_cons_zero, List.getElem_cons_succ, List.setIfInBounds_toArray, List.set_cons_zero, List.set_cons_succ]
      refine' wpAnyH_take (i := 11) (v := _) rfl (by kernel_rfl) (by kernel_rfl) (by kernel_rfl) (fun _ _ _ h => h) (Or.inl ⟨by kernel_rfl, ?hy11⟩) (by assumption) ?_
      case hy11 => intro w' hSw; obtain ⟨_, _, _, _, _, _, _, _⟩ := MC.out w' hSw; go_simp; try with_reducible rfl
      simp only [Act.put, List.getElem_toArray, List.getElem_cons_zero, List.getElem_cons_succ, List.setIfInBounds_toArray, List.set_cons_zero, List.set_cons_succ]
      refine wpAnyH_ready (rs := [12]) (by kernel_rfl) (by simp) (AllReadyH.cons rfl (fun K hK => ?_) AllReadyH.nil)
      go_simp
      go_at_call 53
      refine (SG.out _ K0).mono ?_
      rintro e w3 ⟨rfl, k3⟩
      go_wp2_with fail
      refine hK.out _ _ (K0.trans k3 (fun _ _ h => h)) (fun hHeld => ?_)
      clear hK K
      try simp only [Act.put, List.getElem_toArray, List.getElem_cons_zero, List.getElem_cons_succ, List.setIfInBounds_toArray, List.set_cons_zero, List.set_cons_succ]
      refine' wpAnyH_take (i := 13) (v := _) rfl (by kernel_rfl) (by kernel_rfl) (by kernel_rfl) (fun _ _ _ h => h) (Or.inl ⟨by kernel_rfl, ?hy13⟩) (by assumption) ?_
      case hy13 => intro w' hSw; obtain ⟨_, _, _, _, _, _, _, _⟩ := MC.out w' hSw; go_simp; try with_reducible rfl
      simp only [Act.put, List.getElem_toArray, List.getElem_cons_zero, List.getElem_cons_succ, List.setIfInBounds_toArray, List.set_cons_zero, List.set_cons_succ]
      refine wpAnyH_done (by kernel_rfl) ?_ _
      have K3 : Keep noneOf wr w3 := K0.trans k3 (fun _ _ h => h)
      have K4 := Keep.drew K3
      clear SG k3 hHeld
      go_upto_region 8 with fail
      refine wp_region_held_drew (S := fun w' => Keep noneOf wr w') (by kernel_rfl) (K4) (fun hHeld => ?_)
      refine' wpAnyH_take (i := 0) (v := _) rfl (by kernel_rfl) (by kernel_rfl) (by kernel_rfl) (fun _ _ _ h => h) (Or.inl ⟨by kernel_rfl, ?hy0⟩) (by assumption) ?_
      case hy0 => intro w' hSw; obtain ⟨_, _, _, _, _, _, _, _⟩ := MC.out w' hSw; go_simp; try with_reducible rfl
      simp only [Act.put, List.getElem_toArray, List.getElem_cons_zero, List.getElem_cons_succ, List.setIfInBounds_toArray, List.set_cons_zero, List.set_cons_succ]
      refine' wpAnyH_take (i := 1) (v := _) rfl (by kernel_rfl) (by kernel_rfl) (by kernel_rfl) (fun _ _ _ h => h) (Or.inl ⟨by kernel_rfl, ?hy1⟩) (by assumption) ?_
      case hy1 => intro w' hSw; obtain ⟨_, _, _, _, _, _, _, _⟩ := MC.out w' hSw; go_simp; try with_reducible rfl
      simp only [Act.put, List.getElem_toArray, List.getElem_cons_zero, List.getElem_cons_succ, List.setIfInBounds_toArray, List.set_cons_zero, List.set_cons_succ]
      refine' wpAnyH_take (i := 2) (v := _) rfl (by kernel_rfl) (by kernel_rfl) (by kernel_rfl) (fun _ _ _ h => h) (Or.inl ⟨by kernel_rfl, ?hy2⟩) (by assumption) ?_
      case hy2 => intro w' hSw; obtain ⟨_, _, _, _, _, _, _, _⟩ := MC.out w' hSw; go_simp; try with_reducible rfl
      simp only [Act.put, List.getElem_toArray, List.getElem_cons_zero, List.getElem_cons_succ, List.setIfInBounds_toArray, List.set_cons_zero, List.set_cons_succ]
      refine' wpAnyH_take (i := 3) (v := _) rfl (by kernel_rfl) (by kernel_rfl) (by kernel_rfl) (fun _ _ _ h => h) (Or.inl ⟨by kernel_rfl, ?hy3⟩) (by assumption) ?_
      case hy3 => intro w' hSw; obtain ⟨_, _, _, _, _, _, _, _⟩ := MC.out w' hSw; go_simp; try with_reducible rfl
      simp only [Act.put, List.getElem_toArray, List.getElem_cons_zero, List.getElem_cons_succ, List.setIfInBounds_toArray, List.set_cons_zero, List.set_cons_succ]
      refine' wpAnyH_take (i := 4) (v := _) rfl (by kernel_rfl) (by kernel_rfl) (by kernel_rfl) (fun _ _ _ h => h) (Or.inl ⟨by kernel_rfl, ?hy4⟩) (by assumption) ?_
      case hy4 => intro w' hSw; obtain ⟨_, _, _, _, _, _, _, _⟩ := MC.out w' hSw; go_simp; try with_reducible rfl
      simp only [Act.put, List.getElem_toArray, List.getElem_cons_zero, List.getElem_cons_succ, List.setIfInBounds_toArray, List.set_cons_zero, List.set_cons_succ]
      refine' wpAnyH_take (i := 5) (v := _) rfl (by kernel_rfl) (by kernel_rfl) (by kernel_rfl) (fun _ _ _ h => h) (Or.inl ⟨by kernel_rfl, ?hy5⟩) (by assumption) ?_
      case hy5 => intro w' hSw; obtain ⟨_, _, _, _, _, _, _, _⟩ := MC.out w' hSw; go_simp; try with_reducible rfl
      simp only [Act.put, List.getElem_toArray, List.getElem_cons_zero, List.getElem_cons_succ, List.setIfInBounds_toArray, List.set_cons_zero, List.set_cons_succ]
      refine' wpAnyH_take (i := 6) (v := _) rfl (by kernel_rfl) (by kernel_rfl) (by kernel_rfl) (fun _ _ _ h => h) (Or.inl ⟨by kernel_rfl, ?hy6⟩) (by assumption) ?_
      case hy6 => intro w' hSw; obtain ⟨_, _, _, _, _, _, _, _⟩ := MC.out w' hSw; go_simp; try with_reducible rfl
      simp only [Act.put, List.getElem_toArray, List.getElem_cons_zero, List.getElem_cons_succ, List.setIfInBounds_toArray, List.set_cons_zero, List.set_cons_succ]
      refine' wpAnyH_take (i := 7) (v := _) rfl (by kernel_rfl) (by kernel_rfl) (by kernel_rfl) (fun _ _ _ h => h) (Or.inl ⟨by kernel_rfl, ?hy7⟩) (by assumption) ?_
      case hy7 => intro w' hSw; obtain ⟨_, _, _, _, _, _, _, _⟩ := MC.out w' hSw; go_simp; try with_reducible rfl
      simp only [Act.put, List.getElem_toArray, List.getElem_cons_zero, List.getElem_cons_succ, List.setIfInBounds_toArray, List.set_cons_zero, List.set_cons_succ]
      refine' wpAnyH_take (i := 8) (v := _) rfl (by kernel_rfl) (by kernel_rfl) (by kernel_rfl) (fun _ _ _ h => h) (Or.inl ⟨by kernel_rfl, ?hy8⟩) (by assumption) ?_
      case hy8 => intro w' hSw; obtain ⟨_, _, _, _, _, _, _, _⟩ := MC.out w' hSw; go_simp; try with_reducible rfl
      simp only [Act.put, List.getElem_toArray, List.getElem_cons_zero, List.getElem_cons_succ, List.setIfInBounds_toArray, List.set_cons_zero, List.set_cons_succ]
      refine' wpAnyH_take (i := 9) (v := _) rfl (by kernel_rfl) (by kernel_rfl) (by kernel_rfl) (fun _ _ _ h => h) (Or.inl ⟨by kernel_rfl, ?hy9⟩) (by assumption) ?_
      case hy9 => intro w' hSw; obtain ⟨_, _, _, _, _, _, _, _⟩ := MC.out w' hSw; go_simp; try with_reducible rfl
      simp only [Act.put, List.getElem_toArray, List.getElem_cons_zero, List.getElem_cons_succ, List.setIfInBounds_toArray, List.set_cons_zero, List.set_cons_succ]
      refine' wpAnyH_take (i := 10) (v := _) rfl (by kernel_rfl) (by kernel_rfl) (by kernel_rfl) (fun _ _ _ h => h) (Or.inl ⟨by kernel_rfl, ?hy10⟩) (by assumption) ?_
      case hy10 => intro w' hSw; obtain ⟨_, _, _, _, _, _, _, _⟩ := MC.out w' hSw; go_simp; try with_reducible rfl
      simp only [Act.put, List.getElem_toArray, List.getElem_cons_zero, List.getElem_cons_succ, List.setIfInBounds_toArray, List.set_cons_zero, List.set_cons_succ]
      refine' wpAnyH_take (i := 11) (v := _) rfl (by kernel_rfl) (by kernel_rfl) (by kernel_rfl) (fun _ _ _ h => h) (Or.inl ⟨by kernel_rfl, ?hy11⟩) (by assumption) ?_
      case hy11 => intro w' hSw; obtain ⟨_, _, _, _, _, _, _, _⟩ := MC.out w' hSw; go_simp; try with_reducible rfl
      simp only [Act.put, List.getElem_toArray, List.getElem_cons_zero, List.getElem_cons_succ, List.setIfInBounds_toArray, List.set_cons_zero, List.set_cons_succ]
      refine wpAnyH_ready (rs := [12]) (by kernel_rfl) (by simp) (AllReadyH.cons rfl (fun K hK => ?_) AllReadyH.nil)
      go_simp
      go_at_call 32
      refine (SS.out _ K4).mono ?_
      rintro e w5 ⟨rfl, k5⟩
      go_wp2_with fail
      refine hK.out _ _ (K4.trans k5 (fun _ _ h => h)) (fun hHeld => ?_)
      clear hK K
      try simp only [Act.put, List.getElem_toArray, List.getElem_cons_zero, List.getElem_cons_succ, List.setIfInBounds_toArray, List.set_cons_zero, List.set_cons_succ]
      refine' wpAnyH_take (i := 13) (v := _) rfl (by kernel_rfl) (by kernel_rfl) (by kernel_rfl) (fun _ _ _ h => h) (Or.inl ⟨by kernel_rfl, ?hy13⟩) (by assumption) ?_
      case hy13 => intro w' hSw; obtain ⟨_, _, _, _, _, _, _, _⟩ := MC.out w' hSw; go_simp; try with_reducible rfl
      simp only [Act.put, List.getElem_toArray, List.getElem_cons_zero, List.getElem_cons_succ, List.setIfInBounds_toArray, List.set_cons_zero, List.set_cons_succ]
      refine wpAnyH_done (by kernel_rfl) ?_ _
      have K5 : Keep noneOf wr w5 := K4.trans k5 (fun _ _ h => h)
      have HK5 := Lib.hid (HKP.out.trans K5 (fun _ _ h => h))
      obtain ⟨x4, y4, d0, _, _, f0, _, _⟩ := MC.out w5 K5
      clear SS MC K0 K3 K4 K5 k5 hHeld
      cases rg with
      | false =>
        have HF := Lib.hid (fun n => same_no (a := a) (b := b) (fun e => of_decide_eq_false HRG.out (gm_eq.1 (plain_gs e HXY.out.1 HXY.out.2)).2.1) (HK2.out.trans (HK5.out.drewN n) (fun _ _ h => h)))
        go_wp2
        go_quiet (fail)
        go_wp2
        go_ret
        exact HF.out _
      | true =>
      cases rt with
      | false =>
        have HF := Lib.hid (fun n => same_no (a := a) (b := b) (fun e => of_decide_eq_false HRT.out (gm_eq.1 (plain_gs e HXY.out.1 HXY.out.2)).2.2) (HK2.out.trans (HK5.out.drewN n) (fun _ _ h => h)))
        go_wp2
        go_quiet (fail)
        go_wp2
        go_ret
        exact HF.out _
      | true =>
      rcases hni : (gi != hi) with _ | _
      case true =>
        have HF := Lib.hid (fun n => same_no (a := a) (b := b) (fun e => bne_iff_ne.1 hni (gm_eq.1 (plain_gs e HXY.out.1 HXY.out.2)).1) (HK2.out.trans (HK5.out.drewN n) (fun _ _ h => h)))
        go_wp2
        go_quiet (fail)
        go_wp2
        go_ret
        exact HF.out _
      case false =>
        have HE : Hid (Gm.plain ⟨gi, gv, gw, gt, gst⟩ = Gm.plain ⟨hi, hv, hw, ht, hst⟩) := Lib.hid (gm_eq.2 ⟨bne_eq_false_iff_eq.1 hni, of_decide_eq_true HRG.out, of_decide_eq_true HRT.out⟩)
        go_wp2
        go_quiet (fail)
        go_wp2
        go_roundw
        case rel =>
          refine ⟨k + 1, by omega, by go_num, HK5.out.drewN _, fun j g h hj h1 h2 => ?_⟩
          rcases Nat.lt_or_ge j k with h3 | h3
          · exact HA.out j g h h3 h1 h2
          · obtain rfl : j = k := by omega
            rw [HXY.out.1] at h1
            rw [HXY.out.2] at h2
            injection h1 with h1
            injection h2 with h2
            rw [← h1, ← h2]
            exact HE.out
        case measure => simp only [intOf]; omega
    · have hke : k = a.gs.length := by omega
      subst hke
      have HALL : Hid (∀ (j : Nat) (g h : Gm), a.gs[j]? = some g → b.gs[j]? = some h → g.plain = h.plain) := Lib.hid (fun j g h h1 h2 => HA.out j g h (List.getElem?_eq_some_iff.1 h1).1 h1 h2)
      have hkn : ¬ ((a.gs.length : Int) < (a.gs.length : Int)) := by omega
      have HKW := Lib.hid (HK2.out.trans HKP.out (fun _ _ h => h))
      have HX3 := Lib.hid (HX2.out.keep HKP.out id)
      have HY3 := Lib.hid (HY2.out.keep HKP.out id)
      clear HA HKP HX2 HY2 HK2 hkeep hlt
      go_wp2
      clear x4 y4 hkn
      generalize wr = w9 at *
      go_loopw [9] (fun i wr => ∃ (k : Nat), k ≤ a.built.length ∧ i = .int .i64 k ∧ Keep noneOf w9 wr ∧ ∀ (j : Nat), j < k → a.built[j]? = b.built[j]?) (fun i _ => a.built.length - (intOf i).toNat)
      case atStart => exact ⟨0, Nat.zero_le _, rfl, Keep.refl _ _, fun j hj => absurd hj (Nat.not_lt_zero _)⟩
      case round =>
        obtain ⟨k, hk, rfl, hkeep, hall⟩ := hrel
        have HA := Lib.hid hall
        have HKP := Lib.hid hkeep
        have x5 := (HX3.out.keep hkeep id).cell 5
        have y5 := (HY3.out.keep hkeep id).cell 5
        clear hall
        by_cases hlt : k < a.built.length
        · have hlt' : k < b.built.length := by rw [← HLB.out]; exact hlt
          obtain ⟨ad, rfl, hsp, hblk, _, hcell⟩ := HC5.out (by omega)
          obtain ⟨tb, o, sp⟩ := ad
          simp only at hsp hblk
          subst hsp
          obtain ⟨ad2, rfl, hsp2, hblk2, _, hcell2⟩ := HC6.out (by omega)
          obtain ⟨tb', o', sp2⟩ := ad2
          simp only at hsp2 hblk2
          subst hsp2
          have kw := HKW.out.trans hkeep (fun _ _ h => h)
          have d0 : wr.cell? ⟨tb, o + k, none⟩ = some (.int .u64 (a.built[k] : Int)) := (kw.cell (p := ⟨tb, o + k, none⟩) (by show tb < w.heap.size; rw [HPA.out]; exact hblk) id).trans (hcell k _ (by rw [List.getElem?_map, List.getElem?_eq_getElem hlt]; rfl))
          have f0 : wr.cell? ⟨tb', o' + k, none⟩ = some (.int .u64 (b.built[k] : Int)) := (kw.cell (p := ⟨tb', o' + k, none⟩) (by show tb' < w.heap.size; rw [HPA.out]; exact hblk2) id).trans (hcell2 k _ (by rw [List.getElem?_map, List.getElem?_eq_getElem hlt']; rfl))
          have HXY := Lib.hid (And.intro (List.getElem?_eq_getElem hlt) (List.getElem?_eq_getElem hlt'))
          generalize a.built[k] = x at *
          generalize b.built[k] = y at *
          have q0 : (0 : Int) ≤ (k : Int) := by omega
          have q1 : (k : Int) < (a.built.length : Int) := by omega
          have q2 : (k : Int) < (b.built.length : Int) := by omega
          clear hcell hcell2 kw hkeep hblk hblk2
          rcases hni : ((x : Int) != (y : Int)) with _ | _
          case true =>
            have HF := Lib.hid (fun n => same_no (a := a) (b := b) (fun e => by
              have h1 := HXY.out
              rw [plain_built e, h1.2] at h1
              have h2 := h1.1
              injection h2 with h2
              exact bne_iff_ne.1 hni (by rw [h2])) (HKW.out.trans (HKP.out.drewN n) (fun _ _ h => h)))
            go_wp2
            go_quiet (fail)
            go_wp2
            go_ret
            exact HF.out _
          case false =>
            have HE : Hid (x = y) := Lib.hid (by have := bne_eq_false_iff_eq.1 hni; omega)
            go_wp2
            go_quiet (fail)
            go_wp2
            go_roundw
            case rel =>
              refine ⟨k + 1, by omega, by go_num, HKP.out.drewN _, fun j hj => ?_⟩
              rcases Nat.lt_or_ge j k with h3 | h3
              · exact HA.out j h3
              · obtain rfl : j = k := by omega
                rw [HXY.out.1, HXY.out.2, HE.out]
            case measure => simp only [intOf]; omega
        · have hke : k = a.built.length := by omega
          subst hke
          have hkn : ¬ ((a.built.length : Int) < (a.built.length : Int)) := by omega
          have HF := Lib.hid (same_yes (a := a) (b := b) (plain_eq HP.out.1 HP.out.2.1 HP.out.2.2.1 HP.out.2.2.2 HLG.out HALL.out (List.ext_getElem? fun j => by
            rcases Nat.lt_or_ge j a.built.length with h | h
            · exact HA.out j h
            · rw [List.getElem?_eq_none h, List.getElem?_eq_none (by rw [← HLB.out]; exact h)])) (HKW.out.trans HKP.out (fun _ _ h => h)))
          clear hlt hkeep
          go_wp2
          go_ret
          exact HF.out
end Go.Proofs.YtkoikmdmejhhhaaGreat
namespace Go.Proofs.YtkoikmdmejhhhaaGreat
theorem check_formed {ps : List Pt} (h : grCheck ps = 0) : grFormed ps = true := by
  unfold grCheck at h
  by_cases h1 : grFits ps = false
  · rw [if_pos h1] at h; exact absurd h (by decide)
  · rw [if_neg h1] at h
    by_cases h2 : grFormed ps = false
    · rw [if_pos h2] at h; exact absurd h (by decide)
    · simpa using h2
theorem names_at {ps : List Pt} (h : grCheck ps = 0) {i : Nat} {p : Pt} (hp : ps[i]? = some p) : findIx ps p.name = some i := by
  have hf := check_formed h
  unfold grFormed at hf
  rw [Bool.and_eq_true, List.all_eq_true] at hf
  have hi := (List.getElem?_eq_some_iff.1 hp).1
  have := hf.2 i (List.mem_range.2 hi)
  rw [hp] at this
  have h2 : ptFormed ps i p = true := this
  unfold ptFormed at h2
  simp only [Bool.and_eq_true, decide_eq_true_eq] at h2
  exact h2.1.1.1
theorem nameP_is {ps : List Pt} {n : Nat} {p : Pt} (h : ps[n]? = some p) : nameP ps n = p.name := by unfold nameP; rw [h]; rfl
theorem nameP_inj {ps : List Pt} (h : grCheck ps = 0) {i n : Nat} (hi : i < ps.length) (hn : n < ps.length) (e : nameP ps i = nameP ps n) : i = n := by
  have h1 := names_at h (List.getElem?_eq_getElem hi)
  have h2 := names_at h (List.getElem?_eq_getElem hn)
  rw [nameP_is (List.getElem?_eq_getElem hi), nameP_is (List.getElem?_eq_getElem hn)] at e
  rw [e, h2] at h1
  injection h1 with h1
  exact h1.symm
theorem lost_iff {ps : List Pt} (h : grCheck ps = 0) {i : Nat} {p : Pt} (hp : ps[i]? = some p) (l : List Pst) :
    (∃ k ∈ needsAt ps (i : Int), (l.getD k .zero).s ≠ 3) ↔ ∃ s ∈ p.needs, ∃ (n : Nat) (q : Pt), ps[n]? = some q ∧ q.name = s ∧ (l.getD n .zero).s ≠ 3 := by
  have e : needsAt ps (i : Int) = needsOf ps p := by
    unfold needsAt
    rw [if_pos (by omega), Int.toNat_natCast, hp]
    rfl
  rw [e]
  unfold needsOf
  constructor
  · rintro ⟨k, hk, hne⟩
    obtain ⟨s, hs, hf⟩ := List.mem_filterMap.1 hk
    obtain ⟨q, hq, hn⟩ := findIx_name hf
    exact ⟨s, hs, k, q, hq, hn, hne⟩
  · rintro ⟨s, hs, n, q, hq, rfl, hne⟩
    exact ⟨n, List.mem_filterMap.2 ⟨_, hs, names_at h hq⟩, hne⟩
def failed (fs : List ByteArray) (good : Bool) (s : ByteArray) : List ByteArray := if good = true then fs else fs ++ [s]
theorem Bld.named {ps : List Pt} (hq : grCheck ps = 0) {fs : List ByteArray} {l : List Pst} {n : Nat} {good : Bool} (h : Bld ps (fun i => nameP ps i ∈ fs ∨ (i = n ∧ good = false)) l) (hn : n < ps.length) : Bld ps (fun i => nameP ps i ∈ failed fs good (nameP ps n)) l :=
  ⟨h.len, h.rng, h.had, h.lost, fun i x hx => by
    have hi : i < ps.length := by rw [← h.len]; exact (List.getElem?_eq_some_iff.1 hx).1
    rw [h.fail i x hx]
    unfold failed
    cases good with
    | true => simp
    | false =>
      simp only [and_true, Bool.false_eq_true, if_false, List.mem_append, List.mem_singleton]
      constructor
      · rintro (e | rfl)
        · exact .inl e
        · exact .inr rfl
      · rintro (e | e)
        · exact .inl e
        · exact .inr (nameP_inj hq hi hn e)⟩
theorem dbl_round {q : Qp} {i0 : Nat} {id : Int} {ps : List Pt} {fs : List ByteArray} {k : Nat} (h : Dbl q i0 id ps fs k) {p : Nat × Nat} (hr : readyAt q = some p) (c : Cq) (hc : c.tok = q.nt) :
    (claimP q).2.code = 0 ∧ (claimP q).2.id = id ∧ (claimP q).2.tok = q.nt ∧ (reportP (claimP q).1 c).2.code = 0 ∧ (reportP (claimP q).1 c).2.tgt = (claimP q).2.tgt ∧ 1 ≤ k ∧ Dbl (reportP (claimP q).1 c).1 i0 id ps (failed fs c.good (claimP q).2.tgt) (k - 1) := by
  obtain ⟨i, n⟩ := p
  obtain ⟨g, x, hgi, hx, hs⟩ := ready_some hr
  have hnt1 := h.inv.nt
  have hntk := h.nt
  have ei : i = i0 := Classical.byContradiction fun hne => (over_not (h.others i g hne hgi) (List.mem_of_getElem? hx)).2.1 hs
  subst ei
  obtain ⟨g', hg', eid, eps, hB, hcnt⟩ := h.at_
  rw [hgi] at hg'
  injection hg' with hg'
  subst hg'
  subst eid
  subst eps
  have hkpos : 1 ≤ k := by
    have : 1 ≤ g.st.countP nf := by
      rw [Nat.succ_le_iff, List.countP_pos_iff]
      exact ⟨x, List.mem_of_getElem? hx, by unfold nf; rw [hs]; rfl⟩
    omega
  have e1 := claim_is hr hgi (by omega) h.now
  have hi1 := inv_claim h.inv
  have hi2 := inv_report hi1 c
  rw [e1] at hi1 hi2 ⊢
  refine ⟨rfl, rfl, rfl, ?_⟩
  dsimp only at hi1 hi2 ⊢
  generalize hq1 : ({ withG q i (g.st.set n ⟨2, q.nt, q.now + 8⟩) with nt := q.nt + 1 } : Qp) = q1 at hi1 hi2 ⊢
  have g1 : q1.gs = (withG q i (g.st.set n ⟨2, q.nt, q.now + 8⟩)).gs := by rw [← hq1]
  have n1 : q1.now = q.now := by rw [← hq1]; rfl
  have t1 : q1.nt = q.nt + 1 := by rw [← hq1]
  have hnl := (List.getElem?_eq_some_iff.1 hx).1
  have at1 : q1.gs[i]? = some { g with st := g.st.set n ⟨2, q.nt, q.now + 8⟩ } := by
    rw [g1, withG_at, if_pos rfl, hgi]
    rfl
  have hheld : holdsB ⟨2, q.nt, q.now + 8⟩ q.nt q.now = true := by
    unfold holdsB
    simp only [beq_self_eq_true, bne_iff_ne, ne_eq, Bool.and_eq_true, decide_eq_true_eq, true_and]
    omega
  have hfree := h.free
  have hjm : heldAt q1 c.tok = some (i, n) := by
    rw [hc]
    refine is_held at1 (List.getElem?_set_self hnl) (by rw [n1]; exact hheld) (fun j b m y hb hy h2 _ => ?_)
    rw [g1] at hb
    rcases with_states hgi hx hb hy with ⟨e1, e2, _⟩ | ⟨b', hb', hy'⟩
    · exact ⟨e1, e2⟩
    · exact absurd h2 (hfree b' (List.mem_of_getElem? hb') y (List.mem_of_getElem? hy'))
  have hz2 : (if c.good = true then (3 : Int) else 4) = 3 ∨ (if c.good = true then (3 : Int) else 4) = 4 := by split <;> simp
  have hB2 := bld_set hB hx hs c.good
  have hnps : n < g.ps.length := by rw [← hB.len]; exact hnl
  have e2 : (reportP q1 c).1.gs = (withG q1 i (grSettle g.ps (g.st.set n ⟨if c.good = true then 3 else 4, 0, 0⟩))).gs ∧ (reportP q1 c).1.now = q1.now ∧ (reportP q1 c).1.nt = q1.nt ∧ (reportP q1 c).2 = ⟨0, g.id, 0, 0, g.name n, ⟨#[]⟩⟩ := by
    unfold reportP
    rw [hjm]
    simp only
    rw [getD_some at1]
    dsimp only
    rw [List.set_set]
    refine ⟨?_, ?_, ?_, rfl⟩ <;> (split <;> rfl)
  generalize (if c.good = true then (3 : Int) else 4) = z at e2 hz2 hB2
  obtain ⟨e3, e4, e5, e6⟩ := e2
  have hq := (h.inv.gsIn g (List.mem_of_getElem? hgi)).2.2.1
  have hB3 : Bld g.ps (fun i => nameP g.ps i ∈ failed fs c.good (nameP g.ps n)) (g.st.set n ⟨z, 0, 0⟩) := Bld.named hq hB2 hnps
  have hlen := hB3.len
  have hB4 := bld_settle hq hB3
  refine ⟨by rw [e6], by rw [e6], hkpos, ?_⟩
  refine ⟨hi2, ⟨{ g with st := grSettle g.ps (g.st.set n ⟨z, 0, 0⟩) }, ?_, rfl, rfl, hB4, ?_⟩, fun j b hj hb => ?_, by rw [e4, n1]; exact h.now, by rw [e5, t1]; omega⟩
  · rw [e3, withG_at, if_pos rfl, at1]
    rfl
  · have c3 : (grSettle g.ps (g.st.set n ⟨z, 0, 0⟩)).countP nf ≤ (g.st.set n ⟨z, 0, 0⟩).countP nf := by
      refine count_to (by rw [hB4.len, hlen]) (fun k a b ha hb hf => ?_)
      rcases settle_from hq hlen hb with hb2 | ⟨_, _, _, x0, hx0, hx00⟩
      · rw [ha] at hb2
        injection hb2 with hb2
        subst hb2
        exact hf
      · rw [ha] at hx0
        injection hx0 with hx0
        subst hx0
        unfold nf
        rw [hx00]
        rfl
    have c4 := count_set_less (y := ⟨z, 0, 0⟩) hx (by unfold nf; rw [hs]; rfl) (by rcases hz2 with rfl | rfl <;> rfl)
    show (grSettle g.ps (g.st.set n ⟨z, 0, 0⟩)).countP nf ≤ k - 1
    omega
  · rw [e3, withG_at, if_neg (fun e => hj e.symm), g1, withG_at, if_neg (fun e => hj e.symm)] at hb
    exact h.others j b hj hb
theorem dbl_end {q : Qp} {i0 : Nat} {id : Int} {ps : List Pt} {fs : List ByteArray} {k : Nat} (h : Dbl q i0 id ps fs k) (he : readyAt q = none) :
    ∃ g, q.gs[i0]? = some g ∧ g.id = id ∧ g.st.length = ps.length ∧ overB g.st = true ∧ ∀ (i : Nat) (x : Pst) (p : Pt), g.st[i]? = some x → ps[i]? = some p →
      (x.s = 5 ↔ ∃ s ∈ p.needs, ∃ (n : Nat) (t : Pt), ps[n]? = some t ∧ t.name = s ∧ (g.st.getD n .zero).s ≠ 3) ∧ (x.s = 4 ↔ p.name ∈ fs) ∧ (x.s = 3 ↔ ¬ x.s = 5 ∧ ¬ x.s = 4) := by
  obtain ⟨g, hg, eid, eps, hB, _⟩ := h.at_
  have hover : overB g.st = true := idle_over h.inv h.free he g (List.mem_of_getElem? hg)
  have hq : grCheck ps = 0 := by rw [← eps]; exact (h.inv.gsIn g (List.mem_of_getElem? hg)).2.2.1
  refine ⟨g, hg, eid, hB.len, hover, fun i x p hx hp => ?_⟩
  obtain ⟨b1, b2, b3⟩ := bld_over hB hover hx
  rw [nameP_is hp] at b2 b3
  rw [lost_iff hq hp] at b1 b3
  refine ⟨b1, b2, ?_⟩
  rw [b3, ← b1, ← b2]
theorem dbl_start {q : Qp} (h : Inv q) (c : Cq) (h0 : (submitP q c).2.code = 0) (ho : ∀ g ∈ q.gs, overB g.st = true) (hn : q.now ≤ late) (ht : q.nt + c.ps.length < top) :
    Dbl (submitP q c).1 q.gs.length (submitP q c).2.id c.ps [] c.ps.length := by
  have hi := inv_submit h c
  unfold submitP at h0 hi ⊢
  by_cases hq : grCheck c.ps ≠ 0
  · rw [if_pos hq] at h0
    exact absurd h0 hq
  · rw [if_neg hq] at h0 hi ⊢
    by_cases hf : 16 ≤ q.gs.length ∨ q.ng = top
    · rw [if_pos hf] at h0
      exact absurd (show (120 : Int) = 0 from h0) (by decide)
    · rw [if_neg hf] at hi ⊢
      dsimp only at hi ⊢
      have hB := bld_start (Classical.byContradiction hq) (fun k => q.built.contains k)
      have hB2 : Bld c.ps (fun i => nameP c.ps i ∈ ([] : List ByteArray)) (grStart c.ps (grFresh c.ps (fun k => q.built.contains k))) :=
        ⟨hB.len, hB.rng, hB.had, hB.lost, fun i x hx => (hB.fail i x hx).trans ⟨fun e => e.elim, fun e => by cases e⟩⟩
      refine ⟨hi, ⟨⟨q.ng, c.ps, grStart c.ps (grFresh c.ps (fun k => q.built.contains k))⟩, by rw [List.getElem?_append_right (Nat.le_refl _), Nat.sub_self]; rfl, rfl, rfl, hB2, ?_⟩, fun j b hj hjb => ?_, hn, ht⟩
      · have := hB.len
        have h2 : (grStart c.ps (grFresh c.ps (fun k => q.built.contains k))).countP nf ≤ (grStart c.ps (grFresh c.ps (fun k => q.built.contains k))).length := List.countP_le_length
        show (grStart c.ps (grFresh c.ps (fun k => q.built.contains k))).countP nf ≤ c.ps.length
        omega
      · have hjl : j < (q.gs ++ [(⟨q.ng, c.ps, grStart c.ps (grFresh c.ps (fun k => q.built.contains k))⟩ : Gq)]).length := (List.getElem?_eq_some_iff.1 hjb).1
        rw [List.length_append] at hjl
        have hjl2 : j < q.gs.length := by
          have : ([(⟨q.ng, c.ps, grStart c.ps (grFresh c.ps (fun k => q.built.contains k))⟩ : Gq)]).length = 1 := rfl
          omega
        rw [List.getElem?_append_left hjl2] at hjb
        exact ho b (List.mem_of_getElem? hjb)
theorem dbl_told {q : Qp} {i0 : Nat} {id : Int} {ps : List Pt} {fs : List ByteArray} {k : Nat} (h : Dbl q i0 id ps fs k) {S s : Int} (hb : Behind q S s) (hs : 1 ≤ s) (hS : 0 ≤ S ∧ S ≤ top) (hsm : s + 1 ≤ top) {c c' : Cq} (hc : c.kind = 3 ∧ c.ses = S ∧ c.seq = s ∧ 0 ≤ c.time ∧ c.time ≤ top) (hc' : c'.kind = 5 ∧ c'.ses = S ∧ c'.seq = s + 1 ∧ 0 ≤ c'.time ∧ c'.time ≤ top) (ht : c'.tok = (applyP q c).2.tok) :
    ((applyP q c).2.code = 122 ∧ readyAt q = none ∧ Dbl (applyP q c).1 i0 id ps fs k ∧ readyAt (applyP q c).1 = none ∧ Behind (applyP q c).1 S (s + 1)) ∨
    ((applyP q c).2.code = 0 ∧ (applyP q c).2.id = id ∧ (applyP (applyP q c).1 c').2.code = 0 ∧ (applyP (applyP q c).1 c').2.tgt = (applyP q c).2.tgt ∧ 1 ≤ k ∧ Dbl (applyP (applyP q c).1 c').1 i0 id ps (failed fs c'.good (applyP q c).2.tgt) (k - 1) ∧ Behind (applyP (applyP q c).1 c').1 S (s + 2)) := by
  obtain ⟨k1, k2, k3, k4, k5⟩ := hc
  obtain ⟨l1, l2, l3, l5, l6⟩ := hc'
  obtain ⟨e1, b1⟩ := told (q := q) (c := c) (by omega) (by rw [k2, k3]; exact hb) (by omega)
  have hd : doneP q c = claimP q := by unfold doneP; rw [if_neg (by omega), if_pos k1]
  have i1 := inv_apply h.inv (c := c) ⟨by rw [k2]; exact hS, by omega, ⟨k4, k5⟩⟩
  rw [hd] at e1
  have b1' : Behind (applyP q c).1 S (s + 1) := by rw [← k2, ← k3]; exact b1
  cases hr : readyAt q with
  | none =>
    left
    have hcl : claimP q = (q, .err 122) := by unfold claimP; rw [hr]
    rw [hcl] at e1
    have eq1 : (applyP q c).1 = { q with ses := putR q.ses ⟨c.ses, c.seq, .err 122⟩ } := by rw [e1]
    refine ⟨by rw [e1]; rfl, rfl, h.more i1 (by rw [eq1]) (by rw [eq1]) (by rw [eq1]), ?_, b1'⟩
    rw [eq1]
    exact hr
  | some p =>
    right
    obtain ⟨w1, w2, w3, w4, w4', w5, w6⟩ := dbl_round h hr c' (by
      have := (dbl_round h hr { c' with tok := q.nt } rfl).2.2.1
      rw [ht, e1]
      exact this)
    have b1'' : Behind (applyP q c).1 c'.ses c'.seq := by rw [l2, l3]; exact b1'
    obtain ⟨e2, b2⟩ := told (q := (applyP q c).1) (c := c') (by omega) b1'' (by omega)
    have hd2 : ∀ Q, doneP Q c' = reportP Q c' := fun Q => by unfold doneP; rw [if_neg (by omega), if_neg (by omega), if_neg (by omega), if_pos l1]
    have i2 := inv_apply i1 (c := c') ⟨by rw [l2]; exact hS, by omega, ⟨l5, l6⟩⟩
    have hds := done_ses (claimP q).1 (putR q.ses ⟨c.ses, c.seq, (claimP q).2⟩) c'
    have eq1 : (applyP q c).1 = { (claimP q).1 with ses := putR q.ses ⟨c.ses, c.seq, (claimP q).2⟩ } := by rw [e1]
    have e2' : (applyP (applyP q c).1 c').1.gs = (reportP (claimP q).1 c').1.gs ∧ (applyP (applyP q c).1 c').1.now = (reportP (claimP q).1 c').1.now ∧ (applyP (applyP q c).1 c').1.nt = (reportP (claimP q).1 c').1.nt ∧ (applyP (applyP q c).1 c').1.built = (reportP (claimP q).1 c').1.built ∧ (applyP (applyP q c).1 c').2 = (reportP (claimP q).1 c').2 := by
      rw [e2, eq1, hds, hd2]
      exact ⟨rfl, rfl, rfl, rfl, rfl⟩
    obtain ⟨f1, f2, f3, f4, f5⟩ := e2'
    have g1 : (applyP q c).2 = (claimP q).2 := by rw [e1]
    refine ⟨by rw [g1]; exact w1, by rw [g1]; exact w2, by rw [f5]; exact w4, by rw [f5, g1]; exact w4', w5, by rw [g1]; exact w6.more i2 f1 f2 f3, ?_⟩
    rw [l2, l3] at b2
    rw [show s + 2 = s + 1 + 1 from by omega]
    exact b2
theorem clr_submit_dbl {q : Qp} {b0 : List Nat} {now nt S s : Int} (h : Clr q [] b0 now nt S s) (hs : 1 ≤ s) (hS : 0 ≤ S ∧ S ≤ top) (hsm : s ≤ top) {c : Cq} (hc : c.kind = 2 ∧ c.ses = S ∧ c.seq = s ∧ 0 ≤ c.time ∧ c.time ≤ top)
    (h0 : (applyP q c).2.code = 0) (hn : now ≤ late) (ht : nt + c.ps.length < top) :
    Dbl (applyP q c).1 q.gs.length (applyP q c).2.id c.ps [] c.ps.length ∧ Behind (applyP q c).1 S (s + 1) := by
  obtain ⟨k1, k2, k3, k5, k6⟩ := hc
  obtain ⟨e1, b1⟩ := told (q := q) (c := c) (by omega) (by rw [k2, k3]; exact h.ses) (by omega)
  have hd : doneP q c = submitP q c := by unfold doneP; rw [if_pos k1]
  have i1 := inv_apply h.inv (c := c) ⟨by rw [k2]; exact hS, by omega, ⟨k5, k6⟩⟩
  have f : (applyP q c).1.gs = (submitP q c).1.gs ∧ (applyP q c).1.now = (submitP q c).1.now ∧ (applyP q c).1.nt = (submitP q c).1.nt ∧ (applyP q c).2 = (submitP q c).2 := by
    rw [e1, hd]
    exact ⟨rfl, rfl, rfl, rfl⟩
  obtain ⟨f1, f3, f4, f5⟩ := f
  rw [f5] at h0 ⊢
  have hB := dbl_start h.inv c h0 (fun g hg => (h.over g hg).elim id (fun e => by cases e)) (by rw [h.now]; exact hn) (by rw [h.nt]; exact ht)
  refine ⟨hB.more i1 f1 f3 f4, ?_⟩
  rw [k2, k3] at b1
  exact b1
end Go.Proofs.YtkoikmdmejhhhaaGreat
namespace Go.Proofs.YtkoikmdmejhhhaaGreat
theorem told_like {p : Qp} {l : List Ro} {c : Cq} {S s : Int} (hk : 2 ≤ c.kind ∧ c.kind ≤ 6) (hS : c.ses = S ∧ c.seq = s) (h : Behind { p with ses := l } S s) (h1 : 1 ≤ s) :
    ∃ l', applyP { p with ses := l } c = ({ (doneP p c).1 with ses := l' }, (doneP p c).2) ∧ Behind { (doneP p c).1 with ses := l' } S (s + 1) := by
  obtain ⟨rfl, rfl⟩ := hS
  obtain ⟨e, b⟩ := told hk h h1
  rw [done_ses] at e
  refine ⟨_, e, ?_⟩
  rw [e] at b
  exact b
theorem fence_told {q0 : Qp} (h0 : Inv q0) {S : Int} (hb : Behind q0 S 1) (hnow : q0.now + 8 + 1000 ≤ late) (hnt : q0.nt + 1 < top) {c1 c2 c3 c4 c5 c6 c7 : Cq} {d : Int} (hd : 0 ≤ d ∧ d ≤ 1000)
    (k1 : c1.kind = 3 ∧ c1.ses = S ∧ c1.seq = 1) (k2 : c2.kind = 7) (k3 : c3.kind = 3 ∧ c3.ses = S ∧ c3.seq = 2) (k4 : c4.kind = 5 ∧ c4.ses = S ∧ c4.seq = 3) (k5 : c5.kind = 4 ∧ c5.ses = S ∧ c5.seq = 4) (k6 : c6.kind = 5 ∧ c6.ses = S ∧ c6.seq = 5) (k7 : c7.kind = 5 ∧ c7.ses = S ∧ c7.seq = 6)
    {a x b r1 r2 r3 r4 : Qp × An} (ea : applyP q0 c1 = a) (ex : applyP a.1 c2 = x) (eb : applyP x.1 c3 = b) (e1 : applyP b.1 c4 = r1) (e2 : applyP r1.1 c5 = r2) (e3 : applyP r2.1 c6 = r3) (e4 : applyP r3.1 c7 = r4)
    (t2 : c2.time = a.2.unt + d) (t4 : c4.tok = a.2.tok) (t5 : c5.tok = a.2.tok) (t6 : c6.tok = b.2.tok) (t7 : c7.tok = b.2.tok) :
    a.2.code = 122 ∨ (a.2.code = 0 ∧ b.2.code = 0 ∧ a.2.tok < b.2.tok ∧ r1.2.code = 100 ∧ r2.2.code = 100 ∧ { b.1 with ses := r2.1.ses } = r2.1 ∧ r3.2.code = 0 ∧ r3.2.tgt = b.2.tgt ∧ r3.2.id = b.2.id ∧ r4.2.code = 100) := by
  have d3 : ∀ (Q : Qp) (c : Cq), c.kind = 3 → doneP Q c = claimP Q := fun Q c h => by unfold doneP; rw [if_neg (by omega), if_pos h]
  have d4 : ∀ (Q : Qp) (c : Cq), c.kind = 4 → doneP Q c = renewP Q c := fun Q c h => by unfold doneP; rw [if_neg (by omega), if_neg (by omega), if_pos h]
  have d5 : ∀ (Q : Qp) (c : Cq), c.kind = 5 → doneP Q c = reportP Q c := fun Q c h => by unfold doneP; rw [if_neg (by omega), if_neg (by omega), if_neg (by omega), if_pos h]
  obtain ⟨l1, f1, b1⟩ := told_like (p := q0) (l := q0.ses) (c := c1) (S := S) (s := 1) (by omega) ⟨k1.2.1, k1.2.2⟩ hb (by decide)
  rw [d3 _ _ k1.1] at f1 b1
  have f1' : applyP q0 c1 = ({ (claimP q0).1 with ses := l1 }, (claimP q0).2) := f1
  rw [ea] at f1'
  subst f1'
  cases hr : readyAt q0 with
  | none =>
    left
    have hcl : claimP q0 = (q0, .err 122) := by unfold claimP; rw [hr]
    show (claimP q0).2.code = 122
    rw [hcl]
    rfl
  | some p =>
    right
    dsimp only at ex t2 t4 t5 ⊢
    have FF := fun (T : Int) h1 h2 (c c2 : Cq) h3 h4 => fence h0 hr (T := T) h1 h2 hnt c c2 h3 h4
    have F0 := FF (q0.now + 8) (by omega) (by omega) { c4 with tok := q0.nt } { c6 with tok := q0.nt + 1 } rfl rfl
    dsimp only at F0
    obtain ⟨g1, g2, g3, -⟩ := F0
    rw [g3] at t2
    rw [g2] at t4 t5
    have hn1 : (claimP q0).1.now = q0.now := by
      have := (done_same q0 c1).1
      rw [d3 _ _ k1.1] at this
      exact this
    have F := FF c2.time (by omega) (by omega) c4 { c6 with tok := q0.nt + 1 } t4 rfl
    dsimp only at F
    rw [advance_like k2 (by rw [hn1]; omega)] at ex
    generalize hq1 : (claimP q0).1 = q1 at *
    generalize hq2 : ({ q1 with now := c2.time, gs := q1.gs.map (fun g => { g with st := repl 1 (pastB c2.time) g.st }) } : Qp) = q2 at *
    subst ex
    dsimp only at eb
    have b2 : Behind { q2 with ses := l1 } S 2 := b1
    obtain ⟨l3, f3, b3⟩ := told_like (p := q2) (l := l1) (c := c3) (S := S) (s := 2) (by omega) ⟨k3.2.1, k3.2.2⟩ b2 (by decide)
    rw [d3 _ _ k3.1] at f3 b3
    rw [eb] at f3
    subst f3
    obtain ⟨-, -, -, p4, p5, p6, -, p8, p9, p10, p11⟩ := F
    dsimp only at e1 t6 t7 ⊢
    rw [p5] at t6 t7
    generalize (claimP q2).1 = q3 at *
    obtain ⟨l4, f4, b4⟩ := told_like (p := q3) (l := l3) (c := c4) (S := S) (s := 3) (by omega) ⟨k4.2.1, k4.2.2⟩ b3 (by decide)
    rw [d5 _ _ k4.1, p6] at f4 b4
    rw [e1] at f4
    subst f4
    dsimp only at e2 b4
    have p7 : renewP q3 c5 = (q3, .err 100) := by
      refine renew_none ?_
      have : heldAt q3 c4.tok = none := by
        cases hh : heldAt q3 c4.tok with
        | none => rfl
        | some pp =>
          exfalso
          have := congrArg (fun y => y.2.code) p6
          unfold reportP at this
          rw [hh] at this
          exact absurd (show (0 : Int) = 100 from this) (by decide)
      rw [t5, ← t4]
      exact this
    obtain ⟨l5, f5, b5⟩ := told_like (p := q3) (l := l4) (c := c5) (S := S) (s := 4) (by omega) ⟨k5.2.1, k5.2.2⟩ b4 (by decide)
    rw [d4 _ _ k5.1, p7] at f5 b5
    rw [e2] at f5
    subst f5
    dsimp only at e3 b5
    have hc6 : ({ c6 with tok := q0.nt + 1 } : Cq) = c6 := by rw [← t6]
    rw [hc6] at p8 p9 p10 p11
    obtain ⟨l6, f6, b6⟩ := told_like (p := q3) (l := l5) (c := c6) (S := S) (s := 5) (by omega) ⟨k6.2.1, k6.2.2⟩ b5 (by decide)
    rw [d5 _ _ k6.1] at f6 b6
    rw [e3] at f6
    subst f6
    dsimp only at e4 b6
    obtain ⟨l7, f7, -⟩ := told_like (p := (reportP q3 c6).1) (l := l6) (c := c7) (S := S) (s := 6) (by omega) ⟨k7.2.1, k7.2.2⟩ b6 (by decide)
    rw [d5 _ _ k7.1, p11 c7 t7] at f7
    rw [e4] at f7
    subst f7
    refine ⟨g1, p4, by rw [g2, p5]; omega, rfl, rfl, rfl, p8, p10, p9, rfl⟩
end Go.Proofs.YtkoikmdmejhhhaaGreat
namespace Go.Proofs.YtkoikmdmejhhhaaGreat
open Go.RowKit Go.ChangeShapes Go.WideShapes Go.Deep
def Told2 (w v : World) (D : Nat → Prop) (p : Nat) (q : Qm) (c : Cq) (e : Ending) (u : World) : Prop :=
  ∃ s D', e = .returned (applyP q.plain c).2.agg ∧ Own w u D' p s ∧ s.plain = (applyP q.plain c).1 ∧ (∀ i, D' i → D i ∨ v.heap.size ≤ i) ∧ Keep D v u
set_option maxRecDepth 100000 in
set_option maxHeartbeats 8000000 in
set_option linter.unusedSimpArgs false in
theorem told_any (w v : World) (D C : Nat → Prop) (p : Nat) (q : Qm) (h : Own w v D p q) (c : Cm) (hc : c.lies v C) (n : Int) (hn : 0 ≤ n ∧ n ≤ top) :
    Calls Tryz.prog 34 #[.pointer (some ⟨p, 0, none⟩), .int .u64 n, c.agg] v (Told2 w v D p q (c.told n).plain) := by
  obtain ⟨Ag, cg, eg⟩ := hc.shape
  have hlt := h.mine.at_.lt
  have HLT := Lib.hid hlt
  have KA := ((Keep.refl noneOf v).alloc (.cells #[.int .i64 c.kind, .int .u64 c.ses, .int .u64 c.seq, .slice Ag c.ts.length cg, .int .u64 c.id, .int .u64 c.tok, .bool c.good, .int .u64 c.time] 37)).alloc (.cells #[.int .i64 0, .int .u64 0, .int .u64 0, .int .u64 0, .string ⟨#[]⟩, .string ⟨#[]⟩] 40)
  have HBC := Lib.hid ((Box.new v 37 #[.int .i64 c.kind, .int .u64 c.ses, .int .u64 c.seq, .slice Ag c.ts.length cg, .int .u64 c.id, .int .u64 c.tok, .bool c.good, .int .u64 c.time]).alloc (.cells #[.int .i64 0, .int .u64 0, .int .u64 0, .int .u64 0, .string ⟨#[]⟩, .string ⟨#[]⟩] 40))
  have HBA : Hid (Box ((v.alloc (.cells #[.int .i64 c.kind, .int .u64 c.ses, .int .u64 c.seq, .slice Ag c.ts.length cg, .int .u64 c.id, .int .u64 c.tok, .bool c.good, .int .u64 c.time] 37)).alloc (.cells #[.int .i64 0, .int .u64 0, .int .u64 0, .int .u64 0, .string ⟨#[]⟩, .string ⟨#[]⟩] 40)) (v.heap.size + 1) 40 #[.int .i64 0, .int .u64 0, .int .u64 0, .int .u64 0, .string ⟨#[]⟩, .string ⟨#[]⟩]) := Lib.hid (by
    have := Box.new (v.alloc (.cells #[.int .i64 c.kind, .int .u64 c.ses, .int .u64 c.seq, .slice Ag c.ts.length cg, .int .u64 c.id, .int .u64 c.tok, .bool c.good, .int .u64 c.time] 37)) 40 #[.int .i64 0, .int .u64 0, .int .u64 0, .int .u64 0, .string ⟨#[]⟩, .string ⟨#[]⟩]
    rw [show (v.alloc (.cells #[.int .i64 c.kind, .int .u64 c.ses, .int .u64 c.seq, .slice Ag c.ts.length cg, .int .u64 c.id, .int .u64 c.tok, .bool c.good, .int .u64 c.time] 37)).heap.size = v.heap.size + 1 from by simp] at this
    exact this)
  have HSZ : Hid (((v.alloc (.cells #[.int .i64 c.kind, .int .u64 c.ses, .int .u64 c.seq, .slice Ag c.ts.length cg, .int .u64 c.id, .int .u64 c.tok, .bool c.good, .int .u64 c.time] 37)).alloc (.cells #[.int .i64 0, .int .u64 0, .int .u64 0, .int .u64 0, .string ⟨#[]⟩, .string ⟨#[]⟩] 40)).heap.size = v.heap.size + 2) := Lib.hid (by simp)
  have HH := Lib.hid h
  have HHC := Lib.hid hc
  have HKA := Lib.hid KA
  unfold Cm.agg
  rw [eg]
  have HEG := Lib.hid eg
  clear h hc KA eg hlt
  go_enter Tryz.func34, Tryz.ntmps34
  go_upto_region 1 with fail
  obtain ⟨v1, hv1⟩ : ∃ v1, (v.alloc (.cells #[.int .i64 c.kind, .int .u64 c.ses, .int .u64 c.seq, .slice Ag c.ts.length cg, .int .u64 c.id, .int .u64 c.tok, .bool c.good, .int .u64 c.time] 37)).alloc (.cells #[.int .i64 0, .int .u64 0, .int .u64 0, .int .u64 0, .string ⟨#[]⟩, .string ⟨#[]⟩] 40) = v1 := ⟨_, rfl⟩
  rw [hv1] at HBC HBA HSZ HKA ⊢
  obtain ⟨pc, hpc⟩ : ∃ pc, v.heap.size = pc := ⟨_, rfl⟩
  obtain ⟨pa, hpa⟩ : ∃ pa, pc + 1 = pa := ⟨_, rfl⟩
  have HPC := Lib.hid hpc
  have HPA := Lib.hid hpa
  rw [hpc] at HBC HBA HSZ ⊢
  rw [hpa] at HBA ⊢
  clear hv1 hpc hpa
  have y1 := HBC.out.cell 1
  have y2 := HBC.out.cell 2
  have z1 := HBC.out.free 1
  have z2 := HBC.out.free 2
  have HB2 := Lib.hid ((HBC.out.put 1 (.int .u64 1099511627776)).put 2 (.int .u64 n))
  have HK2 : Hid (Keep noneOf v ((v1.setCell ⟨pc, 1, none⟩ (.int .u64 1099511627776)).setCell ⟨pc, 2, none⟩ (.int .u64 n))) := Lib.hid (by
    have k1 := ((Keep.refl (fun i => i = pc) v1).setCell (p := ⟨pc, 1, none⟩) (fun _ => rfl) (.int .u64 1099511627776)).setCell (p := ⟨pc, 2, none⟩) (fun _ => rfl) (.int .u64 n)
    exact HKA.out.trans k1 (fun i hi e => by have := HPC.out; omega))
  have HA2 := Lib.hid (HBA.out.keep (((Keep.refl (fun i => i = pc) v1).setCell (p := ⟨pc, 1, none⟩) (fun _ => rfl) (.int .u64 1099511627776)).setCell (p := ⟨pc, 2, none⟩) (fun _ => rfl) (.int .u64 n)) (fun e => by have := HPA.out; omega))
  have HSZ0 : Hid (((v1.setCell ⟨pc, 1, none⟩ (.int .u64 1099511627776)).setCell ⟨pc, 2, none⟩ (.int .u64 n)).heap.size = pc + 2) := Lib.hid (by
    have k1 := ((Keep.refl (fun i => i = pc) v1).setCell (p := ⟨pc, 1, none⟩) (fun _ => rfl) (.int .u64 1099511627776)).setCell (p := ⟨pc, 2, none⟩) (fun _ => rfl) (.int .u64 n)
    rw [← HSZ.out]
    simp)
  go_upto_region 3 with fail
  generalize (v1.setCell ⟨pc, 1, none⟩ (.int .u64 1099511627776)).setCell ⟨pc, 2, none⟩ (.int .u64 n) = v2 at *
  clear HBC HBA HKA y1 y2 z1 z2 HSZ
  have HSZ2 := HSZ0
  have c0 := HB2.out.cell 0
  have c1 := HB2.out.cell 1
  have c2 := HB2.out.cell 2
  have c3 := HB2.out.cell 3
  have c4 := HB2.out.cell 4
  have c5 := HB2.out.cell 5
  have c6 := HB2.out.cell 6
  have c7 := HB2.out.cell 7
  have hcl : (c.told n).lies v2 C := by
    have h1 := HHC.out.keep HK2.out (fun _ _ _ h => h)
    exact ⟨h1.tgs, h1.few, h1.needs, by unfold top; exact ⟨by show (0 : Int) ≤ 1099511627776; decide, by show (1099511627776 : Int) ≤ _; decide⟩, hn, h1.id, h1.tok, h1.time⟩
  have AP : Hid (Calls Tryz.prog 17 #[.pointer (some ⟨p, 0, none⟩), .agg #[.int .i64 c.kind, .int .u64 1099511627776, .int .u64 n, .slice Ag c.ts.length cg, .int .u64 c.id, .int .u64 c.tok, .bool c.good, .int .u64 c.time]] v2 (OwnDid w D q (c.told n).plain v2 p)) := Lib.hid (by
    have := own_apply (HH.out.stay HK2.out) (c.told n) hcl
    unfold Cm.agg Cm.told at this
    dsimp only at this
    rw [HEG.out] at this
    exact this)
  have HFR : Hid (¬ D pa) := Lib.hid (fun hd => by have := HLT.out _ hd; have := HPC.out; have := HPA.out; omega)
  clear hcl HB2
  go_wp2_with fail
  refine AP.out.mono ?_
  rintro e w6 ⟨s2, rfl, ho6, hpl6, kD⟩
  obtain ⟨a, ha⟩ : ∃ a, (applyP q.plain (c.told n).plain).2 = a := ⟨_, rfl⟩
  rw [ha]
  have HA6 := Lib.hid (HA2.out.keep kD HFR.out)
  have HGL : Hid (∀ i, grown v2 w6 D i → i < w6.heap.size) := Lib.hid ho6.mine.at_.lt
  have HAN := Lib.hid ha
  obtain ⟨x0, x1, x2, x3, x4, x5⟩ := a
  unfold An.agg
  dsimp only
  have HA7 := Lib.hid (HA6.out.put6 (.int .i64 x0) (.int .u64 x1) (.int .u64 x2) (.int .u64 x3) (.string x4) (.string x5))
  have k6 := (Keep.refl (fun b => b = pa) w6).put6 (b := pa) (fun _ => rfl) (.int .i64 x0) (.int .u64 x1) (.int .u64 x2) (.int .u64 x3) (.string x4) (.string x5)
  obtain ⟨y0, y1, y2, y3, y4, y5⟩ := HA6.out.six
  obtain ⟨z0, z1, z2, z3, z4, z5⟩ := HA6.out.free6
  have HF : Hid (Told2 w v D p q (c.told n).plain (.returned (An.agg ⟨x0, x1, x2, x3, x4, x5⟩)) (sixPut w6 pa (.int .i64 x0) (.int .u64 x1) (.int .u64 x2) (.int .u64 x3) (.string x4) (.string x5))) := Lib.hid (by
    have hpg : ¬ grown v2 w6 D pa := by
      rintro (hd | ⟨hd, _⟩)
      · exact HFR.out hd
      · have := HSZ2.out; have := HPC.out; have := HPA.out; omega
    refine ⟨s2, grown v2 w6 D, by rw [ha], ho6.off k6 (fun i hi e => hpg (by rw [← e]; exact hi)) (fun i hi e => by have := HH.out.keep.size; have := HPC.out; have := HPA.out; omega), hpl6, fun i hi => hi.imp_right (fun h => Nat.le_trans HK2.out.size h.1), ?_⟩
    exact ((Keep.wide HK2.out).trans kD (fun _ _ h => h)).trans k6 (fun i hi e => by have := HPC.out; have := HPA.out; omega))
  dsimp only [sixPut] at HA7 HF
  clear AP HA2 HA6 kD ho6 hpl6 ha HAN HGL k6 HK2 HH HHC c0 c1 c2 c3 c4 c5 c6 c7
  go_wp2
  obtain ⟨r0, r1, r2, r3, r4, r5⟩ := HA7.out.six
  exact bodyPost_ret (v := An.agg ⟨x0, x1, x2, x3, x4, x5⟩) (by simp [results, Tryz.results34, go_sem, An.agg, r0, r1, r2, r3, r4, r5]) rfl HF.out
end Go.Proofs.YtkoikmdmejhhhaaGreat
namespace Go.Proofs.YtkoikmdmejhhhaaGreat
open Go.RowKit Go.ChangeShapes Go.WideShapes Go.Deep
def Ran2 (w : World) (e : Ending) (w' : World) : Prop := ∃ q D ok, e = .returned (.tuple #[.pointer (some ⟨q.p, 0, none⟩), .bool ok]) ∧ Own w w' D q.p q ∧ (ok = true → Behind q.plain 1099511627776 1 ∧ q.plain.now < 4611686018427387904 ∧ q.plain.nt < 4611686018427387904)
theorem ran2_at {w w' : World} {p : Nat} {q : Qm} {D : Nat → Prop} {ok : Bool} (h : Own w w' D p q) (hb : ok = true → Behind q.plain 1099511627776 1 ∧ q.plain.now < 4611686018427387904 ∧ q.plain.nt < 4611686018427387904) : Ran2 w (.returned (.tuple #[.pointer (some ⟨p, 0, none⟩), .bool ok])) w' :=
  ⟨q, D, ok, by rw [h.at_], by rw [h.at_]; exact h, hb⟩
theorem opened_behind {q : Qp} {c : Cq} (hk : c.kind = 1) (hs : c.ses = 1099511627776) (h0 : (applyP q c).2.code = 0) (hn : ∀ x ∈ (applyP q c).1.ses, ¬ (x.id = 1099511627776 ∧ 0 < x.seq)) : Behind (applyP q c).1 1099511627776 1 := by
  have e1 : applyP q c = ({ q with ses := openL q.ses 1099511627776 }, .err (openE q.ses 1099511627776)) := by
    unfold applyP
    rw [if_neg (by omega), if_pos hk, hs]
  rw [e1] at h0 hn ⊢
  obtain ⟨r, hr⟩ := open_found (S := 1099511627776) (l := q.ses) h0
  refine ⟨r, hr, ?_⟩
  have h1 := hn r (List.mem_of_find?_eq_some hr)
  have h2 : r.id = 1099511627776 := by simpa using List.find?_some hr
  have : ¬ (0 < r.seq) := fun h => h1 ⟨h2, h⟩
  omega
set_option maxRecDepth 100000 in
set_option maxHeartbeats 8000000 in
set_option linter.unusedSimpArgs false in
theorem topran_any (w : World) (A : Option Addr) (cap : Nat) (cs : List Cm) (h : Cms w (fun _ => True) (.slice A cs.length cap) cs) :
    Calls Tryz.prog 33 #[.slice A cs.length cap] w (Ran2 w) := by
  have HC := Lib.hid h
  have hfew := h.1.few
  unfold maxLen at hfew
  have NW := Lib.hid (qnew_any w)
  clear h
  go_enter Tryz.func33, Tryz.ntmps33
  go_wp2_with fail
  refine NW.out.mono ?_
  rintro e w1 ⟨q, D, rfl, hq, hpl, k1, hD⟩
  have HQ1 := Lib.hid (Own.ofNew hq hpl k1 hD)
  have HQP := Lib.hid hpl
  generalize q.p = p at *
  clear NW hq hpl k1 hD
  go_wp2
  go_loopw [16] (fun i wr => ∃ (k : Nat) (s : Qm) (D : Nat → Prop), k ≤ cs.length ∧ i = .int .i64 k ∧ s.plain = ranP Qp.new ((cs.take k).map Cm.plain) ∧ Own w wr D p s) (fun i _ => cs.length - (intOf i).toNat)
  case atStart => exact ⟨0, q, D, Nat.zero_le _, rfl, HQP.out, HQ1.out⟩
  case round =>
    obtain ⟨k, s, D, hk, rfl, hsp, hown⟩ := hrel
    have HOW := Lib.hid hown
    have HSP := Lib.hid hsp
    clear hown HQ1 hsp HQP
    by_cases hlt : k < cs.length
    · have hx : cs[k]? = some cs[k] := List.getElem?_eq_getElem hlt
      have HTK : Hid (cs.take (k + 1) = cs.take k ++ [cs[k]]) := Lib.hid (by rw [List.take_add_one, hx]; rfl)
      have hC := HC.out.keep HOW.out.keep (fun _ _ _ => id)
      obtain ⟨b, o, rfl, hblk, _, hcell⟩ := hC.1.cell (fun _ => rfl) hx
      have hcl := hC.2 _ (List.mem_of_getElem? hx)
      generalize cs[k] = c at *
      obtain ⟨c0, c1, c2, c3, c4, c5, c6, c7⟩ := cm_at b o k _ _ hcell
      obtain ⟨Ag, cg, eg⟩ := hcl.shape
      rw [eg] at c3
      have q0 : (0 : Int) ≤ (k : Int) := by omega
      have q1 : (k : Int) < (cs.length : Int) := by omega
      have KA := (Keep.refl noneOf wr).alloc (.cells #[.int .i64 c.kind, .int .u64 c.ses, .int .u64 c.seq, .slice Ag c.ts.length cg, .int .u64 c.id, .int .u64 c.tok, .bool c.good, .int .u64 c.time] 37)
      have HBC := Lib.hid (Box.new wr 37 #[.int .i64 c.kind, .int .u64 c.ses, .int .u64 c.seq, .slice Ag c.ts.length cg, .int .u64 c.id, .int .u64 c.tok, .bool c.good, .int .u64 c.time])
      have HO1 := Lib.hid (HOW.out.stay KA)
      have HCL := Lib.hid (hcl.keep KA (fun _ _ _ => id))
      have AP := own_apply HO1.out c HCL.out
      unfold Cm.agg at AP
      rw [eg] at AP
      replace AP := Lib.hid AP
      obtain ⟨c0, c1, c2, c3, c4, c5, c6, c7⟩ := And.intro c0 (And.intro c1 (And.intro c2 (And.intro c3 (And.intro c4 (And.intro c5 (And.intro c6 c7))))))
      obtain ⟨f0, f1, f2, f3, f4, f5, f6, f7⟩ := And.intro (HBC.out.cell 0) (And.intro (HBC.out.cell 1) (And.intro (HBC.out.cell 2) (And.intro (HBC.out.cell 3) (And.intro (HBC.out.cell 4) (And.intro (HBC.out.cell 5) (And.intro (HBC.out.cell 6) (HBC.out.cell 7)))))))
      clear hx hC hcell hcl hblk KA HOW eg
      go_wp2_with fail
      refine AP.out.mono ?_
      rintro e w6 ⟨s2, rfl, ho6, hpl6, kD⟩
      obtain ⟨a, ha⟩ : ∃ a, (applyP s.plain c.plain).2 = a := ⟨_, rfl⟩
      rw [ha]
      obtain ⟨code, aid, atok, aunt, atgt, acmd⟩ := a
      unfold An.agg
      dsimp only
      have HO3 := Lib.hid ho6
      have HPL : Hid (s2.plain = ranP Qp.new ((cs.take (k + 1)).map Cm.plain)) := Lib.hid (by rw [HTK.out, List.map_append, List.map_cons, List.map_nil, ran_next, ← HSP.out]; exact hpl6)
      clear AP HO1 HCL ho6 hpl6 ha kD c0 c1 c2 c3 c4 c5 c6 c7 f0 f1 f2 f3 f4 f5 f6 f7
      go_wp2
      go_roundw
      case rel => exact ⟨k + 1, s2, _, by omega, by go_num, HPL.out, HO3.out⟩
      case measure => simp only [intOf]; omega
    · have hke : k = cs.length := by omega
      subst hke
      have hkn : ¬ ((cs.length : Int) < (cs.length : Int)) := by omega
      clear hlt
      have OP := own_apply HOW.out (C := fun _ => False) ⟨1, 1099511627776, 0, .slice none 0 0, [], 0, 0, false, 0⟩ (cm_none 1 1099511627776 0 (by unfold top; decide) (by unfold top; decide))
      unfold Cm.agg at OP
      dsimp only at OP
      replace OP := Lib.hid OP
      go_wp2_with fail
      refine OP.out.mono ?_
      rintro e w6 ⟨s2, rfl, ho6, hpl6, kD⟩
      obtain ⟨a, ha⟩ : ∃ a, (applyP s.plain (Cm.plain ⟨1, 1099511627776, 0, .slice none 0 0, [], 0, 0, false, 0⟩)).2 = a := ⟨_, rfl⟩
      rw [ha]
      obtain ⟨x0, x1, x2, x3, x4, x5⟩ := a
      unfold An.agg
      dsimp only
      have KC := (Keep.refl noneOf w6).alloc (.cells #[.int .i64 x0, .int .u64 x1, .int .u64 x2, .int .u64 x3, .string x4, .string x5] 40)
      have HBA := Lib.hid (Box.new w6 40 #[.int .i64 x0, .int .u64 x1, .int .u64 x2, .int .u64 x3, .string x4, .string x5])
      have HO7 := Lib.hid (ho6.stay KC)
      have HBH : Hid (x0 = 0 → (∀ x ∈ s2.plain.ses, ¬ (x.id = 1099511627776 ∧ 0 < x.seq)) → Behind s2.plain 1099511627776 1) := Lib.hid (fun h0 hn => by
        rw [hpl6] at hn ⊢
        exact opened_behind rfl rfl (by rw [ha]; exact h0) hn)
      have DU := Lib.hid (own_dump HO7.out)
      clear OP HOW ho6 hpl6 kD KC ha HSP
      go_wp2_with fail
      refine DU.out.mono ?_
      rintro e w8 ⟨im, rfl, him, hil, k8⟩
      obtain ⟨A1, a1, A2, a2, A3, a3, e1, e2, e3⟩ := hil.shapes
      have KB := (Keep.refl noneOf w8).alloc (.cells #[.int .u64 im.now, .int .u64 im.ng, .int .u64 im.nt, .slice A1 im.ses.length a1, .slice A2 im.gs.length a2, .slice A3 im.built.length a3] 30)
      have HBI := Lib.hid (Box.new w8 30 #[.int .u64 im.now, .int .u64 im.ng, .int .u64 im.nt, .slice A1 im.ses.length a1, .slice A2 im.gs.length a2, .slice A3 im.built.length a3])
      have HBA2 := Lib.hid ((HBA.out.keep k8 (fun h => h)).keep KB (fun h => h))
      have HO9 := Lib.hid ((HO7.out.stay k8).stay KB)
      have hse := (hil.keep KB (fun _ _ _ h => h)).ses
      rw [e1] at hse
      have HSE := Lib.hid hse
      have hfs := hse.few
      unfold maxLen at hfs
      have HIM := Lib.hid him
      unfold Im.agg
      rw [e1, e2, e3]
      clear DU HO7 HBA k8 KB him hil e1 e2 e3 hse
      go_wp2
      generalize w8.alloc (.cells #[.int .u64 im.now, .int .u64 im.ng, .int .u64 im.nt, .slice A1 im.ses.length a1, .slice A2 im.gs.length a2, .slice A3 im.built.length a3] 30) = w9 at *
      generalize w8.heap.size = pi at *
      generalize w6.heap.size = pa at *
      go_loopw [32] (fun i wr => ∃ (k : Nat), k ≤ im.ses.length ∧ i = .int .i64 k ∧ Keep noneOf w9 wr ∧ ∀ (j : Nat) (x : Ro), j < k → im.ses[j]? = some x → ¬ (x.id = 1099511627776 ∧ 0 < x.seq)) (fun i _ => im.ses.length - (intOf i).toNat)
      case atStart => exact ⟨0, Nat.zero_le _, rfl, Keep.refl _ _, fun j _ hj => absurd hj (Nat.not_lt_zero _)⟩
      case round =>
        obtain ⟨k, hk, rfl, hkeep, hall⟩ := hrel
        have HA := Lib.hid hall
        have HKP := Lib.hid hkeep
        clear hall
        by_cases hlt : k < im.ses.length
        · have hx : im.ses[k]? = some im.ses[k] := List.getElem?_eq_getElem hlt
          have hS := HSE.out.keep hkeep (fun _ _ _ h => h)
          generalize im.ses[k] = x at *
          obtain ⟨tb, o, rfl, hblk, _, hcell⟩ := hS.cell (fun _ => rfl) hx
          obtain ⟨d0, d1, d2, d3, d4, d5, d6, d7⟩ := ro_cells tb o k _ x hcell
          have q0 : (0 : Int) ≤ (k : Int) := by omega
          have q1 : (k : Int) < (im.ses.length : Int) := by omega
          have HX1 := Lib.hid hx
          have HOS := Lib.hid (HO9.out.stay hkeep)
          obtain ⟨rid, rseq, ⟨r3, r4, r5, r6, r7, r8⟩⟩ := x
          dsimp only at d0 d1 d2 d3 d4 d5 d6 d7
          have KX := (Keep.refl noneOf wr).alloc (.cells #[.int .u64 rid, .int .u64 rseq, .int .i64 r3, .int .u64 r4, .int .u64 r5, .int .u64 r6, .string r7, .string r8] 71)
          have HBX := Lib.hid (Box.new wr 71 #[.int .u64 rid, .int .u64 rseq, .int .i64 r3, .int .u64 r4, .int .u64 r5, .int .u64 r6, .string r7, .string r8])
          have HKX := Lib.hid (HKP.out.trans KX (fun _ _ h => h))
          have HOX := Lib.hid (HOS.out.stay KX)
          have b0 := HBX.out.cell 0
          have b1 := HBX.out.cell 1
          clear hS hx hcell hkeep hblk KX HOS
          rcases hni : (rid == 1099511627776) with _ | _
          case true =>
            have hid := beq_iff_eq.1 hni
            subst hid
            by_cases hgt : 0 < rseq
            · have HF := Lib.hid (ran2_at (ok := false) HOX.out (fun h => by cases h))
              go_wp2
              go_ret2
              exact HF.out
            · have HNG := Lib.hid hgt
              go_wp2
              go_roundw
              case rel =>
                refine ⟨k + 1, by omega, by go_num, HKX.out, fun j b hj h1 => ?_⟩
                rcases Nat.lt_or_ge j k with h3 | h3
                · exact HA.out j b h3 h1
                · obtain rfl : j = k := by omega
                  rw [HX1.out] at h1
                  injection h1 with h1
                  rw [← h1]
                  exact fun h => HNG.out h.2
              case measure => simp only [intOf]; omega
          case false =>
            have HNE : Hid (rid ≠ 1099511627776) := Lib.hid (beq_eq_false_iff_ne.1 hni)
            go_wp2
            go_roundw
            case rel =>
              refine ⟨k + 1, by omega, by go_num, HKX.out, fun j b hj h1 => ?_⟩
              rcases Nat.lt_or_ge j k with h3 | h3
              · exact HA.out j b h3 h1
              · obtain rfl : j = k := by omega
                rw [HX1.out] at h1
                injection h1 with h1
                rw [← h1]
                exact fun h => HNE.out h.1
            case measure => simp only [intOf]; omega
        · have hke : k = im.ses.length := by omega
          subst hke
          have hkn : ¬ ((im.ses.length : Int) < (im.ses.length : Int)) := by omega
          have HO10 := Lib.hid (HO9.out.stay HKP.out)
          have HNO : Hid (∀ x ∈ s2.plain.ses, ¬ (x.id = 1099511627776 ∧ 0 < x.seq)) := Lib.hid (fun x hx => by
            rw [← HIM.out] at hx
            obtain ⟨j, hj⟩ := List.getElem?_of_mem hx
            exact HA.out j x (List.getElem?_eq_some_iff.1 hj).1 hj)
          have t0 := (HBA2.out.keep HKP.out (fun h => h)).cell 0
          have i0 := (HBI.out.keep HKP.out (fun h => h)).cell 0
          have i2 := (HBI.out.keep HKP.out (fun h => h)).cell 2
          have HNW : Hid (im.now = s2.plain.now ∧ im.nt = s2.plain.nt) := Lib.hid ⟨congrArg Qp.now HIM.out, congrArg Qp.nt HIM.out⟩
          clear hlt HA hkeep HBI HBA2 HO9
          rcases hni : (x0 == 0) with _ | _
          case false =>
            have HF := Lib.hid (fun n => ran2_at (ok := false) (HO10.out.stay ((Keep.refl noneOf wr).drewN n)) (fun h => by cases h))
            go_wp2
            go_quiet (fail)
            go_wp2
            go_ret2
            exact HF.out _
          case true =>
            have hx0 := beq_iff_eq.1 hni
            subst hx0
            by_cases h1 : im.now < 4611686018427387904
            · have e1 : decide (im.now < 4611686018427387904) = true := decide_eq_true h1
              by_cases h2 : im.nt < 4611686018427387904
              · have e2 : decide (im.nt < 4611686018427387904) = true := decide_eq_true h2
                have HF := Lib.hid (fun n => ran2_at (ok := true) (HO10.out.stay ((Keep.refl noneOf wr).drewN n)) (fun _ => ⟨HBH.out rfl HNO.out, by rw [← HNW.out.1]; exact h1, by rw [← HNW.out.2]; exact h2⟩))
                go_wp2
                go_quiet (fail)
                go_wp2
                go_ret2
                exact HF.out _
              · have e2 : decide (im.nt < 4611686018427387904) = false := decide_eq_false h2
                clear h2
                have HF := Lib.hid (fun n => ran2_at (ok := false) (HO10.out.stay ((Keep.refl noneOf wr).drewN n)) (fun h => by cases h))
                go_wp2
                go_quiet (fail)
                go_wp2
                go_ret2
                exact HF.out _
            · have e1 : decide (im.now < 4611686018427387904) = false := decide_eq_false h1
              clear h1
              have HF := Lib.hid (fun n => ran2_at (ok := false) (HO10.out.stay ((Keep.refl noneOf wr).drewN n)) (fun h => by cases h))
              go_wp2
              go_quiet (fail)
              go_wp2
              go_ret2
              exact HF.out _
end Go.Proofs.YtkoikmdmejhhhaaGreat
namespace Go.Proofs.YtkoikmdmejhhhaaGreat
open Go.RowKit
def foundI (r : Option Nat) : Int := match r with
  | none => -1
  | some i => (i : Int)
def TellsI (n : Int) (w : World) (e : Ending) (w' : World) : Prop := e = .returned (.int .i64 n) ∧ Keep noneOf w w'
theorem tells_i {n m : Int} {w w' : World} (h : m = n) (k : Keep noneOf w w') : TellsI n w (.returned (.int .i64 m)) w' := ⟨by rw [h], k⟩
set_option maxRecDepth 100000 in
set_option maxHeartbeats 8000000 in
set_option linter.unusedSimpArgs false in
theorem rfind_any (w : World) (D : Nat → Prop) (a : Im) (ha : a.lies w D) (id : Int) :
    Calls Tryz.prog 27 #[a.agg, .int .u64 id] w (TellsI (foundI (findG a.plain id)) w) := by
  obtain ⟨A1, c1, e1⟩ := ha.ses.shape
  obtain ⟨A3, c3, e3⟩ := ha.gs.1.shape
  obtain ⟨A5, c5, e5, _⟩ := ha.built.1
  have hf3 := ha.gs.1.few
  have hg1 := ha.gs
  rw [e3] at hg1
  unfold maxLen at hf3
  unfold Im.agg
  rw [e1, e3, e5]
  clear ha e1 e3 e5
  have HKA := Lib.hid ((Keep.refl noneOf w).alloc (.cells #[.int .u64 a.now, .int .u64 a.ng, .int .u64 a.nt, .slice A1 a.ses.length c1, .slice A3 a.gs.length c3, .slice A5 a.built.length c5] 30))
  have HX := Lib.hid (Box.new w 30 #[.int .u64 a.now, .int .u64 a.ng, .int .u64 a.nt, .slice A1 a.ses.length c1, .slice A3 a.gs.length c3, .slice A5 a.built.length c5])
  have HG1 := Lib.hid hg1
  clear hg1
  go_enter Tryz.func27, Tryz.ntmps27
  go_upto_region 1 with fail
  generalize w.alloc (.cells #[.int .u64 a.now, .int .u64 a.ng, .int .u64 a.nt, .slice A1 a.ses.length c1, .slice A3 a.gs.length c3, .slice A5 a.built.length c5] 30) = w1 at *
  generalize hpa : w.heap.size = pa at *
  clear hpa
  go_wp2
  go_loopw [5] (fun i wr => ∃ (k : Nat), k ≤ a.gs.length ∧ i = .int .i64 k ∧ Keep noneOf w1 wr ∧ ∀ (j : Nat) (g : Gm), j < k → a.gs[j]? = some g → g.id ≠ id) (fun i _ => a.gs.length - (intOf i).toNat)
  case atStart => exact ⟨0, Nat.zero_le _, rfl, Keep.refl _ _, fun j _ hj => absurd hj (Nat.not_lt_zero _)⟩
  case round =>
    obtain ⟨k, hk, rfl, hkeep, hall⟩ := hrel
    have HA := Lib.hid hall
    have HKP := Lib.hid hkeep
    have x4 := (HX.out.keep hkeep (fun h => h)).cell 4
    clear hall
    by_cases hlt : k < a.gs.length
    · have hx : a.gs[k]? = some a.gs[k] := List.getElem?_eq_getElem hlt
      have hG := HG1.out.keep (HKA.out.trans hkeep (fun _ _ h => h)) (fun _ _ _ h => h)
      generalize a.gs[k] = g at *
      obtain ⟨tb, o, rfl, hblk, _, hcell⟩ := hG.1.cell (fun _ => rfl) hx
      have d0 : wr.cell? ⟨tb, o + k * 3, none⟩ = some (.int .u64 g.id) := hcell 0 (by decide)
      have q0 : (0 : Int) ≤ (k : Int) := by omega
      have q1 : (k : Int) < (a.gs.length : Int) := by omega
      have HX1 := Lib.hid hx
      clear hG hx hcell hkeep hblk
      rcases hni : (g.id == id) with _ | _
      case true =>
        have HF : Hid (TellsI (foundI (findG a.plain id)) w (.returned (.int .i64 k)) wr) := Lib.hid (tells_i (by
          have h1 := findG_some (q := a.plain) (gm_at HX1.out) (beq_iff_eq.1 hni) (fun j b hj hb e => by
            obtain ⟨gj, hgj, rfl⟩ := gm_of hb
            exact HA.out j gj hj hgj e)
          rw [h1]
          rfl) (HKA.out.trans HKP.out (fun _ _ h => h)))
        go_wp2
        go_ret
        exact HF.out
      case false =>
        have HE : Hid (g.id ≠ id) := Lib.hid (beq_eq_false_iff_ne.1 hni)
        go_wp2
        go_roundw
        case rel =>
          refine ⟨k + 1, by omega, by go_num, HKP.out, fun j b hj h1 => ?_⟩
          rcases Nat.lt_or_ge j k with h3 | h3
          · exact HA.out j b h3 h1
          · obtain rfl : j = k := by omega
            rw [HX1.out] at h1
            injection h1 with h1
            rw [← h1]
            exact HE.out
        case measure => simp only [intOf]; omega
    · have hke : k = a.gs.length := by omega
      subst hke
      have hkn : ¬ ((a.gs.length : Int) < (a.gs.length : Int)) := by omega
      have HF : Hid (TellsI (foundI (findG a.plain id)) w (.returned (.int .i64 (-1))) wr) := Lib.hid (tells_i (by
        have h1 := findG_none (q := a.plain) (id := id) (fun j b hb e => by
          obtain ⟨gj, hgj, rfl⟩ := gm_of hb
          exact HA.out j gj (List.getElem?_eq_some_iff.1 hgj).1 hgj e)
        rw [h1]
        rfl) (HKA.out.trans HKP.out (fun _ _ h => h)))
      clear HA hlt hkeep
      go_wp2
      go_ret
      exact HF.out
end Go.Proofs.YtkoikmdmejhhhaaGreat
namespace Go.Proofs.YtkoikmdmejhhhaaGreat
theorem claim_room {q : Qp} (h : Inv q) (hn : q.now < 4611686018427387904 + 2000) (ht : q.nt < 4611686018427387904 + 2000) :
    (0 ≤ (claimP q).2.tok ∧ (claimP q).2.tok ≤ top) ∧ (0 ≤ (claimP q).2.unt ∧ (claimP q).2.unt ≤ q.now + 8) := by
  have h1 := h.now0
  have h2 := h.nt
  unfold claimP
  split
  · unfold An.err top
    dsimp only
    omega
  · dsimp only
    split
    · unfold An.err top
      dsimp only
      omega
    · dsimp only
      unfold granted
      unfold top at h1 h2 ⊢
      unfold Pst.zero
      split <;> dsimp only <;> omega
def fcm (kind tok : Int) (good : Bool) (time : Int) : Cm := ⟨kind, 0, 0, .slice none 0 0, [], 0, tok, good, time⟩
theorem told_claim {q : Qp} (h : Inv q) (hn : q.now < 4611686018427387904 + 2000) (ht : q.nt < 4611686018427387904 + 2000) {c : Cq} (hk : c.kind = 3) (hb : Behind q c.ses c.seq) (h1 : 1 ≤ c.seq) :
    (0 ≤ (applyP q c).2.tok ∧ (applyP q c).2.tok ≤ top) ∧ (0 ≤ (applyP q c).2.unt ∧ (applyP q c).2.unt ≤ q.now + 8) := by
  have h2 := (told (q := q) (c := c) (by omega) hb h1).1
  rw [h2]
  have h3 : doneP q c = claimP q := by unfold doneP; rw [if_neg (by omega), if_pos hk]
  rw [h3]
  exact claim_room h hn ht
theorem claim_now {q : Qp} : (claimP q).1.now = q.now ∧ (claimP q).1.nt ≤ q.nt + 1 := by
  unfold claimP
  split
  · exact ⟨rfl, by show q.nt ≤ q.nt + 1; omega⟩
  · dsimp only
    split
    · exact ⟨rfl, by show q.nt ≤ q.nt + 1; omega⟩
    · refine ⟨rfl, ?_⟩
      dsimp only
      unfold granted
      split <;> dsimp only <;> omega
theorem fence_all {q0 : Qp} (h0 : Inv q0) (hb : Behind q0 1099511627776 1) (hn : q0.now < 4611686018427387904) (ht : q0.nt < 4611686018427387904) {d : Int} (hd : 0 ≤ d ∧ d ≤ 1000) {good : Bool}
    {a x b r1 r2 r3 r4 : Qp × An} (ea : applyP q0 ((fcm 3 0 false 0).told 1).plain = a) (ex : applyP a.1 (fcm 7 0 false (a.2.unt + d)).plain = x) (eb : applyP x.1 ((fcm 3 0 false 0).told 2).plain = b)
    (e1 : applyP b.1 ((fcm 5 a.2.tok good 0).told 3).plain = r1) (e2 : applyP r1.1 ((fcm 4 a.2.tok false 0).told 4).plain = r2) (e3 : applyP r2.1 ((fcm 5 b.2.tok good 0).told 5).plain = r3) (e4 : applyP r3.1 ((fcm 5 b.2.tok (!good) 0).told 6).plain = r4) :
    ((0 ≤ a.2.tok ∧ a.2.tok ≤ top) ∧ (0 ≤ a.2.unt ∧ a.2.unt ≤ q0.now + 8)) ∧
    (a.2.code = 122 ∨ (a.2.code = 0 ∧ b.2.code = 0 ∧ a.2.tok < b.2.tok ∧ r1.2.code = 100 ∧ r2.2.code = 100 ∧ { b.1 with ses := r2.1.ses } = r2.1 ∧ r3.2.code = 0 ∧ r3.2.tgt = b.2.tgt ∧ r3.2.id = b.2.id ∧ r4.2.code = 100)) := by
  refine ⟨?_, fence_told h0 hb (by unfold late; omega) (by unfold top; omega) hd ⟨rfl, rfl, rfl⟩ rfl ⟨rfl, rfl, rfl⟩ ⟨rfl, rfl, rfl⟩ ⟨rfl, rfl, rfl⟩ ⟨rfl, rfl, rfl⟩ ⟨rfl, rfl, rfl⟩ ea ex eb e1 e2 e3 e4 rfl rfl rfl rfl rfl⟩
  have := told_claim h0 (by omega) (by omega) (c := ((fcm 3 0 false 0).told 1).plain) rfl hb (by decide)
  rw [ea] at this
  exact this
theorem fence_room {q0 : Qp} (h0 : Inv q0) (hb : Behind q0 1099511627776 1) (hn : q0.now < 4611686018427387904) (ht : q0.nt < 4611686018427387904) {d : Int} (hd : 0 ≤ d ∧ d ≤ 1000)
    {a x b : Qp × An} (ea : applyP q0 ((fcm 3 0 false 0).told 1).plain = a) (ex : applyP a.1 (fcm 7 0 false (a.2.unt + d)).plain = x) (eb : applyP x.1 ((fcm 3 0 false 0).told 2).plain = b) :
    0 ≤ b.2.tok ∧ b.2.tok ≤ top := by
  have t1 := told_claim h0 (by omega) (by omega) (c := ((fcm 3 0 false 0).told 1).plain) rfl hb (by decide)
  obtain ⟨t2, t3⟩ := told (q := q0) (c := ((fcm 3 0 false 0).told 1).plain) (by decide) hb (by decide)
  have hdo : doneP q0 ((fcm 3 0 false 0).told 1).plain = claimP q0 := by
    have hk : ((fcm 3 0 false 0).told 1).plain.kind = 3 := rfl
    unfold doneP
    rw [if_neg (by rw [hk]; decide), if_pos hk]
  rw [ea] at t1 t3
  have hN : a.1.now = q0.now ∧ a.1.nt ≤ q0.nt + 1 := by
    rw [← ea, t2, hdo]
    exact claim_now
  have i1 : Inv a.1 := by rw [← ea]; exact inv_apply h0 ⟨by unfold top; decide, by unfold top; decide, by unfold top; decide⟩
  have i2 : Inv x.1 := by
    rw [← ex]
    refine inv_apply i1 ⟨by show (0 : Int) ≤ 0 ∧ (0 : Int) ≤ top; unfold top; decide, by show (0 : Int) ≤ 0 ∧ (0 : Int) ≤ top; unfold top; decide, ?_⟩
    show 0 ≤ a.2.unt + d ∧ a.2.unt + d ≤ top
    unfold top
    omega
  have hx : x.1.ses = a.1.ses ∧ x.1.nt = a.1.nt ∧ (x.1.now = a.1.now ∨ x.1.now = a.2.unt + d) := by
    have hk : (fcm 7 0 false (a.2.unt + d)).plain.kind = 7 := rfl
    rw [← ex]
    unfold applyP
    rw [if_pos hk]
    split
    · exact ⟨rfl, rfl, .inl rfl⟩
    · exact ⟨rfl, rfl, .inr rfl⟩
  have hb2 : Behind x.1 1099511627776 2 := by
    obtain ⟨r, hr, hl⟩ := t3
    exact ⟨r, by rw [hx.1]; exact hr, hl⟩
  have := told_claim i2 (by omega) (by omega) (c := ((fcm 3 0 false 0).told 2).plain) rfl hb2 (by decide)
  rw [eb] at this
  exact this.1
end Go.Proofs.YtkoikmdmejhhhaaGreat
namespace Go.Proofs.YtkoikmdmejhhhaaGreat
open Go.RowKit Go.ChangeShapes Go.WideShapes Go.Deep
theorem zero_is : (0 : Int) ≤ 0 ∧ (0 : Int) ≤ top := by unfold top; decide
theorem fcm_lies {w : World} (kind tok : Int) (good : Bool) (time : Int) (ht : 0 ≤ tok ∧ tok ≤ top) (hm : 0 ≤ time ∧ time ≤ top) : (fcm kind tok good time).lies w (fun _ => False) := by
  have h := cm_none (w := w) (D := fun _ => False) kind 0 0 (by unfold top; decide) (by unfold top; decide)
  exact ⟨h.tgs, h.few, h.needs, zero_is, zero_is, zero_is, ht, hm⟩
set_option maxRecDepth 100000 in
set_option maxHeartbeats 8000000 in
set_option linter.unusedSimpArgs false in
theorem fence_walk (w : World) (A : Option Addr) (cap : Nat) (cs : List Cm) (lt : Int) (good : Bool) (h : Cms w (fun _ => True) (.slice A cs.length cap) cs) (hlt : 0 ≤ lt ∧ lt ≤ top) :
    Calls Tryz.prog 12 #[.slice A cs.length cap, .int .u64 lt, .bool good] w (TellsB true w) := by
  have RN := Lib.hid (topran_any w A cap cs h)
  clear h
  go_enter Tryz.func12, Tryz.ntmps12
  go_wp2_with fail
  refine RN.out.mono ?_
  rintro e w1 ⟨q, D, ok, rfl, hq, hok⟩
  have HQ1 := Lib.hid hq
  generalize q.p = p at *
  clear RN hq
  cases ok with
  | false =>
    have HF := Lib.hid HQ1.out.keep
    clear hok
    go_wp2
    go_ret
    exact ⟨rfl, HF.out⟩
  | true =>
  obtain ⟨hb, hn, ht⟩ := hok rfl
  clear hok
  obtain ⟨d, hd⟩ : ∃ d, lt % 1000 = d := ⟨_, rfl⟩
  have hd2 : 0 ≤ d ∧ d ≤ 1000 := by omega
  obtain ⟨a, ea⟩ : ∃ a, applyP q.plain ((fcm 3 0 false 0).told 1).plain = a := ⟨_, rfl⟩
  obtain ⟨x, ex⟩ : ∃ x, applyP a.1 (fcm 7 0 false (a.2.unt + d)).plain = x := ⟨_, rfl⟩
  obtain ⟨b, eb⟩ : ∃ b, applyP x.1 ((fcm 3 0 false 0).told 2).plain = b := ⟨_, rfl⟩
  obtain ⟨r1, e1⟩ : ∃ r1, applyP b.1 ((fcm 5 a.2.tok good 0).told 3).plain = r1 := ⟨_, rfl⟩
  obtain ⟨r2, e2⟩ : ∃ r2, applyP r1.1 ((fcm 4 a.2.tok false 0).told 4).plain = r2 := ⟨_, rfl⟩
  obtain ⟨r3, e3⟩ : ∃ r3, applyP r2.1 ((fcm 5 b.2.tok good 0).told 5).plain = r3 := ⟨_, rfl⟩
  obtain ⟨r4, e4⟩ : ∃ r4, applyP r3.1 ((fcm 5 b.2.tok (!good) 0).told 6).plain = r4 := ⟨_, rfl⟩
  have FA := Lib.hid (fence_all HQ1.out.inv hb hn ht hd2 ea ex eb e1 e2 e3 e4)
  have FR := Lib.hid (fence_room HQ1.out.inv hb hn ht hd2 ea ex eb)
  have HNOW := Lib.hid hn
  have TD := Lib.hid (told_any w w1 D (fun _ => False) p q HQ1.out (fcm 3 0 false 0) (fcm_lies 3 0 false 0 zero_is zero_is) 1 (by unfold top; decide))
  have KQ := Lib.hid HQ1.out.mine.at_.lt
  obtain ⟨Qa, ac, ai, at1, au, ag, am⟩ := a
  obtain ⟨Qx, xan⟩ := x
  obtain ⟨Qb, bc, bi, bt, bu, bg, bm⟩ := b
  obtain ⟨Q1, r1c, r1i, r1t, r1u, r1g, r1m⟩ := r1
  obtain ⟨Q2, r2c, r2i, r2t, r2u, r2g, r2m⟩ := r2
  obtain ⟨Q3, r3c, r3i, r3t, r3u, r3g, r3m⟩ := r3
  obtain ⟨Q4, r4c, r4i, r4t, r4u, r4g, r4m⟩ := r4
  dsimp only at ex eb e1 e2 e3 e4 FA FR
  have EX := Lib.hid ex
  have EB := Lib.hid eb
  have E1 := Lib.hid e1
  have E2 := Lib.hid e2
  have E3 := Lib.hid e3
  have E4 := Lib.hid e4
  have EA := Lib.hid ea
  have HD := Lib.hid hd
  have HD2 := Lib.hid hd2
  clear HQ1 hb hn ht hd2 ex eb e1 e2 e3 e4 ea hd
  unfold fcm Cm.agg at TD
  dsimp only at TD
  go_wp2_with fail
  refine TD.out.mono ?_
  rintro e w2 ⟨s1, D1, rfl, ho1, hp1, hs1, k1⟩
  have hEA := EA.out
  unfold fcm at hEA
  rw [hEA] at hp1 ⊢
  unfold An.agg
  dsimp only at hp1 ⊢
  have HBA := Lib.hid (Box.new w2 40 #[.int .i64 ac, .int .u64 ai, .int .u64 at1, .int .u64 au, .string ag, .string am])
  have K2 := (Keep.refl noneOf w2).alloc (.cells #[.int .i64 ac, .int .u64 ai, .int .u64 at1, .int .u64 au, .string ag, .string am] 40)
  have HO2 := Lib.hid (ho1.stay K2)
  have HP1 := Lib.hid hp1
  have HLA : Hid (¬ D1 w2.heap.size) := Lib.hid (fun hd => by have := ho1.mine.at_.lt _ hd; omega)
  clear TD hEA ho1 hp1 hs1 k1 K2 KQ
  rcases FA.out.2 with hc | hc
  · subst hc
    have HF := Lib.hid HO2.out.keep
    have z0 := HBA.out.cell 0
    clear FA FR
    go_wp2
    go_ret
    exact ⟨rfl, HF.out⟩
  · obtain ⟨hac, hbc, hab, h1c, h2c, hses, h3c, h3g, h3i, h4c⟩ := hc
    subst hac hbc h1c h2c h3c h3g h3i h4c
    have HAB := Lib.hid hab
    have HSES := Lib.hid hses
    have z0 := HBA.out.cell 0
    have z3 := HBA.out.cell 3
    clear hab hses
    go_upto_region 9 with fail
    have HZA := Lib.hid (show w2.heap.size < (w2.alloc (.cells #[.int .i64 0, .int .u64 ai, .int .u64 at1, .int .u64 au, .string ag, .string am] 40)).heap.size from by simp)
    generalize w2.alloc (.cells #[.int .i64 0, .int .u64 ai, .int .u64 at1, .int .u64 au, .string ag, .string am] 40) = v2 at *
    generalize w2.heap.size = xa at *
    have HWR : Hid (IntKind.u64.wrap (au + lt % 1000) = au + d) := Lib.hid (by
      have h1 := FA.out.1.2
      have h2 := HNOW.out
      have h3 := HD.out
      have h4 := HD2.out
      show (au + lt % 1000) % 18446744073709551616 = au + d
      omega)
    have TD := Lib.hid (own_apply HO2.out (C := fun _ => False) (fcm 7 0 false (au + d)) (fcm_lies 7 0 false (au + d) zero_is (by have h1 := FA.out.1.2; have h2 := HNOW.out; have h4 := HD2.out; unfold top; omega)))
    unfold fcm Cm.agg at TD
    dsimp only at TD
    rw [← HWR.out] at TD
    go_wp2_with fail
    refine TD.out.mono ?_
    rintro e w3 ⟨s2, rfl, ho2, hp2, kD⟩
    have hE := EX.out
    unfold fcm at hE
    rw [← HP1.out, ← HWR.out] at hE
    rw [hE] at hp2 ⊢
    obtain ⟨x0, x1, x2, x3, x4, x5⟩ := xan
    unfold An.agg
    dsimp only at hp2 ⊢
    have HFA := Lib.hid (show ¬ grown v2 w3 D1 xa from fun hd => hd.elim HLA.out (fun h => by have := HZA.out; omega))
    have HBA2 := Lib.hid (HBA.out.keep kD HLA.out)
    have HO3 := Lib.hid ho2
    have HP2 := Lib.hid hp2
    clear TD hE ho2 hp2 kD HBA HLA HO2 HP1 z0 z3
    have TD := Lib.hid (told_any w w3 _ (fun _ => False) p s2 HO3.out (fcm 3 0 false 0) (fcm_lies 3 0 false 0 zero_is zero_is) 2 (by unfold top; decide))
    unfold fcm Cm.agg at TD
    dsimp only at TD
    go_wp2_with fail
    refine TD.out.mono ?_
    rintro e w4 ⟨s3, D3, rfl, ho3, hp3, hs3, kD⟩
    have hE := EB.out
    unfold fcm at hE
    rw [← HP2.out] at hE
    rw [hE] at hp3 ⊢
    unfold An.agg
    dsimp only at hp3 ⊢
    have HFB := Lib.hid (show ¬ D3 w4.heap.size from fun hd => by have := ho3.mine.at_.lt _ hd; omega)
    have HFA3 := Lib.hid (show ¬ D3 xa from fun hd => (hs3 _ hd).elim HFA.out (fun h => by have := HBA2.out.lt; omega))
    have KC := (Keep.refl noneOf w4).alloc (.cells #[.int .i64 0, .int .u64 r3i, .int .u64 bt, .int .u64 bu, .string r3g, .string bm] 40)
    have HBB := Lib.hid (Box.new w4 40 #[.int .i64 0, .int .u64 r3i, .int .u64 bt, .int .u64 bu, .string r3g, .string bm])
    have HBA3 := Lib.hid ((HBA2.out.keep kD HFA.out).keep KC (fun h => h))
    have HO4 := Lib.hid (ho3.stay KC)
    have HP3 := Lib.hid hp3
    have a2 := HBA3.out.cell 2
    have b0 := HBB.out.cell 0
    have b2 := HBB.out.cell 2
    have hle : ¬ (bt ≤ at1) := by have := HAB.out; omega
    clear TD hE ho3 hp3 hs3 kD KC HBA2 HFA HO3 HP2 EX EB
    have DU := Lib.hid (own_dump HO4.out)
    go_wp2_with fail
    refine DU.out.mono ?_
    rintro e w5 ⟨im, rfl, him, hil, k5⟩
    obtain ⟨A1, a1, A2, a2', A3, a3, e1, e2, e3⟩ := hil.shapes
    have KB := (Keep.refl noneOf w5).alloc (.cells #[.int .u64 im.now, .int .u64 im.ng, .int .u64 im.nt, .slice A1 im.ses.length a1, .slice A2 im.gs.length a2', .slice A3 im.built.length a3] 30)
    have HBI := Lib.hid (Box.new w5 30 #[.int .u64 im.now, .int .u64 im.ng, .int .u64 im.nt, .slice A1 im.ses.length a1, .slice A2 im.gs.length a2', .slice A3 im.built.length a3])
    have HBA4 := Lib.hid ((HBA3.out.keep k5 (fun h => h)).keep KB (fun h => h))
    have HBB4 := Lib.hid ((HBB.out.keep k5 (fun h => h)).keep KB (fun h => h))
    have HO5 := Lib.hid ((HO4.out.stay k5).stay KB)
    have HIM0 : Hid (∃ M : Nat → Prop, im.lies (w5.alloc (.cells #[.int .u64 im.now, .int .u64 im.ng, .int .u64 im.nt, .slice A1 im.ses.length a1, .slice A2 im.gs.length a2', .slice A3 im.built.length a3] 30)) M ∧ (∀ i, D3 i → ¬ M i) ∧ (∀ i, M i → i < (w5.alloc (.cells #[.int .u64 im.now, .int .u64 im.ng, .int .u64 im.nt, .slice A1 im.ses.length a1, .slice A2 im.gs.length a2', .slice A3 im.built.length a3] 30)).heap.size) ∧ (∀ i, M i → i < w5.heap.size)) := Lib.hid ⟨fun i => i < w5.heap.size ∧ (w4.alloc (.cells #[.int .i64 0, .int .u64 r3i, .int .u64 bt, .int .u64 bu, .string r3g, .string bm] 40)).heap.size ≤ i, (hil.mono (fun i hi h => ⟨hi, h⟩)).keep KB (fun _ _ _ h => h), fun i hd hm => by have := HO4.out.mine.at_.lt _ hd; omega, fun i hm => by have := hm.1; simp; omega, fun i hm => hm.1⟩
    have HNB := Lib.hid (show ¬ w4.heap.size = w5.heap.size from fun e => by have := k5.size; simp at this; omega)
    have HWX := Lib.hid (show w.heap.size ≤ w5.heap.size from Nat.le_trans HO4.out.keep.size k5.size)
    have HFI := Lib.hid (show ¬ D3 w5.heap.size from fun hd => by have := HO4.out.mine.at_.lt _ hd; have := k5.size; omega)
    have HIM := Lib.hid him
    have HE := Lib.hid (And.intro e1 (And.intro e2 e3))
    unfold Im.agg
    rw [e1, e2, e3]
    clear DU HO4 HBA3 HBB k5 KB him hil e1 e2 e3 a2 b0 b2 hle
    have a2 := HBA4.out.cell 2
    go_upto_region 14 with fail
    generalize hw5 : w5.alloc (.cells #[.int .u64 im.now, .int .u64 im.ng, .int .u64 im.nt, .slice A1 im.ses.length a1, .slice A2 im.gs.length a2', .slice A3 im.built.length a3] 30) = v5 at *
    generalize hxi : w5.heap.size = xi at *
    generalize hxb : w4.heap.size = xb at *
    clear hw5 hxi hxb
    obtain ⟨M, hil0, hmd0, hms0, hmi0⟩ := HIM0.out
    have HMI := Lib.hid hmi0
    have HPB := HP3
    have HIL := Lib.hid hil0
    have HMD := Lib.hid hmd0
    have HMS := Lib.hid hms0
    clear HIM0 hil0 hmd0 hms0 hmi0
    go_upto_region 14 with fail
    have TD := Lib.hid (told_any w v5 D3 (fun _ => False) p s3 HO5.out (fcm 5 at1 good 0) (fcm_lies 5 at1 good 0 FA.out.1.1 zero_is) 3 (by unfold top; decide))
    unfold fcm Cm.agg at TD
    dsimp only at TD
    have q_xa_2 := HBA4.out.cell 2
    go_wp2_with fail
    refine TD.out.mono ?_
    rintro e w6 ⟨ss6, DD6, rfl, ho, hp, hs, kD⟩
    have hE := E1.out
    unfold fcm at hE
    rw [← HP3.out] at hE
    rw [hE] at hp ⊢
    unfold An.agg
    dsimp only at hp ⊢
    have KC := (Keep.refl noneOf w6).alloc (.cells #[.int .i64 100, .int .u64 r1i, .int .u64 r1t, .int .u64 r1u, .string r1g, .string r1m] 40)
    have Fxa6 := Lib.hid (show ¬ DD6 xa from fun hd => (hs _ hd).elim HFA3.out (fun h => by have := HBA4.out.lt; omega))
    have Bxa6 := Lib.hid ((HBA4.out.keep kD HFA3.out).keep KC (fun h => h))
    have Fxb6 := Lib.hid (show ¬ DD6 xb from fun hd => (hs _ hd).elim HFB.out (fun h => by have := HBB4.out.lt; omega))
    have Bxb6 := Lib.hid ((HBB4.out.keep kD HFB.out).keep KC (fun h => h))
    have Fxi6 := Lib.hid (show ¬ DD6 xi from fun hd => (hs _ hd).elim HFI.out (fun h => by have := HBI.out.lt; omega))
    have Bxi6 := Lib.hid ((HBI.out.keep kD HFI.out).keep KC (fun h => h))
    have Nx1 := Lib.hid (show ¬ w6.heap.size = xi from fun e => by have h1 := HBI.out.lt; have h2 := kD.size; omega)
    have LM6 := Lib.hid ((HIL.out.keep kD (fun i _ hm hd => HMD.out i hd hm)).keep KC (fun _ _ _ h => h))
    have XM6 := Lib.hid (show ∀ i, DD6 i → ¬ M i from fun i hd hm => (hs _ hd).elim (fun h => HMD.out i h hm) (fun h => by have := HMS.out i hm; omega))
    have YM6 := Lib.hid (show ∀ i, M i → i < (w6.alloc (.cells #[.int .i64 100, .int .u64 r1i, .int .u64 r1t, .int .u64 r1u, .string r1g, .string r1m] 40)).heap.size from fun i hm => by have h1 := HMS.out i hm; have h2 := kD.size; simp; omega)
    have Fx16 := Lib.hid (show ¬ DD6 w6.heap.size from fun hd => by have := ho.mine.at_.lt _ hd; omega)
    have Bx16 := Lib.hid (Box.new w6 40 #[.int .i64 100, .int .u64 r1i, .int .u64 r1t, .int .u64 r1u, .string r1g, .string r1m])
    have HO6 := Lib.hid (ho.stay KC)
    have HP6 := Lib.hid hp
    clear TD hE ho hp hs kD KC HO5 HP3 E1 HBA4 HFA3 HBB4 HFB HBI HFI HIL HMD HMS q_xa_2
    go_upto_region 15 with fail
    generalize hw : w6.alloc (.cells #[.int .i64 100, .int .u64 r1i, .int .u64 r1t, .int .u64 r1u, .string r1g, .string r1m] 40) = vv6 at *
    generalize hx : w6.heap.size = x1 at *
    clear hw hx
    go_upto_region 15 with fail
    have TD := Lib.hid (told_any w vv6 DD6 (fun _ => False) p ss6 HO6.out (fcm 4 at1 false 0) (fcm_lies 4 at1 false 0 FA.out.1.1 zero_is) 4 (by unfold top; decide))
    unfold fcm Cm.agg at TD
    dsimp only at TD
    have q_xa_2 := Bxa6.out.cell 2
    go_wp2_with fail
    refine TD.out.mono ?_
    rintro e w7 ⟨ss7, DD7, rfl, ho, hp, hs, kD⟩
    have hE := E2.out
    unfold fcm at hE
    rw [← HP6.out] at hE
    rw [hE] at hp ⊢
    unfold An.agg
    dsimp only at hp ⊢
    have KC := (Keep.refl noneOf w7).alloc (.cells #[.int .i64 100, .int .u64 r2i, .int .u64 r2t, .int .u64 r2u, .string r2g, .string r2m] 40)
    have Fxb7 := Lib.hid (show ¬ DD7 xb from fun hd => (hs _ hd).elim Fxb6.out (fun h => by have := Bxb6.out.lt; omega))
    have Bxb7 := Lib.hid ((Bxb6.out.keep kD Fxb6.out).keep KC (fun h => h))
    have Fxi7 := Lib.hid (show ¬ DD7 xi from fun hd => (hs _ hd).elim Fxi6.out (fun h => by have := Bxi6.out.lt; omega))
    have Bxi7 := Lib.hid ((Bxi6.out.keep kD Fxi6.out).keep KC (fun h => h))
    have Fx17 := Lib.hid (show ¬ DD7 x1 from fun hd => (hs _ hd).elim Fx16.out (fun h => by have := Bx16.out.lt; omega))
    have Bx17 := Lib.hid ((Bx16.out.keep kD Fx16.out).keep KC (fun h => h))
    have Nx2 := Lib.hid (show ¬ w7.heap.size = xi from fun e => by have h1 := Bxi6.out.lt; have h2 := kD.size; omega)
    have LM7 := Lib.hid ((LM6.out.keep kD (fun i _ hm hd => XM6.out i hd hm)).keep KC (fun _ _ _ h => h))
    have XM7 := Lib.hid (show ∀ i, DD7 i → ¬ M i from fun i hd hm => (hs _ hd).elim (fun h => XM6.out i h hm) (fun h => by have := YM6.out i hm; omega))
    have YM7 := Lib.hid (show ∀ i, M i → i < (w7.alloc (.cells #[.int .i64 100, .int .u64 r2i, .int .u64 r2t, .int .u64 r2u, .string r2g, .string r2m] 40)).heap.size from fun i hm => by have h1 := YM6.out i hm; have h2 := kD.size; simp; omega)
    have Fx27 := Lib.hid (show ¬ DD7 w7.heap.size from fun hd => by have := ho.mine.at_.lt _ hd; omega)
    have Bx27 := Lib.hid (Box.new w7 40 #[.int .i64 100, .int .u64 r2i, .int .u64 r2t, .int .u64 r2u, .string r2g, .string r2m])
    have HO7 := Lib.hid (ho.stay KC)
    have HP7 := Lib.hid hp
    clear TD hE ho hp hs kD KC HO6 HP6 E2 Bxa6 Fxa6 Bxb6 Fxb6 Bxi6 Fxi6 Bx16 Fx16 LM6 XM6 YM6 q_xa_2
    go_upto_region 16 with fail
    generalize hw : w7.alloc (.cells #[.int .i64 100, .int .u64 r2i, .int .u64 r2t, .int .u64 r2u, .string r2g, .string r2m] 40) = vv7 at *
    generalize hx : w7.heap.size = x2 at *
    clear hw hx
    have DU := Lib.hid (own_dump HO7.out)
    go_wp2_with fail
    refine DU.out.mono ?_
    rintro e w8 ⟨in2, rfl, him, hil, k5⟩
    obtain ⟨C1, c1, C2, c2, C3, c3, e1, e2, e3⟩ := hil.shapes
    have KB := (Keep.refl noneOf w8).alloc (.cells #[.int .u64 in2.now, .int .u64 in2.ng, .int .u64 in2.nt, .slice C1 in2.ses.length c1, .slice C2 in2.gs.length c2, .slice C3 in2.built.length c3] 30)
    have Bxn8 := Lib.hid (Box.new w8 30 #[.int .u64 in2.now, .int .u64 in2.ng, .int .u64 in2.nt, .slice C1 in2.ses.length c1, .slice C2 in2.gs.length c2, .slice C3 in2.built.length c3])
    have Bxb8 := Lib.hid ((Bxb7.out.keep k5 (fun h => h)).keep KB (fun h => h))
    have Bxi8 := Lib.hid ((Bxi7.out.keep k5 (fun h => h)).keep KB (fun h => h))
    have Bx18 := Lib.hid ((Bx17.out.keep k5 (fun h => h)).keep KB (fun h => h))
    have Bx28 := Lib.hid ((Bx27.out.keep k5 (fun h => h)).keep KB (fun h => h))
    have HO8 := Lib.hid ((HO7.out.stay k5).stay KB)
    have HI1 := Lib.hid (((LM7.out.keep k5 (fun _ _ _ h => h)).keep KB (fun _ _ _ h => h)).mono (D' := fun i => i ≠ xi) (fun i _ hm e => by have := HMI.out i hm; omega))
    have HI2 := Lib.hid ((hil.mono (D' := fun i => i ≠ xi) (fun i _ h e => by have := Bxi7.out.lt; omega)).keep KB (fun _ _ _ h => h))
    have HPI := Lib.hid (show { im.plain with ses := in2.plain.ses } = in2.plain from by rw [HIM.out, him, HPB.out, HP7.out]; exact HSES.out)
    have HE2 := Lib.hid (And.intro e1 (And.intro e2 e3))
    have FNX := Lib.hid (show ¬ w8.heap.size = xi from fun e => by have := Bxi7.out.lt; have := k5.size; omega)
    unfold Im.agg
    rw [e1, e2, e3]
    clear DU k5 KB him hil e1 e2 e3 Bxb7 Bxi7 Bx17 Bx27 HO7 LM7 XM7 YM7 HIM HSES HPB HMI
    go_upto_region 17 with fail
    generalize hw : w8.alloc (.cells #[.int .u64 in2.now, .int .u64 in2.ng, .int .u64 in2.nt, .slice C1 in2.ses.length c1, .slice C2 in2.gs.length c2, .slice C3 in2.built.length c3] 30) = v8 at *
    generalize hx : w8.heap.size = xn at *
    clear hw hx
    have y3 := Bxi8.out.cell 3
    have z3 := Bxi8.out.free 3
    have n3 := Bxn8.out.cell 3
    have KS := (Keep.refl (fun i => i = xi) v8).setCell (p := ⟨xi, 3, none⟩) (fun _ => rfl) (.slice C1 in2.ses.length c1)
    have SXI := Lib.hid (Bxi8.out.put 3 (.slice C1 in2.ses.length c1))
    have SXN := Lib.hid (Bxn8.out.keep KS FNX.out)
    have SXB := Lib.hid (Bxb8.out.keep KS HNB.out)
    have SX1 := Lib.hid (Bx18.out.keep KS Nx1.out)
    have SX2 := Lib.hid (Bx28.out.keep KS Nx2.out)
    have SO := Lib.hid (HO8.out.off KS (fun i hd e => Fxi7.out (e ▸ hd)) (fun i hi e => by have := HWX.out; omega))
    have SI1 := Lib.hid (HI1.out.keep KS (fun _ _ h => h))
    have SI2 := Lib.hid (HI2.out.keep KS (fun _ _ h => h))
    clear Bxn8 HO8 HI1 HI2 KS FNX HNB HWX Nx1 Nx2 Bxb8 Bxi8 Bx18 Bx28
    go_upto_region 18 with fail
    generalize hw : v8.setCell ⟨xi, 3, none⟩ (.slice C1 in2.ses.length c1) = vs at *
    clear hw y3 z3 n3
    have SM : Hid (Calls Tryz.prog 22 #[.agg #[.int .u64 im.now, .int .u64 im.ng, .int .u64 im.nt, .slice C1 in2.ses.length c1, .slice A2 im.gs.length a2', .slice A3 im.built.length a3], .agg #[.int .u64 in2.now, .int .u64 in2.ng, .int .u64 in2.nt, .slice C1 in2.ses.length c1, .slice C2 in2.gs.length c2, .slice C3 in2.built.length c3]] vs (SameTold { im with sv := in2.sv, ses := in2.ses } in2 vs)) := Lib.hid (by
      have := qsame_any vs _ _ { im with sv := in2.sv, ses := in2.ses } in2 ⟨SI2.out.ses, SI1.out.gs, SI1.out.built⟩ SI2.out
      unfold Im.agg at this
      dsimp only at this
      rw [HE.out.2.1, HE.out.2.2, HE2.out.1, HE2.out.2.1, HE2.out.2.2] at this
      exact this)
    have i0 := SXI.out.cell 0
    have i1 := SXI.out.cell 1
    have i2 := SXI.out.cell 2
    have i3 := SXI.out.cell 3
    have i4 := SXI.out.cell 4
    have i5 := SXI.out.cell 5
    have n0 := SXN.out.cell 0
    have n1 := SXN.out.cell 1
    have n2 := SXN.out.cell 2
    have n3 := SXN.out.cell 3
    have n4 := SXN.out.cell 4
    have n5 := SXN.out.cell 5
    have p0 := SX1.out.cell 0
    have q0 := SX2.out.cell 0
    go_wp2_with fail
    refine SM.out.mono ?_
    rintro e w9 ⟨r, rfl, hr, k9⟩
    obtain rfl : r = true := hr.2 HPI.out
    have TXB := Lib.hid (SXB.out.keep k9 (fun h => h))
    have TO := Lib.hid (SO.out.stay k9)
    clear SM hr k9 SXI SXN SXB SX1 SX2 SO SI1 SI2 HE HE2 HPI i0 i1 i2 i3 i4 i5 n0 n1 n2 n3 n4 n5 p0 q0
    go_upto_region 20 with fail
    have TD := Lib.hid (told_any w w9 DD7 (fun _ => False) p ss7 TO.out (fcm 5 bt good 0) (fcm_lies 5 bt good 0 FR.out zero_is) 5 (by unfold top; decide))
    unfold fcm Cm.agg at TD
    dsimp only at TD
    have q_xb_2 := TXB.out.cell 2
    go_wp2_with fail
    refine TD.out.mono ?_
    rintro e w10 ⟨ss10, DD10, rfl, ho, hp, hs, kD⟩
    have hE := E3.out
    unfold fcm at hE
    rw [← HP7.out] at hE
    rw [hE] at hp ⊢
    unfold An.agg
    dsimp only at hp ⊢
    have KC := (Keep.refl noneOf w10).alloc (.cells #[.int .i64 0, .int .u64 r3i, .int .u64 r3t, .int .u64 r3u, .string r3g, .string r3m] 40)
    have Fxb10 := Lib.hid (show ¬ DD10 xb from fun hd => (hs _ hd).elim Fxb7.out (fun h => by have := TXB.out.lt; omega))
    have Bxb10 := Lib.hid ((TXB.out.keep kD Fxb7.out).keep KC (fun h => h))
    have Fx310 := Lib.hid (show ¬ DD10 w10.heap.size from fun hd => by have := ho.mine.at_.lt _ hd; omega)
    have Bx310 := Lib.hid (Box.new w10 40 #[.int .i64 0, .int .u64 r3i, .int .u64 r3t, .int .u64 r3u, .string r3g, .string r3m])
    have HO10 := Lib.hid (ho.stay KC)
    have HP10 := Lib.hid hp
    clear TD hE ho hp hs kD KC TO HP7 E3 TXB Fxb7 q_xb_2
    go_upto_region 21 with fail
    generalize hw : w10.alloc (.cells #[.int .i64 0, .int .u64 r3i, .int .u64 r3t, .int .u64 r3u, .string r3g, .string r3m] 40) = vv10 at *
    generalize hx : w10.heap.size = x3 at *
    clear hw hx
    go_upto_region 21 with fail
    have TD := Lib.hid (told_any w vv10 DD10 (fun _ => False) p ss10 HO10.out (fcm 5 bt (!good) 0) (fcm_lies 5 bt (!good) 0 FR.out zero_is) 6 (by unfold top; decide))
    unfold fcm Cm.agg at TD
    dsimp only at TD
    have q_xb_2 := Bxb10.out.cell 2
    go_wp2_with fail
    refine TD.out.mono ?_
    rintro e w11 ⟨ss11, DD11, rfl, ho, hp, hs, kD⟩
    have hE := E4.out
    unfold fcm at hE
    rw [← HP10.out] at hE
    rw [hE] at hp ⊢
    unfold An.agg
    dsimp only at hp ⊢
    have KC := (Keep.refl noneOf w11).alloc (.cells #[.int .i64 100, .int .u64 r4i, .int .u64 r4t, .int .u64 r4u, .string r4g, .string r4m] 40)
    have Fxb11 := Lib.hid (show ¬ DD11 xb from fun hd => (hs _ hd).elim Fxb10.out (fun h => by have := Bxb10.out.lt; omega))
    have Bxb11 := Lib.hid ((Bxb10.out.keep kD Fxb10.out).keep KC (fun h => h))
    have Fx311 := Lib.hid (show ¬ DD11 x3 from fun hd => (hs _ hd).elim Fx310.out (fun h => by have := Bx310.out.lt; omega))
    have Bx311 := Lib.hid ((Bx310.out.keep kD Fx310.out).keep KC (fun h => h))
    have Fx411 := Lib.hid (show ¬ DD11 w11.heap.size from fun hd => by have := ho.mine.at_.lt _ hd; omega)
    have Bx411 := Lib.hid (Box.new w11 40 #[.int .i64 100, .int .u64 r4i, .int .u64 r4t, .int .u64 r4u, .string r4g, .string r4m])
    have HO11 := Lib.hid (ho.stay KC)
    have HP11 := Lib.hid hp
    clear TD hE ho hp hs kD KC HO10 HP10 E4 Bxb10 Fxb10 Bx310 Fx310 q_xb_2
    go_upto_region 22 with fail
    generalize hw : w11.alloc (.cells #[.int .i64 100, .int .u64 r4i, .int .u64 r4t, .int .u64 r4u, .string r4g, .string r4m] 40) = vv11 at *
    generalize hx : w11.heap.size = x4 at *
    clear hw hx
    have fb1 := Bxb11.out.cell 1
    have fb4 := Bxb11.out.cell 4
    have f30 := Bx311.out.cell 0
    have f31 := Bx311.out.cell 1
    have f34 := Bx311.out.cell 4
    have f40 := Bx411.out.cell 0
    have HF := Lib.hid HO11.out.keep
    go_wp2
    go_ret
    exact ⟨rfl, HF.out⟩
namespace DockyardFence
set_option maxRecDepth 100000 in
theorem lifted (os : Os) (started : os.Started) (H : Type) (enc : TypeId × Value → H) :
    ReturnsInHanded {} Tryz.checked os 12 .any (Rows.dockyardFenceSpec.pre6 enc Tryz.prog Tryz.f12 Rows.dockyardFenceRow.domain false) (Rows.dockyardFenceSpec.post enc Tryz.prog Tryz.f12 false true false false) := by
  refine returnsInHanded_of_change_sized (C := Tryz.checked) own started (by kernel_rfl) Tryz.func12
    (ChangeSpec.witness6 (enc := enc) (C := Tryz.checked) false ⟨#[], #[.slice none 0 0, .int .u64 0, .bool false], []⟩ 8 (by kernel_rfl) (by kernel_rfl) (by kernel_rfl) (by kernel_rfl)) ?_
  intro W base args ds gs before hval0 hW hcnd hsz _
  have hval : ∀ (j : Nat) t v, Tryz.f12.params[j]? = some t → args[j]? = some v → Value.okWide Tryz.prog W .any base t v := hval0
  have hW' := hW
  obtain ⟨p, q, hA0, hV, rfl, hfz, hnd⟩ := hW
  have hA : DataW.TrodAll enc Tryz.prog W 0 (fun _ => true) true Tryz.f12.params.toList args.toList ds p := hA0
  rw [Tryz.params12] at hA hval
  obtain ⟨v0, vs0, d0, ds0, p0, q0, hargs, rfl, rfl, h0, r0⟩ := trodAll_cons hA
  obtain ⟨v1, vs1, d1, ds1, p1, q1, rfl, rfl, rfl, h1, r1⟩ := trodAll_cons r0
  obtain ⟨v2, vs2, d2, ds2, p2, q2, rfl, rfl, rfl, h2, r2⟩ := trodAll_cons r1
  obtain ⟨rfl, rfl, rfl⟩ := trodAll_nil r2
  obtain rfl : args = #[v0, v1, v2] := by cases args; simp_all
  obtain ⟨rfl, rfl⟩ := trodVars_none hV
  have k0 := h0
  have lt0 : ∀ x ∈ p0, x.block < W.heap.size := by obtain ⟨m, hm⟩ := k0; exact DataW.trod_lt m _ _ _ hm
  obtain ⟨A0, c0, l0, rfl, hl0⟩ := open_arg_cms (hval 0 22 v0 rfl rfl) h0 (light_arg hsz (j := 0) rfl rfl)
  obtain ⟨a1, rfl, rfl, rfl, w1⟩ := open_int Tryz.underlying23 (hval 1 23 v1 rfl rfl) h1
  obtain ⟨a2, rfl, rfl, rfl⟩ := open_bool Tryz.underlying4 (hval 2 4 v2 rfl rfl) h2
  clear hA0 hval0
  refine (fence_walk W A0 c0 l0 a1 a2 hl0 (u64_in w1)).mono fun e W' ⟨he, bel0⟩ => ?_
  subst he
  have bel := bel0.all
  exact ⟨_, rfl, _, _, _, [], _, [], hW', trodAll_mk1 (shut_bool Tryz.underlying4 _), (trodAll_cons_mk (Below.trod laidOut (by kernel_rfl) (of_decide_eq_true (by kernel_rfl)) k0 bel lt0) (trodAll_cons_mk (shut_int Tryz.underlying23 w1) (trodAll_cons_mk (shut_bool Tryz.underlying4 _) trodAll_mk0))), rfl, bel.frame _, fun h => by cases h⟩
theorem over : Rows.dockyardFenceRow.holds Tryz.pinned (OpenSpec.ofChange Rows.dockyardFenceSpec) :=
  OpenClaim.holds_of_wide 12 Tryz.f12 rfl rfl rfl rfl rfl rfl rfl ⟨rfl, rfl, rfl, rfl, rfl⟩ rfl rfl rfl rfl rfl (by kernel_rfl) Tryz.func12 (by kernel_rfl)
    (of_decide_eq_true (by kernel_rfl)) (by unfold Func.isWrapper; first | (rw [if_pos (by decide +kernel)]; kernel_rfl) | (rw [if_neg (by decide +kernel)]; exact ⟨rfl, rfl⟩))
    (fun os started H enc _ => lifted os started H enc)
theorem proved : Rows.DockyardFenceSaid := over
end DockyardFence
end Go.Proofs.YtkoikmdmejhhhaaGreat
namespace Go.Proofs.YtkoikmdmejhhhaaGreat
open Go.RowKit Go.ChangeShapes Go.WideShapes Go.Deep
section
variable {H : Type} {enc : TypeId × Value → H} {w : World}
theorem open_bools {base : Nat} {held : Bool} {fuel : Nat} {v : Value} {x : DataW H × List MemPlace} (h : DataW.trod enc Tryz.prog w base (fun _ => true) held fuel 77 [v] = some x) (hw : Light 77 x.1) : ∃ bs, Bls w (fun _ => True) v bs := by
  rcases open_elems Tryz.underlying77 h hw with rfl | ⟨a, len, cap, rfl, hl, hm, _, hi⟩
  · exact ⟨[], Bls.nil _ _⟩
  · have hc1 : Tryz.prog.cellsOf 4 = 1 := by kernel_rfl
    have key : ∀ i, i < len → ∃ b : Bool, w.cell? (a.add i) = some (.bool b) := by
      intro i hil
      obtain ⟨cs, n, y, hlen, hat, htr, _⟩ := hi i hil
      obtain ⟨b, rfl, _⟩ := DataW.trod_bool Tryz.underlying4 htr
      have := hat 0 (by simp)
      rw [hc1, Nat.mul_one] at this
      exact ⟨b, this⟩
    obtain ⟨bs, hbl, hb⟩ := list_of len (fun i b => w.cell? (a.add i) = some (.bool b)) key
    refine ⟨bs, ⟨some a, cap, by rw [hbl], by omega, hm, fun e => (by cases e), by simp, fun h0 => ?_⟩⟩
    have h00 := hb 0 bs[0] (List.getElem?_eq_getElem h0)
    have hz : a.add 0 = a := rfl
    rw [hz] at h00
    have hsp := spot_of_cell h00
    refine ⟨a, rfl, hsp, block_of_cell h00, trivial, fun j x hj => ?_⟩
    rw [List.getElem?_map] at hj
    cases hsj : bs[j]? with
    | none => rw [hsj] at hj; cases hj
    | some s =>
      rw [hsj] at hj
      have := hb j s hsj
      rw [add_at a hsp] at this
      rw [this]
      simpa using hj
set_option maxRecDepth 100000 in
theorem open_arg_bools {base : Nat} {v : Value} {d : DataW H} {p : List MemPlace} (hv : Value.okWide Tryz.prog w .any base 77 v) (h : DataW.Trod enc Tryz.prog w 0 (fun _ => true) true 77 v d p) (hw : Light 77 d) :
    ∃ (A : Option Addr) (c : Nat) (l : List Bool), v = .slice A l.length c ∧ Bls w (fun _ => True) (.slice A l.length c) l := by
  obtain ⟨a, len, cap, rfl⟩ := okWide_slice Tryz.underlying77 hv
  obtain ⟨fuel, hf⟩ := h
  obtain ⟨ks, hks⟩ := open_bools hf hw
  obtain ⟨A, c, hvv, _⟩ := id hks
  rw [hvv] at hks
  exact ⟨A, c, ks, hvv, hks⟩
end
end Go.Proofs.YtkoikmdmejhhhaaGreat
namespace Go.Proofs.YtkoikmdmejhhhaaGreat
open Go.RowKit Go.ChangeShapes Go.WideShapes Go.Deep
theorem own_view {w v : World} {D : Nat → Prop} {p : Nat} {q : Qm} (h : Own w v D p q) (id : Int) :
    Calls Tryz.prog 20 #[.pointer (some ⟨p, 0, none⟩), .int .u64 id] v (ViewTold (viewP q.plain id) v) := by
  have := view_any v D q h.mine.at_ h.inv id
  rw [h.at_] at this
  exact this
theorem view_now (q : Qp) (id : Int) : (viewP q id).2.1 = q.now := by unfold viewP; split <;> rfl
theorem findG_lt {q : Qp} {id : Int} {i : Nat} (h : findG q id = some i) : i < q.gs.length := (List.findIdx?_eq_some_iff_findIdx_eq.1 h).1
set_option maxRecDepth 100000 in
set_option maxHeartbeats 8000000 in
set_option linter.unusedSimpArgs false in
theorem views_walk (w : World) (A : Option Addr) (cap : Nat) (cs : List Cm) (id : Int) (h : Cms w (fun _ => True) (.slice A cs.length cap) cs) :
    Calls Tryz.prog 11 #[.slice A cs.length cap, .int .u64 id] w (TellsB true w) := by
  have RN := Lib.hid (ran_any w A cap cs h)
  clear h
  go_enter Tryz.func11, Tryz.ntmps11
  go_wp2_with fail
  refine RN.out.mono ?_
  rintro e w1 ⟨q, D, rfl, hq, hpl⟩
  have HQ1 := Lib.hid hq
  have AL := Lib.hid (alive_any w1)
  generalize q.p = p at *
  clear RN hq hpl
  go_wp2_with fail
  refine AL.out.mono ?_
  rintro e w2 ⟨rfl, k2⟩
  have HQ2 := Lib.hid (HQ1.out.stay k2)
  have DU := Lib.hid (own_dump HQ2.out)
  clear AL k2 HQ1
  go_wp2_with fail
  refine DU.out.mono ?_
  rintro e w3 ⟨im, rfl, him, hil, k3⟩
  obtain ⟨A1, a1, A2, a2, A3, a3, e1, e2, e3⟩ := hil.shapes
  have KB := (Keep.refl noneOf w3).alloc (.cells #[.int .u64 im.now, .int .u64 im.ng, .int .u64 im.nt, .slice A1 im.ses.length a1, .slice A2 im.gs.length a2, .slice A3 im.built.length a3] 30)
  have HBI := Lib.hid (Box.new w3 30 #[.int .u64 im.now, .int .u64 im.ng, .int .u64 im.nt, .slice A1 im.ses.length a1, .slice A2 im.gs.length a2, .slice A3 im.built.length a3])
  have HO3 := Lib.hid ((HQ2.out.stay k3).stay KB)
  have HIL := Lib.hid ((hil.keep KB (fun _ _ _ h => h)).mono (D' := fun _ => True) (fun _ _ _ => trivial))
  have HIM := Lib.hid him
  have HE := Lib.hid (And.intro e1 (And.intro e2 e3))
  have VW := Lib.hid (own_view HO3.out id)
  unfold Im.agg
  rw [e1, e2, e3]
  clear DU HQ2 k3 KB him hil e1 e2 e3
  go_wp2_with fail
  refine VW.out.mono ?_
  rintro e w5 ⟨A5, c5, rfl, hst, k5⟩
  obtain ⟨V, hV⟩ : ∃ V, viewP q.plain id = V := ⟨_, rfl⟩
  rw [hV] at hst ⊢
  obtain ⟨vc, vn, vs⟩ := V
  dsimp only at hst ⊢
  have hvn : vn = im.now := by
    have h1 := view_now q.plain id
    rw [hV, ← HIM.out] at h1
    exact h1
  subst hvn
  have KC := (Keep.refl noneOf w5).alloc (.cells #[.int .i64 vc, .int .u64 im.now, .slice A5 vs.length c5] 47)
  have HBV := Lib.hid (Box.new w5 47 #[.int .i64 vc, .int .u64 im.now, .slice A5 vs.length c5])
  have HBI2 := Lib.hid ((HBI.out.keep k5 (fun h => h)).keep KC (fun h => h))
  have HO5 := Lib.hid ((HO3.out.stay k5).stay KC)
  have HIL2 := Lib.hid ((HIL.out.keep k5 (fun _ _ _ h => h)).keep KC (fun _ _ _ h => h))
  have HST := Lib.hid ((hst.keep KC (fun _ _ _ h => h)).mono (D' := fun _ => True) (fun _ _ _ => trivial))
  have HV := Lib.hid hV
  have FI := rfind_any _ _ im HIL2.out id
  unfold Im.agg at FI
  rw [HE.out.1, HE.out.2.1, HE.out.2.2] at FI
  replace FI := Lib.hid FI
  have x0 := HBI2.out.cell 0
  have x1 := HBI2.out.cell 1
  have x2 := HBI2.out.cell 2
  have x3 := HBI2.out.cell 3
  have x4 := HBI2.out.cell 4
  have x5 := HBI2.out.cell 5
  clear VW HBI HO3 HIL k5 KC hst hV
  go_wp2_with fail
  refine FI.out.mono ?_
  obtain ⟨n, hn⟩ : ∃ n, foundI (findG im.plain id) = n := ⟨_, rfl⟩
  rw [hn]
  rintro e w7 ⟨rfl, k7⟩
  have HN := Lib.hid hn
  have HBI3 := Lib.hid (HBI2.out.keep k7 (fun h => h))
  have HBV3 := Lib.hid (HBV.out.keep k7 (fun h => h))
  have HO7 := Lib.hid (HO5.out.stay k7)
  have HIL3 := Lib.hid (HIL2.out.keep k7 (fun _ _ _ h => h))
  have HST3 := Lib.hid (HST.out.keep k7 (fun _ _ _ h => h))
  generalize w5.heap.size = pv at *
  generalize w3.heap.size = pi at *
  clear FI HBI2 HBV HO5 HIL2 HST hn x0 x1 x2 x3 x4 x5 k7
  have MC : Hid (∀ w', Keep noneOf w7 w' → w'.cell? ⟨pv, 0, none⟩ = some (.int .i64 vc) ∧ w'.cell? ⟨pv, 1, none⟩ = some (.int .u64 im.now) ∧ w'.cell? ⟨pv, 2, none⟩ = some (.slice A5 vs.length c5) ∧ w'.cell? ⟨pi, 0, none⟩ = some (.int .u64 im.now) ∧ w'.cell? ⟨pi, 1, none⟩ = some (.int .u64 im.ng) ∧ w'.cell? ⟨pi, 2, none⟩ = some (.int .u64 im.nt) ∧ w'.cell? ⟨pi, 3, none⟩ = some (.slice A1 im.ses.length a1) ∧ w'.cell? ⟨pi, 4, none⟩ = some (.slice A2 im.gs.length a2) ∧ w'.cell? ⟨pi, 5, none⟩ = some (.slice A3 im.built.length a3)) := Lib.hid fun w' k' =>
    ⟨(HBV3.out.keep k' (fun h => h)).cell 0, (HBV3.out.keep k' (fun h => h)).cell 1, (HBV3.out.keep k' (fun h => h)).cell 2, (HBI3.out.keep k' (fun h => h)).cell 0, (HBI3.out.keep k' (fun h => h)).cell 1, (HBI3.out.keep k' (fun h => h)).cell 2, (HBI3.out.keep k' (fun h => h)).cell 3, (HBI3.out.keep k' (fun h => h)).cell 4, (HBI3.out.keep k' (fun h => h)).cell 5⟩
  have DU2 : Hid (∀ w', Keep noneOf w7 w' → Calls Tryz.prog 23 #[.pointer (some ⟨p, 0, none⟩)] w' (OwnTold q w')) := Lib.hid fun w' k' => own_dump (HO7.out.stay k')
  have SM : Hid (∀ w' im2, Keep noneOf w7 w' → im2.lies w' (fun _ => True) → Calls Tryz.prog 22 #[.agg #[.int .u64 im.now, .int .u64 im.ng, .int .u64 im.nt, .slice A1 im.ses.length a1, .slice A2 im.gs.length a2, .slice A3 im.built.length a3], im2.agg] w' (SameTold im im2 w')) := Lib.hid fun w' im2 k' h2 => by
    have := qsame_any w' _ _ im im2 (HIL3.out.keep k' (fun _ _ _ h => h)) h2
    unfold Im.agg at this ⊢
    rw [HE.out.1, HE.out.2.1, HE.out.2.2] at this
    exact this
  have K0 := (Keep.refl noneOf w7).drew
  go_upto_region 7 with fail
  refine wp_region_held_drew (S := fun w' => Keep noneOf w7 w') (by kernel_rfl) (K0) (fun hHeld => ?_)
  refine' wpAnyH_take (i := 0) (v := _) rfl (by kernel_rfl) (by kernel_rfl) (by kernel_rfl) (fun _ _ _ h => h) (Or.inl ⟨by kernel_rfl, ?hy0⟩) (by assumption) ?_
  case hy0 => intro w' hSw; obtain ⟨_, _, _, _, _, _, _, _, _⟩ := MC.out w' hSw; go_simp; try with_reducible rfl
  simp only [Act.put, List.getElem_toArray, List.getElem_cons_zero, List.getElem_cons_succ, List.setIfInBounds_toArray, List.set_cons_zero, List.set_cons_succ]
  refine' wpAnyH_take (i := 1) (v := _) rfl (by kernel_rfl) (by kernel_rfl) (by kernel_rfl) (fun _ _ _ h => h) (Or.inl ⟨by kernel_rfl, ?hy1⟩) (by assumption) ?_
  case hy1 => intro w' hSw; obtain ⟨_, _, _, _, _, _, _, _, _⟩ := MC.out w' hSw; go_simp; try with_reducible rfl
  simp only [Act.put, List.getElem_toArray, List.getElem_cons_zero, List.getElem_cons_succ, List.setIfInBounds_toArray, List.set_cons_zero, List.set_cons_succ]
  refine wpAnyH_ready (rs := [2]) (by kernel_rfl) (by simp) (AllReadyH.cons rfl (fun K hK => ?_) AllReadyH.nil)
  go_simp
  go_at_call 23
  refine (DU2.out _ K0).mono ?_
  rintro e w8 ⟨im2, rfl, him2, hil2, k8⟩
  have K8 : Keep noneOf w7 w8 := K0.trans k8 (fun _ _ h => h)
  have SM2 := Lib.hid (SM.out w8 im2 K8 (hil2.mono (fun _ _ _ => trivial)))
  have HY : Hid (im.plain = im2.plain) := Lib.hid (by rw [him2, HIM.out])
  clear him2 hil2 DU2 SM
  go_wp2_with fail
  refine hK.out _ _ (K8) (fun hHeld => ?_)
  clear hK K
  try simp only [Act.put, List.getElem_toArray, List.getElem_cons_zero, List.getElem_cons_succ, List.setIfInBounds_toArray, List.set_cons_zero, List.set_cons_succ]
  refine wpAnyH_ready (rs := [3]) (by kernel_rfl) (by simp) (AllReadyH.cons rfl (fun K hK => ?_) AllReadyH.nil)
  go_simp
  go_at_call 22
  refine SM2.out.mono ?_
  rintro e w9 ⟨r, rfl, hr, k9⟩
  obtain rfl : r = true := hr.2 HY.out
  have K9 : Keep noneOf w7 w9 := K8.trans k9 (fun _ _ h => h)
  clear hr
  go_wp2_with fail
  refine hK.out _ _ (K9) (fun hHeld => ?_)
  clear hK K
  try simp only [Act.put, List.getElem_toArray, List.getElem_cons_zero, List.getElem_cons_succ, List.setIfInBounds_toArray, List.set_cons_zero, List.set_cons_succ]
  refine' wpAnyH_take (i := 4) (v := .bool false) rfl (by kernel_rfl) (by kernel_rfl) (by kernel_rfl) (fun _ _ _ h => h) (Or.inl ⟨by kernel_rfl, ?hy4⟩) (by assumption) ?_
  case hy4 => intro w' hSw; rfl
  simp only [Act.put, List.getElem_toArray, List.getElem_cons_zero, List.getElem_cons_succ, List.setIfInBounds_toArray, List.set_cons_zero, List.set_cons_succ]
  refine' wpAnyH_take (i := 5) (v := .bool false) rfl (by kernel_rfl) (by kernel_rfl) (by kernel_rfl) (fun _ _ _ h => h) (Or.inl ⟨by kernel_rfl, ?hy5⟩) (by assumption) ?_
  case hy5 => intro w' hSw; rfl
  simp only [Act.put, List.getElem_toArray, List.getElem_cons_zero, List.getElem_cons_succ, List.setIfInBounds_toArray, List.set_cons_zero, List.set_cons_succ]
  refine' wpAnyH_take (i := 6) (v := .pointer (some ⟨pv, 1, none⟩)) rfl (by kernel_rfl) (by kernel_rfl) (by kernel_rfl) (fun _ _ _ h => h) (Or.inl ⟨by kernel_rfl, ?hy6⟩) (by assumption) ?_
  case hy6 => intro w' hSw; obtain ⟨_, _, _, _, _, _, _, _, _⟩ := MC.out w' hSw; first | rfl | (go_simp; try simp only [List.getElem?_cons_zero, Option.getD_some]; try go_simp)
  simp only [Act.put, List.getElem_toArray, List.getElem_cons_zero, List.getElem_cons_succ, List.setIfInBounds_toArray, List.set_cons_zero, List.set_cons_succ]
  refine' wpAnyH_take (i := 7) (v := .int .u64 im.now) rfl (by kernel_rfl) (by kernel_rfl) (by kernel_rfl) (fun _ _ _ h => h) (Or.inl ⟨by kernel_rfl, ?hy7⟩) (by assumption) ?_
  case hy7 => intro w' hSw; obtain ⟨_, _, _, _, _, _, _, _, _⟩ := MC.out w' hSw; first | rfl | (go_simp; try simp only [List.getElem?_cons_zero, Option.getD_some]; try go_simp)
  simp only [Act.put, List.getElem_toArray, List.getElem_cons_zero, List.getElem_cons_succ, List.setIfInBounds_toArray, List.set_cons_zero, List.set_cons_succ]
  refine' wpAnyH_take (i := 8) (v := .pointer (some ⟨pi, 0, none⟩)) rfl (by kernel_rfl) (by kernel_rfl) (by kernel_rfl) (fun _ _ _ h => h) (Or.inl ⟨by kernel_rfl, ?hy8⟩) (by assumption) ?_
  case hy8 => intro w' hSw; obtain ⟨_, _, _, _, _, _, _, _, _⟩ := MC.out w' hSw; first | rfl | (go_simp; try simp only [List.getElem?_cons_zero, Option.getD_some]; try go_simp)
  simp only [Act.put, List.getElem_toArray, List.getElem_cons_zero, List.getElem_cons_succ, List.setIfInBounds_toArray, List.set_cons_zero, List.set_cons_succ]
  refine' wpAnyH_take (i := 9) (v := .int .u64 im.now) rfl (by kernel_rfl) (by kernel_rfl) (by kernel_rfl) (fun _ _ _ h => h) (Or.inl ⟨by kernel_rfl, ?hy9⟩) (by assumption) ?_
  case hy9 => intro w' hSw; obtain ⟨_, _, _, _, _, _, _, _, _⟩ := MC.out w' hSw; first | rfl | (go_simp; try simp only [List.getElem?_cons_zero, Option.getD_some]; try go_simp)
  simp only [Act.put, List.getElem_toArray, List.getElem_cons_zero, List.getElem_cons_succ, List.setIfInBounds_toArray, List.set_cons_zero, List.set_cons_succ]
  refine' wpAnyH_take (i := 10) (v := .bool false) rfl (by kernel_rfl) (by kernel_rfl) (by kernel_rfl) (fun _ _ _ h => h) (Or.inl ⟨by kernel_rfl, ?hy10⟩) (by assumption) ?_
  case hy10 => intro w' hSw; obtain ⟨_, _, _, _, _, _, _, _, _⟩ := MC.out w' hSw; first | rfl | (go_simp; try simp only [List.getElem?_cons_zero, Option.getD_some]; try go_simp)
  simp only [Act.put, List.getElem_toArray, List.getElem_cons_zero, List.getElem_cons_succ, List.setIfInBounds_toArray, List.set_cons_zero, List.set_cons_succ]
  refine' wpAnyH_take (i := 11) (v := .bool false) rfl (by kernel_rfl) (by kernel_rfl) (by kernel_rfl) (fun _ _ _ h => h) (Or.inl ⟨by kernel_rfl, ?hy11⟩) (by assumption) ?_
  case hy11 => intro w' hSw; obtain ⟨_, _, _, _, _, _, _, _, _⟩ := MC.out w' hSw; first | rfl | (go_simp; try simp only [List.getElem?_cons_zero, Option.getD_some]; try go_simp)
  simp only [Act.put, List.getElem_toArray, List.getElem_cons_zero, List.getElem_cons_succ, List.setIfInBounds_toArray, List.set_cons_zero, List.set_cons_succ]
  refine wpAnyH_done (by kernel_rfl) ?_ _
  have HO9 := Lib.hid (HO7.out.stay K9)
  have HIL9 := Lib.hid (HIL3.out.keep K9 (fun _ _ _ h => h))
  have HST9 := Lib.hid (HST3.out.keep K9 (fun _ _ _ h => h))
  have HBI9 := Lib.hid (HBI3.out.keep K9 (fun h => h))
  have HBV9 := Lib.hid (HBV3.out.keep K9 (fun h => h))
  clear MC SM2 K0 K8 K9 k8 k9 hHeld HO7 HIL3 HST3 HBI3 HBV3
  cases hf : findG im.plain id with
  | none =>
    have h1 := HN.out
    have h2 := HV.out
    rw [hf] at h1
    rw [← HIM.out] at h2
    unfold viewP at h2
    rw [hf] at h2
    unfold foundI at h1
    dsimp only at h1 h2
    injection h2 with h2 h3
    injection h3 with h3 h4
    subst h1 h2 h4
    have v0 := HBV9.out.cell 0
    have v2 := HBV9.out.cell 2
    rw [List.length_nil] at v2
    have HF := Lib.hid HO9.out.keep
    clear HN HV hf h3 HBV9 HBI9 HST9 HIL9
    go_wp2
    go_ret
    exact ⟨rfl, HF.out⟩
  | some i =>
    have h1 := HN.out
    have h2 := HV.out
    rw [hf] at h1
    rw [← HIM.out] at h2
    unfold viewP at h2
    rw [hf] at h2
    unfold foundI at h1
    dsimp only at h1 h2
    injection h2 with h2 h3
    injection h3 with h3 h4
    subst h1 h2
    have hlt := findG_lt hf
    obtain ⟨g, hg⟩ : ∃ g, im.gs[i]? = some g := by
      have : i < im.gs.length := by simpa [Im.plain] using hlt
      exact ⟨_, List.getElem?_eq_getElem this⟩
    have hgs : g.st = vs := by
      have h5 : im.plain.gs[i]? = some g.plain := gm_at hg
      rw [← h4, getD_some h5]
      rfl
    have hil := (List.getElem?_eq_some_iff.1 hg).1
    have hG := HIL9.out.gs
    rw [HE.out.2.1] at hG
    obtain ⟨tb, o, e9, hblk, _, hcell⟩ := hG.1.cell (fun _ => rfl) hg
    have d2 : w9.cell? ⟨tb, o + i * 3 + 2, none⟩ = some g.sv := hcell 2 (by decide)
    have hgl := (hG.2 g (List.mem_of_getElem? hg)).2
    have hST := HST9.out
    have SS : Hid (∀ w', Keep noneOf w9 w' → Calls Tryz.prog 32 #[.slice A5 vs.length c5, g.sv] w' (TellsB true w')) := Lib.hid fun w' k' => by
      have := same_any w' _ _ _ _ vs g.st (Sts.keep hST k' (fun _ _ _ h => h)) (Sts.keep hgl k' (fun _ _ _ h => h))
      rw [decide_eq_true hgs.symm] at this
      exact this
    have MC : Hid (∀ w', Keep noneOf w9 w' → w'.cell? ⟨pv, 0, none⟩ = some (.int .i64 0) ∧ w'.cell? ⟨pv, 2, none⟩ = some (.slice A5 vs.length c5) ∧ w'.cell? ⟨pi, 4, none⟩ = some (.slice (some ⟨tb, o, none⟩) im.gs.length a2) ∧ w'.cell? ⟨tb, o + i * 3 + 2, none⟩ = some g.sv) := Lib.hid fun w' k' =>
      ⟨(HBV9.out.keep k' (fun h => h)).cell 0, (HBV9.out.keep k' (fun h => h)).cell 2, by rw [← e9]; exact (HBI9.out.keep k' (fun h => h)).cell 4, (k'.cell (p := ⟨tb, o + i * 3 + 2, none⟩) hblk (fun h => h)).trans d2⟩
    have q0 : ¬ ((i : Int) < 0) := by omega
    have q2 : (0 : Int) ≤ (i : Int) := by omega
    have q1 : (i : Int) < (im.gs.length : Int) := by omega
    have K0 := (Keep.refl noneOf w9).drew
    have HK9 := Lib.hid HO9.out.keep
    clear HN HV hf h3 h4 hlt hg hgs hil hG hcell hblk d2 hgl hST e9 HBV9 HBI9 HST9 HIL9 HO9
    go_upto_region 11 with fail
    refine wp_region_held_drew (S := fun w' => Keep noneOf w9 w') (by kernel_rfl) (K0) (fun hHeld => ?_)
    refine' wpAnyH_take (i := 0) (v := _) rfl (by kernel_rfl) (by kernel_rfl) (by kernel_rfl) (fun _ _ _ h => h) (Or.inl ⟨by kernel_rfl, ?hy0⟩) (by assumption) ?_
    case hy0 => intro w' hSw; obtain ⟨_, _, _, _⟩ := MC.out w' hSw; go_simp; try with_reducible rfl
    simp only [Act.put, List.getElem_toArray, List.getElem_cons_zero, List.getElem_cons_succ, List.setIfInBounds_toArray, List.set_cons_zero, List.set_cons_succ]
    refine' wpAnyH_take (i := 1) (v := _) rfl (by kernel_rfl) (by kernel_rfl) (by kernel_rfl) (fun _ _ _ h => h) (Or.inl ⟨by kernel_rfl, ?hy1⟩) (by assumption) ?_
    case hy1 => intro w' hSw; obtain ⟨_, _, _, _⟩ := MC.out w' hSw; go_simp; try with_reducible rfl
    simp only [Act.put, List.getElem_toArray, List.getElem_cons_zero, List.getElem_cons_succ, List.setIfInBounds_toArray, List.set_cons_zero, List.set_cons_succ]
    refine' wpAnyH_take (i := 2) (v := _) rfl (by kernel_rfl) (by kernel_rfl) (by kernel_rfl) (fun _ _ _ h => h) (Or.inl ⟨by kernel_rfl, ?hy2⟩) (by assumption) ?_
    case hy2 => intro w' hSw; obtain ⟨_, _, _, _⟩ := MC.out w' hSw; go_simp; try with_reducible rfl
    simp only [Act.put, List.getElem_toArray, List.getElem_cons_zero, List.getElem_cons_succ, List.setIfInBounds_toArray, List.set_cons_zero, List.set_cons_succ]
    refine' wpAnyH_take (i := 3) (v := _) rfl (by kernel_rfl) (by kernel_rfl) (by kernel_rfl) (fun _ _ _ h => h) (Or.inl ⟨by kernel_rfl, ?hy3⟩) (by assumption) ?_
    case hy3 => intro w' hSw; obtain ⟨_, _, _, _⟩ := MC.out w' hSw; go_simp; try with_reducible rfl
    simp only [Act.put, List.getElem_toArray, List.getElem_cons_zero, List.getElem_cons_succ, List.setIfInBounds_toArray, List.set_cons_zero, List.set_cons_succ]
    refine' wpAnyH_take (i := 4) (v := _) rfl (by kernel_rfl) (by kernel_rfl) (by kernel_rfl) (fun _ _ _ h => h) (Or.inl ⟨by kernel_rfl, ?hy4⟩) (by assumption) ?_
    case hy4 => intro w' hSw; obtain ⟨_, _, _, _⟩ := MC.out w' hSw; go_simp; try with_reducible rfl
    simp only [Act.put, List.getElem_toArray, List.getElem_cons_zero, List.getElem_cons_succ, List.setIfInBounds_toArray, List.set_cons_zero, List.set_cons_succ]
    refine' wpAnyH_take (i := 5) (v := _) rfl (by kernel_rfl) (by kernel_rfl) (by kernel_rfl) (fun _ _ _ h => h) (Or.inl ⟨by kernel_rfl, ?hy5⟩) (by assumption) ?_
    case hy5 => intro w' hSw; obtain ⟨_, _, _, _⟩ := MC.out w' hSw; go_simp; try with_reducible rfl
    simp only [Act.put, List.getElem_toArray, List.getElem_cons_zero, List.getElem_cons_succ, List.setIfInBounds_toArray, List.set_cons_zero, List.set_cons_succ]
    refine' wpAnyH_take (i := 6) (v := _) rfl (by kernel_rfl) (by kernel_rfl) (by kernel_rfl) (fun _ _ _ h => h) (Or.inl ⟨by kernel_rfl, ?hy6⟩) (by assumption) ?_
    case hy6 => intro w' hSw; obtain ⟨_, _, _, _⟩ := MC.out w' hSw; go_simp; try with_reducible rfl
    simp only [Act.put, List.getElem_toArray, List.getElem_cons_zero, List.getElem_cons_succ, List.setIfInBounds_toArray, List.set_cons_zero, List.set_cons_succ]
    refine' wpAnyH_take (i := 7) (v := _) rfl (by kernel_rfl) (by kernel_rfl) (by kernel_rfl) (fun _ _ _ h => h) (Or.inl ⟨by kernel_rfl, ?hy7⟩) (by assumption) ?_
    case hy7 => intro w' hSw; obtain ⟨_, _, _, _⟩ := MC.out w' hSw; go_simp; try with_reducible rfl
    simp only [Act.put, List.getElem_toArray, List.getElem_cons_zero, List.getElem_cons_succ, List.setIfInBounds_toArray, List.set_cons_zero, List.set_cons_succ]
    refine' wpAnyH_take (i := 8) (v := _) rfl (by kernel_rfl) (by kernel_rfl) (by kernel_rfl) (fun _ _ _ h => h) (Or.inl ⟨by kernel_rfl, ?hy8⟩) (by assumption) ?_
    case hy8 => intro w' hSw; obtain ⟨_, _, _, _⟩ := MC.out w' hSw; go_simp; try with_reducible rfl
    simp only [Act.put, List.getElem_toArray, List.getElem_cons_zero, List.getElem_cons_succ, List.setIfInBounds_toArray, List.set_cons_zero, List.set_cons_succ]
    refine' wpAnyH_take (i := 9) (v := _) rfl (by kernel_rfl) (by kernel_rfl) (by kernel_rfl) (fun _ _ _ h => h) (Or.inl ⟨by kernel_rfl, ?hy9⟩) (by assumption) ?_
    case hy9 => intro w' hSw; obtain ⟨_, _, _, _⟩ := MC.out w' hSw; go_simp; try with_reducible rfl
    simp only [Act.put, List.getElem_toArray, List.getElem_cons_zero, List.getElem_cons_succ, List.setIfInBounds_toArray, List.set_cons_zero, List.set_cons_succ]
    refine' wpAnyH_take (i := 10) (v := _) rfl (by kernel_rfl) (by kernel_rfl) (by kernel_rfl) (fun _ _ _ h => h) (Or.inl ⟨by kernel_rfl, ?hy10⟩) (by assumption) ?_
    case hy10 => intro w' hSw; obtain ⟨_, _, _, _⟩ := MC.out w' hSw; go_simp; try with_reducible rfl
    simp only [Act.put, List.getElem_toArray, List.getElem_cons_zero, List.getElem_cons_succ, List.setIfInBounds_toArray, List.set_cons_zero, List.set_cons_succ]
    refine' wpAnyH_take (i := 11) (v := _) rfl (by kernel_rfl) (by kernel_rfl) (by kernel_rfl) (fun _ _ _ h => h) (Or.inl ⟨by kernel_rfl, ?hy11⟩) (by assumption) ?_
    case hy11 => intro w' hSw; obtain ⟨_, _, _, _⟩ := MC.out w' hSw; go_simp; try with_reducible rfl
    simp only [Act.put, List.getElem_toArray, List.getElem_cons_zero, List.getElem_cons_succ, List.setIfInBounds_toArray, List.set_cons_zero, List.set_cons_succ]
    refine wpAnyH_ready (rs := [12]) (by kernel_rfl) (by simp) (AllReadyH.cons rfl (fun K hK => ?_) AllReadyH.nil)
    go_simp
    go_at_call 32
    refine (SS.out _ K0).mono ?_
    rintro e w10 ⟨rfl, k10⟩
    have K10 : Keep noneOf w9 w10 := K0.trans k10 (fun _ _ h => h)
    go_wp2_with fail
    refine hK.out _ _ (K10) (fun hHeld => ?_)
    clear hK K
    try simp only [Act.put, List.getElem_toArray, List.getElem_cons_zero, List.getElem_cons_succ, List.setIfInBounds_toArray, List.set_cons_zero, List.set_cons_succ]
    refine' wpAnyH_take (i := 13) (v := .bool true) rfl (by kernel_rfl) (by kernel_rfl) (by kernel_rfl) (fun _ _ _ h => h) (Or.inl ⟨by kernel_rfl, ?hy13⟩) (by assumption) ?_
    case hy13 => intro w' hSw; obtain ⟨_, _, _, _⟩ := MC.out w' hSw; first | rfl | (go_simp; try simp only [List.getElem?_cons_zero, Option.getD_some]; try go_simp)
    simp only [Act.put, List.getElem_toArray, List.getElem_cons_zero, List.getElem_cons_succ, List.setIfInBounds_toArray, List.set_cons_zero, List.set_cons_succ]
    refine' wpAnyH_take (i := 14) (v := .bool true) rfl (by kernel_rfl) (by kernel_rfl) (by kernel_rfl) (fun _ _ _ h => h) (Or.inl ⟨by kernel_rfl, ?hy14⟩) (by assumption) ?_
    case hy14 => intro w' hSw; obtain ⟨_, _, _, _⟩ := MC.out w' hSw; first | rfl | (go_simp; try simp only [List.getElem?_cons_zero, Option.getD_some]; try go_simp)
    simp only [Act.put, List.getElem_toArray, List.getElem_cons_zero, List.getElem_cons_succ, List.setIfInBounds_toArray, List.set_cons_zero, List.set_cons_succ]
    refine wpAnyH_done (by kernel_rfl) ?_ _
    clear MC SS K0 k10 hHeld
    go_wp2
    go_ret
    exact ⟨rfl, HK9.out.trans K10 (fun _ _ h => h)⟩
namespace QueueViews
set_option maxRecDepth 100000 in
theorem lifted (os : Os) (started : os.Started) (H : Type) (enc : TypeId × Value → H) :
    ReturnsInHanded {} Tryz.checked os 11 .any (Rows.queueViewsSpec.pre6 enc Tryz.prog Tryz.f11 Rows.queueViewsRow.domain false) (Rows.queueViewsSpec.post enc Tryz.prog Tryz.f11 false true false false) := by
  refine returnsInHanded_of_change_sized (C := Tryz.checked) own started (by kernel_rfl) Tryz.func11
    (ChangeSpec.witness6 (enc := enc) (C := Tryz.checked) false ⟨#[], #[.slice none 0 0, .int .u64 0], []⟩ 8 (by kernel_rfl) (by kernel_rfl) (by kernel_rfl) (by kernel_rfl)) ?_
  intro W base args ds gs before hval0 hW hcnd hsz _
  have hval : ∀ (j : Nat) t v, Tryz.f11.params[j]? = some t → args[j]? = some v → Value.okWide Tryz.prog W .any base t v := hval0
  have hW' := hW
  obtain ⟨p, q, hA0, hV, rfl, hfz, hnd⟩ := hW
  have hA : DataW.TrodAll enc Tryz.prog W 0 (fun _ => true) true Tryz.f11.params.toList args.toList ds p := hA0
  rw [Tryz.params11] at hA hval
  obtain ⟨v0, vs0, d0, ds0, p0, q0, hargs, rfl, rfl, h0, r0⟩ := trodAll_cons hA
  obtain ⟨v1, vs1, d1, ds1, p1, q1, rfl, rfl, rfl, h1, r1⟩ := trodAll_cons r0
  obtain ⟨rfl, rfl, rfl⟩ := trodAll_nil r1
  obtain rfl : args = #[v0, v1] := by cases args; simp_all
  obtain ⟨rfl, rfl⟩ := trodVars_none hV
  have k0 := h0
  have lt0 : ∀ x ∈ p0, x.block < W.heap.size := by obtain ⟨m, hm⟩ := k0; exact DataW.trod_lt m _ _ _ hm
  obtain ⟨A0, c0, l0, rfl, hl0⟩ := open_arg_cms (hval 0 22 v0 rfl rfl) h0 (light_arg hsz (j := 0) rfl rfl)
  obtain ⟨a1, rfl, rfl, rfl, w1⟩ := open_int Tryz.underlying23 (hval 1 23 v1 rfl rfl) h1
  clear hA0 hval0
  refine (views_walk W A0 c0 l0 a1 hl0).mono fun e W' ⟨he, bel0⟩ => ?_
  subst he
  have bel := bel0.all
  exact ⟨_, rfl, _, _, _, [], _, [], hW', trodAll_mk1 (shut_bool Tryz.underlying4 _), (trodAll_cons_mk (Below.trod laidOut (by kernel_rfl) (of_decide_eq_true (by kernel_rfl)) k0 bel lt0) (trodAll_cons_mk (shut_int Tryz.underlying23 w1) trodAll_mk0)), rfl, bel.frame _, fun h => by cases h⟩
theorem over : Rows.queueViewsRow.holds Tryz.pinned (OpenSpec.ofChange Rows.queueViewsSpec) :=
  OpenClaim.holds_of_wide 11 Tryz.f11 rfl rfl rfl rfl rfl rfl rfl ⟨rfl, rfl, rfl, rfl, rfl⟩ rfl rfl rfl rfl rfl (by kernel_rfl) Tryz.func11 (by kernel_rfl)
    (of_decide_eq_true (by kernel_rfl)) (by unfold Func.isWrapper; first | (rw [if_pos (by decide +kernel)]; kernel_rfl) | (rw [if_neg (by decide +kernel)]; exact ⟨rfl, rfl⟩))
    (fun os started H enc _ => lifted os started H enc)
theorem proved : Rows.QueueViewsSaid := over
end QueueViews
end Go.Proofs.YtkoikmdmejhhhaaGreat
namespace Go.Proofs.YtkoikmdmejhhhaaGreat
open Go.RowKit Go.ChangeShapes Go.WideShapes Go.Deep
theorem strinfoB : (Tryz.prog.info? 9).map (fun i => (i.zero, i.size, i.bytes)) = some (some (.string ⟨#[]⟩), 1, 16) := by kernel_rfl
def estr (s : ByteArray) : List Value := [.string s]
theorem bools_fm (l : List Bool) : l.flatMap (fun b => [Value.bool b]) = l.map Value.bool := by induction l with
  | nil => rfl
  | cons a l ih => rw [List.flatMap_cons, ih]; rfl
theorem strs_fm (l : List ByteArray) : l.flatMap estr = l.map Value.string := by induction l with
  | nil => rfl
  | cons a l ih => rw [List.flatMap_cons, ih]; rfl
def LostP (ts : List Tg) (st : List Pst) (s : ByteArray) : Prop := ∃ n u, ts[n]? = some u ∧ u.name = s ∧ (st.getD n Pst.zero).s ≠ 3
theorem field_vw2 (w : World) (a b c : Value) : (Instr.field 47 (.agg #[a, b, c]) 2).run Tryz.prog w = .ok c w := by kernel_rfl
theorem bcm_lies {w : World} {D : Nat → Prop} (kind id tok : Int) (good : Bool) (hi : 0 ≤ id ∧ id ≤ top) (ht : 0 ≤ tok ∧ tok ≤ top) : Cm.lies w D ⟨kind, 0, 0, .slice none 0 0, [], id, tok, good, 0⟩ := by
  have h := cm_none (w := w) (D := D) kind 0 0 (by unfold top; decide) (by unfold top; decide)
  exact ⟨h.tgs, h.few, h.needs, zero_tt, zero_tt, hi, ht, zero_tt⟩
theorem clr_begin {q : Qp} {S : Int} (h : Inv q) (hb : Behind q S 1) : Clr q (q.gs.map Gq.id) q.built q.now q.nt S 1 :=
  ⟨h, fun g hg => .inr (List.mem_map.2 ⟨g, hg, rfl⟩), rfl, rfl, rfl, hb⟩
set_option maxRecDepth 100000 in
set_option maxHeartbeats 16000000 in
set_option linter.unusedSimpArgs false in
theorem build_walk (w : World) (A : Option Addr) (cap : Nat) (cs : List Cm) (B : Option Addr) (bc : Nat) (ts : List Tg) (C : Option Addr) (cc : Nat) (gl : List Bool)
    (h : Cms w (fun _ => True) (.slice A cs.length cap) cs) (hts : Tgs w (fun _ => True) (.slice B ts.length bc) ts) (h56 : ts.length * 56 ≤ reachBytes) (h16 : ∀ t ∈ ts, t.needs.length * 16 ≤ reachBytes) (hgl : Bls w (fun _ => True) (.slice C gl.length cc) gl) :
    Calls Tryz.prog 13 #[.slice A cs.length cap, .agg #[.slice B ts.length bc], .slice C gl.length cc] w (TellsB true w) := by
  have K1 := (Keep.refl noneOf w).alloc (.cells #[.slice B ts.length bc] 35)
  have HBX := Lib.hid (Box.new w 35 #[.slice B ts.length bc])
  have HTS := Lib.hid (hts.keep K1 (fun _ _ _ h => h))
  have HGL := Lib.hid (hgl.keep K1 (fun _ _ _ h => h))
  have HKW := Lib.hid K1
  have RN := Lib.hid (topran_any (w.alloc (.cells #[.slice B ts.length bc] 35)) A cap cs (h.keep K1 (fun _ _ _ h => h)))
  have H56 := Lib.hid h56
  have H16 := Lib.hid h16
  clear h hts hgl K1 h56 h16
  go_enter Tryz.func13, Tryz.ntmps13
  go_upto_region 1 with fail
  generalize w.alloc (.cells #[.slice B ts.length bc] 35) = w0 at *
  generalize w.heap.size = pg at *
  go_wp2_with fail
  refine RN.out.mono ?_
  rintro e w1 ⟨q, D, ok, rfl, hq, hok⟩
  have HQ1 := Lib.hid hq
  generalize q.p = p at *
  clear RN hq
  cases ok with
  | false =>
    have HF := Lib.hid (HKW.out.trans HQ1.out.keep (fun _ _ h => h))
    clear hok
    go_wp2
    go_ret
    exact ⟨rfl, HF.out⟩
  | true =>
  obtain ⟨hb, hn, ht⟩ := hok rfl
  have HQI := Lib.hid HQ1.out.inv
  have HCL := Lib.hid (clr_begin HQ1.out.inv hb)
  have HNW := Lib.hid (And.intro hn ht)
  have DU := Lib.hid (own_dump HQ1.out)
  clear hok hb hn ht
  go_wp2_with fail
  refine DU.out.mono ?_
  rintro e w2 ⟨im, rfl, him, hil, k2⟩
  obtain ⟨A1, a1, A2, a2, A3, a3, e1, e2, e3⟩ := hil.shapes
  have HQ2 := Lib.hid (HQ1.out.stay k2)
  unfold Im.agg
  rw [e1, e2, e3]
  clear DU k2 him hil e1 e2 e3 HQ1
  have F4 := fun w' => field_im4 w' (.int .u64 im.now) (.int .u64 im.ng) (.int .u64 im.nt) (.slice A1 im.ses.length a1) (.slice A2 im.gs.length a2) (.slice A3 im.built.length a3)
  by_cases hfull : 16 ≤ im.gs.length
  · have hf2 : (16 : Int) ≤ (im.gs.length : Int) := by omega
    have HF := Lib.hid (HKW.out.trans HQ2.out.keep (fun _ _ h => h))
    go_wp2
    go_ret
    exact ⟨rfl, HF.out⟩
  have hf2 : ¬ ((16 : Int) ≤ (im.gs.length : Int)) := by omega
  have DU := Lib.hid (own_dump HQ2.out)
  go_wp2_with fail
  refine DU.out.mono ?_
  clear F4 hf2 hfull
  rintro e w3 ⟨im, rfl, him, hil, k2⟩
  obtain ⟨A1, a1, A2, a2, A3, a3, e1, e2, e3⟩ := hil.shapes
  have HQ3 := Lib.hid (HQ2.out.stay k2)
  have hgs := (hil.mono (D' := fun i => w2.heap.size ≤ i ∧ i < w3.heap.size) (fun i hi h => ⟨h, hi⟩)).gs
  have hfew := HQ3.out.inv.gsFew
  rw [← him] at hfew
  have hfew : im.gs.length ≤ 16 := by simpa [Im.plain] using hfew
  rw [e2] at hgs
  have HGS := Lib.hid hgs
  have HIM := Lib.hid him
  have HDN : Hid (∀ i, D i → ¬ (w2.heap.size ≤ i ∧ i < w3.heap.size)) := Lib.hid (fun i hd hm => by have := HQ2.out.mine.at_.lt _ hd; omega)
  have HCL3 : Hid (Clr q.plain ((im.gs.drop 0).map Gm.id) q.plain.built q.plain.now q.plain.nt 1099511627776 (1 + (0 : Nat))) := Lib.hid (by
    have := HCL.out
    rw [← him] at this ⊢
    simpa [Im.plain, Gm.plain, Function.comp_def] using this)
  unfold Im.agg
  rw [e1, e2, e3]
  clear DU k2 him hil e1 e2 e3 HQ2 hgs HCL
  have F4 := fun w' => field_im4 w' (.int .u64 im.now) (.int .u64 im.ng) (.int .u64 im.nt) (.slice A1 im.ses.length a1) (.slice A2 im.gs.length a2) (.slice A3 im.built.length a3)
  go_wp2
  clear F4
  go_loopw [9, 47] (fun t i wr => ∃ (k : Nat) (s : Qm) (D2 : Nat → Prop), k ≤ im.gs.length ∧ i = .int .i64 k ∧ t = .int .u64 (1 + (k : Int)) ∧ Own w0 wr D2 p s ∧ (∀ i, D2 i → ¬ (w2.heap.size ≤ i ∧ i < w3.heap.size)) ∧ Keep (fun i => ¬ (w2.heap.size ≤ i ∧ i < w3.heap.size)) w3 wr ∧ Clr s.plain ((im.gs.drop k).map Gm.id) q.plain.built q.plain.now q.plain.nt 1099511627776 (1 + (k : Int))) (fun _ i _ => im.gs.length - (intOf i).toNat)
  case atStart => exact ⟨0, q, D, Nat.zero_le _, rfl, rfl, HQ3.out, HDN.out, Keep.refl _ _, HCL3.out⟩
  case round =>
    obtain ⟨k, s, D2, hk, rfl, rfl, hown, hdn, hkeep, hclr⟩ := hrel
    have HOW := Lib.hid hown
    have HD2 := Lib.hid hdn
    have HKP := Lib.hid hkeep
    have HCR := Lib.hid hclr
    clear hown hdn hclr HQ3 HDN HCL3
    by_cases hlt : k < im.gs.length
    · have hx : im.gs[k]? = some im.gs[k] := List.getElem?_eq_getElem hlt
      have hG := HGS.out.keep hkeep (fun i _ hd hn => hn hd)
      have hidr : 0 ≤ (im.gs[k]).id ∧ (im.gs[k]).id ≤ top := by
        have h1 := (HQI.out.gsIn (im.gs[k]).plain (by rw [← HIM.out]; exact List.mem_of_getElem? (gm_at hx)))
        have h2 := HQI.out.ng
        have h3 : (im.gs[k]).plain.id = (im.gs[k]).id := rfl
        have h4 := h1.1
        have h5 := h1.2.1
        omega
      have hdr : (im.gs.drop k).map Gm.id = (im.gs[k]).id :: (im.gs.drop (k + 1)).map Gm.id := by rw [List.drop_eq_getElem_cons hlt, List.map_cons]
      generalize im.gs[k] = g at *
      obtain ⟨tb, o, rfl, hblk, _, hcell⟩ := hG.1.cell (fun _ => rfl) hx
      have d0 : wr.cell? ⟨tb, o + k * 3, none⟩ = some (.int .u64 g.id) := hcell 0 (by decide)
      have d1 : wr.cell? ⟨tb, o + k * 3 + 1, none⟩ = some g.gv := hcell 1 (by decide)
      have d2 : wr.cell? ⟨tb, o + k * 3 + 2, none⟩ = some g.sv := hcell 2 (by decide)
      have hgl := hG.2 g (List.mem_of_getElem? hx)
      obtain ⟨B1, b1, f1, _⟩ := hgl.1.1
      obtain ⟨B2, b2, f2⟩ := Sts.shape hgl.2
      rw [f1] at d1
      rw [f2] at d2
      have q0 : (0 : Int) ≤ (k : Int) := by omega
      have q1 : (k : Int) < (im.gs.length : Int) := by omega
      have KA := (Keep.refl noneOf wr).alloc (.cells #[.int .u64 g.id, .slice B1 g.ts.length b1, .slice B2 g.st.length b2] 59)
      have HBG := Lib.hid (Box.new wr 59 #[.int .u64 g.id, .slice B1 g.ts.length b1, .slice B2 g.st.length b2])
      have HO1 := Lib.hid (HOW.out.stay KA)
      have HKA := Lib.hid (HKP.out.andNone KA)
      have HCR2 := HCR.out
      rw [hdr] at HCR2
      have HST := Lib.hid (clr_step HCR2 (by omega) (by unfold top; decide) (by unfold top; omega) (c := ((⟨6, 0, 0, .slice none 0 0, [], g.id, 0, false, 0⟩ : Cm).told (1 + (k : Int))).plain) ⟨rfl, rfl, rfl, rfl, zero_tt.1, zero_tt.2⟩)
      have HSW : Hid (w3.heap.size ≤ wr.heap.size) := Lib.hid hkeep.size
      clear hG hx hcell hgl f1 f2 hblk KA hkeep hdr HCR2 HCR
      go_upto_region 10 with fail
      generalize hw : wr.alloc (.cells #[.int .u64 g.id, .slice B1 g.ts.length b1, .slice B2 g.st.length b2] 59) = wg at *
      generalize hx : wr.heap.size = pr at *
      clear hw hx d0 d1 d2
      have g0 := HBG.out.cell 0
      have TD := Lib.hid (told_any w0 wg D2 (fun _ => False) p s HO1.out ⟨6, 0, 0, .slice none 0 0, [], g.id, 0, false, 0⟩ (bcm_lies 6 g.id 0 false hidr zero_tt) (1 + (k : Int)) (by unfold top; omega))
      unfold Cm.agg at TD
      dsimp only at TD
      go_wp2_with fail
      refine TD.out.mono ?_
      rintro e w4 ⟨s3, D3, rfl, ho3, hp3, hs3, kD⟩
      rw [← hp3] at HST
      have HWR : Hid (IntKind.u64.wrap (1 + (k : Int) + 1) = 1 + ((k + 1 : Nat) : Int)) := Lib.hid (by
        show (1 + (k : Int) + 1) % 18446744073709551616 = _
        omega)
      have HO4 := Lib.hid ho3
      have HDN4 : Hid (∀ i, D3 i → ¬ (w2.heap.size ≤ i ∧ i < w3.heap.size)) := Lib.hid (fun i hd hm => (hs3 i hd).elim (fun h => HD2.out i h hm) (fun h => by have := HKA.out.size; omega))
      have HK4 : Hid (Keep (fun i => ¬ (w2.heap.size ≤ i ∧ i < w3.heap.size)) w3 w4) := Lib.hid (HKA.out.trans kD (fun i hi hd hm => HD2.out i hd hm))
      generalize (applyP s.plain _).2.agg = av
      clear TD ho3 hp3 hs3 kD HO1 HBG g0 HKA hidr HOW HD2 HKP
      go_wp2
      go_roundw
      case rel =>
        refine ⟨k + 1, s3, D3, by omega, by go_num, ?_, HO4.out, HDN4.out, HK4.out, ?_⟩
        · rw [show (1 : Int) + (k : Int) + 1 = 1 + ((k + 1 : Nat) : Int) from by omega]
        · have := HST.out
          rw [show (1 : Int) + (k : Int) + 1 = 1 + ((k + 1 : Nat) : Int) from by omega] at this
          exact this
      case measure => simp only [intOf]; omega
    · have hke : k = im.gs.length := by omega
      subst hke
      have hkn : ¬ ((im.gs.length : Int) < (im.gs.length : Int)) := by omega
      have HCE : Hid (Clr s.plain [] q.plain.built q.plain.now q.plain.nt 1099511627776 (1 + (im.gs.length : Int))) := Lib.hid (by simpa using HCR.out)
      obtain ⟨z, hz⟩ : ∃ z : Int, 1 + (im.gs.length : Int) = z := ⟨_, rfl⟩
      have HZ : Hid (1 ≤ z ∧ z ≤ 17) := Lib.hid (by omega)
      rw [hz] at HCE ⊢
      have HOK := HOW.out.keep
      have x0 := (HBX.out.keep HOK id).cell 0
      have HTX := HTS.out.keep HOK (fun _ _ _ h => h)
      have HCM : Cm.lies wr (fun _ => True) ⟨2, 0, 0, .slice B ts.length bc, ts, 0, 0, false, 0⟩ := ⟨HTX, H56.out, H16.out, zero_tt, zero_tt, zero_tt, zero_tt, zero_tt⟩
      have TD := told_any w0 wr D2 (fun _ => True) p s HOW.out ⟨2, 0, 0, .slice B ts.length bc, ts, 0, 0, false, 0⟩ HCM z (by have := HZ.out; unfold top; omega)
      obtain ⟨r, hr⟩ : ∃ r, applyP s.plain ((⟨2, 0, 0, .slice B ts.length bc, ts, 0, 0, false, 0⟩ : Cm).told z).plain = r := ⟨_, rfl⟩
      have HDB : Hid (r.2.code = 0 → Dbl r.1 s.plain.gs.length r.2.id (ts.map Tg.plain) [] ts.length ∧ Behind r.1 1099511627776 (z + 1)) := Lib.hid (fun h0 => by
        have h1 := HNW.out
        have h2 := H56.out
        unfold reachBytes at h2
        have := clr_submit_dbl HCE.out (by have := HZ.out; omega) (by unfold top; decide) (by have := HZ.out; unfold top; omega) (c := ((⟨2, 0, 0, .slice B ts.length bc, ts, 0, 0, false, 0⟩ : Cm).told z).plain) ⟨rfl, rfl, rfl, zero_tt.1, zero_tt.2⟩ (by rw [hr]; exact h0) (by unfold late; omega) (by show q.plain.nt + ((ts.map Tg.plain).length : Int) < top; rw [List.length_map]; unfold top; omega)
        rw [hr] at this
        have h3 : (ts.map Tg.plain).length = ts.length := List.length_map _
        rw [← h3]
        exact this)
      unfold Told2 at TD
      rw [hr] at TD
      obtain ⟨Qa, ac, ai, at1, au, ag, am⟩ := r
      unfold Cm.agg An.agg at TD
      dsimp only at TD HDB
      replace TD := Lib.hid TD
      have HWX := Lib.hid HOK.size
      clear hlt HKP HD2 HOK HTX HCM hr hz hk hkeep hfew HCE HCR HGS HIM HQI HNW
      go_wp2_with fail
      refine TD.out.mono ?_
      rintro e w4 ⟨s3, D3, rfl, ho3, hp3, hs3, kD⟩
      have KC := (Keep.refl noneOf w4).alloc (.cells #[.int .i64 ac, .int .u64 ai, .int .u64 at1, .int .u64 au, .string ag, .string am] 40)
      have HBA := Lib.hid (Box.new w4 40 #[.int .i64 ac, .int .u64 ai, .int .u64 at1, .int .u64 au, .string ag, .string am])
      have HFA := Lib.hid (ho3.free (Nat.le_refl w4.heap.size))
      have HO4 := Lib.hid (ho3.stay KC)
      have HP4 := Lib.hid hp3
      clear TD ho3 hp3 hs3 kD KC HOW x0 HWX
      go_upto_region 14 with fail
      generalize hw : w4.alloc (.cells #[.int .i64 ac, .int .u64 ai, .int .u64 at1, .int .u64 au, .string ag, .string am] 40) = v4 at *
      generalize hx : w4.heap.size = pa at *
      clear hw hx
      have f0 := HBA.out.cell 0
      by_cases hac : ac = 0
      case neg =>
        have hb0 : (ac != 0) = true := bne_iff_ne.2 hac
        have HF := Lib.hid (HKW.out.trans HO4.out.keep (fun _ _ h => h))
        clear hac
        go_wp2
        go_ret
        exact ⟨rfl, HF.out⟩
      subst hac
      obtain ⟨hdb, hbh⟩ := HDB.out rfl
      rw [← HP4.out] at hdb hbh
      have HDL := Lib.hid hdb
      have HBH := Lib.hid hbh
      generalize s.plain.gs.length = i0 at *
      obtain ⟨iS, hiS, hzS, hsS, hbS⟩ := info_parts strinfoB
      have hft := Many.few (enc := Tg.cells) (k := 3) HTS.out.1
      unfold maxLen at hft
      have HW04 := Lib.hid HO4.out.keep.size
      have HIS := Lib.hid (And.intro hiS (And.intro hzS (And.intro hsS hbS)))
      clear hdb hbh HDB HP4 hiS hzS hsS hbS
      go_wp2
      clear f0
      go_loopw [9, 13, 14] (fun t F i wr => ∃ (n : Nat) (s : Qm) (D : Nat → Prop) (fs : List ByteArray), n ≤ ts.length ∧ i = .int .i64 n ∧ t = .int .u64 (z + 2 * (n : Int)) ∧ fs.length ≤ n ∧ Own w0 wr D p s ∧ ¬ D pa ∧ v4.heap.size ≤ wr.heap.size ∧ Box wr pa 40 #[.int .i64 0, .int .u64 ai, .int .u64 at1, .int .u64 au, .string ag, .string am] ∧
          wr.ownsRow v4.heap.size 9 1 F fs.length (fs.flatMap estr) ∧ (∀ g, F.ownBlock = some g → ¬ D g) ∧ Dbl s.plain i0 ai (ts.map Tg.plain) fs (ts.length - n) ∧ Behind s.plain 1099511627776 (z + 1 + 2 * (n : Int))) (fun _ _ i _ => ts.length + 1 - (intOf i).toNat)
      case atStart => exact ⟨0, s3, D3, [], Nat.zero_le _, rfl, by simp, Nat.le_refl _, HO4.out, HFA.out, Nat.le_refl _, HBA.out, World.ownsRow_nil _ _ _ _, (fun g hg => by cases hg), HDL.out, by simpa using HBH.out⟩
      case round =>
        obtain ⟨n, s, D5, fs, hn, rfl, rfl, hfs, hown, hpa, hsz, hba, hrow, hnd, hdb, hbh⟩ := hrel
        have HOW := Lib.hid hown
        have HPA := Lib.hid hpa
        have HBA5 := Lib.hid hba
        have HRW := Lib.hid hrow
        have HND := Lib.hid hnd
        have HDL5 := Lib.hid hdb
        have HBH5 := Lib.hid hbh
        have HSZ := Lib.hid hsz
        obtain ⟨FA, fc, rfl⟩ := own_shape hrow
        have HPV : Hid (pa < v4.heap.size) := Lib.hid HBA.out.lt
        clear hown hpa hba hrow hnd hdb hbh HO4 HFA HDL HBH hsz
        have x0 := (HBX.out.keep HOW.out.keep id).cell 0
        have q1 : (n : Int) ≤ (ts.length : Int) := by omega
        obtain ⟨s0, hs0⟩ : ∃ s0 : Int, z + 2 * (n : Int) = s0 := ⟨_, rfl⟩
        have H56' := H56.out
        unfold reachBytes at H56'
        have HS0 : Hid (1 ≤ s0 ∧ s0 ≤ 1152921504606846976) := Lib.hid (by have := HZ.out; omega)
        clear H56'
        have HSN := Lib.hid hs0
        have hb1 : z + 1 + 2 * (n : Int) = s0 + 1 := by omega
        rw [hb1] at HBH5
        rw [hs0]
        clear hb1 hs0
        have HW1 : Hid (IntKind.u64.wrap (s0 + 1) = s0 + 1) := Lib.hid (by
          have := HS0.out
          show (s0 + 1) % 18446744073709551616 = s0 + 1
          omega)
        have HW2 : Hid (IntKind.u64.wrap (s0 + 1 + 1) = s0 + 2) := Lib.hid (by
          have := HS0.out
          show (s0 + 1 + 1) % 18446744073709551616 = s0 + 2
          omega)
        go_upto_region 21 with fail
        rw [HW1.out]
        have TD := told_any w0 wr D5 (fun _ => False) p s HOW.out ⟨3, 0, 0, .slice none 0 0, [], 0, 0, false, 0⟩ (bcm_lies 3 0 0 false zero_tt zero_tt) (s0 + 1) (by have := HS0.out; unfold top; omega)
        obtain ⟨a, ha⟩ : ∃ a, applyP s.plain ((⟨3, 0, 0, .slice none 0 0, [], 0, 0, false, 0⟩ : Cm).told (s0 + 1)).plain = a := ⟨_, rfl⟩
        have HCT := told_tok HDL5.out.inv (c := ((⟨3, 0, 0, .slice none 0 0, [], 0, 0, false, 0⟩ : Cm).told (s0 + 1)).plain) rfl HBH5.out (by show 1 ≤ s0 + 1; have := HS0.out; omega)
        have WR : ∀ well : Bool, _ := fun well => dbl_told HDL5.out HBH5.out (by have := HS0.out; omega) (by unfold top; decide) (by have := HS0.out; unfold top; omega) (c := ((⟨3, 0, 0, .slice none 0 0, [], 0, 0, false, 0⟩ : Cm).told (s0 + 1)).plain) (c' := ((⟨5, 0, 0, .slice none 0 0, [], 0, a.2.tok, well, 0⟩ : Cm).told (s0 + 2)).plain) ⟨rfl, rfl, rfl, zero_tt.1, zero_tt.2⟩ ⟨rfl, rfl, by show s0 + 2 = s0 + 1 + 1; omega, zero_tt.1, zero_tt.2⟩ (by rw [ha]; rfl)
        unfold Told2 at TD
        rw [ha] at TD WR HCT
        obtain ⟨Qc, cc0, ci, ct, cu, cg, cm⟩ := a
        unfold Cm.agg An.agg at TD
        dsimp only at TD WR HCT
        replace TD := Lib.hid TD
        have HWR := Lib.hid WR
        have HTK := Lib.hid HCT
        clear ha WR HCT
        go_wp2_with fail
        refine TD.out.mono ?_
        rintro e w6 ⟨s5, D6, rfl, ho5, hp5, hs5, kD⟩
        have KC := (Keep.refl noneOf w6).alloc (.cells #[.int .i64 cc0, .int .u64 ci, .int .u64 ct, .int .u64 cu, .string cg, .string cm] 40)
        have HBC := Lib.hid (Box.new w6 40 #[.int .i64 cc0, .int .u64 ci, .int .u64 ct, .int .u64 cu, .string cg, .string cm])
        have HFC := Lib.hid (ho5.free (Nat.le_refl w6.heap.size))
        have HPA6 : Hid (¬ D6 pa) := Lib.hid (fun hd => (hs5 _ hd).elim HPA.out (fun h => by have := HPV.out; have := HSZ.out; omega))
        have HBA6 := Lib.hid ((HBA5.out.keep kD HPA.out).keep KC (fun h => h))
        have HRW6 := Lib.hid (own_keep (own_keep HRW.out kD HND.out) KC (fun _ _ h => h))
        have HND6 : Hid (∀ g, (Value.slice FA fs.length fc).ownBlock = some g → ¬ D6 g) := Lib.hid (fun g hg hd => (hs5 _ hd).elim (HND.out g hg) (fun h => by have := (HRW.out.lt g hg).2; omega))
        have HO6 := Lib.hid (ho5.stay KC)
        have HP6 := Lib.hid hp5
        have HFCN : Hid (¬ (Value.slice FA fs.length fc).ownBlock = some w6.heap.size) := Lib.hid (fun e => by have h1 := (HRW.out.lt _ e).2; have h2 := kD.size; omega)
        have HSZ6 : Hid (v4.heap.size ≤ w6.heap.size) := Lib.hid (Nat.le_trans HSZ.out kD.size)
        clear TD ho5 hp5 hs5 kD KC HOW HPA HBA5 HRW HND HDL5 HBH5 x0 HSZ
        go_upto_region 22 with fail
        generalize hw : w6.alloc (.cells #[.int .i64 cc0, .int .u64 ci, .int .u64 ct, .int .u64 cu, .string cg, .string cm] 40) = v6 at *
        have HSV : Hid (w6.heap.size < v6.heap.size) := Lib.hid (by rw [← hw]; simp)
        generalize hx : w6.heap.size = pc at *
        clear hw hx
        have f0 := HBC.out.cell 0
        rcases HWR.out false with ⟨hc, _, hdl, hrd, hbh⟩ | ⟨hc, _⟩
        · subst hc
          rw [← HP6.out] at hdl hrd
          have HEND := Lib.hid (dbl_end hdl hrd)
          clear hdl hrd hbh HWR
          obtain ⟨g', hg', hid', hln', hov', hall'⟩ := HEND.out
          have HFI : findG s5.plain ai = some i0 := by rw [← hid']; exact findG_at HO6.out.inv.gsUp hg'
          have HVW : viewP s5.plain ai = (0, s5.plain.now, g'.st) := by
            unfold viewP
            rw [HFI]
            dsimp only
            rw [getD_some hg']
          have VW := own_view HO6.out ai
          rw [HVW] at VW
          replace VW := Lib.hid VW
          obtain ⟨st, hst0⟩ : ∃ st, g'.st = st := ⟨_, rfl⟩
          rw [hst0] at VW hln' hov' hall'
          rw [List.length_map] at hln'
          have HLN := Lib.hid hln'
          have HAL := Lib.hid hall'
          have HOV := Lib.hid hov'
          have hne : (((st.length : Nat) : Int) != ((ts.length : Nat) : Int)) = false := by rw [hln']; simp
          have a1 := HBA6.out.cell 1
          clear HEND HVW HFI hst0 hln' hall' hov' hg' hid'
          go_wp2_with fail
          refine VW.out.mono ?_
          rintro e w7 ⟨A5, c5, rfl, hst, k7⟩
          dsimp only at hst ⊢
          have OV := refOver_any w7 _ _ _ hst
          rw [HOV.out] at OV
          replace OV := Lib.hid OV
          have HST := Lib.hid hst
          have HFS := hst.few
          have HO7 := Lib.hid (HO6.out.stay k7)
          have HRW7 := Lib.hid (own_keep HRW6.out k7 (fun _ _ h => h))
          have x0 := (HBX.out.keep HO7.out.keep id).cell 0
          have F2v := fun w' => field_vw2 w' (.int .i64 0) (.int .u64 s5.plain.now) (.slice A5 st.length c5)
          clear VW hst k7 HO6 HRW6 a1 f0 HBA6 HBC HOV
          go_wp2_with fail
          refine OV.out.mono ?_
          rintro e w8 ⟨rfl, k8⟩
          have HO8 := Lib.hid (HO7.out.stay k8)
          have HST8 := Lib.hid (HST.out.keep k8 (fun _ _ _ h => h))
          have HRW8 := Lib.hid (own_keep HRW7.out k8 (fun _ _ h => h))
          have HTS8 := Lib.hid (HTS.out.keep HO8.out.keep (fun _ _ _ h => h))
          have HBX8 := Lib.hid (HBX.out.keep HO8.out.keep id)
          have hfs8 := Many.few (enc := Pst.cells) (k := 3) HST8.out
          have hff8 := Many.few (enc := estr) (k := 1) (Row.of_own HRW8.out)
          unfold maxLen at hfs8 hff8
          clear OV k8 HO7 HST HRW7 x0 HFS
          go_wp2
          clear F2v hne
          go_loopw [145] (fun i wr => ∃ (k : Nat), k ≤ st.length ∧ i = .int .i64 k ∧ Keep noneOf w8 wr) (fun i _ => st.length - (intOf i).toNat)
          case atStart => exact ⟨0, Nat.zero_le _, rfl, Keep.refl _ _⟩
          case round =>
            obtain ⟨k, hk, rfl, hkeep⟩ := hrel
            have HKP := Lib.hid hkeep
            by_cases hlt : k < st.length
            · have hx : st[k]? = some st[k] := List.getElem?_eq_getElem hlt
              have hlt2 : k < ts.length := by have := HLN.out; omega
              have hy : ts[k]? = some ts[k] := List.getElem?_eq_getElem hlt2
              have hal := HAL.out k st[k] ts[k].plain hx (by rw [List.getElem?_map, hy]; rfl)
              generalize st[k] = x at *
              generalize ts[k] = t at *
              have hS : Many Pst.cells 3 wr _ _ st := HST8.out.keep hkeep (fun _ _ _ h => h)
              obtain ⟨sb, so, eS, hsblk, _, hscell⟩ := hS.cell (fun _ => rfl) hx
              have hT : Many Tg.cells 3 wr _ _ ts := (HTS8.out.keep hkeep (fun _ _ _ h => h)).1
              have htl := (HTS8.out.keep hkeep (fun _ _ _ h => h)).2 t (List.mem_of_getElem? hy)
              obtain ⟨tb, tof, eB, htblk, _, htcell⟩ := hT.cell (fun _ => rfl) hy
              obtain ⟨N, nc, eN, _⟩ := htl.2.2.1
              have hnd : Many estr 1 wr (fun _ => True) t.nv t.needs := by
                unfold Many
                rw [strs_fm]
                exact htl.2.2.1
              have hnf := hnd.few
              unfold maxLen at hnf
              have d0 : wr.cell? ⟨sb, so + k * 3, none⟩ = some (.int .i64 x.s) := hscell 0 (by decide)
              have d1 : wr.cell? ⟨sb, so + k * 3 + 1, none⟩ = some (.int .u64 x.t) := hscell 1 (by decide)
              have d2 : wr.cell? ⟨sb, so + k * 3 + 2, none⟩ = some (.int .u64 x.u) := hscell 2 (by decide)
              have q0 : (0 : Int) ≤ (k : Int) := by omega
              have q1 : (k : Int) < (st.length : Int) := by omega
              have q2 : (k : Int) < (ts.length : Int) := by omega
              have KX := (Keep.refl noneOf wr).alloc (.cells #[.int .i64 x.s, .int .u64 x.t, .int .u64 x.u] 64)
              have HPX := Lib.hid (Box.new wr 64 #[.int .i64 x.s, .int .u64 x.t, .int .u64 x.u])
              have HKX := Lib.hid (hkeep.trans KX (fun _ _ h => h))
              have HS2 := Lib.hid (hS.keep KX (fun _ _ _ h => h))
              have HT2 := Lib.hid (hT.keep KX (fun _ _ _ h => h))
              have HN2 := Lib.hid (hnd.keep KX (fun _ _ _ h => h))
              have HTC : Hid (∀ w', Keep noneOf (wr.alloc (.cells #[.int .i64 x.s, .int .u64 x.t, .int .u64 x.u] 64)) w' → w'.cell? ⟨tb, tof + k * 3, none⟩ = some (.string t.name) ∧ w'.cell? ⟨tb, tof + k * 3 + 2, none⟩ = some (.slice N t.needs.length nc)) := Lib.hid fun w' k' => by
                have h1 := ((KX.trans k' (fun _ _ h => h)).cell (p := ⟨tb, tof + (k * 3 + 0), none⟩) htblk (fun h => h)).trans (htcell 0 (by decide))
                have h2 := ((KX.trans k' (fun _ _ h => h)).cell (p := ⟨tb, tof + (k * 3 + 2), none⟩) htblk (fun h => h)).trans (htcell 2 (by decide))
                rw [← eN]
                exact ⟨h1, h2⟩
              have HAX := Lib.hid hal
              have HES := Lib.hid eS
              have HEB := Lib.hid eB
              have HEN := Lib.hid eN
              have HY := Lib.hid hy
              rw [eS] at ⊢
              clear hx hy hal hS hT htl hnd hscell htcell hsblk htblk KX eS eB eN hlt2 hkeep
              go_upto_region 36 with fail
              generalize hw : wr.alloc (.cells #[.int .i64 x.s, .int .u64 x.t, .int .u64 x.u] 64) = wx at *
              generalize hz : wr.heap.size = px at *
              clear hw hz d0 d1 d2
              have x0 := (HBX8.out.keep HKX.out id).cell 0
              rw [HEB.out] at x0
              have t2 := (HTC.out wx (Keep.refl _ _)).2
              go_wp2
              go_loopw [21, 157] (fun l i wr => ∃ (j : Nat) (b : Bool), j ≤ t.needs.length ∧ i = .int .i64 j ∧ l = .bool b ∧ Keep noneOf wx wr ∧ (b = true ↔ ∃ j', j' < j ∧ ∃ s, t.needs[j']? = some s ∧ LostP ts st s)) (fun _ i _ => t.needs.length - (intOf i).toNat)
              case atStart => exact ⟨0, false, Nat.zero_le _, rfl, rfl, Keep.refl _ _, by simp⟩
              case round =>
                clear x0 t2
                obtain ⟨j, b, hj, rfl, rfl, hkj, hb⟩ := hrel
                obtain ⟨wj, rfl⟩ : ∃ wj, wj = wr := ⟨_, rfl⟩
                have HKJ := Lib.hid hkj
                have HB := Lib.hid hb
                clear hb
                by_cases hlj : j < t.needs.length
                · have hs : t.needs[j]? = some t.needs[j] := List.getElem?_eq_getElem hlj
                  generalize t.needs[j] = sn at *
                  have hN := HN2.out.keep hkj (fun _ _ _ h => h)
                  rw [HEN.out] at hN
                  obtain ⟨nb, no, eN2, hnblk, _, hncell⟩ := hN.cell (fun _ => rfl) hs
                  have HNC : Hid (∀ w', Keep noneOf wj w' → w'.cell? ⟨nb, no + j, none⟩ = some (.string sn)) := Lib.hid fun w' k' => by
                    have := (k'.cell (p := ⟨nb, no + (j * 1 + 0), none⟩) hnblk (fun h => h)).trans (hncell 0 (by decide))
                    simpa [estr] using this
                  have HN3 := Lib.hid eN2
                  have HSN2 := Lib.hid hs
                  have q3 : (0 : Int) ≤ (j : Int) := by omega
                  have q4 : (j : Int) < (t.needs.length : Int) := by omega
                  have x0 := ((HBX8.out.keep HKX.out id).keep hkj id).cell 0
                  clear hs hN hncell hnblk eN2 hkj
                  go_wp2
                  go_loopw [21, 163] (fun l i wq => ∃ (m : Nat) (b2 : Bool), m ≤ ts.length ∧ i = .int .i64 m ∧ l = .bool b2 ∧ Keep noneOf wj wq ∧ (b2 = true ↔ b = true ∨ ∃ n, n < m ∧ ∃ u, ts[n]? = some u ∧ u.name = sn ∧ (st.getD n Pst.zero).s ≠ 3)) (fun _ i _ => ts.length - (intOf i).toNat)
                  case atStart => exact ⟨0, b, Nat.zero_le _, rfl, rfl, Keep.refl _ _, by simp⟩
                  case round =>
                    clear x0
                    obtain ⟨m, b2, hm, rfl, rfl, hkm, hb2⟩ := hrel
                    have HKM := Lib.hid hkm
                    have HB2 := Lib.hid hb2
                    clear hb2
                    by_cases hlm : m < ts.length
                    · have hu : ts[m]? = some ts[m] := List.getElem?_eq_getElem hlm
                      have hlm2 : m < st.length := by have := HLN.out; omega
                      have hy : st[m]? = some st[m] := List.getElem?_eq_getElem hlm2
                      generalize ts[m] = tm at *
                      generalize st[m] = y at *
                      have kxm := HKJ.out.trans hkm (fun _ _ h => h)
                      have hS : Many Pst.cells 3 wr _ _ st := HS2.out.keep kxm (fun _ _ _ h => h)
                      obtain ⟨sb2, so2, eS2, hsblk, _, hscell⟩ := hS.cell (fun _ => rfl) hy
                      have hT : Many Tg.cells 3 wr _ _ ts := HT2.out.keep kxm (fun _ _ _ h => h)
                      rw [HEB.out] at hT
                      obtain ⟨tb2, to2, eB2, htblk, _, htcell⟩ := hT.cell (fun _ => rfl) hu
                      injection eB2 with eB2
                      injection eB2 with eb1 eb2 _
                      subst eb1 eb2
                      rw [HES.out] at eS2
                      injection eS2 with eS2
                      injection eS2 with es1 es2 _
                      subst es1 es2
                      have HUY : Hid (ts[m]? = some tm ∧ st.getD m Pst.zero = y) := Lib.hid ⟨hu, getS_some hy⟩
                      have MC : Hid (∀ w', Keep noneOf wr w' → w'.cell? ⟨pg, 0, none⟩ = some (.slice (some ⟨tb, tof, none⟩) ts.length bc) ∧ w'.cell? ⟨tb, tof + m * 3, none⟩ = some (.string tm.name) ∧ w'.cell? ⟨tb, tof + k * 3 + 2, none⟩ = some (.slice (some ⟨nb, no, none⟩) t.needs.length nc) ∧ w'.cell? ⟨nb, no + j, none⟩ = some (.string sn) ∧ w'.cell? ⟨sb, so + m * 3, none⟩ = some (.int .i64 y.s)) := Lib.hid fun w' k' => by
                        have h1 := ((((HBX8.out.keep HKX.out id).keep HKJ.out id).keep HKM.out id).keep k' id).cell 0
                        rw [HEB.out] at h1
                        have h2 := (k'.cell (p := ⟨tb, tof + (m * 3 + 0), none⟩) htblk (fun h => h)).trans (htcell 0 (by decide))
                        have h3 := (HTC.out w' ((HKJ.out.trans HKM.out (fun _ _ h => h)).trans k' (fun _ _ h => h))).2
                        rw [HN3.out] at h3
                        have h4 := HNC.out w' (HKM.out.trans k' (fun _ _ h => h))
                        have h5 := (k'.cell (p := ⟨sb, so + (m * 3 + 0), none⟩) hsblk (fun h => h)).trans (hscell 0 (by decide))
                        exact ⟨h1, h2, h3, h4, h5⟩
                      have z0 : (0 : Int) ≤ (m : Int) := by omega
                      have z1 : (m : Int) < (ts.length : Int) := by omega
                      have z2 : (m : Int) < (st.length : Int) := by omega
                      have K0 := (Keep.refl noneOf wr).drew
                      clear hu hy hS hT hscell htcell hsblk htblk hlm2 kxm hkm
                      by_cases hnm : tm.name = sn
                      · have nn : (tm.name.toList == sn.toList) = true := by rw [str_beq]; simp [hnm]
                        have HNM := Lib.hid hnm
                        clear hnm
                        obtain ⟨nz, hnz⟩ : ∃ nz, (y.s != 3) = nz := ⟨_, rfl⟩
                        have HNZ := Lib.hid hnz
                        go_upto_region 43 with fail
                        refine wp_region_held_drew (S := fun w' => Keep noneOf wr w') (by kernel_rfl) (K0) (fun hHeld => ?_)
                        refine' wpAnyH_take (i := 0) (v := _) rfl (by kernel_rfl) (by kernel_rfl) (by kernel_rfl) (fun _ _ _ h => h) (Or.inl ⟨by kernel_rfl, ?hy0⟩) (by assumption) ?_
                        case hy0 => intro w' hSw; obtain ⟨_, _, _, _, _⟩ := MC.out w' hSw; go_simp; try with_reducible rfl
                        simp only [Act.put, List.getElem_toArray, List.getElem_cons_zero, List.getElem_cons_succ, List.setIfInBounds_toArray, List.set_cons_zero, List.set_cons_succ]
                        refine' wpAnyH_take (i := 1) (v := _) rfl (by kernel_rfl) (by kernel_rfl) (by kernel_rfl) (fun _ _ _ h => h) (Or.inl ⟨by kernel_rfl, ?hy1⟩) (by assumption) ?_
                        case hy1 => intro w' hSw; obtain ⟨_, _, _, _, _⟩ := MC.out w' hSw; go_simp; try with_reducible rfl
                        simp only [Act.put, List.getElem_toArray, List.getElem_cons_zero, List.getElem_cons_succ, List.setIfInBounds_toArray, List.set_cons_zero, List.set_cons_succ]
                        refine' wpAnyH_take (i := 2) (v := _) rfl (by kernel_rfl) (by kernel_rfl) (by kernel_rfl) (fun _ _ _ h => h) (Or.inl ⟨by kernel_rfl, ?hy2⟩) (by assumption) ?_
                        case hy2 => intro w' hSw; obtain ⟨_, _, _, _, _⟩ := MC.out w' hSw; go_simp; try with_reducible rfl
                        simp only [Act.put, List.getElem_toArray, List.getElem_cons_zero, List.getElem_cons_succ, List.setIfInBounds_toArray, List.set_cons_zero, List.set_cons_succ]
                        refine' wpAnyH_take (i := 3) (v := _) rfl (by kernel_rfl) (by kernel_rfl) (by kernel_rfl) (fun _ _ _ h => h) (Or.inl ⟨by kernel_rfl, ?hy3⟩) (by assumption) ?_
                        case hy3 => intro w' hSw; obtain ⟨_, _, _, _, _⟩ := MC.out w' hSw; go_simp; try with_reducible rfl
                        simp only [Act.put, List.getElem_toArray, List.getElem_cons_zero, List.getElem_cons_succ, List.setIfInBounds_toArray, List.set_cons_zero, List.set_cons_succ]
                        refine' wpAnyH_take (i := 4) (v := _) rfl (by kernel_rfl) (by kernel_rfl) (by kernel_rfl) (fun _ _ _ h => h) (Or.inl ⟨by kernel_rfl, ?hy4⟩) (by assumption) ?_
                        case hy4 => intro w' hSw; obtain ⟨_, _, _, _, _⟩ := MC.out w' hSw; go_simp; try with_reducible rfl
                        simp only [Act.put, List.getElem_toArray, List.getElem_cons_zero, List.getElem_cons_succ, List.setIfInBounds_toArray, List.set_cons_zero, List.set_cons_succ]
                        refine' wpAnyH_take (i := 5) (v := _) rfl (by kernel_rfl) (by kernel_rfl) (by kernel_rfl) (fun _ _ _ h => h) (Or.inl ⟨by kernel_rfl, ?hy5⟩) (by assumption) ?_
                        case hy5 => intro w' hSw; obtain ⟨_, _, _, _, _⟩ := MC.out w' hSw; go_simp; try with_reducible rfl
                        simp only [Act.put, List.getElem_toArray, List.getElem_cons_zero, List.getElem_cons_succ, List.setIfInBounds_toArray, List.set_cons_zero, List.set_cons_succ]
                        refine' wpAnyH_take (i := 6) (v := _) rfl (by kernel_rfl) (by kernel_rfl) (by kernel_rfl) (fun _ _ _ h => h) (Or.inl ⟨by kernel_rfl, ?hy6⟩) (by assumption) ?_
                        case hy6 => intro w' hSw; obtain ⟨_, _, _, _, _⟩ := MC.out w' hSw; go_simp; try with_reducible rfl
                        simp only [Act.put, List.getElem_toArray, List.getElem_cons_zero, List.getElem_cons_succ, List.setIfInBounds_toArray, List.set_cons_zero, List.set_cons_succ]
                        refine' wpAnyH_take (i := 7) (v := _) rfl (by kernel_rfl) (by kernel_rfl) (by kernel_rfl) (fun _ _ _ h => h) (Or.inl ⟨by kernel_rfl, ?hy7⟩) (by assumption) ?_
                        case hy7 => intro w' hSw; obtain ⟨_, _, _, _, _⟩ := MC.out w' hSw; go_simp; try with_reducible rfl
                        simp only [Act.put, List.getElem_toArray, List.getElem_cons_zero, List.getElem_cons_succ, List.setIfInBounds_toArray, List.set_cons_zero, List.set_cons_succ]
                        refine' wpAnyH_take (i := 8) (v := _) rfl (by kernel_rfl) (by kernel_rfl) (by kernel_rfl) (fun _ _ _ h => h) (Or.inl ⟨by kernel_rfl, ?hy8⟩) (by assumption) ?_
                        case hy8 => intro w' hSw; obtain ⟨_, _, _, _, _⟩ := MC.out w' hSw; go_simp; try with_reducible rfl
                        simp only [Act.put, List.getElem_toArray, List.getElem_cons_zero, List.getElem_cons_succ, List.setIfInBounds_toArray, List.set_cons_zero, List.set_cons_succ]
                        refine' wpAnyH_take (i := 9) (v := _) rfl (by kernel_rfl) (by kernel_rfl) (by kernel_rfl) (fun _ _ _ h => h) (Or.inl ⟨by kernel_rfl, ?hy9⟩) (by assumption) ?_
                        case hy9 => intro w' hSw; obtain ⟨_, _, _, _, _⟩ := MC.out w' hSw; go_simp; try with_reducible rfl
                        simp only [Act.put, List.getElem_toArray, List.getElem_cons_zero, List.getElem_cons_succ, List.setIfInBounds_toArray, List.set_cons_zero, List.set_cons_succ]
                        refine' wpAnyH_take (i := 10) (v := _) rfl (by kernel_rfl) (by kernel_rfl) (by kernel_rfl) (fun _ _ _ h => h) (Or.inl ⟨by kernel_rfl, ?hy10⟩) (by assumption) ?_
                        case hy10 => intro w' hSw; obtain ⟨_, _, _, _, _⟩ := MC.out w' hSw; go_simp; try with_reducible rfl
                        simp only [Act.put, List.getElem_toArray, List.getElem_cons_zero, List.getElem_cons_succ, List.setIfInBounds_toArray, List.set_cons_zero, List.set_cons_succ]
                        refine' wpAnyH_take (i := 11) (v := _) rfl (by kernel_rfl) (by kernel_rfl) (by kernel_rfl) (fun _ _ _ h => h) (Or.inl ⟨by kernel_rfl, ?hy11⟩) (by assumption) ?_
                        case hy11 => intro w' hSw; obtain ⟨_, _, _, _, _⟩ := MC.out w' hSw; go_simp; try with_reducible rfl
                        simp only [Act.put, List.getElem_toArray, List.getElem_cons_zero, List.getElem_cons_succ, List.setIfInBounds_toArray, List.set_cons_zero, List.set_cons_succ]
                        refine' wpAnyH_take (i := 12) (v := _) rfl (by kernel_rfl) (by kernel_rfl) (by kernel_rfl) (fun _ _ _ h => h) (Or.inl ⟨by kernel_rfl, ?hy12⟩) (by assumption) ?_
                        case hy12 => intro w' hSw; obtain ⟨_, _, _, _, _⟩ := MC.out w' hSw; go_simp; try with_reducible rfl
                        simp only [Act.put, List.getElem_toArray, List.getElem_cons_zero, List.getElem_cons_succ, List.setIfInBounds_toArray, List.set_cons_zero, List.set_cons_succ]
                        refine' wpAnyH_take (i := 13) (v := _) rfl (by kernel_rfl) (by kernel_rfl) (by kernel_rfl) (fun _ _ _ h => h) (Or.inl ⟨by kernel_rfl, ?hy13⟩) (by assumption) ?_
                        case hy13 => intro w' hSw; obtain ⟨_, _, _, _, _⟩ := MC.out w' hSw; go_simp; try with_reducible rfl
                        simp only [Act.put, List.getElem_toArray, List.getElem_cons_zero, List.getElem_cons_succ, List.setIfInBounds_toArray, List.set_cons_zero, List.set_cons_succ]
                        refine' wpAnyH_take (i := 14) (v := _) rfl (by kernel_rfl) (by kernel_rfl) (by kernel_rfl) (fun _ _ _ h => h) (Or.inl ⟨by kernel_rfl, ?hy14⟩) (by assumption) ?_
                        case hy14 => intro w' hSw; obtain ⟨_, _, _, _, _⟩ := MC.out w' hSw; go_simp; try with_reducible rfl
                        simp only [Act.put, List.getElem_toArray, List.getElem_cons_zero, List.getElem_cons_succ, List.setIfInBounds_toArray, List.set_cons_zero, List.set_cons_succ]
                        refine' wpAnyH_take (i := 15) (v := .bool true) rfl (by kernel_rfl) (by kernel_rfl) (by kernel_rfl) (fun _ _ _ h => h) (Or.inl ⟨by kernel_rfl, ?hy15⟩) (by assumption) ?_
                        case hy15 => intro w' hSw; obtain ⟨_, _, _, _, _⟩ := MC.out w' hSw; first | rfl | (go_simp; try simp only [List.getElem?_cons_zero, Option.getD_some]; try go_simp)
                        simp only [Act.put, List.getElem_toArray, List.getElem_cons_zero, List.getElem_cons_succ, List.setIfInBounds_toArray, List.set_cons_zero, List.set_cons_succ]
                        refine' wpAnyH_take (i := 16) (v := .bool true) rfl (by kernel_rfl) (by kernel_rfl) (by kernel_rfl) (fun _ _ _ h => h) (Or.inl ⟨by kernel_rfl, ?hy16⟩) (by assumption) ?_
                        case hy16 => intro w' hSw; obtain ⟨_, _, _, _, _⟩ := MC.out w' hSw; first | rfl | (go_simp; try simp only [List.getElem?_cons_zero, Option.getD_some]; try go_simp)
                        simp only [Act.put, List.getElem_toArray, List.getElem_cons_zero, List.getElem_cons_succ, List.setIfInBounds_toArray, List.set_cons_zero, List.set_cons_succ]
                        refine' wpAnyH_take (i := 17) (v := _) rfl (by kernel_rfl) (by kernel_rfl) (by kernel_rfl) (fun _ _ _ h => h) (Or.inl ⟨by kernel_rfl, ?hy17⟩) (by assumption) ?_
                        case hy17 => intro w' hSw; obtain ⟨_, _, _, _, _⟩ := MC.out w' hSw; go_simp; try with_reducible rfl
                        simp only [Act.put, List.getElem_toArray, List.getElem_cons_zero, List.getElem_cons_succ, List.setIfInBounds_toArray, List.set_cons_zero, List.set_cons_succ]
                        refine' wpAnyH_take (i := 18) (v := _) rfl (by kernel_rfl) (by kernel_rfl) (by kernel_rfl) (fun _ _ _ h => h) (Or.inl ⟨by kernel_rfl, ?hy18⟩) (by assumption) ?_
                        case hy18 => intro w' hSw; obtain ⟨_, _, _, _, _⟩ := MC.out w' hSw; go_simp; try with_reducible rfl
                        simp only [Act.put, List.getElem_toArray, List.getElem_cons_zero, List.getElem_cons_succ, List.setIfInBounds_toArray, List.set_cons_zero, List.set_cons_succ]
                        refine' wpAnyH_take (i := 19) (v := _) rfl (by kernel_rfl) (by kernel_rfl) (by kernel_rfl) (fun _ _ _ h => h) (Or.inl ⟨by kernel_rfl, ?hy19⟩) (by assumption) ?_
                        case hy19 => intro w' hSw; obtain ⟨_, _, _, _, _⟩ := MC.out w' hSw; go_simp; try with_reducible rfl
                        simp only [Act.put, List.getElem_toArray, List.getElem_cons_zero, List.getElem_cons_succ, List.setIfInBounds_toArray, List.set_cons_zero, List.set_cons_succ]
                        refine' wpAnyH_take (i := 20) (v := _) rfl (by kernel_rfl) (by kernel_rfl) (by kernel_rfl) (fun _ _ _ h => h) (Or.inl ⟨by kernel_rfl, ?hy20⟩) (by assumption) ?_
                        case hy20 => intro w' hSw; obtain ⟨_, _, _, _, _⟩ := MC.out w' hSw; go_simp; try with_reducible rfl
                        simp only [Act.put, List.getElem_toArray, List.getElem_cons_zero, List.getElem_cons_succ, List.setIfInBounds_toArray, List.set_cons_zero, List.set_cons_succ]
                        refine' wpAnyH_take (i := 21) (v := _) rfl (by kernel_rfl) (by kernel_rfl) (by kernel_rfl) (fun _ _ _ h => h) (Or.inl ⟨by kernel_rfl, ?hy21⟩) (by assumption) ?_
                        case hy21 => intro w' hSw; obtain ⟨_, _, _, _, _⟩ := MC.out w' hSw; go_simp; try with_reducible rfl
                        simp only [Act.put, List.getElem_toArray, List.getElem_cons_zero, List.getElem_cons_succ, List.setIfInBounds_toArray, List.set_cons_zero, List.set_cons_succ]
                        refine' wpAnyH_take (i := 22) (v := .bool nz) rfl (by kernel_rfl) (by kernel_rfl) (by kernel_rfl) (fun _ _ _ h => h) (Or.inl ⟨by kernel_rfl, ?hy22⟩) (by assumption) ?_
                        case hy22 => intro w' hSw; obtain ⟨_, _, _, _, _⟩ := MC.out w' hSw; first | rfl | (go_simp; try simp only [List.getElem?_cons_zero, Option.getD_some]; try go_simp)
                        simp only [Act.put, List.getElem_toArray, List.getElem_cons_zero, List.getElem_cons_succ, List.setIfInBounds_toArray, List.set_cons_zero, List.set_cons_succ]
                        refine' wpAnyH_take (i := 23) (v := .bool nz) rfl (by kernel_rfl) (by kernel_rfl) (by kernel_rfl) (fun _ _ _ h => h) (Or.inl ⟨by kernel_rfl, ?hy23⟩) (by assumption) ?_
                        case hy23 => intro w' hSw; obtain ⟨_, _, _, _, _⟩ := MC.out w' hSw; first | rfl | (go_simp; try simp only [List.getElem?_cons_zero, Option.getD_some]; try go_simp)
                        simp only [Act.put, List.getElem_toArray, List.getElem_cons_zero, List.getElem_cons_succ, List.setIfInBounds_toArray, List.set_cons_zero, List.set_cons_succ]
                        refine wpAnyH_done (by kernel_rfl) ?_ _
                        clear MC hHeld hnz nn
                        cases nz with
                        | true =>
                          go_wp2
                          go_roundw
                          case rel =>
                            refine ⟨m + 1, true, by omega, by go_num, rfl, HKM.out.trans K0 (fun _ _ h => h), ⟨fun _ => .inr ⟨m, by omega, tm, HUY.out.1, HNM.out, ?_⟩, fun _ => rfl⟩⟩
                            rw [HUY.out.2]
                            exact bne_iff_ne.1 HNZ.out
                          case measure => simp only [intOf]; omega
                        | false =>
                          go_wp2
                          go_roundw
                          case rel =>
                            refine ⟨m + 1, b2, by omega, by go_num, rfl, HKM.out.trans K0 (fun _ _ h => h), HB2.out.trans (or_congr Iff.rfl ⟨fun ⟨n1, h1, h2⟩ => ⟨n1, by omega, h2⟩, fun ⟨n1, h1, u, h2, h3, h4⟩ => ?_⟩)⟩
                            rcases Nat.lt_or_ge n1 m with h5 | h5
                            · exact ⟨n1, h5, u, h2, h3, h4⟩
                            · obtain rfl : n1 = m := by omega
                              rw [HUY.out.2] at h4
                              exact absurd (bne_iff_ne.2 h4) (by rw [HNZ.out]; decide)
                          case measure => simp only [intOf]; omega
                      · have nn : (tm.name.toList == sn.toList) = false := by rw [str_beq]; simp [hnm]
                        have HNM := Lib.hid hnm
                        clear hnm
                        go_upto_region 43 with fail
                        refine wp_region_held_drew (S := fun w' => Keep noneOf wr w') (by kernel_rfl) (K0) (fun hHeld => ?_)
                        refine' wpAnyH_take (i := 0) (v := _) rfl (by kernel_rfl) (by kernel_rfl) (by kernel_rfl) (fun _ _ _ h => h) (Or.inl ⟨by kernel_rfl, ?hy0⟩) (by assumption) ?_
                        case hy0 => intro w' hSw; obtain ⟨_, _, _, _, _⟩ := MC.out w' hSw; go_simp; try with_reducible rfl
                        simp only [Act.put, List.getElem_toArray, List.getElem_cons_zero, List.getElem_cons_succ, List.setIfInBounds_toArray, List.set_cons_zero, List.set_cons_succ]
                        refine' wpAnyH_take (i := 1) (v := _) rfl (by kernel_rfl) (by kernel_rfl) (by kernel_rfl) (fun _ _ _ h => h) (Or.inl ⟨by kernel_rfl, ?hy1⟩) (by assumption) ?_
                        case hy1 => intro w' hSw; obtain ⟨_, _, _, _, _⟩ := MC.out w' hSw; go_simp; try with_reducible rfl
                        simp only [Act.put, List.getElem_toArray, List.getElem_cons_zero, List.getElem_cons_succ, List.setIfInBounds_toArray, List.set_cons_zero, List.set_cons_succ]
                        refine' wpAnyH_take (i := 2) (v := _) rfl (by kernel_rfl) (by kernel_rfl) (by kernel_rfl) (fun _ _ _ h => h) (Or.inl ⟨by kernel_rfl, ?hy2⟩) (by assumption) ?_
                        case hy2 => intro w' hSw; obtain ⟨_, _, _, _, _⟩ := MC.out w' hSw; go_simp; try with_reducible rfl
                        simp only [Act.put, List.getElem_toArray, List.getElem_cons_zero, List.getElem_cons_succ, List.setIfInBounds_toArray, List.set_cons_zero, List.set_cons_succ]
                        refine' wpAnyH_take (i := 3) (v := _) rfl (by kernel_rfl) (by kernel_rfl) (by kernel_rfl) (fun _ _ _ h => h) (Or.inl ⟨by kernel_rfl, ?hy3⟩) (by assumption) ?_
                        case hy3 => intro w' hSw; obtain ⟨_, _, _, _, _⟩ := MC.out w' hSw; go_simp; try with_reducible rfl
                        simp only [Act.put, List.getElem_toArray, List.getElem_cons_zero, List.getElem_cons_succ, List.setIfInBounds_toArray, List.set_cons_zero, List.set_cons_succ]
                        refine' wpAnyH_take (i := 4) (v := _) rfl (by kernel_rfl) (by kernel_rfl) (by kernel_rfl) (fun _ _ _ h => h) (Or.inl ⟨by kernel_rfl, ?hy4⟩) (by assumption) ?_
                        case hy4 => intro w' hSw; obtain ⟨_, _, _, _, _⟩ := MC.out w' hSw; go_simp; try with_reducible rfl
                        simp only [Act.put, List.getElem_toArray, List.getElem_cons_zero, List.getElem_cons_succ, List.setIfInBounds_toArray, List.set_cons_zero, List.set_cons_succ]
                        refine' wpAnyH_take (i := 5) (v := _) rfl (by kernel_rfl) (by kernel_rfl) (by kernel_rfl) (fun _ _ _ h => h) (Or.inl ⟨by kernel_rfl, ?hy5⟩) (by assumption) ?_
                        case hy5 => intro w' hSw; obtain ⟨_, _, _, _, _⟩ := MC.out w' hSw; go_simp; try with_reducible rfl
                        simp only [Act.put, List.getElem_toArray, List.getElem_cons_zero, List.getElem_cons_succ, List.setIfInBounds_toArray, List.set_cons_zero, List.set_cons_succ]
                        refine' wpAnyH_take (i := 6) (v := _) rfl (by kernel_rfl) (by kernel_rfl) (by kernel_rfl) (fun _ _ _ h => h) (Or.inl ⟨by kernel_rfl, ?hy6⟩) (by assumption) ?_
                        case hy6 => intro w' hSw; obtain ⟨_, _, _, _, _⟩ := MC.out w' hSw; go_simp; try with_reducible rfl
                        simp only [Act.put, List.getElem_toArray, List.getElem_cons_zero, List.getElem_cons_succ, List.setIfInBounds_toArray, List.set_cons_zero, List.set_cons_succ]
                        refine' wpAnyH_take (i := 7) (v := _) rfl (by kernel_rfl) (by kernel_rfl) (by kernel_rfl) (fun _ _ _ h => h) (Or.inl ⟨by kernel_rfl, ?hy7⟩) (by assumption) ?_
                        case hy7 => intro w' hSw; obtain ⟨_, _, _, _, _⟩ := MC.out w' hSw; go_simp; try with_reducible rfl
                        simp only [Act.put, List.getElem_toArray, List.getElem_cons_zero, List.getElem_cons_succ, List.setIfInBounds_toArray, List.set_cons_zero, List.set_cons_succ]
                        refine' wpAnyH_take (i := 8) (v := _) rfl (by kernel_rfl) (by kernel_rfl) (by kernel_rfl) (fun _ _ _ h => h) (Or.inl ⟨by kernel_rfl, ?hy8⟩) (by assumption) ?_
                        case hy8 => intro w' hSw; obtain ⟨_, _, _, _, _⟩ := MC.out w' hSw; go_simp; try with_reducible rfl
                        simp only [Act.put, List.getElem_toArray, List.getElem_cons_zero, List.getElem_cons_succ, List.setIfInBounds_toArray, List.set_cons_zero, List.set_cons_succ]
                        refine' wpAnyH_take (i := 9) (v := _) rfl (by kernel_rfl) (by kernel_rfl) (by kernel_rfl) (fun _ _ _ h => h) (Or.inl ⟨by kernel_rfl, ?hy9⟩) (by assumption) ?_
                        case hy9 => intro w' hSw; obtain ⟨_, _, _, _, _⟩ := MC.out w' hSw; go_simp; try with_reducible rfl
                        simp only [Act.put, List.getElem_toArray, List.getElem_cons_zero, List.getElem_cons_succ, List.setIfInBounds_toArray, List.set_cons_zero, List.set_cons_succ]
                        refine' wpAnyH_take (i := 10) (v := _) rfl (by kernel_rfl) (by kernel_rfl) (by kernel_rfl) (fun _ _ _ h => h) (Or.inl ⟨by kernel_rfl, ?hy10⟩) (by assumption) ?_
                        case hy10 => intro w' hSw; obtain ⟨_, _, _, _, _⟩ := MC.out w' hSw; go_simp; try with_reducible rfl
                        simp only [Act.put, List.getElem_toArray, List.getElem_cons_zero, List.getElem_cons_succ, List.setIfInBounds_toArray, List.set_cons_zero, List.set_cons_succ]
                        refine' wpAnyH_take (i := 11) (v := _) rfl (by kernel_rfl) (by kernel_rfl) (by kernel_rfl) (fun _ _ _ h => h) (Or.inl ⟨by kernel_rfl, ?hy11⟩) (by assumption) ?_
                        case hy11 => intro w' hSw; obtain ⟨_, _, _, _, _⟩ := MC.out w' hSw; go_simp; try with_reducible rfl
                        simp only [Act.put, List.getElem_toArray, List.getElem_cons_zero, List.getElem_cons_succ, List.setIfInBounds_toArray, List.set_cons_zero, List.set_cons_succ]
                        refine' wpAnyH_take (i := 12) (v := _) rfl (by kernel_rfl) (by kernel_rfl) (by kernel_rfl) (fun _ _ _ h => h) (Or.inl ⟨by kernel_rfl, ?hy12⟩) (by assumption) ?_
                        case hy12 => intro w' hSw; obtain ⟨_, _, _, _, _⟩ := MC.out w' hSw; go_simp; try with_reducible rfl
                        simp only [Act.put, List.getElem_toArray, List.getElem_cons_zero, List.getElem_cons_succ, List.setIfInBounds_toArray, List.set_cons_zero, List.set_cons_succ]
                        refine' wpAnyH_take (i := 13) (v := _) rfl (by kernel_rfl) (by kernel_rfl) (by kernel_rfl) (fun _ _ _ h => h) (Or.inl ⟨by kernel_rfl, ?hy13⟩) (by assumption) ?_
                        case hy13 => intro w' hSw; obtain ⟨_, _, _, _, _⟩ := MC.out w' hSw; go_simp; try with_reducible rfl
                        simp only [Act.put, List.getElem_toArray, List.getElem_cons_zero, List.getElem_cons_succ, List.setIfInBounds_toArray, List.set_cons_zero, List.set_cons_succ]
                        refine' wpAnyH_take (i := 14) (v := _) rfl (by kernel_rfl) (by kernel_rfl) (by kernel_rfl) (fun _ _ _ h => h) (Or.inl ⟨by kernel_rfl, ?hy14⟩) (by assumption) ?_
                        case hy14 => intro w' hSw; obtain ⟨_, _, _, _, _⟩ := MC.out w' hSw; go_simp; try with_reducible rfl
                        simp only [Act.put, List.getElem_toArray, List.getElem_cons_zero, List.getElem_cons_succ, List.setIfInBounds_toArray, List.set_cons_zero, List.set_cons_succ]
                        refine' wpAnyH_take (i := 15) (v := .bool false) rfl (by kernel_rfl) (by kernel_rfl) (by kernel_rfl) (fun _ _ _ h => h) (Or.inl ⟨by kernel_rfl, ?hy15⟩) (by assumption) ?_
                        case hy15 => intro w' hSw; obtain ⟨_, _, _, _, _⟩ := MC.out w' hSw; first | rfl | (go_simp; try simp only [List.getElem?_cons_zero, Option.getD_some]; try go_simp)
                        simp only [Act.put, List.getElem_toArray, List.getElem_cons_zero, List.getElem_cons_succ, List.setIfInBounds_toArray, List.set_cons_zero, List.set_cons_succ]
                        refine' wpAnyH_take (i := 16) (v := .bool false) rfl (by kernel_rfl) (by kernel_rfl) (by kernel_rfl) (fun _ _ _ h => h) (Or.inl ⟨by kernel_rfl, ?hy16⟩) (by assumption) ?_
                        case hy16 => intro w' hSw; obtain ⟨_, _, _, _, _⟩ := MC.out w' hSw; first | rfl | (go_simp; try simp only [List.getElem?_cons_zero, Option.getD_some]; try go_simp)
                        simp only [Act.put, List.getElem_toArray, List.getElem_cons_zero, List.getElem_cons_succ, List.setIfInBounds_toArray, List.set_cons_zero, List.set_cons_succ]
                        refine' wpAnyH_take (i := 17) (v := _) rfl (by kernel_rfl) (by kernel_rfl) (by kernel_rfl) (fun _ _ _ h => h) (Or.inr ⟨by kernel_rfl, rfl⟩) (by assumption) ?_
                        simp only [Act.put, List.getElem_toArray, List.getElem_cons_zero, List.getElem_cons_succ, List.setIfInBounds_toArray, List.set_cons_zero, List.set_cons_succ]
                        refine' wpAnyH_take (i := 18) (v := _) rfl (by kernel_rfl) (by kernel_rfl) (by kernel_rfl) (fun _ _ _ h => h) (Or.inr ⟨by kernel_rfl, rfl⟩) (by assumption) ?_
                        simp only [Act.put, List.getElem_toArray, List.getElem_cons_zero, List.getElem_cons_succ, List.setIfInBounds_toArray, List.set_cons_zero, List.set_cons_succ]
                        refine' wpAnyH_take (i := 19) (v := _) rfl (by kernel_rfl) (by kernel_rfl) (by kernel_rfl) (fun _ _ _ h => h) (Or.inr ⟨by kernel_rfl, rfl⟩) (by assumption) ?_
                        simp only [Act.put, List.getElem_toArray, List.getElem_cons_zero, List.getElem_cons_succ, List.setIfInBounds_toArray, List.set_cons_zero, List.set_cons_succ]
                        refine' wpAnyH_take (i := 20) (v := _) rfl (by kernel_rfl) (by kernel_rfl) (by kernel_rfl) (fun _ _ _ h => h) (Or.inr ⟨by kernel_rfl, rfl⟩) (by assumption) ?_
                        simp only [Act.put, List.getElem_toArray, List.getElem_cons_zero, List.getElem_cons_succ, List.setIfInBounds_toArray, List.set_cons_zero, List.set_cons_succ]
                        refine' wpAnyH_take (i := 21) (v := _) rfl (by kernel_rfl) (by kernel_rfl) (by kernel_rfl) (fun _ _ _ h => h) (Or.inr ⟨by kernel_rfl, rfl⟩) (by assumption) ?_
                        simp only [Act.put, List.getElem_toArray, List.getElem_cons_zero, List.getElem_cons_succ, List.setIfInBounds_toArray, List.set_cons_zero, List.set_cons_succ]
                        refine' wpAnyH_take (i := 22) (v := _) rfl (by kernel_rfl) (by kernel_rfl) (by kernel_rfl) (fun _ _ _ h => h) (Or.inr ⟨by kernel_rfl, rfl⟩) (by assumption) ?_
                        simp only [Act.put, List.getElem_toArray, List.getElem_cons_zero, List.getElem_cons_succ, List.setIfInBounds_toArray, List.set_cons_zero, List.set_cons_succ]
                        refine' wpAnyH_take (i := 23) (v := .bool false) rfl (by kernel_rfl) (by kernel_rfl) (by kernel_rfl) (fun _ _ _ h => h) (Or.inl ⟨by kernel_rfl, ?hy23⟩) (by assumption) ?_
                        case hy23 => intro w' hSw; obtain ⟨_, _, _, _, _⟩ := MC.out w' hSw; first | rfl | (go_simp; try simp only [List.getElem?_cons_zero, Option.getD_some]; try go_simp)
                        simp only [Act.put, List.getElem_toArray, List.getElem_cons_zero, List.getElem_cons_succ, List.setIfInBounds_toArray, List.set_cons_zero, List.set_cons_succ]
                        refine wpAnyH_done (by kernel_rfl) ?_ _
                        clear MC hHeld nn
                        go_wp2
                        go_roundw
                        case rel =>
                          refine ⟨m + 1, b2, by omega, by go_num, rfl, HKM.out.trans K0 (fun _ _ h => h), HB2.out.trans (or_congr Iff.rfl ⟨fun ⟨n1, h1, h2⟩ => ⟨n1, by omega, h2⟩, fun ⟨n1, h1, u, h2, h3, h4⟩ => ?_⟩)⟩
                          rcases Nat.lt_or_ge n1 m with h5 | h5
                          · exact ⟨n1, h5, u, h2, h3, h4⟩
                          · obtain rfl : n1 = m := by omega
                            rw [HUY.out.1] at h2
                            injection h2 with h2
                            subst h2
                            exact absurd h3 HNM.out
                        case measure => simp only [intOf]; omega
                    · have hkm2 : ¬ ((m : Int) < (ts.length : Int)) := by omega
                      have hme : m = ts.length := by omega
                      have HKZ := Lib.hid (HKJ.out.trans hkm (fun _ _ h => h))
                      clear hlm hkm
                      go_wp2
                      go_roundw
                      case rel =>
                        refine ⟨j + 1, b2, by omega, by go_num, rfl, HKZ.out, HB2.out.trans ⟨fun h => ?_, fun ⟨j', h1, s', h2, h3⟩ => ?_⟩⟩
                        · rcases h with h | ⟨n1, h1, u, h2, h3, h4⟩
                          · obtain ⟨j', h5, h6⟩ := HB.out.1 h
                            exact ⟨j', by omega, h6⟩
                          · exact ⟨j, by omega, sn, HSN2.out, n1, u, h2, h3, h4⟩
                        · rcases Nat.lt_or_ge j' j with h5 | h5
                          · exact .inl (HB.out.2 ⟨j', h5, s', h2, h3⟩)
                          · obtain rfl : j' = j := by omega
                            rw [HSN2.out] at h2
                            injection h2 with h2
                            subst h2
                            obtain ⟨n1, u, h6, h7, h8⟩ := h3
                            exact .inr ⟨n1, by rw [hme]; exact (List.getElem?_eq_some_iff.1 h6).1, u, h6, h7, h8⟩
                      case measure => simp only [intOf]; omega
                · have hkj2 : ¬ ((j : Int) < (t.needs.length : Int)) := by omega
                  have hje : j = t.needs.length := by omega
                  have HLO : Hid (b = true ↔ x.s = 5) := Lib.hid (HB.out.trans (Iff.symm (HAX.out.1.trans ⟨fun ⟨s', h1, n1, u, h2, h3, h4⟩ => (by
                    obtain ⟨j', h5⟩ := List.getElem?_of_mem h1
                    obtain ⟨v, hv, rfl⟩ := plain_of h2
                    exact ⟨j', by rw [hje]; exact (List.getElem?_eq_some_iff.1 h5).1, s', h5, n1, v, hv, h3, h4⟩), fun ⟨j', h1, s', h2, n1, u, h3, h4, h5⟩ => ⟨s', List.mem_of_getElem? h2, n1, u.plain, plain_at h3, h4, h5⟩⟩)))
                  have HKN := Lib.hid (HKX.out.trans hkj (fun _ _ h => h))
                  have HRN := Lib.hid (own_keep HRW8.out HKN.out (fun _ _ h => h))
                  clear hlj hkj HB HN2 HS2 HT2
                  go_wp2
                  go_loopw [24, 194] (fun l i wq => ∃ (m : Nat) (b2 : Bool), m ≤ fs.length ∧ i = .int .i64 m ∧ l = .bool b2 ∧ Keep noneOf wj wq ∧ (b2 = true ↔ ∃ n, n < m ∧ fs[n]? = some t.name)) (fun _ i _ => fs.length - (intOf i).toNat)
                  case atStart => exact ⟨0, false, Nat.zero_le _, rfl, rfl, Keep.refl _ _, by simp⟩
                  case round =>
                    obtain ⟨m, b2, hm, rfl, rfl, hkm, hb2⟩ := hrel
                    have HKM := Lib.hid hkm
                    have HB2 := Lib.hid hb2
                    clear hb2
                    have x0 := (((HBX8.out.keep HKX.out id).keep HKJ.out id).keep hkm id).cell 0
                    rw [HEB.out] at x0
                    have p0 := ((HPX.out.keep HKJ.out id).keep hkm id).cell 0
                    have t0 := (HTC.out wr (HKJ.out.trans hkm (fun _ _ h => h))).1
                    by_cases hlm : m < fs.length
                    · have hf : fs[m]? = some fs[m] := List.getElem?_eq_getElem hlm
                      generalize fs[m] = fm at *
                      have hR : Many estr 1 wr _ _ fs := Row.keep (Row.of_own HRN.out) hkm (fun _ _ _ h => h)
                      obtain ⟨fb, fo, rfl, _, _, hfcell⟩ := hR.cell (fun _ => rfl) hf
                      have f0 : wr.cell? ⟨fb, fo + m, none⟩ = some (.string fm) := by
                        have := hfcell 0 (by decide)
                        simpa [estr] using this
                      have z0 : (0 : Int) ≤ (m : Int) := by omega
                      have z1 : (m : Int) < (fs.length : Int) := by omega
                      have HFM := Lib.hid hf
                      clear hR hfcell hf hkm p0
                      cases b2 with
                      | true =>
                        clear x0 t0
                        go_wp2
                        go_roundw
                        case rel =>
                          refine ⟨m + 1, true, by omega, by go_num, rfl, HKM.out, ⟨fun _ => ?_, fun _ => rfl⟩⟩
                          obtain ⟨n1, h1, h2⟩ := HB2.out.1 rfl
                          exact ⟨n1, by omega, h2⟩
                        case measure => simp only [intOf]; omega
                      | false =>
                        by_cases hnm : fm = t.name
                        · have nn : (fm.toList == t.name.toList) = true := by rw [str_beq]; simp [hnm]
                          have HNM := Lib.hid hnm
                          clear hnm
                          go_wp2
                          go_roundw
                          case rel => exact ⟨m + 1, true, by omega, by go_num, rfl, HKM.out, ⟨fun _ => ⟨m, by omega, by rw [HFM.out, HNM.out]⟩, fun _ => rfl⟩⟩
                          case measure => simp only [intOf]; omega
                        · have nn : (fm.toList == t.name.toList) = false := by rw [str_beq]; simp [hnm]
                          have HNM := Lib.hid hnm
                          clear hnm
                          go_wp2
                          go_roundw
                          case rel =>
                            refine ⟨m + 1, false, by omega, by go_num, rfl, HKM.out, HB2.out.trans ⟨fun ⟨n1, h1, h2⟩ => ⟨n1, by omega, h2⟩, fun ⟨n1, h1, h2⟩ => ?_⟩⟩
                            rcases Nat.lt_or_ge n1 m with h5 | h5
                            · exact ⟨n1, h5, h2⟩
                            · obtain rfl : n1 = m := by omega
                              rw [HFM.out] at h2
                              injection h2 with h2
                              exact absurd h2 HNM.out
                          case measure => simp only [intOf]; omega
                    · have hkf : ¬ ((m : Int) < (fs.length : Int)) := by omega
                      have hme : m = fs.length := by omega
                      have HFO : Hid (b2 = true ↔ x.s = 4) := Lib.hid (HB2.out.trans (Iff.symm (HAX.out.2.1.trans ⟨fun h1 => (by
                        obtain ⟨n1, h2⟩ := List.getElem?_of_mem h1
                        exact ⟨n1, by rw [hme]; exact (List.getElem?_eq_some_iff.1 h2).1, h2⟩), fun ⟨n1, h1, h2⟩ => List.mem_of_getElem? h2⟩)))
                      have HKE := Lib.hid ((HKN.out).trans hkm (fun _ _ h => h))
                      obtain ⟨xs, hxs⟩ : ∃ xs, x.s = xs := ⟨_, rfl⟩
                      have H345 := HAX.out.2.2
                      rw [hxs] at HLO HFO p0 H345
                      clear hlm hkm x0 t0 hxs
                      by_cases h5 : xs = 5
                      · have e1 : b = true := HLO.out.2 h5
                        have e2 : b2 = false := by
                          cases b2 with
                          | false => rfl
                          | true => have := HFO.out.1 rfl; omega
                        subst h5 e1 e2
                        clear H345
                        go_wp2
                        go_roundw
                        case rel => exact ⟨k + 1, by omega, by go_num, HKE.out⟩
                        case measure => simp only [intOf]; omega
                      · have e1 : b = false := by
                          cases b with
                          | false => rfl
                          | true => exact absurd (HLO.out.1 rfl) h5
                        by_cases h4 : xs = 4
                        · have e2 : b2 = true := HFO.out.2 h4
                          subst h4 e1 e2
                          clear H345 h5
                          go_wp2
                          go_roundw
                          case rel => exact ⟨k + 1, by omega, by go_num, HKE.out⟩
                          case measure => simp only [intOf]; omega
                        · have e2 : b2 = false := by
                            cases b2 with
                            | false => rfl
                            | true => exact absurd (HFO.out.1 rfl) h4
                          have e3 : xs = 3 := H345.2 ⟨h5, h4⟩
                          subst e3 e1 e2
                          clear H345 h5 h4
                          go_wp2
                          go_roundw
                          case rel => exact ⟨k + 1, by omega, by go_num, HKE.out⟩
                          case measure => simp only [intOf]; omega
            · have hkk : ¬ ((k : Int) < (st.length : Int)) := by omega
              have HF := Lib.hid ((HKW.out.trans HO8.out.keep (fun _ _ h => h)).trans HKP.out (fun _ _ h => h))
              clear hlt hkeep
              go_wp2
              go_ret
              exact ⟨rfl, HF.out⟩
        · subst hc
          by_cases hgl : gl.length ≤ n
          · have q2 : (gl.length : Int) ≤ (n : Int) := by omega
            clear hgl
            have HSZ7 : Hid (v4.heap.size ≤ v6.heap.size) := Lib.hid (Nat.le_trans HSZ6.out (Nat.le_of_lt HSV.out))
            have HO7 := HO6
            have HBA7 := HBA6
            have HBC7 := HBC
            have HRW7 : Hid (v6.ownsRow v4.heap.size 9 1 (.slice FA fs.length fc) fs.length (fs.flatMap estr)) := HRW6
            have HND7 := HND6
            generalize v6 = v7 at *
            generalize FA = FB at *
            generalize fc = fb at *
            clear HO6 HBA6 HBC HRW6 HND6
            have hfs2 : failed fs true cg = fs := rfl
            obtain ⟨b, hb⟩ : ∃ b, applyP Qc ((⟨5, 0, 0, .slice none 0 0, [], 0, ct, true, 0⟩ : Cm).told (s0 + 2)).plain = b := ⟨_, rfl⟩
            have WR := HWR.out true
            rw [hb] at WR
            rcases WR with ⟨hcx, _⟩ | ⟨_, e1, e2, e3, e4, e5, e6⟩
            · exact absurd hcx (by decide)
            obtain ⟨Qr, rc, ri, rt, ru, rg, rm⟩ := b
            dsimp only at e1 e2 e3 e5 e6
            rw [show ((⟨5, 0, 0, .slice none 0 0, [], 0, ct, true, 0⟩ : Cm).told (s0 + 2)).plain.good = true from rfl, hfs2] at e5
            replace e1 := e1.symm
            replace e3 := e3.symm
            subst e1 e2 e3
            have E4 := Lib.hid e4
            have E5 := Lib.hid e5
            have E6 := Lib.hid e6
            have HFL : Hid ((fs).length ≤ n + 1) := Lib.hid (by first | omega | (simp only [List.length_append, List.length_cons, List.length_nil]; omega))
            clear e4 e5 e6
            have TD := told_any w0 v7 D6 (fun _ => False) p s5 HO7.out ⟨5, 0, 0, .slice none 0 0, [], 0, ct, true, 0⟩ (bcm_lies 5 0 ct true zero_tt HTK.out) (s0 + 2) (by have := HS0.out; unfold top; omega)
            unfold Told2 at TD
            rw [HP6.out, hb] at TD
            unfold Cm.agg An.agg at TD
            dsimp only at TD
            replace TD := Lib.hid TD
            clear HWR hb
            have c2 := HBC7.out.cell 2
            go_upto_region 27 with fail
            rw [HW2.out]
            go_wp2_with fail
            refine TD.out.mono ?_
            rintro e w8 ⟨s8, D8, rfl, ho8, hp8, hs8, kD⟩
            have KE := (Keep.refl noneOf w8).alloc (.cells #[.int .i64 0, .int .u64 ri, .int .u64 rt, .int .u64 ru, .string cg, .string rm] 40)
            have HBR := Lib.hid (Box.new w8 40 #[.int .i64 0, .int .u64 ri, .int .u64 rt, .int .u64 ru, .string cg, .string rm])
            have HPA8 : Hid (¬ D8 pa) := Lib.hid (fun hd => (hs8 _ hd).elim HPA6.out (fun h => by have := HBA7.out.lt; omega))
            have HBA8 := Lib.hid ((HBA7.out.keep kD HPA6.out).keep KE (fun h => h))
            have HBC8 := Lib.hid ((HBC7.out.keep kD HFC.out).keep KE (fun h => h))
            have HRW8 := Lib.hid (own_keep (own_keep HRW7.out kD HND7.out) KE (fun _ _ h => h))
            have HND8 : Hid (∀ g, (Value.slice FB (fs.length) fb).ownBlock = some g → ¬ D8 g) := Lib.hid (fun g hg hd => (hs8 _ hd).elim (HND7.out g hg) (fun h => by have := (HRW7.out.lt g hg).2; omega))
            have HO8 := Lib.hid (ho8.stay KE)
            have HP8 := Lib.hid hp8
            have HSZ8 : Hid (v4.heap.size ≤ (w8.alloc (.cells #[.int .i64 0, .int .u64 ri, .int .u64 rt, .int .u64 ru, .string cg, .string rm] 40)).heap.size) := Lib.hid (by have h1 := HSZ7.out; have h2 := kD.size; simp; omega)
            have r0 := HBR.out.cell 0
            have r4 := HBR.out.cell 4
            have a1 := HBA8.out.cell 1
            have b1 := HBC8.out.cell 1
            have b4 := HBC8.out.cell 4
            clear TD ho8 hp8 hs8 kD KE HO7 HBA7 HBC7 HRW7 HND7 HPA6 HFC c2 HSZ7
            go_wp2
            go_roundw
            case rel =>
              refine ⟨n + 1, s8, D8, fs, ?_, by go_num, ?_, HFL.out, HO8.out, HPA8.out, HSZ8.out, HBA8.out, (by first | exact HRW8.out | (rw [List.length_append]; exact HRW8.out)), HND8.out, ?_, ?_⟩
              · have := E4.out; omega
              · rw [show s0 + 2 = z + 2 * ((n + 1 : Nat) : Int) from by have := HSN.out; omega]
              · rw [HP8.out, show ts.length - (n + 1) = ts.length - n - 1 from by omega]
                exact E5.out
              · rw [HP8.out, show z + 1 + 2 * ((n + 1 : Nat) : Int) = s0 + 1 + 2 from by have := HSN.out; omega]
                exact E6.out
            case measure => simp only [intOf]; omega
          · have q2 : ¬ ((gl.length : Int) ≤ (n : Int)) := by omega
            have hx : gl[n]? = some gl[n] := List.getElem?_eq_getElem (by omega)
            obtain ⟨well, hwell⟩ : ∃ well, gl[n] = well := ⟨_, rfl⟩
            rw [hwell] at hx
            obtain ⟨gb, go, rfl, hgblk, _, hgcell⟩ := Many.cell (enc := fun b => [Value.bool b]) (k := 1) (by unfold Many; rw [bools_fm]; exact HGL.out) (fun _ => rfl) hx
            have gc : v6.cell? ⟨gb, go + n, none⟩ = some (.bool well) := by
              have := ((HO6.out.keep).cell (p := ⟨gb, go + (n * 1 + 0), none⟩) hgblk (fun h => h)).trans (hgcell 0 (by decide))
              simpa using this
            have q3 : (0 : Int) ≤ (n : Int) := by omega
            have q4 : (n : Int) < (gl.length : Int) := by omega
            clear hgl hx hwell hgblk hgcell
            cases well with
            | true =>
              have HSZ7 : Hid (v4.heap.size ≤ v6.heap.size) := Lib.hid (Nat.le_trans HSZ6.out (Nat.le_of_lt HSV.out))
              have HO7 := HO6
              have HBA7 := HBA6
              have HBC7 := HBC
              have HRW7 : Hid (v6.ownsRow v4.heap.size 9 1 (.slice FA fs.length fc) fs.length (fs.flatMap estr)) := HRW6
              have HND7 := HND6
              generalize v6 = v7 at *
              generalize FA = FB at *
              generalize fc = fb at *
              clear HO6 HBA6 HBC HRW6 HND6
              have hfs2 : failed fs true cg = fs := rfl
              obtain ⟨b, hb⟩ : ∃ b, applyP Qc ((⟨5, 0, 0, .slice none 0 0, [], 0, ct, true, 0⟩ : Cm).told (s0 + 2)).plain = b := ⟨_, rfl⟩
              have WR := HWR.out true
              rw [hb] at WR
              rcases WR with ⟨hcx, _⟩ | ⟨_, e1, e2, e3, e4, e5, e6⟩
              · exact absurd hcx (by decide)
              obtain ⟨Qr, rc, ri, rt, ru, rg, rm⟩ := b
              dsimp only at e1 e2 e3 e5 e6
              rw [show ((⟨5, 0, 0, .slice none 0 0, [], 0, ct, true, 0⟩ : Cm).told (s0 + 2)).plain.good = true from rfl, hfs2] at e5
              replace e1 := e1.symm
              replace e3 := e3.symm
              subst e1 e2 e3
              have E4 := Lib.hid e4
              have E5 := Lib.hid e5
              have E6 := Lib.hid e6
              have HFL : Hid ((fs).length ≤ n + 1) := Lib.hid (by first | omega | (simp only [List.length_append, List.length_cons, List.length_nil]; omega))
              clear e4 e5 e6
              have TD := told_any w0 v7 D6 (fun _ => False) p s5 HO7.out ⟨5, 0, 0, .slice none 0 0, [], 0, ct, true, 0⟩ (bcm_lies 5 0 ct true zero_tt HTK.out) (s0 + 2) (by have := HS0.out; unfold top; omega)
              unfold Told2 at TD
              rw [HP6.out, hb] at TD
              unfold Cm.agg An.agg at TD
              dsimp only at TD
              replace TD := Lib.hid TD
              clear HWR hb
              have c2 := HBC7.out.cell 2
              go_upto_region 27 with fail
              rw [HW2.out]
              go_wp2_with fail
              refine TD.out.mono ?_
              rintro e w8 ⟨s8, D8, rfl, ho8, hp8, hs8, kD⟩
              have KE := (Keep.refl noneOf w8).alloc (.cells #[.int .i64 0, .int .u64 ri, .int .u64 rt, .int .u64 ru, .string cg, .string rm] 40)
              have HBR := Lib.hid (Box.new w8 40 #[.int .i64 0, .int .u64 ri, .int .u64 rt, .int .u64 ru, .string cg, .string rm])
              have HPA8 : Hid (¬ D8 pa) := Lib.hid (fun hd => (hs8 _ hd).elim HPA6.out (fun h => by have := HBA7.out.lt; omega))
              have HBA8 := Lib.hid ((HBA7.out.keep kD HPA6.out).keep KE (fun h => h))
              have HBC8 := Lib.hid ((HBC7.out.keep kD HFC.out).keep KE (fun h => h))
              have HRW8 := Lib.hid (own_keep (own_keep HRW7.out kD HND7.out) KE (fun _ _ h => h))
              have HND8 : Hid (∀ g, (Value.slice FB (fs.length) fb).ownBlock = some g → ¬ D8 g) := Lib.hid (fun g hg hd => (hs8 _ hd).elim (HND7.out g hg) (fun h => by have := (HRW7.out.lt g hg).2; omega))
              have HO8 := Lib.hid (ho8.stay KE)
              have HP8 := Lib.hid hp8
              have HSZ8 : Hid (v4.heap.size ≤ (w8.alloc (.cells #[.int .i64 0, .int .u64 ri, .int .u64 rt, .int .u64 ru, .string cg, .string rm] 40)).heap.size) := Lib.hid (by have h1 := HSZ7.out; have h2 := kD.size; simp; omega)
              have r0 := HBR.out.cell 0
              have r4 := HBR.out.cell 4
              have a1 := HBA8.out.cell 1
              have b1 := HBC8.out.cell 1
              have b4 := HBC8.out.cell 4
              clear TD ho8 hp8 hs8 kD KE HO7 HBA7 HBC7 HRW7 HND7 HPA6 HFC c2 HSZ7
              go_wp2
              go_roundw
              case rel =>
                refine ⟨n + 1, s8, D8, fs, ?_, by go_num, ?_, HFL.out, HO8.out, HPA8.out, HSZ8.out, HBA8.out, (by first | exact HRW8.out | (rw [List.length_append]; exact HRW8.out)), HND8.out, ?_, ?_⟩
                · have := E4.out; omega
                · rw [show s0 + 2 = z + 2 * ((n + 1 : Nat) : Int) from by have := HSN.out; omega]
                · rw [HP8.out, show ts.length - (n + 1) = ts.length - n - 1 from by omega]
                  exact E5.out
                · rw [HP8.out, show z + 1 + 2 * ((n + 1 : Nat) : Int) = s0 + 1 + 2 from by have := HSN.out; omega]
                  exact E6.out
              case measure => simp only [intOf]; omega
            | false =>
              have HSZ7' : Hid (v4.heap.size ≤ v6.heap.size) := Lib.hid (Nat.le_trans HSZ6.out (Nat.le_of_lt HSV.out))
              have HKS := (Keep.refl noneOf v6).alloc (.cells #[.string cg] 9)
              have HON := Lib.hid (Many.one (ec := estr) (fun _ => rfl) v6 cg 9)
              have HOB := Lib.hid (own_keep HRW6.out HKS (fun _ _ h => h))
              have c4 := HBC.out.cell 4
              have h56 := H56.out
              unfold reachBytes at h56
              go_wp2_with (at_builtin; refine wpList_append_many elems_str (fun _ => rfl) (ec := estr) (fun y u hu => by simp [estr] at hu; subst hu; rfl) (by decide) _ rfl _ _ rfl v4.heap.size _ _ fs [cg] (fun i => v6.heap.size ≤ i) rfl rfl HOB.out HON.out ?qc1 ?qc2 ?qc3 ?_)
              case qc1 => unfold maxLen; (try simp only [List.length_cons, List.length_nil]); omega
              case qc2 => (try simp only [List.length_cons, List.length_nil]); omega
              case qc3 => have := HSZ7'.out; simp; omega
              intro v' v7 hown' hgrow hat
              replace hown' : v7.ownsRow v4.heap.size 9 1 v' (fs.length + 1) ((fs ++ [cg]).flatMap estr) := by simpa [List.flatMap_append] using hown'
              obtain ⟨FB, fb, hvB⟩ := own_shape hown'
              subst hvB
              have hkg := Keep.of_grown hgrow
              have HND7 : Hid (∀ g, (Value.slice FB (fs.length + 1) fb).ownBlock = some g → ¬ D6 g) := Lib.hid (fun g hg hd => by
                rcases hat with h | h
                · rw [h] at hg; exact HND6.out g hg hd
                · rw [hg] at h
                  injection h with h
                  have h1 := HO6.out.mine.at_.lt g hd
                  have h2 : (v6.alloc (.cells #[.string cg] 9)).heap.size = v6.heap.size + 1 := by simp
                  omega)
              have HPL : Hid (∀ g, (Value.slice FA fs.length fc).ownBlock = some g → v4.heap.size ≤ g) := Lib.hid (fun g hg => (HRW6.out.lt g hg).1)
              have HO7 := Lib.hid ((HO6.out.stay HKS).off hkg (fun i hd e => HND6.out i e.symm hd) (fun i hi e => by have h1 := HPL.out i e.symm; have h2 := HW04.out; omega))
              have HBA7 := Lib.hid ((HBA6.out.keep HKS (fun h => h)).keep hkg (fun e => by have h1 := HPL.out pa e.symm; have h2 := HPV.out; omega))
              have HBC7 := Lib.hid ((HBC.out.keep HKS (fun h => h)).keep hkg (fun e => by have h1 := (HRW6.out.lt pc e.symm).2; have h2 := HFCN.out; exact h2 e.symm))
              have HRW7 := Lib.hid hown'
              have HSZ7 : Hid (v4.heap.size ≤ v7.heap.size) := Lib.hid (by have h1 := HSZ7'.out; have h2 := hkg.size; simp at h2; omega)
              clear hkg hgrow hat hown' HOB HON HKS HO6 HBA6 HBC HRW6 HND6 HPL HSZ7' c4 h56
              have hfs2 : failed fs false cg = fs ++ [cg] := rfl
              obtain ⟨b, hb⟩ : ∃ b, applyP Qc ((⟨5, 0, 0, .slice none 0 0, [], 0, ct, false, 0⟩ : Cm).told (s0 + 2)).plain = b := ⟨_, rfl⟩
              have WR := HWR.out false
              rw [hb] at WR
              rcases WR with ⟨hcx, _⟩ | ⟨_, e1, e2, e3, e4, e5, e6⟩
              · exact absurd hcx (by decide)
              obtain ⟨Qr, rc, ri, rt, ru, rg, rm⟩ := b
              dsimp only at e1 e2 e3 e5 e6
              rw [show ((⟨5, 0, 0, .slice none 0 0, [], 0, ct, false, 0⟩ : Cm).told (s0 + 2)).plain.good = false from rfl, hfs2] at e5
              replace e1 := e1.symm
              replace e3 := e3.symm
              subst e1 e2 e3
              have E4 := Lib.hid e4
              have E5 := Lib.hid e5
              have E6 := Lib.hid e6
              have HFL : Hid ((fs ++ [cg]).length ≤ n + 1) := Lib.hid (by first | omega | (simp only [List.length_append, List.length_cons, List.length_nil]; omega))
              clear e4 e5 e6
              have TD := told_any w0 v7 D6 (fun _ => False) p s5 HO7.out ⟨5, 0, 0, .slice none 0 0, [], 0, ct, false, 0⟩ (bcm_lies 5 0 ct false zero_tt HTK.out) (s0 + 2) (by have := HS0.out; unfold top; omega)
              unfold Told2 at TD
              rw [HP6.out, hb] at TD
              unfold Cm.agg An.agg at TD
              dsimp only at TD
              replace TD := Lib.hid TD
              clear HWR hb
              have c2 := HBC7.out.cell 2
              go_upto_region 27 with fail
              rw [HW2.out]
              go_wp2_with fail
              refine TD.out.mono ?_
              rintro e w8 ⟨s8, D8, rfl, ho8, hp8, hs8, kD⟩
              have KE := (Keep.refl noneOf w8).alloc (.cells #[.int .i64 0, .int .u64 ri, .int .u64 rt, .int .u64 ru, .string cg, .string rm] 40)
              have HBR := Lib.hid (Box.new w8 40 #[.int .i64 0, .int .u64 ri, .int .u64 rt, .int .u64 ru, .string cg, .string rm])
              have HPA8 : Hid (¬ D8 pa) := Lib.hid (fun hd => (hs8 _ hd).elim HPA6.out (fun h => by have := HBA7.out.lt; omega))
              have HBA8 := Lib.hid ((HBA7.out.keep kD HPA6.out).keep KE (fun h => h))
              have HBC8 := Lib.hid ((HBC7.out.keep kD HFC.out).keep KE (fun h => h))
              have HRW8 := Lib.hid (own_keep (own_keep HRW7.out kD HND7.out) KE (fun _ _ h => h))
              have HND8 : Hid (∀ g, (Value.slice FB (fs.length + 1) fb).ownBlock = some g → ¬ D8 g) := Lib.hid (fun g hg hd => (hs8 _ hd).elim (HND7.out g hg) (fun h => by have := (HRW7.out.lt g hg).2; omega))
              have HO8 := Lib.hid (ho8.stay KE)
              have HP8 := Lib.hid hp8
              have HSZ8 : Hid (v4.heap.size ≤ (w8.alloc (.cells #[.int .i64 0, .int .u64 ri, .int .u64 rt, .int .u64 ru, .string cg, .string rm] 40)).heap.size) := Lib.hid (by have h1 := HSZ7.out; have h2 := kD.size; simp; omega)
              have r0 := HBR.out.cell 0
              have r4 := HBR.out.cell 4
              have a1 := HBA8.out.cell 1
              have b1 := HBC8.out.cell 1
              have b4 := HBC8.out.cell 4
              clear TD ho8 hp8 hs8 kD KE HO7 HBA7 HBC7 HRW7 HND7 HPA6 HFC c2 HSZ7
              go_wp2
              go_roundw
              case rel =>
                refine ⟨n + 1, s8, D8, fs ++ [cg], ?_, by go_num, ?_, HFL.out, HO8.out, HPA8.out, HSZ8.out, HBA8.out, (by first | exact HRW8.out | (rw [List.length_append]; exact HRW8.out)), HND8.out, ?_, ?_⟩
                · have := E4.out; omega
                · rw [show s0 + 2 = z + 2 * ((n + 1 : Nat) : Int) from by have := HSN.out; omega]
                · rw [HP8.out, show ts.length - (n + 1) = ts.length - n - 1 from by omega]
                  exact E5.out
                · rw [HP8.out, show z + 1 + 2 * ((n + 1 : Nat) : Int) = s0 + 1 + 2 from by have := HSN.out; omega]
                  exact E6.out
              case measure => simp only [intOf]; omega
namespace DockyardBuild
set_option maxRecDepth 100000 in
theorem lifted (os : Os) (started : os.Started) (H : Type) (enc : TypeId × Value → H) :
    ReturnsInHanded {} Tryz.checked os 13 .any (Rows.dockyardBuildSpec.pre6 enc Tryz.prog Tryz.f13 Rows.dockyardBuildRow.domain false) (Rows.dockyardBuildSpec.post enc Tryz.prog Tryz.f13 false true false false) := by
  refine returnsInHanded_of_change_sized (C := Tryz.checked) own started (by kernel_rfl) Tryz.func13
    (ChangeSpec.witness6 (enc := enc) (C := Tryz.checked) false ⟨#[], #[.slice none 0 0, .agg #[.slice none 0 0], .slice none 0 0], []⟩ 8 (by kernel_rfl) (by kernel_rfl) (by kernel_rfl) (by kernel_rfl)) ?_
  intro W base args ds gs before hval0 hW hcnd hsz _
  have hval : ∀ (j : Nat) t v, Tryz.f13.params[j]? = some t → args[j]? = some v → Value.okWide Tryz.prog W .any base t v := hval0
  have hW' := hW
  obtain ⟨p, q, hA0, hV, rfl, hfz, hnd⟩ := hW
  have hA : DataW.TrodAll enc Tryz.prog W 0 (fun _ => true) true Tryz.f13.params.toList args.toList ds p := hA0
  rw [Tryz.params13] at hA hval
  obtain ⟨v0, vs0, d0, ds0, p0, q0, hargs, rfl, rfl, h0, r0⟩ := trodAll_cons hA
  obtain ⟨v1, vs1, d1, ds1, p1, q1, rfl, rfl, rfl, h1, r1⟩ := trodAll_cons r0
  obtain ⟨v2, vs2, d2, ds2, p2, q2, rfl, rfl, rfl, h2, r2⟩ := trodAll_cons r1
  obtain ⟨rfl, rfl, rfl⟩ := trodAll_nil r2
  obtain rfl : args = #[v0, v1, v2] := by cases args; simp_all
  obtain ⟨rfl, rfl⟩ := trodVars_none hV
  have k0 := h0
  have lt0 : ∀ x ∈ p0, x.block < W.heap.size := by obtain ⟨m, hm⟩ := k0; exact DataW.trod_lt m _ _ _ hm
  have k1 := h1
  have lt1 : ∀ x ∈ p1, x.block < W.heap.size := by obtain ⟨m, hm⟩ := k1; exact DataW.trod_lt m _ _ _ hm
  have k2 := h2
  have lt2 : ∀ x ∈ p2, x.block < W.heap.size := by obtain ⟨m, hm⟩ := k2; exact DataW.trod_lt m _ _ _ hm
  obtain ⟨A0, c0, l0, rfl, hl0⟩ := open_arg_cms (hval 0 22 v0 rfl rfl) h0 (light_arg hsz (j := 0) rfl rfl)
  obtain ⟨A1, c1, ts1, rfl, hts1, h561, h161⟩ := open_graph (hval 1 35 v1 rfl rfl) h1 (light_arg hsz (j := 1) rfl rfl)
  obtain ⟨A2, c2, l2, rfl, hl2⟩ := open_arg_bools (hval 2 77 v2 rfl rfl) h2 (light_arg hsz (j := 2) rfl rfl)
  clear hA0 hval0
  refine (build_walk W A0 c0 l0 A1 c1 ts1 A2 c2 l2 hl0 hts1 h561 h161 hl2).mono fun e W' ⟨he, bel0⟩ => ?_
  subst he
  have bel := bel0.all
  exact ⟨_, rfl, _, _, _, [], _, [], hW', trodAll_mk1 (shut_bool Tryz.underlying4 _), (trodAll_cons_mk (Below.trod laidOut (by kernel_rfl) (of_decide_eq_true (by kernel_rfl)) k0 bel lt0) (trodAll_cons_mk (Below.trod laidOut (by kernel_rfl) (of_decide_eq_true (by kernel_rfl)) k1 bel lt1) (trodAll_cons_mk (Below.trod laidOut (by kernel_rfl) (of_decide_eq_true (by kernel_rfl)) k2 bel lt2) trodAll_mk0))), rfl, bel.frame _, fun h => by cases h⟩
theorem over : Rows.dockyardBuildRow.holds Tryz.pinned (OpenSpec.ofChange Rows.dockyardBuildSpec) :=
  OpenClaim.holds_of_wide 13 Tryz.f13 rfl rfl rfl rfl rfl rfl rfl ⟨rfl, rfl, rfl, rfl, rfl⟩ rfl rfl rfl rfl rfl (by kernel_rfl) Tryz.func13 (by kernel_rfl)
    (of_decide_eq_true (by kernel_rfl)) (by unfold Func.isWrapper; first | (rw [if_pos (by decide +kernel)]; kernel_rfl) | (rw [if_neg (by decide +kernel)]; exact ⟨rfl, rfl⟩))
    (fun os started H enc _ => lifted os started H enc)
theorem proved : Rows.DockyardBuildSaid := over
end DockyardBuild
end Go.Proofs.YtkoikmdmejhhhaaGreat
