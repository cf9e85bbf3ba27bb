/-
  '==' on answers and on sessions.
-/
import Derived.Test.YtimnehgonlohcaaSsM
namespace Go.Proofs.Ytimnehgonlohcaa
open Go.RowKit

def An.same (x y : An) : Bool := x.code == y.code && x.id == y.id && x.tok == y.tok && x.unt == y.unt && (x.tgt.toList == y.tgt.toList) && (x.cmd.toList == y.cmd.toList)
theorem toList_inj {a b : ByteArray} (h : a.toList = b.toList) : a = b := by
  rw [ByteArray.toList_eq, ByteArray.toList_eq] at h
  exact bytes_inj h
theorem An.same_iff (x y : An) : An.same x y = true ↔ x = y := by
  obtain ⟨c, i, t, u, g, m⟩ := x
  obtain ⟨c', i', t', u', g', m'⟩ := y
  simp only [An.same, Bool.and_eq_true, beq_iff_eq, An.mk.injEq]
  constructor
  · rintro ⟨⟨⟨⟨⟨h1, h2⟩, h3⟩, h4⟩, h5⟩, h6⟩
    exact ⟨h1, h2, h3, h4, toList_inj h5, toList_inj h6⟩
  · rintro ⟨h1, h2, h3, h4, h5, h6⟩
    exact ⟨⟨⟨⟨⟨h1, h2⟩, h3⟩, h4⟩, by rw [h5]⟩, by rw [h6]⟩
instance : DecidableEq An := fun x y => decidable_of_iff (x.same y = true) (An.same_iff x y)
def Ro.same (x y : Ro) : Bool := x.id == y.id && x.seq == y.seq && An.same x.ans y.ans
theorem Ro.same_iff (x y : Ro) : Ro.same x y = true ↔ x = y := by
  obtain ⟨i, s, a⟩ := x
  obtain ⟨i', s', a'⟩ := y
  simp only [Ro.same, Bool.and_eq_true, beq_iff_eq, Ro.mk.injEq, An.same_iff, and_assoc]
instance : DecidableEq Ro := fun x y => decidable_of_iff (x.same y = true) (Ro.same_iff x y)

theorem an_under : Try.prog.underlying 32 = some (.struct (Try.prog.fieldsOf 32)) := by kernel_rfl
theorem an_fields : (Try.prog.fieldsOf 32).toList.map (fun f => (f.name == "_", f.type, f.offset)) = [(false, 30, 0), (false, 29, 1), (false, 29, 2), (false, 29, 3), (false, 9, 4), (false, 9, 5)] := by kernel_rfl
theorem an_held : Try.prog.stoodInHeld 32 = false := by kernel_rfl
theorem an_guard : Try.prog.eqGuardType Try.prog.depth 32 = false := by kernel_rfl
theorem ro_under : Try.prog.underlying 58 = some (.struct (Try.prog.fieldsOf 58)) := by kernel_rfl
theorem ro_fields : (Try.prog.fieldsOf 58).toList.map (fun f => (f.name == "_", f.type, f.offset)) = [(false, 29, 0), (false, 29, 1), (false, 32, 2)] := by kernel_rfl
theorem ro_held : Try.prog.stoodInHeld 58 = false := by kernel_rfl
theorem ro_guard : Try.prog.eqGuardType Try.prog.depth 58 = false := by kernel_rfl
theorem run_part1 (w : World) (t : TypeId) (xs : Array Value) (o : Nat) (x : Value) (k : IntKind) (hi : Try.prog.underlying t = some (.int k)) (hx : xs[o]? = some x) : (part t xs o).run Try.prog w = .ok x w := by
  simp [part, isAgg, hx, run_underlying hi]
theorem run_partS (w : World) (t : TypeId) (xs : Array Value) (o : Nat) (x : Value) (hi : Try.prog.underlying t = some .string) (hx : xs[o]? = some x) : (part t xs o).run Try.prog w = .ok x w := by
  simp [part, isAgg, hx, run_underlying hi]
theorem agg_ans (w : World) : (isAgg 32).run Try.prog w = .ok true w := by kernel_rfl
theorem size_ans (w : World) : (sizeOf 32).run Try.prog w = .ok 6 w := by kernel_rfl
theorem run_partA (w : World) (r : Ro) : (part 32 #[.int .u64 r.id, .int .u64 r.seq, .int .i64 r.ans.code, .int .u64 r.ans.id, .int .u64 r.ans.tok, .int .u64 r.ans.unt, .string r.ans.tgt, .string r.ans.cmd] 2).run Try.prog w = .ok r.ans.agg w := by
  simp [part, Result.andThen, An.agg]
theorem run_equalA (d : Nat) (w : World) (x y : An) : (Op.equalIn (d + 2) 32 x.agg y.agg).run Try.prog w = .ok (decide (x = y)) w := by
  unfold An.agg
  rw [run_equalIn_struct w (d + 1) _ _ _ an_under an_held]
  have h := an_fields
  generalize (Try.prog.fieldsOf 32).toList = fs at h
  have hl : fs.length = 6 := by simpa using congrArg List.length h
  match fs, hl with
  | [f0, f1, f2, f3, f4, f5], _ =>
    simp only [List.map_cons, List.map_nil, List.cons.injEq, Prod.mk.injEq, and_true, beq_eq_false_iff_ne] at h
    obtain ⟨⟨n0, t0, o0⟩, ⟨n1, t1, o1⟩, ⟨n2, t2, o2⟩, ⟨n3, t3, o3⟩, ⟨n4, t4, o4⟩, ⟨n5, t5, o5⟩⟩ := h
    have p0 : ∀ (w' : World) (z : An), (part f0.type #[.int .i64 z.code, .int .u64 z.id, .int .u64 z.tok, .int .u64 z.unt, .string z.tgt, .string z.cmd] f0.offset).run Try.prog w' = .ok (.int .i64 z.code) w' := fun w' z => by rw [t0, o0]; exact run_part1 w' _ _ _ _ _ Try.underlying30 rfl
    have p1 : ∀ (w' : World) (z : An), (part f1.type #[.int .i64 z.code, .int .u64 z.id, .int .u64 z.tok, .int .u64 z.unt, .string z.tgt, .string z.cmd] f1.offset).run Try.prog w' = .ok (.int .u64 z.id) w' := fun w' z => by rw [t1, o1]; exact run_part1 w' _ _ _ _ _ Try.underlying29 rfl
    have p2 : ∀ (w' : World) (z : An), (part f2.type #[.int .i64 z.code, .int .u64 z.id, .int .u64 z.tok, .int .u64 z.unt, .string z.tgt, .string z.cmd] f2.offset).run Try.prog w' = .ok (.int .u64 z.tok) w' := fun w' z => by rw [t2, o2]; exact run_part1 w' _ _ _ _ _ Try.underlying29 rfl
    have p3 : ∀ (w' : World) (z : An), (part f3.type #[.int .i64 z.code, .int .u64 z.id, .int .u64 z.tok, .int .u64 z.unt, .string z.tgt, .string z.cmd] f3.offset).run Try.prog w' = .ok (.int .u64 z.unt) w' := fun w' z => by rw [t3, o3]; exact run_part1 w' _ _ _ _ _ Try.underlying29 rfl
    have p4 : ∀ (w' : World) (z : An), (part f4.type #[.int .i64 z.code, .int .u64 z.id, .int .u64 z.tok, .int .u64 z.unt, .string z.tgt, .string z.cmd] f4.offset).run Try.prog w' = .ok (.string z.tgt) w' := fun w' z => by rw [t4, o4]; exact run_partS w' _ _ _ _ Try.underlying9 rfl
    have p5 : ∀ (w' : World) (z : An), (part f5.type #[.int .i64 z.code, .int .u64 z.id, .int .u64 z.tok, .int .u64 z.unt, .string z.tgt, .string z.cmd] f5.offset).run Try.prog w' = .ok (.string z.cmd) w' := fun w' z => by rw [t5, o5]; exact run_partS w' _ _ _ _ Try.underlying9 rfl
    have e0 : ∀ w', (Op.equalIn (d + 1) f0.type (.int .i64 x.code) (.int .i64 y.code)).run Try.prog w' = .ok (x.code == y.code) w' := fun w' => by rw [t0]; exact run_equalIn_int w' d _ _ _ _ _ Try.underlying30
    have e1 : ∀ w', (Op.equalIn (d + 1) f1.type (.int .u64 x.id) (.int .u64 y.id)).run Try.prog w' = .ok (x.id == y.id) w' := fun w' => by rw [t1]; exact run_equalIn_int w' d _ _ _ _ _ Try.underlying29
    have e2 : ∀ w', (Op.equalIn (d + 1) f2.type (.int .u64 x.tok) (.int .u64 y.tok)).run Try.prog w' = .ok (x.tok == y.tok) w' := fun w' => by rw [t2]; exact run_equalIn_int w' d _ _ _ _ _ Try.underlying29
    have e3 : ∀ w', (Op.equalIn (d + 1) f3.type (.int .u64 x.unt) (.int .u64 y.unt)).run Try.prog w' = .ok (x.unt == y.unt) w' := fun w' => by rw [t3]; exact run_equalIn_int w' d _ _ _ _ _ Try.underlying29
    have e4 : ∀ w', (Op.equalIn (d + 1) f4.type (.string x.tgt) (.string y.tgt)).run Try.prog w' = .ok (x.tgt.toList == y.tgt.toList) w' := fun w' => by rw [t4]; exact run_equalIn_string w' d _ _ _ Try.underlying9
    have e5 : ∀ w', (Op.equalIn (d + 1) f5.type (.string x.cmd) (.string y.cmd)).run Try.prog w' = .ok (x.cmd.toList == y.cmd.toList) w' := fun w' => by rw [t5]; exact run_equalIn_string w' d _ _ _ Try.underlying9
    have hd : decide (x = y) = (x.code == y.code && x.id == y.id && x.tok == y.tok && x.unt == y.unt && (x.tgt.toList == y.tgt.toList) && (x.cmd.toList == y.cmd.toList)) := by
      rw [Bool.eq_iff_iff, decide_eq_true_eq, ← An.same_iff]
      rfl
    rw [hd]
    simp only [Op.eqFields, n0, n1, n2, n3, n4, n5, ne_eq, not_false_eq_true, if_true, Sem.run_bind, Sem.run_ite, Sem.run_pure, p0, p1, p2, p3, p4, p5, e0, e1, e2, e3, e4, e5, Result.andThen_ok]
    cases x.code == y.code <;> cases x.id == y.id <;> cases x.tok == y.tok <;> cases x.unt == y.unt <;> cases x.tgt.toList == y.tgt.toList <;> cases x.cmd.toList == y.cmd.toList <;> rfl
theorem run_equalR (d : Nat) (w : World) (x y : Ro) : (Op.equalIn (d + 3) 58 x.agg y.agg).run Try.prog w = .ok (decide (x = y)) w := by
  unfold Ro.agg
  rw [run_equalIn_struct w (d + 2) _ _ _ ro_under ro_held]
  have h := ro_fields
  generalize (Try.prog.fieldsOf 58).toList = fs at h
  have hl : fs.length = 3 := by simpa using congrArg List.length h
  match fs, hl with
  | [f0, f1, f2], _ =>
    simp only [List.map_cons, List.map_nil, List.cons.injEq, Prod.mk.injEq, and_true, beq_eq_false_iff_ne] at h
    obtain ⟨⟨n0, t0, o0⟩, ⟨n1, t1, o1⟩, ⟨n2, t2, o2⟩⟩ := h
    have p0 : ∀ (w' : World) (r : Ro), (part f0.type #[.int .u64 r.id, .int .u64 r.seq, .int .i64 r.ans.code, .int .u64 r.ans.id, .int .u64 r.ans.tok, .int .u64 r.ans.unt, .string r.ans.tgt, .string r.ans.cmd] f0.offset).run Try.prog w' = .ok (.int .u64 r.id) w' := fun w' r => by rw [t0, o0]; exact run_part1 w' _ _ _ _ _ Try.underlying29 rfl
    have p1 : ∀ (w' : World) (r : Ro), (part f1.type #[.int .u64 r.id, .int .u64 r.seq, .int .i64 r.ans.code, .int .u64 r.ans.id, .int .u64 r.ans.tok, .int .u64 r.ans.unt, .string r.ans.tgt, .string r.ans.cmd] f1.offset).run Try.prog w' = .ok (.int .u64 r.seq) w' := fun w' r => by rw [t1, o1]; exact run_part1 w' _ _ _ _ _ Try.underlying29 rfl
    have p2 : ∀ (w' : World) (r : Ro), (part f2.type #[.int .u64 r.id, .int .u64 r.seq, .int .i64 r.ans.code, .int .u64 r.ans.id, .int .u64 r.ans.tok, .int .u64 r.ans.unt, .string r.ans.tgt, .string r.ans.cmd] f2.offset).run Try.prog w' = .ok r.ans.agg w' := fun w' r => by rw [t2, o2]; exact run_partA w' r
    have e0 : ∀ w', (Op.equalIn (d + 2) f0.type (.int .u64 x.id) (.int .u64 y.id)).run Try.prog w' = .ok (x.id == y.id) w' := fun w' => by rw [t0]; exact run_equalIn_int w' (d + 1) _ _ _ _ _ Try.underlying29
    have e1 : ∀ w', (Op.equalIn (d + 2) f1.type (.int .u64 x.seq) (.int .u64 y.seq)).run Try.prog w' = .ok (x.seq == y.seq) w' := fun w' => by rw [t1]; exact run_equalIn_int w' (d + 1) _ _ _ _ _ Try.underlying29
    have e2 : ∀ w', (Op.equalIn (d + 2) f2.type x.ans.agg y.ans.agg).run Try.prog w' = .ok (decide (x.ans = y.ans)) w' := fun w' => by rw [t2]; exact run_equalA d w' _ _
    have hd : decide (x = y) = (x.id == y.id && x.seq == y.seq && decide (x.ans = y.ans)) := by
      rw [Bool.eq_iff_iff, decide_eq_true_eq]
      simp only [Bool.and_eq_true, beq_iff_eq, decide_eq_true_eq, and_assoc]
      obtain ⟨i, s, a⟩ := x
      obtain ⟨i', s', a'⟩ := y
      simp
    rw [hd]
    simp only [Op.eqFields, n0, n1, n2, ne_eq, not_false_eq_true, if_true, Sem.run_bind, Sem.run_ite, Sem.run_pure, p0, p1, p2, e0, e1, e2, Result.andThen_ok]
    cases x.id == y.id <;> cases x.seq == y.seq <;> cases decide (x.ans = y.ans) <;> rfl
theorem run_neqA (w : World) (x y : An) : (binOp .neq 32 x.agg y.agg).run Try.prog w = .ok (.bool (!decide (x = y))) w := by
  show (binOp .neq 32 (.agg _) (.agg _)).run Try.prog w = _
  rw [run_neq_struct]
  have := run_equalA 9998 w x y
  unfold An.agg at this
  rw [this]
  rfl
theorem run_eqlA (w : World) (x y : An) : (binOp .eql 32 x.agg y.agg).run Try.prog w = .ok (.bool (decide (x = y))) w := by
  show (binOp .eql 32 (.agg _) (.agg _)).run Try.prog w = _
  rw [run_eql_struct]
  have := run_equalA 9998 w x y
  unfold An.agg at this
  rw [this]
  rfl
theorem run_neqR (w : World) (x y : Ro) : (binOp .neq 58 x.agg y.agg).run Try.prog w = .ok (.bool (!decide (x = y))) w := by
  show (binOp .neq 58 (.agg _) (.agg _)).run Try.prog w = _
  rw [run_neq_struct]
  have := run_equalR 9997 w x y
  unfold Ro.agg at this
  rw [this]
  rfl
end Go.Proofs.Ytimnehgonlohcaa
