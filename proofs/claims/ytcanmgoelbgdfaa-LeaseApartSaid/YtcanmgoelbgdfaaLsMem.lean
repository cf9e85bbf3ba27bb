/-
  Words for leases: a state, what an office is, and '==' on both.
-/
import Derived.Test.YtcanmgoelbgdfaaHeld
import Derived.Test.YtcanmgoelbgdfaaRows
import Derived.Lib.Hide
import Derived.Lib.MinMax
import Derived.Deep.RegionHeld3
import Derived.Deep.QuietTactic
import Derived.BigQuiet
import Derived.Laws.StructEq
namespace Go.Proofs.Ytcanmgoelbgdfaa
open Go.RowKit

theorem Keep.andNone {S : Nat → Prop} {w w' w'' : World} (h : Keep S w w') (k : Keep noneOf w' w'') : Keep S w w'' := h.trans k (fun _ _ h => False.elim h)
/-- A state, without memory. -/
structure Pst where
  s : Int
  t : Int
  u : Int
def Pst.zero : Pst := ⟨0, 0, 0⟩
def Pst.agg (x : Pst) : Value := .agg #[.int .i64 x.s, .int .u64 x.t, .int .u64 x.u]
def Pst.same (x y : Pst) : Bool := x.s == y.s && x.t == y.t && x.u == y.u
theorem Pst.same_iff (x y : Pst) : Pst.same x y = true ↔ x = y := by
  obtain ⟨a, b, c⟩ := x
  obtain ⟨a', b', c'⟩ := y
  simp [Pst.same, and_assoc]
instance : DecidableEq Pst := fun x y => decidable_of_iff (x.same y = true) (Pst.same_iff x y)
/-- What is behind a call that tells a bool and changes nothing. -/
def TellsB (b : Bool) (w : World) (e : Ending) (w' : World) : Prop := e = .returned (.bool b) ∧ Keep noneOf w w'
/-- Of a value. -/
def TellsV (v : Value) (w : World) (e : Ending) (w' : World) : Prop := e = .returned v ∧ Keep noneOf w w'
theorem box3 (w : World) (t : TypeId) (x y z : Value) :
    (w.alloc (.cells #[x, y, z] t)).cell? ⟨w.heap.size, 0, none⟩ = some x ∧ (w.alloc (.cells #[x, y, z] t)).cell? ⟨w.heap.size, 1, none⟩ = some y ∧ (w.alloc (.cells #[x, y, z] t)).cell? ⟨w.heap.size, 2, none⟩ = some z := by
  have h := Box.new w t #[x, y, z]
  exact ⟨h.cell 0, h.cell 1, h.cell 2⟩

theorem st_under : Try.prog.underlying 27 = some (.struct (Try.prog.fieldsOf 27)) := by kernel_rfl
theorem st_fields : (Try.prog.fieldsOf 27).toList.map (fun f => (f.name == "_", f.type, f.offset)) = [(false, 3, 0), (false, 22, 1), (false, 22, 2)] := by kernel_rfl
theorem st_held : Try.prog.stoodInHeld 27 = false := by kernel_rfl
theorem st_guard : Try.prog.eqGuardType Try.prog.depth 27 = false := by kernel_rfl
theorem of_under : Try.prog.underlying 24 = some (.struct (Try.prog.fieldsOf 24)) := by kernel_rfl
theorem of_fields : (Try.prog.fieldsOf 24).toList.map (fun f => (f.name == "_", f.type, f.offset)) = [(false, 22, 0)] := by kernel_rfl
theorem of_held : Try.prog.stoodInHeld 24 = false := by kernel_rfl
theorem of_guard : Try.prog.eqGuardType Try.prog.depth 24 = false := by kernel_rfl
theorem run_part1 (w : World) (t : TypeId) (xs : Array Value) (o : Nat) (x : Value) (k : IntKind) (hi : Try.prog.underlying t = some (.int k)) (hx : xs[o]? = some x) : (part t xs o).run Try.prog w = .ok x w := by
  simp [part, isAgg, hx, run_underlying hi]
theorem run_equal3 (d : Nat) (w : World) (x y : Pst) : (Op.equalIn (d + 2) 27 (.agg #[.int .i64 x.s, .int .u64 x.t, .int .u64 x.u]) (.agg #[.int .i64 y.s, .int .u64 y.t, .int .u64 y.u])).run Try.prog w = .ok (decide (x = y)) w := by
  rw [run_equalIn_struct w (d + 1) _ _ _ st_under st_held]
  have h := st_fields
  generalize (Try.prog.fieldsOf 27).toList = fs at h
  have hl : fs.length = 3 := by simpa using congrArg List.length h
  match fs, hl with
  | [f0, f1, f2], _ =>
    simp only [List.map_cons, List.map_nil, List.cons.injEq, Prod.mk.injEq, and_true, beq_eq_false_iff_ne] at h
    obtain ⟨⟨n0, t0, o0⟩, ⟨n1, t1, o1⟩, ⟨n2, t2, o2⟩⟩ := h
    have p0 : ∀ w', (part f0.type #[.int .i64 x.s, .int .u64 x.t, .int .u64 x.u] f0.offset).run Try.prog w' = .ok (.int .i64 x.s) w' := fun w' => by rw [t0, o0]; exact run_part1 w' _ _ _ _ _ Try.underlying3 rfl
    have p1 : ∀ w', (part f1.type #[.int .i64 x.s, .int .u64 x.t, .int .u64 x.u] f1.offset).run Try.prog w' = .ok (.int .u64 x.t) w' := fun w' => by rw [t1, o1]; exact run_part1 w' _ _ _ _ _ Try.underlying22 rfl
    have p2 : ∀ w', (part f2.type #[.int .i64 x.s, .int .u64 x.t, .int .u64 x.u] f2.offset).run Try.prog w' = .ok (.int .u64 x.u) w' := fun w' => by rw [t2, o2]; exact run_part1 w' _ _ _ _ _ Try.underlying22 rfl
    have q0 : ∀ w', (part f0.type #[.int .i64 y.s, .int .u64 y.t, .int .u64 y.u] f0.offset).run Try.prog w' = .ok (.int .i64 y.s) w' := fun w' => by rw [t0, o0]; exact run_part1 w' _ _ _ _ _ Try.underlying3 rfl
    have q1 : ∀ w', (part f1.type #[.int .i64 y.s, .int .u64 y.t, .int .u64 y.u] f1.offset).run Try.prog w' = .ok (.int .u64 y.t) w' := fun w' => by rw [t1, o1]; exact run_part1 w' _ _ _ _ _ Try.underlying22 rfl
    have q2 : ∀ w', (part f2.type #[.int .i64 y.s, .int .u64 y.t, .int .u64 y.u] f2.offset).run Try.prog w' = .ok (.int .u64 y.u) w' := fun w' => by rw [t2, o2]; exact run_part1 w' _ _ _ _ _ Try.underlying22 rfl
    have e0 : ∀ w', (Op.equalIn (d + 1) f0.type (.int .i64 x.s) (.int .i64 y.s)).run Try.prog w' = .ok (x.s == y.s) w' := fun w' => by rw [t0]; exact run_equalIn_int w' d _ _ _ _ _ Try.underlying3
    have e1 : ∀ w', (Op.equalIn (d + 1) f1.type (.int .u64 x.t) (.int .u64 y.t)).run Try.prog w' = .ok (x.t == y.t) w' := fun w' => by rw [t1]; exact run_equalIn_int w' d _ _ _ _ _ Try.underlying22
    have e2 : ∀ w', (Op.equalIn (d + 1) f2.type (.int .u64 x.u) (.int .u64 y.u)).run Try.prog w' = .ok (x.u == y.u) w' := fun w' => by rw [t2]; exact run_equalIn_int w' d _ _ _ _ _ Try.underlying22
    have hd : decide (x = y) = (x.s == y.s && x.t == y.t && x.u == y.u) := by
      rw [Bool.eq_iff_iff, decide_eq_true_eq, ← Pst.same_iff]
      rfl
    rw [hd]
    simp only [Op.eqFields, n0, n1, n2, ne_eq, not_false_eq_true, if_true, Sem.run_bind, Sem.run_ite, Sem.run_pure, p0, p1, p2, q0, q1, q2, e0, e1, e2, Result.andThen_ok]
    cases x.s == y.s <;> cases x.t == y.t <;> cases x.u == y.u <;> rfl
theorem run_equal1 (d : Nat) (w : World) (x y : Int) : (Op.equalIn (d + 2) 24 (.agg #[.int .u64 x]) (.agg #[.int .u64 y])).run Try.prog w = .ok (x == y) w := by
  rw [run_equalIn_struct w (d + 1) _ _ _ of_under of_held]
  have h := of_fields
  generalize (Try.prog.fieldsOf 24).toList = fs at h
  have hl : fs.length = 1 := by simpa using congrArg List.length h
  match fs, hl with
  | [f0], _ =>
    simp only [List.map_cons, List.map_nil, List.cons.injEq, Prod.mk.injEq, and_true, beq_eq_false_iff_ne] at h
    obtain ⟨n0, t0, o0⟩ := h
    have p0 : ∀ w', (part f0.type #[.int .u64 x] f0.offset).run Try.prog w' = .ok (.int .u64 x) w' := fun w' => by rw [t0, o0]; exact run_part1 w' _ _ _ _ _ Try.underlying22 rfl
    have q0 : ∀ w', (part f0.type #[.int .u64 y] f0.offset).run Try.prog w' = .ok (.int .u64 y) w' := fun w' => by rw [t0, o0]; exact run_part1 w' _ _ _ _ _ Try.underlying22 rfl
    have e0 : ∀ w', (Op.equalIn (d + 1) f0.type (.int .u64 x) (.int .u64 y)).run Try.prog w' = .ok (x == y) w' := fun w' => by rw [t0]; exact run_equalIn_int w' d _ _ _ _ _ Try.underlying22
    simp only [Op.eqFields, n0, ne_eq, not_false_eq_true, if_true, Sem.run_bind, Sem.run_ite, Sem.run_pure, p0, q0, e0, Result.andThen_ok]
    cases x == y <;> rfl
theorem run_neq3 (w : World) (x y : Pst) : (binOp .neq 27 (.agg #[.int .i64 x.s, .int .u64 x.t, .int .u64 x.u]) (.agg #[.int .i64 y.s, .int .u64 y.t, .int .u64 y.u])).run Try.prog w = .ok (.bool (!decide (x = y))) w := by
  rw [run_neq_struct, run_equal3 9998 w x y]
  rfl
theorem run_eql3 (w : World) (x y : Pst) : (binOp .eql 27 (.agg #[.int .i64 x.s, .int .u64 x.t, .int .u64 x.u]) (.agg #[.int .i64 y.s, .int .u64 y.t, .int .u64 y.u])).run Try.prog w = .ok (.bool (decide (x = y))) w := by
  rw [run_eql_struct, run_equal3 9998 w x y]
  rfl
theorem run_eql1 (w : World) (x y : Int) : (binOp .eql 24 (.agg #[.int .u64 x]) (.agg #[.int .u64 y])).run Try.prog w = .ok (.bool (x == y)) w := by
  rw [run_eql_struct, run_equal1 9998 w x y]
  rfl
end Go.Proofs.Ytcanmgoelbgdfaa
