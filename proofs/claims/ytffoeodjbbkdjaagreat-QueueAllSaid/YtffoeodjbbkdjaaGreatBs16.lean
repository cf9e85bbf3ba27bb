import Derived.Test.YtffoeodjbbkdjaaGreatRows
import Derived.BigQuiet
import Derived.ChangeKeysEq
import Derived.Deep.QuietTactic
import Derived.Deep.RegionHeld3
import Derived.Laws.StructEq
import Derived.Lib.Hide
import Derived.Maps.OwnSet
import Derived.Maps.RangeWalk
import Derived.TacticsInMore
import Derived.Test.YtffoeodjbbkdjaaGreatBs01
import Derived.Test.YtffoeodjbbkdjaaGreatBs15
namespace Go.Proofs.YtffoeodjbbkdjaaGreat
open Go.RowKit Go.Maps
abbrev DT := DataW Unit
structure An where
 code : Int
 id : Int
 tok : Int
 unt : Int
 tgt : ByteArray
 cmd : ByteArray
def An.zero : An := ⟨0, 0, 0, 0, ⟨#[]⟩, ⟨#[]⟩⟩
def An.agg (a : An) : Value := .agg #[.int .i64 a.code, .int .u64 a.id, .int .u64 a.tok, .int .u64 a.unt, .string a.tgt, .string a.cmd]
structure Ro where
 id : Int
 seq : Int
 ans : An
def Ro.agg (r : Ro) : Value := .agg #[.int .u64 r.id, .int .u64 r.seq, .int .i64 r.ans.code, .int .u64 r.ans.id, .int .u64 r.ans.tok, .int .u64 r.ans.unt, .string r.ans.tgt, .string r.ans.cmd]
def lastV (s : Int) (a : An) : Value := .agg #[.int .u64 s, .int .i64 a.code, .int .u64 a.id, .int .u64 a.tok, .int .u64 a.unt, .string a.tgt, .string a.cmd]
def lastD (s : Int) (a : An) : DT := .agg [.lit (.int .u64 s), .lit (.int .i64 a.code), .lit (.int .u64 a.id), .lit (.int .u64 a.tok), .lit (.int .u64 a.unt), .lit (.string a.tgt.data.toList), .lit (.string a.cmd.data.toList)]
def lastElem : Value → Option (DT × List MemPlace)
 | .agg ⟨[.int .u64 s, .int .i64 c, .int .u64 i, .int .u64 t, .int .u64 u, .string g, .string m]⟩ => some (lastD s ⟨c, i, t, u, g, m⟩, [])
 | _ => none
theorem lastElem_mk (s : Int) (a : An) : lastElem (lastV s a) = some (lastD s a, []) := rfl
theorem lastElem_inv {v : Value} {y : DT × List MemPlace} (h : lastElem v = some y) : ∃ s a, v = lastV s a ∧ y = (lastD s a, []) := by
 unfold lastElem at h
 split at h
 ·
  rename_i s c i t u g m
  injection h with h
  exact ⟨s, ⟨c, i, t, u, g, m⟩, rfl, h.symm⟩
 ·
  cases h
theorem bytes_inj {a b : ByteArray} (h : a.data.toList = b.data.toList) : a = b := by
 obtain ⟨⟨l⟩⟩ := a
 obtain ⟨⟨m⟩⟩ := b
 have h' : l = m := h
 rw [h']
theorem lastD_inj {s s' : Int} {a a' : An} (h : lastD s a = lastD s' a') : s = s' ∧ a = a' := by
 obtain ⟨c, i, t, u, g, m⟩ := a
 obtain ⟨c', i', t', u', g', m'⟩ := a'
 unfold lastD at h
 simp only [DataW.agg.injEq, List.cons.injEq, DataW.lit.injEq, Lit.int.injEq, Lit.string.injEq, true_and, and_true] at h
 obtain ⟨h1, h2, h3, h4, h5, h6, h7⟩ := h
 exact ⟨h1, by rw [h2, h3, h4, h5, bytes_inj h6, bytes_inj h7]⟩
def keyI (x : Int) : Lit := .int .u64 x
def Ro.entry (r : Ro) : Lit × DT := (keyI r.id, lastD r.seq r.ans)
def datum (l : List Ro) : DT := .map (l.map Ro.entry)
def findR (l : List Ro) (x : Int) : Option Ro := l.find? (fun r => decide (r.id = x))
def lastOf : Option Ro → Value
 | none => lastV 0 .zero
 | some r => lastV r.seq r.ans
theorem keyI_inj {a b : Int} (h : keyI a = keyI b) : a = b := by
 unfold keyI at h
 injection h
theorem same_key (a b : Int) : (keyI a).sameKey (keyI b) = decide (a = b) := by
 by_cases h : a = b
 ·
  subst h
  rw [decide_eq_true rfl]
  exact WideAt.sameKey_self trivial
 ·
  rw [decide_eq_false h]
  exact Maps.sameKey_ne (fun e => h (keyI_inj e))
theorem at_find (l : List Ro) (x : Int) (z : DT) : (datum l).atKey (keyI x) z = match findR l x with
  | some r => lastD r.seq r.ans
  | none => z := by
 unfold datum DataW.atKey findR
 simp only
 rw [List.find?_map]
 have : ((fun p : Lit × DT => p.1.sameKey (keyI x)) ∘ Ro.entry) = fun r => decide (r.id = x) := by
  funext r
  exact same_key r.id x
 rw [this]
 cases l.find? (fun r => decide (r.id = x)) <;> rfl
theorem has_find (l : List Ro) (x : Int) : Maps.has (datum l) (keyI x) = (findR l x).isSome := by
 unfold datum findR
 rw [Maps.has_eq, List.any_map]
 have : ((fun p : Lit × DT => p.1.sameKey (keyI x)) ∘ Ro.entry) = fun r => decide (r.id = x) := by
  funext r
  exact same_key r.id x
 rw [this]
 induction l with
 | nil => rfl
 | cons f l ih =>
  rw [List.any_cons, List.find?_cons]
  cases decide (f.id = x) with
  | true => rfl
  | false => simpa using ih
def delR (l : List Ro) (x : Int) : List Ro := l.filter (fun r => !decide (r.id = x))
theorem del_datum (l : List Ro) (x : Int) : (datum l).del (keyI x) = datum (delR l x) := by
 unfold datum DataW.del delR
 simp only
 rw [List.filter_map]
 congr 2
 apply List.filter_congr
 intro r _
 show (!(keyI r.id).sameKey (keyI x)) = _
 rw [same_key]
theorem before_int (a b : Int) : (keyI a).before (keyI b) = decide (a < b) := rfl
def insR (r : Ro) : List Ro → List Ro
 | [] => [r]
 | g :: l => if r.id < g.id then r :: g :: l else g :: insR r l
theorem ins_entry (r : Ro) (l : List Ro) : DataW.insert r.entry (l.map Ro.entry) = (insR r l).map Ro.entry := by
 induction l with
 | nil => rfl
 | cons g l ih =>
  rw [List.map_cons]
  unfold DataW.insert insR
  show (if (keyI r.id).before (keyI g.id) = true then _ else _) = _
  by_cases h : r.id < g.id
  ·
   rw [if_pos (show (keyI r.id).before (keyI g.id) = true from decide_eq_true h), if_pos h]
   rfl
  ·
   rw [if_neg (show ¬ (keyI r.id).before (keyI g.id) = true from fun e => h (of_decide_eq_true e)), if_neg h, List.map_cons]
   exact congrArg _ ih
def putR (l : List Ro) (r : Ro) : List Ro := insR r (delR l r.id)
theorem put_datum (l : List Ro) (r : Ro) : (datum l).put (keyI r.id) (lastD r.seq r.ans) = datum (putR l r) := by
 have h := del_datum l r.id
 unfold datum DataW.del at h
 injection h with h
 unfold datum DataW.put
 simp only
 rw [h]
 exact congrArg _ (ins_entry r _)
theorem key_of {x : Int} (h0 : 0 ≤ x) (h1 : x ≤ top) : keyOf Tryz.prog 23 (.int .u64 x) = some (keyI x) :=
 Maps.keyOf_int_mk Tryz.underlying23 (by
  unfold top at h1
  simp [Lit.wf, IntKind.min, IntKind.max, IntKind.signed, IntKind.bits]
  omega)
theorem law : Keyed Tryz.prog 23 := Maps.int_keyed Tryz.underlying23
theorem zeroL (w : World) : (zeroValue 134).run Tryz.prog w = .ok (lastV 0 .zero) w := by kernel_rfl
theorem zeroA (w : World) : (zeroValue 40).run Tryz.prog w = .ok An.zero.agg w := by kernel_rfl
structure TabAt (w : World) (p m : Nat) (l : List Ro) : Prop where
 box : Box w p 109 #[.map (some m)]
 map : w.ownsMap Tryz.prog 23 lastElem m l.length (datum l)
 ne : p ≠ m
theorem TabAt.lt {w : World} {p m : Nat} {l : List Ro} (h : TabAt w p m l) : p < w.heap.size ∧ m < w.heap.size := ⟨h.box.lt, h.map.lt⟩
theorem map_keep {w w' : World} {S : Nat → Prop} {m n : Nat} {D : DT} (h : w.ownsMap Tryz.prog 23 lastElem m n D) (k : Keep S w w') (hs : ¬ S m) : w'.ownsMap Tryz.prog 23 lastElem m n D := by
 have hlt := h.lt
 obtain ⟨es, clock, hb, r⟩ := h
 exact ⟨es, clock, (k.block m hlt hs).trans hb, r⟩
theorem map_tight {w : World} {m n : Nat} {l : List Ro} (h : w.ownsMap Tryz.prog 23 lastElem m n (datum l)) : w.ownsMap Tryz.prog 23 lastElem m l.length (datum l) := by
 obtain ⟨es, clock, hb, F, hs, hD⟩ := h
 refine ⟨es, clock, hb, F, ?_, hD⟩
 unfold datum at hD
 injection hD with hD
 have := congrArg List.length hD
 rw [length_sorted] at this
 simp at this
 omega
theorem TabAt.keep {w w' : World} {S : Nat → Prop} {p m : Nat} {l : List Ro} (h : TabAt w p m l) (k : Keep S w w') (hp : ¬ S p) (hm : ¬ S m) : TabAt w' p m l := ⟨h.box.keep k hp, map_keep h.map k hm, h.ne⟩
theorem TabAt.stay {w w' : World} {p m : Nat} {l : List Ro} (h : TabAt w p m l) (k : Keep noneOf w w') : TabAt w' p m l := h.keep k id id
theorem TabAt.rising {w : World} {p m : Nat} {l : List Ro} (h : TabAt w p m l) : l.Pairwise (fun a b => a.id < b.id) := by
 obtain ⟨es, clock, hb, F, hs, hD⟩ := h.map
 have hp := Maps.sorted_sorted law.one _ (Maps.fit_keys F) (Maps.fit_apart law F)
 unfold datum at hD
 injection hD with hD
 rw [← hD, List.pairwise_map] at hp
 refine hp.imp (fun {a b} hab => ?_)
 have : (keyI a.id).before (keyI b.id) = true := hab
 rw [before_int, decide_eq_true_eq] at this
 exact this
theorem look_run {w : World} {p m : Nat} {l : List Ro} (h : TabAt w p m l) {x : Int} (h0 : 0 ≤ x) (h1 : x ≤ top) :
  (Instr.lookup 107 (.map (some m)) (.int .u64 x) true).run Tryz.prog w = .ok (.tuple #[lastOf (findR l x), .bool (findR l x).isSome]) w := by
 obtain ⟨v, ps, hrun, hv⟩ := h.map.look_ok (t := 107) (e := 134) law Tryz.underlying107 (zeroL w) (lastElem_mk 0 .zero) (key_of h0 h1)
 rw [hrun, has_find]
 rw [at_find] at hv
 obtain ⟨s, a, rfl, e⟩ := lastElem_inv hv
 cases hq : findR l x with
 | none =>
  rw [hq] at e
  obtain ⟨rfl, rfl⟩ := lastD_inj (Prod.mk.inj e).1
  rfl
 | some r =>
  rw [hq] at e
  obtain ⟨rfl, rfl⟩ := lastD_inj (Prod.mk.inj e).1
  rfl
theorem findR_mem {l : List Ro} {x : Int} {r : Ro} (h : findR l x = some r) : r ∈ l ∧ r.id = x := by
 unfold findR at h
 exact ⟨List.mem_of_find?_eq_some h, by simpa using List.find?_some h⟩
theorem len_run {w : World} {p m : Nat} {l : List Ro} (h : TabAt w p m l) (ty : TypeId) : (Builtin.len_ #[107] ty #[.map (some m)]).run Tryz.prog w = .ok (.int .i64 l.length) w := by
 have := h.map.len (t := 107) Tryz.underlying107 ty
 rw [this]
 unfold datum
 rw [Maps.size_eq, List.length_map]
end Go.Proofs.YtffoeodjbbkdjaaGreat
namespace Go.Proofs.YtffoeodjbbkdjaaGreat
open Go.RowKit
def An.same (x y : An) : Bool := x.code == y.code && x.id == y.id && x.tok == y.tok && x.unt == y.unt && (x.tgt.toList == y.tgt.toList) && (x.cmd.toList == y.cmd.toList)
theorem toList_inj {a b : ByteArray} (h : a.toList = b.toList) : a = b := by
 rw [ByteArray.toList_eq, ByteArray.toList_eq] at h
 exact bytes_inj h
theorem An.same_iff (x y : An) : An.same x y = true ↔ x = y := by
 obtain ⟨c, i, t, u, g, m⟩ := x
 obtain ⟨c', i', t', u', g', m'⟩ := y
 simp only [An.same, Bool.and_eq_true, beq_iff_eq, An.mk.injEq]
 constructor
 ·
  rintro ⟨⟨⟨⟨⟨h1, h2⟩, h3⟩, h4⟩, h5⟩, h6⟩
  exact ⟨h1, h2, h3, h4, toList_inj h5, toList_inj h6⟩
 ·
  rintro ⟨h1, h2, h3, h4, h5, h6⟩
  exact ⟨⟨⟨⟨⟨h1, h2⟩, h3⟩, h4⟩, by rw [h5]⟩, by rw [h6]⟩
instance : DecidableEq An := fun x y => decidable_of_iff (x.same y = true) (An.same_iff x y)
def Ro.same (x y : Ro) : Bool := x.id == y.id && x.seq == y.seq && An.same x.ans y.ans
theorem Ro.same_iff (x y : Ro) : Ro.same x y = true ↔ x = y := by
 obtain ⟨i, s, a⟩ := x
 obtain ⟨i', s', a'⟩ := y
 simp only [Ro.same, Bool.and_eq_true, beq_iff_eq, Ro.mk.injEq, An.same_iff, and_assoc]
instance : DecidableEq Ro := fun x y => decidable_of_iff (x.same y = true) (Ro.same_iff x y)
theorem an_under : Tryz.prog.underlying 40 = some (.struct (Tryz.prog.fieldsOf 40)) := by kernel_rfl
theorem an_fields : (Tryz.prog.fieldsOf 40).toList.map (fun f => (f.name == "_", f.type, f.offset)) = [(false, 38, 0), (false, 23, 1), (false, 23, 2), (false, 23, 3), (false, 9, 4), (false, 9, 5)] := by kernel_rfl
theorem an_held : Tryz.prog.stoodInHeld 40 = false := by kernel_rfl
theorem ro_under : Tryz.prog.underlying 115 = some (.struct (Tryz.prog.fieldsOf 115)) := by kernel_rfl
theorem ro_fields : (Tryz.prog.fieldsOf 115).toList.map (fun f => (f.name == "_", f.type, f.offset)) = [(false, 23, 0), (false, 23, 1), (false, 40, 2)] := by kernel_rfl
theorem ro_held : Tryz.prog.stoodInHeld 115 = false := by kernel_rfl
theorem run_partS (w : World) (t : TypeId) (xs : Array Value) (o : Nat) (x : Value) (hi : Tryz.prog.underlying t = some .string) (hx : xs[o]? = some x) : (part t xs o).run Tryz.prog w = .ok x w := by
 simp [part, isAgg, hx, run_underlying hi]
theorem run_partA (w : World) (r : Ro) : (part 40 #[.int .u64 r.id, .int .u64 r.seq, .int .i64 r.ans.code, .int .u64 r.ans.id, .int .u64 r.ans.tok, .int .u64 r.ans.unt, .string r.ans.tgt, .string r.ans.cmd] 2).run Tryz.prog w = .ok r.ans.agg w := by
 simp [part, Result.andThen, An.agg]
theorem run_equalA (d : Nat) (w : World) (x y : An) : (Op.equalIn (d + 2) 40 x.agg y.agg).run Tryz.prog w = .ok (decide (x = y)) w := by
 unfold An.agg
 rw [run_equalIn_struct w (d + 1) _ _ _ an_under an_held]
 have h := an_fields
 generalize (Tryz.prog.fieldsOf 40).toList = fs at h
 have hl : fs.length = 6 := by simpa using congrArg List.length h
 match fs, hl with
 | [f0, f1, f2, f3, f4, f5], _ =>
  simp only [List.map_cons, List.map_nil, List.cons.injEq, Prod.mk.injEq, and_true, beq_eq_false_iff_ne] at h
  obtain ⟨⟨n0, t0, o0⟩, ⟨n1, t1, o1⟩, ⟨n2, t2, o2⟩, ⟨n3, t3, o3⟩, ⟨n4, t4, o4⟩, ⟨n5, t5, o5⟩⟩ := h
  have p0 : ∀ (w' : World) (z : An), (part f0.type #[.int .i64 z.code, .int .u64 z.id, .int .u64 z.tok, .int .u64 z.unt, .string z.tgt, .string z.cmd] f0.offset).run Tryz.prog w' = .ok (.int .i64 z.code) w' := fun w' z => by rw [t0, o0]; exact run_part1 w' _ _ _ _ _ Tryz.underlying38 rfl
  have p1 : ∀ (w' : World) (z : An), (part f1.type #[.int .i64 z.code, .int .u64 z.id, .int .u64 z.tok, .int .u64 z.unt, .string z.tgt, .string z.cmd] f1.offset).run Tryz.prog w' = .ok (.int .u64 z.id) w' := fun w' z => by rw [t1, o1]; exact run_part1 w' _ _ _ _ _ Tryz.underlying23 rfl
  have p2 : ∀ (w' : World) (z : An), (part f2.type #[.int .i64 z.code, .int .u64 z.id, .int .u64 z.tok, .int .u64 z.unt, .string z.tgt, .string z.cmd] f2.offset).run Tryz.prog w' = .ok (.int .u64 z.tok) w' := fun w' z => by rw [t2, o2]; exact run_part1 w' _ _ _ _ _ Tryz.underlying23 rfl
  have p3 : ∀ (w' : World) (z : An), (part f3.type #[.int .i64 z.code, .int .u64 z.id, .int .u64 z.tok, .int .u64 z.unt, .string z.tgt, .string z.cmd] f3.offset).run Tryz.prog w' = .ok (.int .u64 z.unt) w' := fun w' z => by rw [t3, o3]; exact run_part1 w' _ _ _ _ _ Tryz.underlying23 rfl
  have p4 : ∀ (w' : World) (z : An), (part f4.type #[.int .i64 z.code, .int .u64 z.id, .int .u64 z.tok, .int .u64 z.unt, .string z.tgt, .string z.cmd] f4.offset).run Tryz.prog w' = .ok (.string z.tgt) w' := fun w' z => by rw [t4, o4]; exact run_partS w' _ _ _ _ Tryz.underlying9 rfl
  have p5 : ∀ (w' : World) (z : An), (part f5.type #[.int .i64 z.code, .int .u64 z.id, .int .u64 z.tok, .int .u64 z.unt, .string z.tgt, .string z.cmd] f5.offset).run Tryz.prog w' = .ok (.string z.cmd) w' := fun w' z => by rw [t5, o5]; exact run_partS w' _ _ _ _ Tryz.underlying9 rfl
  have e0 : ∀ w', (Op.equalIn (d + 1) f0.type (.int .i64 x.code) (.int .i64 y.code)).run Tryz.prog w' = .ok (x.code == y.code) w' := fun w' => by rw [t0]; exact run_equalIn_int w' d _ _ _ _ _ Tryz.underlying38
  have e1 : ∀ w', (Op.equalIn (d + 1) f1.type (.int .u64 x.id) (.int .u64 y.id)).run Tryz.prog w' = .ok (x.id == y.id) w' := fun w' => by rw [t1]; exact run_equalIn_int w' d _ _ _ _ _ Tryz.underlying23
  have e2 : ∀ w', (Op.equalIn (d + 1) f2.type (.int .u64 x.tok) (.int .u64 y.tok)).run Tryz.prog w' = .ok (x.tok == y.tok) w' := fun w' => by rw [t2]; exact run_equalIn_int w' d _ _ _ _ _ Tryz.underlying23
  have e3 : ∀ w', (Op.equalIn (d + 1) f3.type (.int .u64 x.unt) (.int .u64 y.unt)).run Tryz.prog w' = .ok (x.unt == y.unt) w' := fun w' => by rw [t3]; exact run_equalIn_int w' d _ _ _ _ _ Tryz.underlying23
  have e4 : ∀ w', (Op.equalIn (d + 1) f4.type (.string x.tgt) (.string y.tgt)).run Tryz.prog w' = .ok (x.tgt.toList == y.tgt.toList) w' := fun w' => by rw [t4]; exact run_equalIn_string w' d _ _ _ Tryz.underlying9
  have e5 : ∀ w', (Op.equalIn (d + 1) f5.type (.string x.cmd) (.string y.cmd)).run Tryz.prog w' = .ok (x.cmd.toList == y.cmd.toList) w' := fun w' => by rw [t5]; exact run_equalIn_string w' d _ _ _ Tryz.underlying9
  have hd : decide (x = y) = (x.code == y.code && x.id == y.id && x.tok == y.tok && x.unt == y.unt && (x.tgt.toList == y.tgt.toList) && (x.cmd.toList == y.cmd.toList)) := by
   rw [Bool.eq_iff_iff, decide_eq_true_eq, ← An.same_iff]
   rfl
  rw [hd]
  simp only [Op.eqFields, n0, n1, n2, n3, n4, n5, ne_eq, not_false_eq_true, if_true, Sem.run_bind, Sem.run_ite, Sem.run_pure, p0, p1, p2, p3, p4, p5, e0, e1, e2, e3, e4, e5, Result.andThen_ok]
  cases x.code == y.code <;> cases x.id == y.id <;> cases x.tok == y.tok <;> cases x.unt == y.unt <;> cases x.tgt.toList == y.tgt.toList <;> cases x.cmd.toList == y.cmd.toList <;> rfl
theorem run_equalR (d : Nat) (w : World) (x y : Ro) : (Op.equalIn (d + 3) 115 x.agg y.agg).run Tryz.prog w = .ok (decide (x = y)) w := by
 unfold Ro.agg
 rw [run_equalIn_struct w (d + 2) _ _ _ ro_under ro_held]
 have h := ro_fields
 generalize (Tryz.prog.fieldsOf 115).toList = fs at h
 have hl : fs.length = 3 := by simpa using congrArg List.length h
 match fs, hl with
 | [f0, f1, f2], _ =>
  simp only [List.map_cons, List.map_nil, List.cons.injEq, Prod.mk.injEq, and_true, beq_eq_false_iff_ne] at h
  obtain ⟨⟨n0, t0, o0⟩, ⟨n1, t1, o1⟩, ⟨n2, t2, o2⟩⟩ := h
  have p0 : ∀ (w' : World) (r : Ro), (part f0.type #[.int .u64 r.id, .int .u64 r.seq, .int .i64 r.ans.code, .int .u64 r.ans.id, .int .u64 r.ans.tok, .int .u64 r.ans.unt, .string r.ans.tgt, .string r.ans.cmd] f0.offset).run Tryz.prog w' = .ok (.int .u64 r.id) w' := fun w' r => by rw [t0, o0]; exact run_part1 w' _ _ _ _ _ Tryz.underlying23 rfl
  have p1 : ∀ (w' : World) (r : Ro), (part f1.type #[.int .u64 r.id, .int .u64 r.seq, .int .i64 r.ans.code, .int .u64 r.ans.id, .int .u64 r.ans.tok, .int .u64 r.ans.unt, .string r.ans.tgt, .string r.ans.cmd] f1.offset).run Tryz.prog w' = .ok (.int .u64 r.seq) w' := fun w' r => by rw [t1, o1]; exact run_part1 w' _ _ _ _ _ Tryz.underlying23 rfl
  have p2 : ∀ (w' : World) (r : Ro), (part f2.type #[.int .u64 r.id, .int .u64 r.seq, .int .i64 r.ans.code, .int .u64 r.ans.id, .int .u64 r.ans.tok, .int .u64 r.ans.unt, .string r.ans.tgt, .string r.ans.cmd] f2.offset).run Tryz.prog w' = .ok r.ans.agg w' := fun w' r => by rw [t2, o2]; exact run_partA w' r
  have e0 : ∀ w', (Op.equalIn (d + 2) f0.type (.int .u64 x.id) (.int .u64 y.id)).run Tryz.prog w' = .ok (x.id == y.id) w' := fun w' => by rw [t0]; exact run_equalIn_int w' (d + 1) _ _ _ _ _ Tryz.underlying23
  have e1 : ∀ w', (Op.equalIn (d + 2) f1.type (.int .u64 x.seq) (.int .u64 y.seq)).run Tryz.prog w' = .ok (x.seq == y.seq) w' := fun w' => by rw [t1]; exact run_equalIn_int w' (d + 1) _ _ _ _ _ Tryz.underlying23
  have e2 : ∀ w', (Op.equalIn (d + 2) f2.type x.ans.agg y.ans.agg).run Tryz.prog w' = .ok (decide (x.ans = y.ans)) w' := fun w' => by rw [t2]; exact run_equalA d w' _ _
  have hd : decide (x = y) = (x.id == y.id && x.seq == y.seq && decide (x.ans = y.ans)) := by
   rw [Bool.eq_iff_iff, decide_eq_true_eq]
   simp only [Bool.and_eq_true, beq_iff_eq, decide_eq_true_eq, and_assoc]
   obtain ⟨i, s, a⟩ := x
   obtain ⟨i', s', a'⟩ := y
   simp
  rw [hd]
  simp only [Op.eqFields, n0, n1, n2, ne_eq, not_false_eq_true, if_true, Sem.run_bind, Sem.run_ite, Sem.run_pure, p0, p1, p2, e0, e1, e2, Result.andThen_ok]
  cases x.id == y.id <;> cases x.seq == y.seq <;> cases decide (x.ans = y.ans) <;> rfl
theorem run_neqA (w : World) (x y : An) : (binOp .neq 40 x.agg y.agg).run Tryz.prog w = .ok (.bool (!decide (x = y))) w := by
 show (binOp .neq 40 (.agg _) (.agg _)).run Tryz.prog w = _
 rw [run_neq_struct]
 have := run_equalA 9998 w x y
 unfold An.agg at this
 rw [this]
 rfl
theorem run_neqR (w : World) (x y : Ro) : (binOp .neq 115 x.agg y.agg).run Tryz.prog w = .ok (.bool (!decide (x = y))) w := by
 show (binOp .neq 115 (.agg _) (.agg _)).run Tryz.prog w = _
 rw [run_neq_struct]
 have := run_equalR 9997 w x y
 unfold Ro.agg at this
 rw [this]
 rfl
end Go.Proofs.YtffoeodjbbkdjaaGreat
namespace Go.Proofs.YtffoeodjbbkdjaaGreat
open Go.RowKit Go.Maps
def openE (l : List Ro) (x : Int) : Int := if x = 0 then 1 else if (findR l x).isSome then 0 else if 16 ≤ l.length then 112 else 0
def openL (l : List Ro) (x : Int) : List Ro := if x = 0 then l else if (findR l x).isSome then l else if 16 ≤ l.length then l else insR ⟨x, 0, .zero⟩ l
def lookA (l : List Ro) (x s : Int) : An := match findR l x with
 | none => .zero
 | some r => if s = r.seq ∧ s ≠ 0 then r.ans else .zero
def lookB (l : List Ro) (x s : Int) : Bool := match findR l x with
 | none => false
 | some r => decide (s = r.seq ∧ s ≠ 0)
def lookE (l : List Ro) (x s : Int) : Int := match findR l x with
 | none => 110
 | some r => if s < r.seq ∨ s = 0 then 111 else 0
def keepE (l : List Ro) (x s : Int) : Int := if lookE l x s ≠ 0 then lookE l x s else if lookB l x s then 111 else 0
def keepL (l : List Ro) (x s : Int) (a : An) : List Ro := if keepE l x s = 0 then putR l ⟨x, s, a⟩ else l
theorem del_none {l : List Ro} {x : Int} (h : findR l x = none) : delR l x = l := by
 unfold findR at h
 rw [List.find?_eq_none] at h
 unfold delR
 rw [List.filter_eq_self]
 intro f hf
 have := h f hf
 simpa using this
theorem ins_perm (r : Ro) (l : List Ro) : (insR r l).Perm (r :: l) := by
 induction l with
 | nil => exact List.Perm.refl _
 | cons g l ih =>
  unfold insR
  split
  ·
   exact List.Perm.refl _
  ·
   exact (ih.cons g).trans (List.Perm.swap r g l)
theorem ins_length (r : Ro) (l : List Ro) : (insR r l).length = l.length + 1 := (ins_perm r l).length_eq
theorem del_length {l : List Ro} {x : Int} {r : Ro} (h : findR l x = some r) : (delR l x).length + 1 ≤ l.length := by
 obtain ⟨hm, hx⟩ := findR_mem h
 unfold delR
 have : (l.filter (fun r => !decide (r.id = x))).length < l.length := by
  rw [List.length_filter_lt_length_iff_exists]
  exact ⟨r, hm, by simp [hx]⟩
 omega
theorem put_few {l : List Ro} {x s : Int} {a : An} {r : Ro} (h : findR l x = some r) : (putR l ⟨x, s, a⟩).length ≤ l.length := by
 unfold putR
 rw [ins_length]
 exact del_length h
set_option maxRecDepth 100000 in
theorem new_any_S (w : World) : Calls Tryz.prog 22 #[] w fun e w' => e = .returned (.pointer (some ⟨w.heap.size + 1, 0, none⟩)) ∧ TabAt w' (w.heap.size + 1) w.heap.size [] ∧ Keep noneOf w w' := by
 have hm := World.ownsMap_made (H := Unit) w Tryz.prog 23 lastElem
 have hk := ((Keep.refl noneOf w).alloc (.map #[] 0)).alloc (.cells #[.map (some w.heap.size)] 109)
 have hb := Box.new (w.alloc (.map #[] 0)) 109 #[.map (some w.heap.size)]
 have hm2 := hm.alloc (.cells #[.map (some w.heap.size)] 109)
 have HF : Hid (TabAt ((w.alloc (.map #[] 0)).alloc (.cells #[.map (some w.heap.size)] 109)) (w.heap.size + 1) w.heap.size []) := Lib.hid ⟨by simpa using hb, hm2, by omega⟩
 have HK := Lib.hid hk
 have hmm := @run_makeMap Tryz.prog
 clear hm hk hb hm2
 go_enter Tryz.func22, Tryz.ntmps22
 go_wp2
 go_ret
 exact ⟨by simp, HF.out, HK.out⟩
set_option maxRecDepth 100000 in
theorem len_any (w : World) (p m : Nat) (l : List Ro) (h : TabAt w p m l) : Calls Tryz.prog 80 #[.pointer (some ⟨p, 0, none⟩)] w fun e w' => e = .returned (.int .i64 l.length) ∧ w' = w := by
 have c0 : w.cell? ⟨p, 0, none⟩ = some (.map (some m)) := h.box.cell 0
 have hl := fun ty => len_run h ty
 clear h
 go_enter Tryz.func80, Tryz.ntmps80
 go_wp2
 go_ret
 exact ⟨rfl, rfl⟩
theorem tab_put {w w' : World} {p m n : Nat} {l l' : List Ro} (h : TabAt w p m l) (hm : w'.ownsMap Tryz.prog 23 lastElem m n (datum l')) (hg : w.grownBy w' (some m)) : TabAt w' p m l' ∧ Keep (fun i => i = m) w w' := by
 have kk : Keep (fun i => i = m) w w' := (Keep.of_grown hg).mono (fun i _ e => by injection e)
 exact ⟨⟨h.box.keep kk (fun e => h.ne e), map_tight hm, h.ne⟩, kk⟩
set_option maxRecDepth 100000 in
set_option maxHeartbeats 1000000 in
theorem open_any (w : World) (p m : Nat) (l : List Ro) (x : Int) (h : TabAt w p m l) (h0 : 0 ≤ x) (h1 : x ≤ top) :
  Calls Tryz.prog 97 #[.pointer (some ⟨p, 0, none⟩), .int .u64 x] w fun e w' => e = .returned (.int .i64 (openE l x)) ∧ TabAt w' p m (openL l x) ∧ Keep (fun i => i = m) w w' := by
 by_cases hx : x = 0
 ·
  have e1 : openE l x = 1 := by unfold openE; rw [if_pos hx]
  have e2 : openL l x = l := by unfold openL; rw [if_pos hx]
  rw [e1, e2]
  subst hx
  have H := Lib.hid h
  clear h e1 e2
  go_enter Tryz.func97, Tryz.ntmps97
  go_wp2
  go_ret
  exact ⟨rfl, H.out, Keep.refl _ _⟩
 ·
  have hb := h.box
  have c0 : w.cell? ⟨p, 0, none⟩ = some (.map (some m)) := hb.cell 0
  have hlook := look_run h h0 h1
  have hlen := len_any
  have g0 : (x == 0) = false := beq_eq_false_iff_ne.2 hx
  cases hq : findR l x with
  | some r =>
   have e1 : openE l x = 0 := by unfold openE; rw [if_neg hx, hq]; rfl
   have e2 : openL l x = l := by unfold openL; rw [if_neg hx, hq]; rfl
   rw [e1, e2]
   rw [hq] at hlook
   unfold lastOf lastV at hlook
   simp only [Option.isSome_some] at hlook
   have HF : Hid (∀ o, TabAt (w.alloc o) p m l ∧ Keep (fun i => i = m) w (w.alloc o)) := Lib.hid fun o => ⟨h.stay ((Keep.refl noneOf w).alloc o), (Keep.refl _ w).alloc o⟩
   clear h e1 e2 hq hb hlen hx
   go_enter Tryz.func97, Tryz.ntmps97
   go_wp2
   go_ret
   exact ⟨rfl, HF.out _⟩
  | none =>
   rw [hq] at hlook
   unfold lastOf lastV An.zero at hlook
   simp only [Option.isSome_none] at hlook
   have HK := Lib.hid h
   have HA : Hid (∀ o, TabAt (w.alloc o) p m l) := Lib.hid fun o => h.stay ((Keep.refl noneOf w).alloc o)
   have HL : Hid (∀ o, Calls Tryz.prog 80 #[.pointer (some ⟨p, 0, none⟩)] (w.alloc o) fun e w' => e = .returned (.int .i64 l.length) ∧ w' = w.alloc o) := Lib.hid fun o => len_any _ p m l (HA.out o)
   have HX : Hid (0 ≤ x ∧ x ≤ top) := Lib.hid ⟨h0, h1⟩
   have hsz := hb.lt
   by_cases hf : 16 ≤ l.length
   ·
    have e1 : openE l x = 112 := by unfold openE; rw [if_neg hx, hq, if_pos hf]; rfl
    have e2 : openL l x = l := by unfold openL; rw [if_neg hx, hq, if_pos hf]; rfl
    rw [e1, e2]
    have q1 : (16 : Int) ≤ (l.length : Int) := by omega
    clear h e1 e2 hq hb hlen hx hf
    go_enter Tryz.func97, Tryz.ntmps97
    go_wp2_with fail
    refine (HL.out _).mono ?_
    rintro e w1 ⟨rfl, rfl⟩
    go_wp2
    go_ret
    exact ⟨rfl, HA.out _, (Keep.refl _ w).alloc _⟩
   ·
    have e1 : openE l x = 0 := by unfold openE; rw [if_neg hx, hq, if_neg hf]; rfl
    have e2 : openL l x = insR ⟨x, 0, .zero⟩ l := by unfold openL; rw [if_neg hx, hq, if_neg hf]; rfl
    rw [e1, e2]
    have q1 : ¬ (16 : Int) ≤ (l.length : Int) := by omega
    have HN : Hid (l.length < maxLen) := Lib.hid (by unfold maxLen; omega)
    have HP : Hid ((datum l).put (keyI x) (lastD 0 .zero) = datum (insR ⟨x, 0, .zero⟩ l)) := Lib.hid (by have h9 := put_datum l ⟨x, 0, .zero⟩; unfold putR at h9; rw [del_none hq] at h9; exact h9)
    have hz := zeroL
    unfold lastV An.zero at hz
    clear h e1 e2 hq hb hlen hx hf
    go_enter Tryz.func97, Tryz.ntmps97
    go_wp2_with fail
    refine (HL.out _).mono ?_
    rintro e w1 ⟨rfl, rfl⟩
    go_wp2_with (first
     | (at_mapUpdate; refine wpList_mapUpdate_own _ rfl _ _ _ 107 rfl 23 134 law Tryz.underlying107 lastElem m _ _ rfl (HA.out _).map HN.out _ _ (keyI x) rfl rfl (key_of HX.out.1 HX.out.2) (lastD 0 .zero) [] rfl ?_; intro w2 hown2 hgrow2; rw [HP.out] at hown2; have HT2 := Lib.hid (tab_put (HA.out _) hown2 hgrow2); clear hown2 hgrow2)
     | fail)
    go_wp2
    go_ret
    exact ⟨rfl, HT2.out.1, ((Keep.refl _ w).alloc _).trans HT2.out.2 (fun _ _ e => e)⟩
theorem ans_blocks (w : World) (a : An) (y : Array Value) (t : TypeId) (wf : World) (e : wf = (w.alloc (.cells #[.int .i64 a.code, .int .u64 a.id, .int .u64 a.tok, .int .u64 a.unt, .string a.tgt, .string a.cmd] 40)).alloc (.cells y t)) :
  wf.cell? ⟨w.heap.size, 0, none⟩ = some (.int .i64 a.code) ∧ wf.cell? ⟨w.heap.size, 1, none⟩ = some (.int .u64 a.id) ∧ wf.cell? ⟨w.heap.size, 2, none⟩ = some (.int .u64 a.tok) ∧ wf.cell? ⟨w.heap.size, 3, none⟩ = some (.int .u64 a.unt) ∧ wf.cell? ⟨w.heap.size, 4, none⟩ = some (.string a.tgt) ∧ wf.cell? ⟨w.heap.size, 5, none⟩ = some (.string a.cmd) ∧ Keep noneOf w wf := by
 subst e
 have x := (Box.new w 40 #[.int .i64 a.code, .int .u64 a.id, .int .u64 a.tok, .int .u64 a.unt, .string a.tgt, .string a.cmd]).alloc (.cells y t)
 exact ⟨x.cell 0, x.cell 1, x.cell 2, x.cell 3, x.cell 4, x.cell 5, ((Keep.refl noneOf w).alloc _).alloc _⟩
theorem look_at {l : List Ro} {x s : Int} {r : Ro} (hq : findR l x = some r) : lookA l x s = (if s = r.seq ∧ s ≠ 0 then r.ans else .zero) ∧ lookB l x s = decide (s = r.seq ∧ s ≠ 0) ∧ lookE l x s = (if s < r.seq ∨ s = 0 then 111 else 0) := by
 unfold lookA lookB lookE
 rw [hq]
 exact ⟨rfl, rfl, rfl⟩
set_option maxRecDepth 100000 in
set_option maxHeartbeats 1000000 in
theorem look_any (w : World) (p m : Nat) (l : List Ro) (x s : Int) (h : TabAt w p m l) (h0 : 0 ≤ x) (h1 : x ≤ top) :
  Calls Tryz.prog 64 #[.pointer (some ⟨p, 0, none⟩), .int .u64 x, .int .u64 s] w fun e w' => e = .returned (.tuple #[(lookA l x s).agg, .bool (lookB l x s), .int .i64 (lookE l x s)]) ∧ Keep noneOf w w' := by
 have hb := h.box
 have hsz := hb.lt
 have c0 : w.cell? ⟨p, 0, none⟩ = some (.map (some m)) := hb.cell 0
 have hlook : ∀ o, (Instr.lookup 107 (.map (some m)) (.int .u64 x) true).run Tryz.prog (w.alloc o) = .ok (.tuple #[lastOf (findR l x), .bool (findR l x).isSome]) (w.alloc o) := fun o => look_run (h.stay ((Keep.refl noneOf w).alloc o)) h0 h1
 have hz := zeroA
 unfold An.agg An.zero at hz
 cases hq : findR l x with
 | none =>
  have e1 : lookA l x s = .zero := by unfold lookA; rw [hq]
  have e2 : lookB l x s = false := by unfold lookB; rw [hq]
  have e3 : lookE l x s = 110 := by unfold lookE; rw [hq]
  rw [e1, e2, e3]
  rw [hq] at hlook
  unfold lastOf lastV An.zero at hlook
  simp only [Option.isSome_none] at hlook
  clear h e1 e2 e3 hq hb h0 h1
  go_enter Tryz.func64, Tryz.ntmps64
  go_wp2
  generalize hwf : ((w.alloc (.cells #[.int .i64 0, .int .u64 0, .int .u64 0, .int .u64 0, .string ⟨#[]⟩, .string ⟨#[]⟩] 40)).alloc _) = wf
  obtain ⟨r0, r1, r2, r3, r4, r5, K⟩ := ans_blocks w .zero _ _ wf hwf.symm
  exact bodyPost_ret (v := .tuple #[An.zero.agg, .bool false, .int .i64 110]) (by simp [results, Tryz.results64, go_sem, r0, r1, r2, r3, r4, r5]; rfl) rfl ⟨rfl, K⟩
 | some r =>
  obtain ⟨e1, e2, e3⟩ := look_at (s := s) hq
  rw [hq] at hlook
  unfold lastOf lastV at hlook
  simp only [Option.isSome_some] at hlook
  by_cases hs : s < r.seq ∨ s = 0
  ·
   rw [if_pos hs] at e3
   rw [if_neg (by omega)] at e1
   rw [decide_eq_false (by omega)] at e2
   rw [e1, e2, e3]
   obtain ⟨i, sq, ⟨ac, ai, at_, au, ag, am⟩⟩ := r
   simp only at hs hlook
   clear h e1 e2 e3 hq hb h0 h1
   by_cases hs1 : s < sq
   ·
    go_enter Tryz.func64, Tryz.ntmps64
    go_wp2
    generalize hwf : ((w.alloc (.cells #[.int .i64 0, .int .u64 0, .int .u64 0, .int .u64 0, .string ⟨#[]⟩, .string ⟨#[]⟩] 40)).alloc _) = wf
    obtain ⟨r0, r1, r2, r3, r4, r5, K⟩ := ans_blocks w .zero _ _ wf hwf.symm
    exact bodyPost_ret (v := .tuple #[An.zero.agg, .bool false, .int .i64 111]) (by simp [results, Tryz.results64, go_sem, r0, r1, r2, r3, r4, r5]; rfl) rfl ⟨rfl, K⟩
   ·
    obtain rfl : s = 0 := by omega
    go_enter Tryz.func64, Tryz.ntmps64
    go_wp2
    generalize hwf : ((w.alloc (.cells #[.int .i64 0, .int .u64 0, .int .u64 0, .int .u64 0, .string ⟨#[]⟩, .string ⟨#[]⟩] 40)).alloc _) = wf
    obtain ⟨r0, r1, r2, r3, r4, r5, K⟩ := ans_blocks w .zero _ _ wf hwf.symm
    exact bodyPost_ret (v := .tuple #[An.zero.agg, .bool false, .int .i64 111]) (by simp [results, Tryz.results64, go_sem, r0, r1, r2, r3, r4, r5]; rfl) rfl ⟨rfl, K⟩
  ·
   rw [if_neg hs] at e3
   have hs0 : s ≠ 0 := fun e => hs (.inr e)
   have hs1 : ¬ s < r.seq := fun e => hs (.inl e)
   have g0 : (s == 0) = false := beq_eq_false_iff_ne.2 hs0
   by_cases he : s = r.seq
   ·
    rw [if_pos ⟨he, hs0⟩] at e1
    rw [decide_eq_true ⟨he, hs0⟩] at e2
    rw [e1, e2, e3]
    obtain ⟨i, sq, ⟨ac, ai, at_, au, ag, am⟩⟩ := r
    simp only at he hs1 hlook
    subst he
    clear h e1 e2 e3 hq hb h0 h1 hs hs0
    go_enter Tryz.func64, Tryz.ntmps64
    go_wp2
    generalize hwf : ((w.alloc (.cells #[.int .i64 ac, .int .u64 ai, .int .u64 at_, .int .u64 au, .string ag, .string am] 40)).alloc _) = wf
    obtain ⟨r0, r1, r2, r3, r4, r5, K⟩ := ans_blocks w ⟨ac, ai, at_, au, ag, am⟩ _ _ wf hwf.symm
    simp only at r0 r1 r2 r3 r4 r5
    exact bodyPost_ret (v := .tuple #[An.agg ⟨ac, ai, at_, au, ag, am⟩, .bool true, .int .i64 0]) (by simp [results, Tryz.results64, go_sem, r0, r1, r2, r3, r4, r5]; rfl) rfl ⟨rfl, K⟩
   ·
    rw [if_neg (fun h => he h.1)] at e1
    rw [decide_eq_false (fun h => he h.1)] at e2
    rw [e1, e2, e3]
    obtain ⟨i, sq, ⟨ac, ai, at_, au, ag, am⟩⟩ := r
    simp only at he hs1 hlook
    have hs2 : sq < s := by omega
    clear h e1 e2 e3 hq hb h0 h1 hs hs0 he
    go_enter Tryz.func64, Tryz.ntmps64
    go_wp2
    generalize hwf : ((w.alloc (.cells #[.int .i64 0, .int .u64 0, .int .u64 0, .int .u64 0, .string ⟨#[]⟩, .string ⟨#[]⟩] 40)).alloc _) = wf
    obtain ⟨r0, r1, r2, r3, r4, r5, K⟩ := ans_blocks w .zero _ _ wf hwf.symm
    exact bodyPost_ret (v := .tuple #[An.zero.agg, .bool false, .int .i64 0]) (by simp [results, Tryz.results64, go_sem, r0, r1, r2, r3, r4, r5]; rfl) rfl ⟨rfl, K⟩
end Go.Proofs.YtffoeodjbbkdjaaGreat
