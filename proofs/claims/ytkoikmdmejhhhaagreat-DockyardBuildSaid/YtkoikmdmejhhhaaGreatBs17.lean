import Derived.Test.YtkoikmdmejhhhaaGreatRows
import Derived.BigQuiet
import Derived.ChangeKeysEq
import Derived.Deep.QuietTactic
import Derived.Deep.RegionHeld3
import Derived.Laws.StructEq
import Derived.Lib.Hide
import Derived.Maps.OwnSet
import Derived.Maps.RangeWalk
import Derived.Test.YtkoikmdmejhhhaaGreatBs01
import Derived.Test.YtkoikmdmejhhhaaGreatBs16
namespace Go.Proofs.YtkoikmdmejhhhaaGreat
open Go.RowKit Go.Maps
abbrev DT := DataW Unit
structure An where
  code : Int
  id : Int
  tok : Int
  unt : Int
  tgt : ByteArray
  cmd : ByteArray
def An.zero : An := ⟨0, 0, 0, 0, ⟨#[]⟩, ⟨#[]⟩⟩
def An.agg (a : An) : Value := .agg #[.int .i64 a.code, .int .u64 a.id, .int .u64 a.tok, .int .u64 a.unt, .string a.tgt, .string a.cmd]
structure Ro where
  id : Int
  seq : Int
  ans : An
def Ro.agg (r : Ro) : Value := .agg #[.int .u64 r.id, .int .u64 r.seq, .int .i64 r.ans.code, .int .u64 r.ans.id, .int .u64 r.ans.tok, .int .u64 r.ans.unt, .string r.ans.tgt, .string r.ans.cmd]
def lastV (s : Int) (a : An) : Value := .agg #[.int .u64 s, .int .i64 a.code, .int .u64 a.id, .int .u64 a.tok, .int .u64 a.unt, .string a.tgt, .string a.cmd]
def lastD (s : Int) (a : An) : DT := .agg [.lit (.int .u64 s), .lit (.int .i64 a.code), .lit (.int .u64 a.id), .lit (.int .u64 a.tok), .lit (.int .u64 a.unt), .lit (.string a.tgt.data.toList), .lit (.string a.cmd.data.toList)]
def lastElem : Value → Option (DT × List MemPlace)
  | .agg ⟨[.int .u64 s, .int .i64 c, .int .u64 i, .int .u64 t, .int .u64 u, .string g, .string m]⟩ => some (lastD s ⟨c, i, t, u, g, m⟩, [])
  | _ => none
theorem lastElem_mk (s : Int) (a : An) : lastElem (lastV s a) = some (lastD s a, []) := rfl
theorem lastElem_inv {v : Value} {y : DT × List MemPlace} (h : lastElem v = some y) : ∃ s a, v = lastV s a ∧ y = (lastD s a, []) := by
  unfold lastElem at h
  split at h
  · rename_i s c i t u g m
    injection h with h
    exact ⟨s, ⟨c, i, t, u, g, m⟩, rfl, h.symm⟩
  · cases h
theorem bytes_inj {a b : ByteArray} (h : a.data.toList = b.data.toList) : a = b := by
  obtain ⟨⟨l⟩⟩ := a
  obtain ⟨⟨m⟩⟩ := b
  have h' : l = m := h
  rw [h']
theorem lastD_inj {s s' : Int} {a a' : An} (h : lastD s a = lastD s' a') : s = s' ∧ a = a' := by
  obtain ⟨c, i, t, u, g, m⟩ := a
  obtain ⟨c', i', t', u', g', m'⟩ := a'
  unfold lastD at h
  simp only [DataW.agg.injEq, List.cons.injEq, DataW.lit.injEq, Lit.int.injEq, Lit.string.injEq, true_and, and_true] at h
  obtain ⟨h1, h2, h3, h4, h5, h6, h7⟩ := h
  exact ⟨h1, by rw [h2, h3, h4, h5, bytes_inj h6, bytes_inj h7]⟩
def keyI (x : Int) : Lit := .int .u64 x
def Ro.entry (r : Ro) : Lit × DT := (keyI r.id, lastD r.seq r.ans)
def datum (l : List Ro) : DT := .map (l.map Ro.entry)
def findR (l : List Ro) (x : Int) : Option Ro := l.find? (fun r => decide (r.id = x))
def lastOf : Option Ro → Value
  | none => lastV 0 .zero
  | some r => lastV r.seq r.ans
theorem keyI_inj {a b : Int} (h : keyI a = keyI b) : a = b := by
  unfold keyI at h
  injection h
theorem same_key (a b : Int) : (keyI a).sameKey (keyI b) = decide (a = b) := by
  by_cases h : a = b
  · subst h
    rw [decide_eq_true rfl]
    exact WideAt.sameKey_self trivial
  · rw [decide_eq_false h]
    exact Maps.sameKey_ne (fun e => h (keyI_inj e))
theorem at_find (l : List Ro) (x : Int) (z : DT) : (datum l).atKey (keyI x) z = match findR l x with
    | some r => lastD r.seq r.ans
    | none => z := by
  unfold datum DataW.atKey findR
  simp only
  rw [List.find?_map]
  have : ((fun p : Lit × DT => p.1.sameKey (keyI x)) ∘ Ro.entry) = fun r => decide (r.id = x) := by
    funext r
    exact same_key r.id x
  rw [this]
  cases l.find? (fun r => decide (r.id = x)) <;> rfl
theorem has_find (l : List Ro) (x : Int) : Maps.has (datum l) (keyI x) = (findR l x).isSome := by
  unfold datum findR
  rw [Maps.has_eq, List.any_map]
  have : ((fun p : Lit × DT => p.1.sameKey (keyI x)) ∘ Ro.entry) = fun r => decide (r.id = x) := by
    funext r
    exact same_key r.id x
  rw [this]
  induction l with
  | nil => rfl
  | cons f l ih =>
    rw [List.any_cons, List.find?_cons]
    cases decide (f.id = x) with
    | true => rfl
    | false => simpa using ih
def delR (l : List Ro) (x : Int) : List Ro := l.filter (fun r => !decide (r.id = x))
theorem del_datum (l : List Ro) (x : Int) : (datum l).del (keyI x) = datum (delR l x) := by
  unfold datum DataW.del delR
  simp only
  rw [List.filter_map]
  congr 2
  apply List.filter_congr
  intro r _
  show (!(keyI r.id).sameKey (keyI x)) = _
  rw [same_key]
theorem before_int (a b : Int) : (keyI a).before (keyI b) = decide (a < b) := rfl
def insR (r : Ro) : List Ro → List Ro
  | [] => [r]
  | g :: l => if r.id < g.id then r :: g :: l else g :: insR r l
theorem ins_entry (r : Ro) (l : List Ro) : DataW.insert r.entry (l.map Ro.entry) = (insR r l).map Ro.entry := by
  induction l with
  | nil => rfl
  | cons g l ih =>
    rw [List.map_cons]
    unfold DataW.insert insR
    show (if (keyI r.id).before (keyI g.id) = true then _ else _) = _
    by_cases h : r.id < g.id
    · rw [if_pos (show (keyI r.id).before (keyI g.id) = true from decide_eq_true h), if_pos h]
      rfl
    · rw [if_neg (show ¬ (keyI r.id).before (keyI g.id) = true from fun e => h (of_decide_eq_true e)), if_neg h, List.map_cons]
      exact congrArg _ ih
def putR (l : List Ro) (r : Ro) : List Ro := insR r (delR l r.id)
theorem put_datum (l : List Ro) (r : Ro) : (datum l).put (keyI r.id) (lastD r.seq r.ans) = datum (putR l r) := by
  have h := del_datum l r.id
  unfold datum DataW.del at h
  injection h with h
  unfold datum DataW.put
  simp only
  rw [h]
  exact congrArg _ (ins_entry r _)
theorem key_of {x : Int} (h0 : 0 ≤ x) (h1 : x ≤ top) : keyOf Tryz.prog 23 (.int .u64 x) = some (keyI x) :=
  Maps.keyOf_int_mk Tryz.underlying23 (by
    unfold top at h1
    simp [Lit.wf, IntKind.min, IntKind.max, IntKind.signed, IntKind.bits]
    omega)
theorem law : Keyed Tryz.prog 23 := Maps.int_keyed Tryz.underlying23
theorem zeroL (w : World) : (zeroValue 142).run Tryz.prog w = .ok (lastV 0 .zero) w := by kernel_rfl
theorem zeroA (w : World) : (zeroValue 40).run Tryz.prog w = .ok An.zero.agg w := by kernel_rfl
structure TabAt (w : World) (p m : Nat) (l : List Ro) : Prop where
  box : Box w p 121 #[.map (some m)]
  map : w.ownsMap Tryz.prog 23 lastElem m l.length (datum l)
  ne : p ≠ m
theorem TabAt.lt {w : World} {p m : Nat} {l : List Ro} (h : TabAt w p m l) : p < w.heap.size ∧ m < w.heap.size := ⟨h.box.lt, h.map.lt⟩
theorem map_keep {w w' : World} {S : Nat → Prop} {m n : Nat} {D : DT} (h : w.ownsMap Tryz.prog 23 lastElem m n D) (k : Keep S w w') (hs : ¬ S m) : w'.ownsMap Tryz.prog 23 lastElem m n D := by
  have hlt := h.lt
  obtain ⟨es, clock, hb, r⟩ := h
  exact ⟨es, clock, (k.block m hlt hs).trans hb, r⟩
theorem map_tight {w : World} {m n : Nat} {l : List Ro} (h : w.ownsMap Tryz.prog 23 lastElem m n (datum l)) : w.ownsMap Tryz.prog 23 lastElem m l.length (datum l) := by
  obtain ⟨es, clock, hb, F, hs, hD⟩ := h
  refine ⟨es, clock, hb, F, ?_, hD⟩
  unfold datum at hD
  injection hD with hD
  have := congrArg List.length hD
  rw [length_sorted] at this
  simp at this
  omega
theorem TabAt.keep {w w' : World} {S : Nat → Prop} {p m : Nat} {l : List Ro} (h : TabAt w p m l) (k : Keep S w w') (hp : ¬ S p) (hm : ¬ S m) : TabAt w' p m l := ⟨h.box.keep k hp, map_keep h.map k hm, h.ne⟩
theorem TabAt.stay {w w' : World} {p m : Nat} {l : List Ro} (h : TabAt w p m l) (k : Keep noneOf w w') : TabAt w' p m l := h.keep k id id
theorem TabAt.rising {w : World} {p m : Nat} {l : List Ro} (h : TabAt w p m l) : l.Pairwise (fun a b => a.id < b.id) := by
  obtain ⟨es, clock, hb, F, hs, hD⟩ := h.map
  have hp := Maps.sorted_sorted law.one _ (Maps.fit_keys F) (Maps.fit_apart law F)
  unfold datum at hD
  injection hD with hD
  rw [← hD, List.pairwise_map] at hp
  refine hp.imp (fun {a b} hab => ?_)
  have : (keyI a.id).before (keyI b.id) = true := hab
  rw [before_int, decide_eq_true_eq] at this
  exact this
theorem look_run {w : World} {p m : Nat} {l : List Ro} (h : TabAt w p m l) {x : Int} (h0 : 0 ≤ x) (h1 : x ≤ top) :
    (Instr.lookup 119 (.map (some m)) (.int .u64 x) true).run Tryz.prog w = .ok (.tuple #[lastOf (findR l x), .bool (findR l x).isSome]) w := by
  obtain ⟨v, ps, hrun, hv⟩ := h.map.look_ok (t := 119) (e := 142) law Tryz.underlying119 (zeroL w) (lastElem_mk 0 .zero) (key_of h0 h1)
  rw [hrun, has_find]
  rw [at_find] at hv
  obtain ⟨s, a, rfl, e⟩ := lastElem_inv hv
  cases hq : findR l x with
  | none =>
    rw [hq] at e
    obtain ⟨rfl, rfl⟩ := lastD_inj (Prod.mk.inj e).1
    rfl
  | some r =>
    rw [hq] at e
    obtain ⟨rfl, rfl⟩ := lastD_inj (Prod.mk.inj e).1
    rfl
theorem findR_mem {l : List Ro} {x : Int} {r : Ro} (h : findR l x = some r) : r ∈ l ∧ r.id = x := by
  unfold findR at h
  exact ⟨List.mem_of_find?_eq_some h, by simpa using List.find?_some h⟩
theorem len_run {w : World} {p m : Nat} {l : List Ro} (h : TabAt w p m l) (ty : TypeId) : (Builtin.len_ #[119] ty #[.map (some m)]).run Tryz.prog w = .ok (.int .i64 l.length) w := by
  have := h.map.len (t := 119) Tryz.underlying119 ty
  rw [this]
  unfold datum
  rw [Maps.size_eq, List.length_map]
end Go.Proofs.YtkoikmdmejhhhaaGreat
namespace Go.Proofs.YtkoikmdmejhhhaaGreat
open Go.RowKit
def An.same (x y : An) : Bool := x.code == y.code && x.id == y.id && x.tok == y.tok && x.unt == y.unt && (x.tgt.toList == y.tgt.toList) && (x.cmd.toList == y.cmd.toList)
theorem toList_inj {a b : ByteArray} (h : a.toList = b.toList) : a = b := by
  rw [ByteArray.toList_eq, ByteArray.toList_eq] at h
  exact bytes_inj h
theorem An.same_iff (x y : An) : An.same x y = true ↔ x = y := by
  obtain ⟨c, i, t, u, g, m⟩ := x
  obtain ⟨c', i', t', u', g', m'⟩ := y
  simp only [An.same, Bool.and_eq_true, beq_iff_eq, An.mk.injEq]
  constructor
  · rintro ⟨⟨⟨⟨⟨h1, h2⟩, h3⟩, h4⟩, h5⟩, h6⟩
    exact ⟨h1, h2, h3, h4, toList_inj h5, toList_inj h6⟩
  · rintro ⟨h1, h2, h3, h4, h5, h6⟩
    exact ⟨⟨⟨⟨⟨h1, h2⟩, h3⟩, h4⟩, by rw [h5]⟩, by rw [h6]⟩
instance : DecidableEq An := fun x y => decidable_of_iff (x.same y = true) (An.same_iff x y)
def Ro.same (x y : Ro) : Bool := x.id == y.id && x.seq == y.seq && An.same x.ans y.ans
theorem Ro.same_iff (x y : Ro) : Ro.same x y = true ↔ x = y := by
  obtain ⟨i, s, a⟩ := x
  obtain ⟨i', s', a'⟩ := y
  simp only [Ro.same, Bool.and_eq_true, beq_iff_eq, Ro.mk.injEq, An.same_iff, and_assoc]
instance : DecidableEq Ro := fun x y => decidable_of_iff (x.same y = true) (Ro.same_iff x y)
end Go.Proofs.YtkoikmdmejhhhaaGreat
