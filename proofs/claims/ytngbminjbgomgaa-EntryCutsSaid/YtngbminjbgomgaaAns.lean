/-
  What entry's calls answer, in forms for the laws; arguments, opened.
-/
import Derived.Test.YtngbminjbgomgaaPlain4
import Derived.Test.YtngbminjbgomgaaSameEntry
import Derived.Test.YtngbminjbgomgaaAlive
import Derived.Test.YtngbminjbgomgaaOpen2
import Derived.SizedLaws
namespace Go.Proofs.Ytngbminjbgomgaa
open Go.ChangeShapes Go.WideShapes Go.ChangeAt Go.RowKit

/-- What an Encode or a Command answers, in one form. -/
def Answer2 (w : World) (er : Int) (bs : List UInt8) (e : Ending) (w' : World) : Prop :=
  Keep noneOf w w' ∧ ∃ A c, e = .returned (.tuple #[.slice A bs.length c, .int .i64 er]) ∧ Bytes w' (fun _ => True) (.slice A bs.length c) bs
def entAns (i t : Nat) (k : Int) (cs : List UInt8) (er : Int) (xs : List UInt8) : Prop := (entRight i t k cs.length = false ∧ er = 40 ∧ xs = []) ∨ (entRight i t k cs.length = true ∧ er = 0 ∧ xs = entBytes i t k.toNat cs)
theorem entAns_some (i t : Nat) (k : Int) (cs : List UInt8) : ∃ er xs, entAns i t k cs er xs := by
  unfold entAns
  cases entRight i t k cs.length with
  | false => exact ⟨40, [], .inl ⟨rfl, rfl, rfl⟩⟩
  | true => exact ⟨0, _, .inr ⟨rfl, rfl, rfl⟩⟩
theorem answer2 {w w' : World} {i t : Nat} {k er : Int} {cs xs : List UInt8} {e : Ending} (h : Encoded w i t k cs e w') (hx : entAns i t k cs er xs) : Answer2 w er xs e w' := by
  obtain ⟨K, h⟩ := h
  rcases hx with ⟨hr, rfl, rfl⟩ | ⟨hr, rfl, rfl⟩
  · rcases h with ⟨_, rfl⟩ | ⟨h, _⟩
    · exact ⟨K, none, 0, rfl, Bytes.nil _ _⟩
    · rw [hr] at h; cases h
  · rcases h with ⟨h, _⟩ | ⟨_, u, rfl, o, _⟩
    · rw [hr] at h; cases h
    · have hb := (Bytes.of_own o).mono (D' := fun _ => True) (fun _ _ _ => trivial)
      obtain ⟨A, c, hs⟩ := own_shape o
      subst hs
      exact ⟨K, A, c, rfl, hb⟩
def cmdAns (c : Cmd) (er : Int) (xs : List UInt8) : Prop := (c.right = false ∧ er = 40 ∧ xs = []) ∨ (c.right = true ∧ er = 0 ∧ xs = cmdBytes c)
theorem cmdAns_some (c : Cmd) : ∃ er xs, cmdAns c er xs := by
  unfold cmdAns
  cases c.right with
  | false => exact ⟨40, [], .inl ⟨rfl, rfl, rfl⟩⟩
  | true => exact ⟨0, _, .inr ⟨rfl, rfl, rfl⟩⟩
theorem command2 {w w' : World} {c : Cmd} {er : Int} {xs : List UInt8} {e : Ending} (h : Commanded w c e w') (hx : cmdAns c er xs) : Answer2 w er xs e w' := by
  obtain ⟨K, h⟩ := h
  rcases hx with ⟨hr, rfl, rfl⟩ | ⟨hr, rfl, rfl⟩
  · rcases h with ⟨_, rfl⟩ | ⟨h, _⟩
    · exact ⟨K, none, 0, rfl, Bytes.nil _ _⟩
    · rw [hr] at h; cases h
  · rcases h with ⟨h, _⟩ | ⟨_, u, rfl, o, _⟩
    · rw [hr] at h; cases h
    · have hb := (Bytes.of_own o).mono (D' := fun _ => True) (fun _ _ _ => trivial)
      obtain ⟨A, c, hs⟩ := own_shape o
      subst hs
      exact ⟨K, A, c, rfl, hb⟩
/-- What a Decode answers, in one form. -/
def Decode2 (w : World) (er : Int) (i t : Nat) (k : Int) (cs : List UInt8) (e : Ending) (w' : World) : Prop :=
  Keep noneOf w w' ∧ ∃ A c, e = .returned (.tuple #[.agg #[.int .u64 (i : Int), .int .u64 (t : Int), .int .i64 k, .slice A cs.length c], .int .i64 er]) ∧ Bytes w' (fun _ => True) (.slice A cs.length c) cs
def decAns (bs : List UInt8) (er : Int) (i t : Nat) (k : Int) (cs : List UInt8) : Prop :=
  (decOk bs = false ∧ er = 40 ∧ i = 0 ∧ t = 0 ∧ k = 0 ∧ cs = []) ∨ (decOk bs = true ∧ er = 0 ∧ i = num (decI bs).1 ∧ t = num (decT bs).1 ∧ k = (num (decK bs).1 : Int) ∧ cs = (decD bs).1)
theorem decAns_some (bs : List UInt8) : ∃ er i t k cs, decAns bs er i t k cs := by
  unfold decAns
  cases decOk bs with
  | false => exact ⟨40, 0, 0, 0, [], .inl ⟨rfl, rfl, rfl, rfl, rfl, rfl⟩⟩
  | true => exact ⟨0, _, _, _, _, .inr ⟨rfl, rfl, rfl, rfl, rfl, rfl⟩⟩
theorem decode2 {w w' : World} {bs cs : List UInt8} {i t : Nat} {k er : Int} {e : Ending} (h : Decoded w bs e w') (hx : decAns bs er i t k cs) : Decode2 w er i t k cs e w' := by
  obtain ⟨K, h⟩ := h
  rcases hx with ⟨hr, rfl, rfl, rfl, rfl, rfl⟩ | ⟨hr, rfl, rfl, rfl, rfl, rfl⟩
  · rcases h with ⟨_, rfl⟩ | ⟨h, _⟩
    · exact ⟨K, none, 0, rfl, Bytes.nil _ _⟩
    · rw [hr] at h; cases h
  · rcases h with ⟨h, _⟩ | ⟨_, u, rfl, o, _⟩
    · rw [hr] at h; cases h
    · have hb := (Bytes.of_own o).mono (D' := fun _ => True) (fun _ _ _ => trivial)
      obtain ⟨A, c, hs⟩ := own_shape o
      subst hs
      exact ⟨K, A, c, rfl, hb⟩
/-- What ReadCommand answers, in one form. -/
def Read2 (w : World) (d : PC) (er : Int) (e : Ending) (w' : World) : Prop :=
  Keep noneOf w w' ∧ ∃ A c ts, e = .returned (.tuple #[.agg #[.int .i64 d.kind, .int .u64 (d.ses : Int), .int .u64 (d.seq : Int), .slice A (List.length ts) c, .int .u64 (d.id : Int), .int .u64 (d.tok : Int), .bool d.good, .int .u64 (d.time : Int)], .int .i64 er]) ∧
    Tgs w' (fun _ => True) (.slice A ts.length c) ts ∧ ts.map Tg.plain = d.pts
def rdAns (bs : List UInt8) (d : PC) (er : Int) : Prop := ((rdCommand bs).2 = false ∧ er = 40 ∧ d = ⟨0, 0, 0, [], 0, 0, false, 0⟩) ∨ (rdCommand bs = (d, true) ∧ er = 0)
theorem rdAns_some (bs : List UInt8) : ∃ d er, rdAns bs d er := by
  unfold rdAns
  cases h : (rdCommand bs).2 with
  | false => exact ⟨_, 40, .inl ⟨rfl, rfl, rfl⟩⟩
  | true => exact ⟨(rdCommand bs).1, 0, .inr ⟨Prod.ext rfl h, rfl⟩⟩
theorem read2 (w : World) (D : Nat → Prop) (v : Value) (bs : List UInt8) (d : PC) (er : Int) (hs : Bytes w D v bs) (hl : bs.length ≤ lim) (hx : rdAns bs d er) : Calls Try.prog 17 #[v] w (Read2 w d er) := by
  rcases hx with ⟨hf, rfl, rfl⟩ | ⟨ht, rfl⟩
  · refine (readCommand_any w D v bs (rdCommand bs).1 false hs hl (Prod.ext rfl hf)).mono ?_
    rintro e w' ⟨K, ⟨_, rfl⟩ | ⟨h, _⟩⟩
    · exact ⟨K, none, 0, [], rfl, Tgs.nil _ _, rfl⟩
    · cases h
  · refine (readCommand_any w D v bs d true hs hl ht).mono ?_
    rintro e w' ⟨K, ⟨h, _⟩ | ⟨_, gv, ts, rfl, t, hp⟩⟩
    · cases h
    · obtain ⟨A, c, hv, _⟩ := t.1
      subst hv
      exact ⟨K, A, c, ts, rfl, t.mono (fun _ _ _ => trivial), hp⟩

theorem cmdBytes_lim (c : Cmd) (h : c.right = true) : (cmdBytes c).length + 1 ≤ lim := by
  have hg := graphBytes_small c.ts (right_parts c h).2
  have p0 := partGraph_le (fGra c.kind) c.ts
  have p1 := partLong_le (fSes c.kind) c.ses
  have p2 := partLong_le (fSeq c.kind) c.seq
  have p3 := partLong_le (fId c.kind) c.id
  have p4 := partLong_le (fTok c.kind) c.tok
  have p5 := partLong_le (fTime c.kind) c.time
  have p6 := partGood_le (fGood c.kind) c.good
  rw [lim_is]
  unfold cmdBytes fieldBytes
  simp only [List.length_cons, List.length_append]
  omega
theorem entBytes_lim (i t : Nat) (k : Int) (cs : List UInt8) (h : entRight i t k cs.length = true) : (entBytes i t k.toNat cs).length + 1 ≤ lim := by
  have h3 := ((entRight_iff _ _ _ _).1 h).2.2.1
  have hv := varBytes_le cs.length
  rw [lim_is]
  unfold entBytes textBytes
  simp only [List.length_append, be_length, List.length_cons, List.length_nil]
  omega

theorem own : ownKnob Try.prog.godebug = none := by kernel_rfl
theorem laidOut : laidOutB Try.prog = true := by kernel_rfl

theorem Bytes.shape {w : World} {D : Nat → Prop} {A : Option Addr} {n c : Nat} {bs : List UInt8} (h : Bytes w D (.slice A n c) bs) : n = bs.length := by
  obtain ⟨A', c', e, _⟩ := h
  injection e
/-- Bytes that came in as an argument, and how many there are at most. -/
theorem open_arg_bytes {H : Type} {enc : TypeId × Value → H} {w : World} {v : Value} {d : DataW H} {p : List MemPlace} (hv : ∃ a l c, v = .slice a l c) (h : DataW.Trod enc Try.prog w 0 (fun _ => true) true 23 v d p) :
    ∃ bs, Bytes w (fun _ => True) v bs ∧ (bs = [] ∨ ∃ elems spare, d = .slice elems spare ∧ elems.length = bs.length) := by
  obtain ⟨a0, l0, c0, rfl⟩ := hv
  obtain ⟨fuel, hf⟩ := h
  have hf' : DataW.trod enc Try.prog w 0 (fun _ => true) true fuel 23 [.slice a0 l0 c0] = some (d, p) := hf
  obtain ⟨bs, hb⟩ := open_bytes hf'
  refine ⟨bs, hb, ?_⟩
  have hl := hb.shape
  rcases Go.Deep.open_slice Try.underlying23 hf' with ⟨hcs, _⟩ | ⟨a, len, cap, m, n, D, Pl, hcs, _, _, _, _, hx, _⟩
  · left
    have e : Value.slice a0 l0 c0 = .slice none 0 0 := by simpa using hcs
    injection e with _ e _
    exact List.eq_nil_of_length_eq_zero (by omega)
  · right
    have e : Value.slice a0 l0 c0 = .slice (some a) len cap := by simpa using hcs
    injection e with _ e _
    obtain ⟨rfl, _⟩ := Prod.mk.inj hx
    exact ⟨_, _, rfl, by simp; omega⟩
end Go.Proofs.Ytngbminjbgomgaa
