/-
  Commands, read: plain definitions and lemmas; entry.ReadCommand at all bytes.
-/
import Derived.Test.YtngbminjbgomgaaReadGraph
import Derived.Test.YtngbminjbgomgaaReadCmdG
namespace Go.Proofs.Ytngbminjbgomgaa
open Go.RowKit

/-- A command without memory. -/
structure PC where
  kind : Int
  ses : Nat
  seq : Nat
  pts : List Pt
  id : Nat
  tok : Nat
  good : Bool
  time : Nat
def PC.right (c : PC) : Bool := rightP c.kind c.ses c.seq c.pts c.id c.tok c.good c.time
def Cmd.pc (c : Cmd) : PC := ⟨c.kind, c.ses, c.seq, c.ts.map Tg.plain, c.id, c.tok, c.good, c.time⟩
def partPts (b : Bool) (pts : List Pt) : List UInt8 := if b then ptsBytes pts else []
def PC.fields (c : PC) : List UInt8 :=
  partLong (fSes c.kind) c.ses ++ (partLong (fSeq c.kind) c.seq ++ (partPts (fGra c.kind) c.pts ++ (partLong (fId c.kind) c.id ++ (partLong (fTok c.kind) c.tok ++ (partGood (fGood c.kind) c.good ++ partLong (fTime c.kind) c.time)))))
def PC.bytes (c : PC) : List UInt8 := UInt8.ofNat c.kind.toNat :: c.fields
theorem partPts_graph (b : Bool) (ts : List Tg) : partGraph b ts = partPts b (ts.map Tg.plain) := by
  unfold partGraph partPts
  rw [graphBytes_pts]
theorem cmdBytes_pc (c : Cmd) : cmdBytes c = c.pc.bytes := by
  unfold cmdBytes PC.bytes PC.fields fieldBytes
  rw [partPts_graph]
  rfl
theorem right_pc (c : Cmd) : c.right = c.pc.right := right_plain c

/-- A graph, if there is one. -/
def rdG (b : Bool) (s : Rs) : List Pt × Rs := if b then (gotPts s, (rdGraph s).2) else ([], s)
/-- The fields of a command of kind k. -/
def rdFields (k : Int) (s : Rs) : PC × Rs :=
  let a1 := s.longIf (fSes k)
  let a2 := a1.2.longIf (fSeq k)
  let a3 := rdG (fGra k) a2.2
  let a4 := a3.2.longIf (fId k)
  let a5 := a4.2.longIf (fTok k)
  let a6 := a5.2.boolIf (fGood k)
  let a7 := a6.2.longIf (fTime k)
  (⟨k, a1.1, a2.1, a3.1, a4.1, a5.1, a6.1, a7.1⟩, a7.2)
/-- A command, and whether the bytes are its. -/
def rdCommand (bs : List UInt8) : PC × Bool :=
  ((rdFields (num (Rs.take ⟨bs, 0⟩ 1).1) (Rs.take ⟨bs, 0⟩ 1).2).1,
    decide ((rdFields (num (Rs.take ⟨bs, 0⟩ 1).1) (Rs.take ⟨bs, 0⟩ 1).2).2.end_ = 0) && (rdFields (num (Rs.take ⟨bs, 0⟩ 1).1) (Rs.take ⟨bs, 0⟩ 1).2).1.right)

theorem readGraph_any (w : World) (p : Nat) (D : Nat → Prop) (u : Value) (s : Rs) (h : Rd w p D u s.left s.err) :
    Calls Try.prog 64 #[.pointer (some ⟨p, 0, none⟩)] w (GotGraph w p D (gotPts s) (rdGraph s).2) := by
  refine (readGraph_to w p (fun k => D k ∧ k < w.heap.size) u s (fun i hi => hi.2) ⟨h.box, h.bytes.mono (fun i hi hd => ⟨⟨hd.1, hi⟩, hd.2⟩), h.few⟩).mono ?_
  rintro e w' ⟨gv, ts, rfl, k, ⟨u', r⟩, t, pt⟩
  exact ⟨gv, ts, rfl, k, ⟨u', r.box, r.bytes.mono (fun i _ hd => ⟨hd.1.1, hd.2⟩), r.few⟩, t, pt⟩

theorem readFields_any (w : World) (p : Nat) (D : Nat → Prop) (u : Value) (k : Int) (s : Rs) (c : PC) (s' : Rs) (h : Rd w p D u s.left s.err) (e : rdFields k s = (c, s')) :
    Calls Try.prog 41 #[.pointer (some ⟨p, 0, none⟩), .int .i64 k] w (GotFields w p D k c.ses c.seq c.pts c.id c.tok c.good c.time s') := by
  unfold rdFields at e
  obtain ⟨n1, s1, e1⟩ : ∃ n s', s.longIf (fSes k) = (n, s') := ⟨_, _, rfl⟩
  obtain ⟨n2, s2, e2⟩ : ∃ n s', s1.longIf (fSeq k) = (n, s') := ⟨_, _, rfl⟩
  obtain ⟨pts, s3, e3⟩ : ∃ n s', rdG (fGra k) s2 = (n, s') := ⟨_, _, rfl⟩
  obtain ⟨n4, s4, e4⟩ : ∃ n s', s3.longIf (fId k) = (n, s') := ⟨_, _, rfl⟩
  obtain ⟨n5, s5, e5⟩ : ∃ n s', s4.longIf (fTok k) = (n, s') := ⟨_, _, rfl⟩
  obtain ⟨g6, s6, e6⟩ : ∃ n s', s5.boolIf (fGood k) = (n, s') := ⟨_, _, rfl⟩
  obtain ⟨n7, s7, e7⟩ : ∃ n s', s6.longIf (fTime k) = (n, s') := ⟨_, _, rfl⟩
  simp only [e1, e2, e3, e4, e5, e6, e7] at e
  injection e with ea eb
  subst ea eb
  simp only
  cases hg : fGra k with
  | false =>
    rw [hg] at e3
    injection e3 with h1 h2
    exact readFields_plain w p D u k s s1 s2 s3 s4 s5 s6 s7 n1 n2 n4 n5 n7 g6 pts h e1 e2 hg ⟨h2.symm, h1.symm⟩ e4 e5 e6 e7
  | true =>
    rw [hg] at e3
    refine readFields_graph w p D u k s s1 s2 s3 s4 s5 s6 s7 n1 n2 n4 n5 n7 g6 pts h e1 e2 hg (fun w' u' hr => ?_) e4 e5 e6 e7
    have := readGraph_any w' p _ u' s2 hr
    injection e3 with h1 h2
    rw [h1, h2] at this
    exact this

theorem readCommand_any (w : World) (D : Nat → Prop) (v : Value) (bs : List UInt8) (c : PC) (ok : Bool) (hs : Bytes w D v bs) (hl : bs.length ≤ lim) (e : rdCommand bs = (c, ok)) :
    Calls Try.prog 17 #[v] w (GotCommand w c.kind c.ses c.seq c.pts c.id c.tok c.good c.time ok) := by
  unfold rdCommand at e
  obtain ⟨ck, s0, ek⟩ : ∃ n s', Rs.take ⟨bs, 0⟩ 1 = (n, s') := ⟨_, _, rfl⟩
  obtain ⟨c', s7, e7⟩ : ∃ c' s', rdFields (num ck) s0 = (c', s') := ⟨_, _, rfl⟩
  simp only [ek, e7] at e
  injection e with ea eb
  subst ea eb
  have hk : c'.kind = (num ck : Int) := (congrArg (fun x => x.1.kind) e7).symm
  have hkk : num ck < 256 := by
    have := num_lt ck
    have h1 : ck.length ≤ 1 := by have := take_length ⟨bs, 0⟩ 1; rw [ek] at this; exact this
    have : 256 ^ ck.length ≤ 256 ^ 1 := Nat.pow_le_pow_right (by decide) h1
    omega
  have := readCommand_core w D v bs ck s0 s7 c'.ses c'.seq c'.id c'.tok c'.time c'.good c'.pts s7.end_ hs hl ek rfl hkk (fun w' p D' u hr => readFields_any w' p D' u (num ck) s0 c' s7 hr e7)
  unfold PC.right
  rw [hk]
  exact this

/-! ### Written, then read -/
theorem longIf_back (b : Bool) (n : Nat) (r : List UInt8) (hn : (n : Int) < 18446744073709551616) (hb : b = true ∨ n = 0) : Rs.longIf b ⟨partLong b n ++ r, 0⟩ = (n, ⟨r, 0⟩) := by
  cases b with
  | false =>
    obtain rfl : n = 0 := by simpa using hb
    rfl
  | true =>
    have ht : Rs.take ⟨be n 8 ++ r, 0⟩ 8 = (be n 8, ⟨r, 0⟩) := Rs.take_all _ _ _ (be_length n 8)
    show (num (Rs.take ⟨be n 8 ++ r, 0⟩ 8).1, (Rs.take ⟨be n 8 ++ r, 0⟩ 8).2) = _
    rw [ht, num_be n 8 (by rw [pow8]; omega)]
theorem boolIf_back (b g : Bool) (r : List UInt8) (hb : b = true ∨ g = false) : Rs.boolIf b ⟨partGood b g ++ r, 0⟩ = (g, ⟨r, 0⟩) := by
  cases b with
  | false =>
    obtain rfl : g = false := by simpa using hb
    rfl
  | true =>
    have ht : Rs.take ⟨[if g then (1 : UInt8) else 0] ++ r, 0⟩ 1 = ([if g then 1 else 0], ⟨r, 0⟩) := Rs.take_all _ _ _ rfl
    show Rs.bool ⟨[if g then (1 : UInt8) else 0] ++ r, 0⟩ = _
    unfold Rs.bool
    rw [ht]
    cases g <;> rfl
theorem rdG_back (b : Bool) (ts : List Tg) (r : List UInt8) (hf : gFits ts = true) (hb : b = true ∨ ts = []) : rdG b ⟨partPts b (ts.map Tg.plain) ++ r, 0⟩ = (ts.map Tg.plain, ⟨r, 0⟩) := by
  cases b with
  | false =>
    obtain rfl : ts = [] := by simpa using hb
    rfl
  | true =>
    have hg := graph_back ts r hf
    rw [graphBytes_pts] at hg
    show (gotPts ⟨ptsBytes (ts.map Tg.plain) ++ r, 0⟩, (rdGraph ⟨ptsBytes (ts.map Tg.plain) ++ r, 0⟩).2) = _
    unfold gotPts
    rw [hg]
    rfl
/-- Its numbers are numbers of 64 bits. -/
structure PC.small (c : PC) : Prop where
  ses : (c.ses : Int) < 18446744073709551616
  seq : (c.seq : Int) < 18446744073709551616
  id : (c.id : Int) < 18446744073709551616
  tok : (c.tok : Int) < 18446744073709551616
  time : (c.time : Int) < 18446744073709551616
theorem Cmd.lies.small {w : World} {D : Nat → Prop} {c : Cmd} (h : c.lies w D) : c.pc.small := ⟨h.ses, h.seq, h.id, h.tok, h.time⟩
/-- Some command in memory, or not. -/
def PC.cmd (c : PC) : Cmd := ⟨c.kind, c.ses, c.seq, .slice none 0 0, c.pts.map (fun t => ⟨t.name, t.cmd, .slice none 0 0, t.needs⟩), c.id, c.tok, c.good, c.time⟩
theorem PC.cmd_pc (c : PC) : c.cmd.pc = c := by
  obtain ⟨k, a, b, pts, i, t, g, m⟩ := c
  have h : ∀ l : List Pt, (l.map (fun t : Pt => (⟨t.name, t.cmd, .slice none 0 0, t.needs⟩ : Tg))).map Tg.plain = l := by
    intro l
    rw [List.map_map]
    exact List.map_id l
  unfold PC.cmd Cmd.pc
  simp only [h]
theorem num_kind {k : Int} (hk : 1 ≤ k ∧ k ≤ 7) : (num [UInt8.ofNat k.toNat] : Int) = k := by
  show ((0 * 256 + (UInt8.ofNat k.toNat).toNat : Nat) : Int) = _
  rw [UInt8.toNat_ofNat']
  omega
theorem rdFields_back (c : Cmd) (hl : c.pc.small) (hr : c.right = true) (r : List UInt8) : rdFields c.kind ⟨fieldBytes c ++ r, 0⟩ = (c.pc, ⟨r, 0⟩) := by
  obtain ⟨hk, h1, h2, h3, h4, h5, h6, h7, h8⟩ := right_all c hr
  unfold rdFields fieldBytes
  rw [partPts_graph]
  simp only [List.append_assoc]
  have g1 := longIf_back (fSes c.kind) c.ses (partLong (fSeq c.kind) c.seq ++ (partPts (fGra c.kind) (c.ts.map Tg.plain) ++ (partLong (fId c.kind) c.id ++ (partLong (fTok c.kind) c.tok ++ (partGood (fGood c.kind) c.good ++ (partLong (fTime c.kind) c.time ++ r)))))) hl.ses h1
  have g2 := longIf_back (fSeq c.kind) c.seq (partPts (fGra c.kind) (c.ts.map Tg.plain) ++ (partLong (fId c.kind) c.id ++ (partLong (fTok c.kind) c.tok ++ (partGood (fGood c.kind) c.good ++ (partLong (fTime c.kind) c.time ++ r))))) hl.seq h2
  have g3 := rdG_back (fGra c.kind) c.ts (partLong (fId c.kind) c.id ++ (partLong (fTok c.kind) c.tok ++ (partGood (fGood c.kind) c.good ++ (partLong (fTime c.kind) c.time ++ r)))) h8 h3
  have g4 := longIf_back (fId c.kind) c.id (partLong (fTok c.kind) c.tok ++ (partGood (fGood c.kind) c.good ++ (partLong (fTime c.kind) c.time ++ r))) hl.id h4
  have g5 := longIf_back (fTok c.kind) c.tok (partGood (fGood c.kind) c.good ++ (partLong (fTime c.kind) c.time ++ r)) hl.tok h5
  have g6 := boolIf_back (fGood c.kind) c.good (partLong (fTime c.kind) c.time ++ r) h6
  have g7 := longIf_back (fTime c.kind) c.time r hl.time h7
  simp only [g1, g2, g3, g4, g5, g6, g7]
  rfl
theorem rdCommand_front (c : Cmd) (hl : c.pc.small) (hr : c.right = true) (r : List UInt8) : rdCommand (cmdBytes c ++ r) = (c.pc, decide ((⟨r, 0⟩ : Rs).end_ = 0)) := by
  have hk := (right_all c hr).1
  have ht : Rs.take ⟨cmdBytes c ++ r, 0⟩ 1 = ([UInt8.ofNat c.kind.toNat], ⟨fieldBytes c ++ r, 0⟩) := Rs.take_all [UInt8.ofNat c.kind.toNat] (fieldBytes c ++ r) 1 rfl
  have hF := rdFields_back c hl hr r
  unfold rdCommand
  simp only [ht, num_kind hk, hF]
  rw [← right_pc, hr, Bool.and_true]
/-- A command that is written is read. -/
theorem rdCommand_back (c : Cmd) (hl : c.pc.small) (hr : c.right = true) : rdCommand (cmdBytes c) = (c.pc, true) := by
  have := rdCommand_front c hl hr []
  rw [List.append_nil] at this
  exact this
/-- With a byte more it is none. -/
theorem rdCommand_more (c : Cmd) (hl : c.pc.small) (hr : c.right = true) (b : UInt8) : (rdCommand (cmdBytes c ++ [b])).2 = false := by
  rw [rdCommand_front c hl hr [b]]
  rfl

/-! ### Read, then written -/
theorem take_was (s : Rs) (n : Nat) (h : (s.take n).2.err = 0) : s.err = 0 ∧ s.left = (s.take n).1 ++ (s.take n).2.left ∧ (s.take n).1.length = n := by
  unfold Rs.take at h ⊢
  by_cases e : s.err ≠ 0
  · rw [if_pos e] at h
    exact absurd h e
  · rw [if_neg e] at h ⊢
    have e : s.err = 0 := Decidable.not_not.1 e
    by_cases e2 : s.left.length < n
    · rw [if_pos e2] at h
      cases h
    · rw [if_neg e2]
      refine ⟨e, (List.take_append_drop n s.left).symm, ?_⟩
      simp only [List.length_take]
      omega
theorem longIf_was (b : Bool) (s : Rs) (h : (s.longIf b).2.err = 0) : s.err = 0 ∧ s.left = partLong b (s.longIf b).1 ++ (s.longIf b).2.left ∧ ((s.longIf b).1 : Int) < 18446744073709551616 := by
  cases b with
  | false => exact ⟨h, rfl, by show ((0 : Nat) : Int) < _; decide⟩
  | true =>
    obtain ⟨h1, h2, h3⟩ := take_was s 8 h
    refine ⟨h1, ?_, num_lt64 _ (by show (s.take 8).1.length ≤ 8; omega)⟩
    show s.left = be (num (s.take 8).1) 8 ++ (s.take 8).2.left
    have := be_num (s.take 8).1
    rw [h3] at this
    rw [this]
    exact h2
theorem boolIf_was (b : Bool) (s : Rs) (h : (s.boolIf b).2.err = 0) : s.err = 0 ∧ s.left = partGood b (s.boolIf b).1 ++ (s.boolIf b).2.left := by
  cases b with
  | false => exact ⟨h, rfl⟩
  | true =>
    have h' : (s.bool).2.err = 0 := h
    show s.err = 0 ∧ s.left = [if (s.bool).1 then 1 else 0] ++ (s.bool).2.left
    unfold Rs.bool at h' ⊢
    simp only at h' ⊢
    by_cases h1 : 1 < num (s.take 1).1
    · rw [if_pos h1] at h'
      unfold Rs.fail at h'
      split at h'
      · cases h'
      · exact absurd h' (by assumption)
    · rw [if_neg h1] at h' ⊢
      obtain ⟨a, b, c⟩ := take_was s 1 h'
      refine ⟨a, ?_⟩
      obtain ⟨x, hx⟩ := List.length_eq_one_iff.1 c
      rw [hx] at h1 b ⊢
      have hn : num [x] = x.toNat := by simp [num]
      rw [hn] at h1 ⊢
      rw [b]
      congr 1
      have hxx : x.toNat = 0 ∨ x.toNat = 1 := by omega
      rcases hxx with e | e
      · rw [e]
        have : x = 0 := UInt8.toNat_inj.1 e
        rw [this]
        rfl
      · rw [e]
        have : x = 1 := UInt8.toNat_inj.1 e
        rw [this]
        rfl
theorem rdG_was (b : Bool) (s : Rs) (h : (rdG b s).2.err = 0) : s.err = 0 ∧ s.left = partPts b (rdG b s).1 ++ (rdG b s).2.left := by
  cases b with
  | false => exact ⟨h, rfl⟩
  | true =>
    have h' : (rdGraph s).2.err = 0 := h
    obtain ⟨a, b, _⟩ := graph_was s h'
    refine ⟨a, ?_⟩
    show s.left = ptsBytes (gotPts s) ++ (rdGraph s).2.left
    unfold gotPts
    rw [if_pos h']
    exact b
theorem rdFields_was (k : Int) (s : Rs) (c : PC) (s' : Rs) (e : rdFields k s = (c, s')) (h : s'.err = 0) : s.err = 0 ∧ s.left = c.fields ++ s'.left ∧ c.small ∧ c.kind = k := by
  unfold rdFields at e
  obtain ⟨n1, s1, e1⟩ : ∃ n s', s.longIf (fSes k) = (n, s') := ⟨_, _, rfl⟩
  obtain ⟨n2, s2, e2⟩ : ∃ n s', s1.longIf (fSeq k) = (n, s') := ⟨_, _, rfl⟩
  obtain ⟨pts, s3, e3⟩ : ∃ n s', rdG (fGra k) s2 = (n, s') := ⟨_, _, rfl⟩
  obtain ⟨n4, s4, e4⟩ : ∃ n s', s3.longIf (fId k) = (n, s') := ⟨_, _, rfl⟩
  obtain ⟨n5, s5, e5⟩ : ∃ n s', s4.longIf (fTok k) = (n, s') := ⟨_, _, rfl⟩
  obtain ⟨g6, s6, e6⟩ : ∃ n s', s5.boolIf (fGood k) = (n, s') := ⟨_, _, rfl⟩
  obtain ⟨n7, s7, e7⟩ : ∃ n s', s6.longIf (fTime k) = (n, s') := ⟨_, _, rfl⟩
  simp only [e1, e2, e3, e4, e5, e6, e7] at e
  injection e with ea eb
  subst ea eb
  have w7 := longIf_was (fTime k) s6 (by rw [e7]; exact h)
  rw [e7] at w7
  have w6 := boolIf_was (fGood k) s5 (by rw [e6]; exact w7.1)
  rw [e6] at w6
  have w5 := longIf_was (fTok k) s4 (by rw [e5]; exact w6.1)
  rw [e5] at w5
  have w4 := longIf_was (fId k) s3 (by rw [e4]; exact w5.1)
  rw [e4] at w4
  have w3 := rdG_was (fGra k) s2 (by rw [e3]; exact w4.1)
  rw [e3] at w3
  have w2 := longIf_was (fSeq k) s1 (by rw [e2]; exact w3.1)
  rw [e2] at w2
  have w1 := longIf_was (fSes k) s (by rw [e1]; exact w2.1)
  rw [e1] at w1
  refine ⟨w1.1, ?_, ⟨w1.2.2, w2.2.2, w4.2.2, w5.2.2, w7.2.2⟩, rfl⟩
  unfold PC.fields
  simp only [List.append_assoc]
  rw [← w7.2.1, ← w6.2, ← w5.2.1, ← w4.2.1, ← w3.2, ← w2.2.1, ← w1.2.1]
/-- A command that is read is the one that is written. -/
theorem rdCommand_was (bs : List UInt8) (c : PC) (e : rdCommand bs = (c, true)) : bs = c.bytes ∧ c.right = true ∧ c.small := by
  unfold rdCommand at e
  obtain ⟨ck, s0, ek⟩ : ∃ n s', Rs.take ⟨bs, 0⟩ 1 = (n, s') := ⟨_, _, rfl⟩
  obtain ⟨c', s7, e7⟩ : ∃ c' s', rdFields (num ck) s0 = (c', s') := ⟨_, _, rfl⟩
  simp only [ek, e7] at e
  injection e with ea eb
  subst ea
  rw [Bool.and_eq_true, decide_eq_true_eq] at eb
  obtain ⟨hend, hr⟩ := eb
  have hz : s7.err = 0 ∧ s7.left = [] := by
    unfold Rs.end_ at hend
    split at hend
    · cases hend
    · rename_i hne
      refine ⟨hend, ?_⟩
      cases hsl : s7.left with
      | nil => rfl
      | cons a l => exact absurd ⟨hend, by rw [hsl]; simp⟩ hne
  obtain ⟨f1, f2, f3, f4⟩ := rdFields_was _ _ _ _ e7 hz.1
  have ht := take_was ⟨bs, 0⟩ 1 (by rw [ek]; exact f1)
  rw [ek] at ht
  obtain ⟨_, hb, hl⟩ := ht
  obtain ⟨x, hx⟩ := List.length_eq_one_iff.1 hl
  refine ⟨?_, hr, f3⟩
  unfold PC.bytes
  have hb' : bs = ck ++ s0.left := hb
  simp only at hx
  rw [hb', hx, f2, hz.2, List.append_nil, f4, hx]
  have hn : num [x] = x.toNat := by simp [num]
  rw [hn]
  show x :: c'.fields = UInt8.ofNat x.toNat :: c'.fields
  rw [UInt8.ofNat_toNat]
/-- A command's bytes, cut, are none's. -/
theorem rdCommand_cut (c : Cmd) (hl : c.pc.small) (hr : c.right = true) (n : Nat) (hn : n < (cmdBytes c).length) : (rdCommand ((cmdBytes c).take n)).2 = false := by
  cases h : (rdCommand ((cmdBytes c).take n)).2 with
  | false => rfl
  | true =>
    exfalso
    obtain ⟨d, hd⟩ : ∃ d, rdCommand ((cmdBytes c).take n) = (d, true) := ⟨_, Prod.ext rfl h⟩
    obtain ⟨b1, b2, b3⟩ := rdCommand_was _ d hd
    have e1 := rdCommand_front d.cmd (by rw [PC.cmd_pc]; exact b3) (by rw [right_pc, PC.cmd_pc]; exact b2) ((cmdBytes c).drop n)
    rw [cmdBytes_pc d.cmd, PC.cmd_pc, ← b1, List.take_append_drop, rdCommand_back c hl hr] at e1
    injection e1 with _ e1
    have : ((cmdBytes c).drop n).length = 0 := by
      cases hd : (cmdBytes c).drop n with
      | nil => rfl
      | cons a l =>
        rw [hd] at e1
        simp [Rs.end_] at e1
    rw [List.length_drop] at this
    omega
end Go.Proofs.Ytngbminjbgomgaa
