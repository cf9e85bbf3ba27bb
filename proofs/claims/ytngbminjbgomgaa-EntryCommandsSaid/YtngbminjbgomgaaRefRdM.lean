/-
  Commands as dockyardref04.ReadCommand reads them, plainly.
-/
import Derived.Test.YtngbminjbgomgaaPlain4
import Derived.Test.YtngbminjbgomgaaRefNames
namespace Go.Proofs.Ytngbminjbgomgaa
open Go.RowKit

def PC.zero (k : Int) : PC := ⟨k, 0, 0, [], 0, 0, false, 0⟩
/-- What one more field makes of what was read. -/
def rdStep (x : PC × Rs) (ch : UInt8) : PC × Rs :=
  if ch = 115 then ({ x.1 with ses := num (x.2.take 8).1 }, (x.2.take 8).2)
  else if ch = 113 then ({ x.1 with seq := num (x.2.take 8).1 }, (x.2.take 8).2)
  else if ch = 103 then ({ x.1 with pts := (rdGraph x.2).1 }, (rdGraph x.2).2)
  else if ch = 105 then ({ x.1 with id := num (x.2.take 8).1 }, (x.2.take 8).2)
  else if ch = 116 then ({ x.1 with tok := num (x.2.take 8).1 }, (x.2.take 8).2)
  else if ch = 119 then ({ x.1 with good := decide (num (x.2.take 1).1 = 1) }, (x.2.take 1).2)
  else if ch = 109 then ({ x.1 with time := num (x.2.take 8).1 }, (x.2.take 8).2)
  else x
def rdSteps (l : List UInt8) (x : PC × Rs) : PC × Rs := l.foldl rdStep x
theorem rdSteps_take (l : List UInt8) (x : PC × Rs) (k : Nat) (h : k < l.length) : rdSteps (l.take (k + 1)) x = rdStep (rdSteps (l.take k) x) l[k] := by
  unfold rdSteps
  rw [List.take_succ_eq_append_getElem h, List.foldl_append]
  rfl
/-- All of it. -/
def rdRef (bs : List UInt8) : PC × Rs :=
  rdSteps (namesOf (num (Rs.take ⟨bs, 0⟩ 1).1)).data.toList (PC.zero (num (Rs.take ⟨bs, 0⟩ 1).1), (Rs.take ⟨bs, 0⟩ 1).2)

theorem take8_small (s : Rs) : (num (s.take 8).1 : Int) < 18446744073709551616 := num_lt64 _ (take_length s 8)
theorem rdStep_small (x : PC × Rs) (ch : UInt8) (h : x.1.small) : (rdStep x ch).1.small := by
  unfold rdStep
  obtain ⟨h1, h2, h3, h4, h5⟩ := h
  have t := take8_small x.2
  split
  · exact ⟨t, h2, h3, h4, h5⟩
  split
  · exact ⟨h1, t, h3, h4, h5⟩
  split
  · exact ⟨h1, h2, h3, h4, h5⟩
  split
  · exact ⟨h1, h2, t, h4, h5⟩
  split
  · exact ⟨h1, h2, h3, t, h5⟩
  split
  · exact ⟨h1, h2, h3, h4, h5⟩
  split
  · exact ⟨h1, h2, h3, h4, t⟩
  · exact ⟨h1, h2, h3, h4, h5⟩
theorem zero_small (k : Int) : (PC.zero k).small := by
  refine ⟨?_, ?_, ?_, ?_, ?_⟩ <;> (show ((0 : Nat) : Int) < _; decide)
theorem rdSteps_small (l : List UInt8) (x : PC × Rs) (h : x.1.small) : (rdSteps l x).1.small := by
  unfold rdSteps
  induction l generalizing x with
  | nil => exact h
  | cons a l ih => rw [List.foldl_cons]; exact ih _ (rdStep_small x a h)
theorem rdRef_small (bs : List UInt8) : (rdRef bs).1.small := rdSteps_small _ _ (zero_small _)

theorem step_s (n : Nat) (r : List UInt8) (hn : (n : Int) < 18446744073709551616) : Rs.take ⟨be n 8 ++ r, 0⟩ 8 = (be n 8, ⟨r, 0⟩) ∧ num (be n 8) = n :=
  ⟨Rs.take_all _ _ _ (be_length n 8), num_be n 8 (by rw [pow8]; omega)⟩
theorem rs_s (c : PC) (n : Nat) (r : List UInt8) (hn : (n : Int) < 18446744073709551616) : rdStep (c, ⟨be n 8 ++ r, 0⟩) 115 = ({ c with ses := n }, ⟨r, 0⟩) := by
  obtain ⟨t, e⟩ := step_s n r hn
  show (({ c with ses := num (Rs.take ⟨be n 8 ++ r, 0⟩ 8).1 }, (Rs.take ⟨be n 8 ++ r, 0⟩ 8).2) : PC × Rs) = _
  rw [t, e]
theorem rs_q (c : PC) (n : Nat) (r : List UInt8) (hn : (n : Int) < 18446744073709551616) : rdStep (c, ⟨be n 8 ++ r, 0⟩) 113 = ({ c with seq := n }, ⟨r, 0⟩) := by
  obtain ⟨t, e⟩ := step_s n r hn
  show (({ c with seq := num (Rs.take ⟨be n 8 ++ r, 0⟩ 8).1 }, (Rs.take ⟨be n 8 ++ r, 0⟩ 8).2) : PC × Rs) = _
  rw [t, e]
theorem rs_i (c : PC) (n : Nat) (r : List UInt8) (hn : (n : Int) < 18446744073709551616) : rdStep (c, ⟨be n 8 ++ r, 0⟩) 105 = ({ c with id := n }, ⟨r, 0⟩) := by
  obtain ⟨t, e⟩ := step_s n r hn
  show (({ c with id := num (Rs.take ⟨be n 8 ++ r, 0⟩ 8).1 }, (Rs.take ⟨be n 8 ++ r, 0⟩ 8).2) : PC × Rs) = _
  rw [t, e]
theorem rs_t (c : PC) (n : Nat) (r : List UInt8) (hn : (n : Int) < 18446744073709551616) : rdStep (c, ⟨be n 8 ++ r, 0⟩) 116 = ({ c with tok := n }, ⟨r, 0⟩) := by
  obtain ⟨t, e⟩ := step_s n r hn
  show (({ c with tok := num (Rs.take ⟨be n 8 ++ r, 0⟩ 8).1 }, (Rs.take ⟨be n 8 ++ r, 0⟩ 8).2) : PC × Rs) = _
  rw [t, e]
theorem rs_m (c : PC) (n : Nat) (r : List UInt8) (hn : (n : Int) < 18446744073709551616) : rdStep (c, ⟨be n 8 ++ r, 0⟩) 109 = ({ c with time := n }, ⟨r, 0⟩) := by
  obtain ⟨t, e⟩ := step_s n r hn
  show (({ c with time := num (Rs.take ⟨be n 8 ++ r, 0⟩ 8).1 }, (Rs.take ⟨be n 8 ++ r, 0⟩ 8).2) : PC × Rs) = _
  rw [t, e]
theorem rs_w (c : PC) (g : Bool) (r : List UInt8) : rdStep (c, ⟨(if g then (1 : UInt8) else 0) :: r, 0⟩) 119 = ({ c with good := g }, ⟨r, 0⟩) := by
  have t : Rs.take ⟨[if g then (1 : UInt8) else 0] ++ r, 0⟩ 1 = ([if g then 1 else 0], ⟨r, 0⟩) := Rs.take_all _ _ _ rfl
  show (({ c with good := decide (num (Rs.take ⟨[if g then (1 : UInt8) else 0] ++ r, 0⟩ 1).1 = 1) }, (Rs.take ⟨[if g then (1 : UInt8) else 0] ++ r, 0⟩ 1).2) : PC × Rs) = _
  rw [t]
  cases g <;> rfl
theorem rs_g (c : PC) (ts : List Tg) (r : List UInt8) (hf : gFits ts = true) : rdStep (c, ⟨graphBytes ts ++ r, 0⟩) 103 = ({ c with pts := ts.map Tg.plain }, ⟨r, 0⟩) := by
  show (({ c with pts := (rdGraph ⟨graphBytes ts ++ r, 0⟩).1 }, (rdGraph ⟨graphBytes ts ++ r, 0⟩).2) : PC × Rs) = _
  rw [graph_back ts r hf]

/-- What was written is read. -/
theorem rdRef_back (c : Cmd) (hl : c.pc.small) (hr : c.right = true) : rdRef (cmdBytes c) = (c.pc, ⟨[], 0⟩) := by
  obtain ⟨hk, h1, h2, h3, h4, h5, h6, h7, h8⟩ := right_all c hr
  have ht : Rs.take ⟨cmdBytes c, 0⟩ 1 = ([UInt8.ofNat c.kind.toNat], ⟨fieldBytes c, 0⟩) := Rs.take_all [UInt8.ofNat c.kind.toNat] (fieldBytes c) 1 rfl
  unfold rdRef
  rw [ht, num_kind hk]
  unfold fieldBytes
  obtain ⟨l1, l2, l3, l4, l5⟩ := hl
  obtain ⟨k, ses, seq, gv, ts, gid, tok, good, time⟩ := c
  simp only [Cmd.pc] at l1 l2 l3 l4 l5 h1 h2 h3 h4 h5 h6 h7 hk h8 ⊢
  rcases (show k = 1 ∨ k = 2 ∨ k = 3 ∨ k = 4 ∨ k = 5 ∨ k = 6 ∨ k = 7 from by omega) with rfl | rfl | rfl | rfl | rfl | rfl | rfl
  · obtain rfl : seq = 0 := by simpa [fSeq] using h2
    obtain rfl : ts = [] := by simpa [fGra] using h3
    obtain rfl : gid = 0 := by simpa [fId] using h4
    obtain rfl : tok = 0 := by simpa [fTok] using h5
    obtain rfl : good = false := by simpa [fGood] using h6
    obtain rfl : time = 0 := by simpa [fTime] using h7
    show rdStep (PC.zero 1, ⟨be ses 8 ++ [], 0⟩) 115 = _
    rw [rs_s _ _ _ l1]
    rfl
  · obtain rfl : gid = 0 := by simpa [fId] using h4
    obtain rfl : tok = 0 := by simpa [fTok] using h5
    obtain rfl : good = false := by simpa [fGood] using h6
    obtain rfl : time = 0 := by simpa [fTime] using h7
    have e1 : partLong (fSes 2) ses ++ (partLong (fSeq 2) seq ++ (partGraph (fGra 2) ts ++ (partLong (fId 2) 0 ++ (partLong (fTok 2) 0 ++ (partGood (fGood 2) false ++ partLong (fTime 2) 0))))) = be ses 8 ++ (be seq 8 ++ (graphBytes ts ++ [])) := rfl
    rw [e1]
    have e2 : (namesOf 2).data.toList = [115, 113, 103] := rfl
    rw [e2]
    unfold rdSteps
    simp only [List.foldl_cons, List.foldl_nil]
    rw [rs_s _ _ _ l1, rs_q _ _ _ l2, rs_g _ _ _ h8]
    rfl
  · obtain rfl : ts = [] := by simpa [fGra] using h3
    obtain rfl : gid = 0 := by simpa [fId] using h4
    obtain rfl : tok = 0 := by simpa [fTok] using h5
    obtain rfl : good = false := by simpa [fGood] using h6
    obtain rfl : time = 0 := by simpa [fTime] using h7
    have e1 : partLong (fSes 3) ses ++ (partLong (fSeq 3) seq ++ (partGraph (fGra 3) [] ++ (partLong (fId 3) 0 ++ (partLong (fTok 3) 0 ++ (partGood (fGood 3) false ++ partLong (fTime 3) 0))))) = be ses 8 ++ (be seq 8 ++ []) := rfl
    rw [e1]
    have e2 : (namesOf 3).data.toList = [115, 113] := rfl
    rw [e2]
    unfold rdSteps
    simp only [List.foldl_cons, List.foldl_nil]
    rw [rs_s _ _ _ l1, rs_q _ _ _ l2]
    rfl
  · obtain rfl : ts = [] := by simpa [fGra] using h3
    obtain rfl : gid = 0 := by simpa [fId] using h4
    obtain rfl : good = false := by simpa [fGood] using h6
    obtain rfl : time = 0 := by simpa [fTime] using h7
    have e1 : partLong (fSes 4) ses ++ (partLong (fSeq 4) seq ++ (partGraph (fGra 4) [] ++ (partLong (fId 4) 0 ++ (partLong (fTok 4) tok ++ (partGood (fGood 4) false ++ partLong (fTime 4) 0))))) = be ses 8 ++ (be seq 8 ++ (be tok 8 ++ [])) := rfl
    rw [e1]
    have e2 : (namesOf 4).data.toList = [115, 113, 116] := rfl
    rw [e2]
    unfold rdSteps
    simp only [List.foldl_cons, List.foldl_nil]
    rw [rs_s _ _ _ l1, rs_q _ _ _ l2, rs_t _ _ _ l4]
    rfl
  · obtain rfl : ts = [] := by simpa [fGra] using h3
    obtain rfl : gid = 0 := by simpa [fId] using h4
    obtain rfl : time = 0 := by simpa [fTime] using h7
    have e1 : partLong (fSes 5) ses ++ (partLong (fSeq 5) seq ++ (partGraph (fGra 5) [] ++ (partLong (fId 5) 0 ++ (partLong (fTok 5) tok ++ (partGood (fGood 5) good ++ partLong (fTime 5) 0))))) = be ses 8 ++ (be seq 8 ++ (be tok 8 ++ ((if good then (1 : UInt8) else 0) :: []))) := rfl
    rw [e1]
    have e2 : (namesOf 5).data.toList = [115, 113, 116, 119] := rfl
    rw [e2]
    unfold rdSteps
    simp only [List.foldl_cons, List.foldl_nil]
    rw [rs_s _ _ _ l1, rs_q _ _ _ l2, rs_t _ _ _ l4, rs_w]
    rfl
  · obtain rfl : ts = [] := by simpa [fGra] using h3
    obtain rfl : tok = 0 := by simpa [fTok] using h5
    obtain rfl : good = false := by simpa [fGood] using h6
    obtain rfl : time = 0 := by simpa [fTime] using h7
    have e1 : partLong (fSes 6) ses ++ (partLong (fSeq 6) seq ++ (partGraph (fGra 6) [] ++ (partLong (fId 6) gid ++ (partLong (fTok 6) 0 ++ (partGood (fGood 6) false ++ partLong (fTime 6) 0))))) = be ses 8 ++ (be seq 8 ++ (be gid 8 ++ [])) := rfl
    rw [e1]
    have e2 : (namesOf 6).data.toList = [115, 113, 105] := rfl
    rw [e2]
    unfold rdSteps
    simp only [List.foldl_cons, List.foldl_nil]
    rw [rs_s _ _ _ l1, rs_q _ _ _ l2, rs_i _ _ _ l3]
    rfl
  · obtain rfl : ses = 0 := by simpa [fSes] using h1
    obtain rfl : seq = 0 := by simpa [fSeq] using h2
    obtain rfl : ts = [] := by simpa [fGra] using h3
    obtain rfl : gid = 0 := by simpa [fId] using h4
    obtain rfl : tok = 0 := by simpa [fTok] using h5
    obtain rfl : good = false := by simpa [fGood] using h6
    show rdStep (PC.zero 7, ⟨be time 8 ++ [], 0⟩) 109 = _
    rw [rs_m _ _ _ l5]
    rfl

/-- Is what was read, written, what was there? -/
def refOk (bs : List UInt8) : Prop := (rdRef bs).2.end_ = 0 ∧ (rdRef bs).1.right = true ∧ (rdRef bs).1.bytes = bs
/-- Where the document's reading has it, the code's has, and the other way round. -/
theorem refOk_of (bs : List UInt8) (d : PC) (h : rdCommand bs = (d, true)) : refOk bs ∧ (rdRef bs).1 = d := by
  obtain ⟨hb, hr, hs⟩ := rdCommand_was bs d h
  have e := rdRef_back d.cmd (by rw [PC.cmd_pc]; exact hs) (by rw [right_pc, PC.cmd_pc]; exact hr)
  rw [cmdBytes_pc, PC.cmd_pc, ← hb] at e
  unfold refOk
  rw [e]
  exact ⟨⟨rfl, hr, hb.symm⟩, rfl⟩
theorem refOk_not (bs : List UInt8) (h : (rdCommand bs).2 = false) : ¬ refOk bs := by
  rintro ⟨_, hr, hb⟩
  have e := rdCommand_back (rdRef bs).1.cmd (by rw [PC.cmd_pc]; exact rdRef_small bs) (by rw [right_pc, PC.cmd_pc]; exact hr)
  rw [cmdBytes_pc, PC.cmd_pc, hb] at e
  rw [e] at h
  cases h
end Go.Proofs.Ytngbminjbgomgaa
