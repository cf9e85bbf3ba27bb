/-
  Graphs, read: plain definitions and lemmas.
-/
import Derived.Test.YtngbminjbgomgaaPlain2
import Derived.Test.YtngbminjbgomgaaReadCommand
namespace Go.Proofs.Ytngbminjbgomgaa
open Go.RowKit

theorem strOf_sb (s : ByteArray) : strOf (sb s) = s := by
  obtain ⟨⟨l⟩⟩ := s
  rfl
theorem sb_strOf (l : List UInt8) : sb (strOf l) = l := rfl

/-- So many texts of at most 32 bytes, as long as nothing is amiss. -/
def rdTexts : Nat → Rs → List ByteArray × Rs
  | 0, s => ([], s)
  | n + 1, s => if s.err ≠ 0 then ([], s) else (strOf (s.text 32).1 :: (rdTexts n (s.text 32).2).1, (rdTexts n (s.text 32).2).2)
/-- A target. -/
def rdTarget (s : Rs) : Pt × Rs :=
  (⟨strOf (s.text 32).1, strOf ((s.text 32).2.text 256).1, (rdTexts (((s.text 32).2.text 256).2.var 16).1 (((s.text 32).2.text 256).2.var 16).2).1⟩, (rdTexts (((s.text 32).2.text 256).2.var 16).1 (((s.text 32).2.text 256).2.var 16).2).2)
/-- So many targets, as long as nothing is amiss. -/
def rdTargets : Nat → Rs → List Pt × Rs
  | 0, s => ([], s)
  | n + 1, s => if s.err ≠ 0 then ([], s) else ((rdTarget s).1 :: (rdTargets n (rdTarget s).2).1, (rdTargets n (rdTarget s).2).2)
/-- A graph. -/
def rdGraph (s : Rs) : List Pt × Rs := rdTargets (s.var 32).1 (s.var 32).2

theorem var_back (n most : Nat) (r : List UInt8) (h : n ≤ most) (h64 : n < 18446744073709551616) : Rs.var ⟨varBytes n ++ r, 0⟩ most = (n, ⟨r, 0⟩) := by
  unfold Rs.var
  have hf := frontV_var n most r h64
  rw [if_neg (by omega)] at hf
  simp only [hf]
  rw [if_neg (fun h => h rfl), if_neg (fun h => h rfl), List.drop_left]
theorem texts_back (ss : List ByteArray) (r : List UInt8) (h : ∀ s ∈ ss, s.size ≤ 32) : rdTexts ss.length ⟨allTexts ss ++ r, 0⟩ = (ss, ⟨r, 0⟩) := by
  induction ss with
  | nil => rfl
  | cons a l ih =>
    have ha := h a List.mem_cons_self
    have e : allTexts (a :: l) ++ r = textBytes (sb a) ++ (allTexts l ++ r) := by simp [allTexts]
    have ht := text_back (sb a) (allTexts l ++ r) 32 (by rw [sb_length]; exact ha) (by rw [sb_length]; omega)
    rw [e, List.length_cons, rdTexts, if_neg (fun h => h rfl), ht]
    simp only
    rw [ih (fun s hs => h s (List.mem_cons_of_mem _ hs)), strOf_sb]
theorem target_back (t : Tg) (r : List UInt8) (h : t.fits = true) : rdTarget ⟨tgBytes t ++ r, 0⟩ = (t.plain, ⟨r, 0⟩) := by
  obtain ⟨h1, h2, h3, h4⟩ := fits_parts h
  have e : tgBytes t ++ r = textBytes (sb t.name) ++ (textBytes (sb t.cmd) ++ (varBytes t.needs.length ++ (allTexts t.needs ++ r))) := by simp [tgBytes, strsBytes]
  have t1 := text_back (sb t.name) (textBytes (sb t.cmd) ++ (varBytes t.needs.length ++ (allTexts t.needs ++ r))) 32 (by rw [sb_length]; exact h1) (by rw [sb_length]; omega)
  have t2 := text_back (sb t.cmd) (varBytes t.needs.length ++ (allTexts t.needs ++ r)) 256 (by rw [sb_length]; exact h2) (by rw [sb_length]; omega)
  have t3 := var_back t.needs.length 16 (allTexts t.needs ++ r) h3 (by omega)
  have t4 := texts_back t.needs r h4
  unfold rdTarget
  rw [e, t1]
  simp only
  rw [t2]
  simp only
  rw [t3]
  simp only
  rw [t4, strOf_sb, strOf_sb]
  rfl
theorem targets_back (ts : List Tg) (r : List UInt8) (h : ∀ t ∈ ts, t.fits = true) : rdTargets ts.length ⟨allTgs ts ++ r, 0⟩ = (ts.map Tg.plain, ⟨r, 0⟩) := by
  induction ts with
  | nil => rfl
  | cons a l ih =>
    have e : allTgs (a :: l) ++ r = tgBytes a ++ (allTgs l ++ r) := by simp [allTgs]
    have ht := target_back a (allTgs l ++ r) (h a List.mem_cons_self)
    rw [e, List.length_cons, rdTargets, if_neg (fun h => h rfl), ht]
    simp only
    rw [ih (fun s hs => h s (List.mem_cons_of_mem _ hs)), List.map_cons]
/-- A graph that is written is read. -/
theorem graph_back (ts : List Tg) (r : List UInt8) (h : gFits ts = true) : rdGraph ⟨graphBytes ts ++ r, 0⟩ = (ts.map Tg.plain, ⟨r, 0⟩) := by
  obtain ⟨h1, h2⟩ := gFits_parts h
  have e : graphBytes ts ++ r = varBytes ts.length ++ (allTgs ts ++ r) := by simp [graphBytes]
  unfold rdGraph
  rw [e, var_back ts.length 32 _ h1 (by omega)]
  exact targets_back ts r h2

/-- A target's bytes, without memory. -/
def ptBytes (t : Pt) : List UInt8 := textBytes (sb t.name) ++ textBytes (sb t.cmd) ++ strsBytes t.needs
def ptsBytes (ts : List Pt) : List UInt8 := varBytes ts.length ++ ts.flatMap ptBytes
theorem tgBytes_pt (t : Tg) : tgBytes t = ptBytes t.plain := rfl
theorem graphBytes_pts (ts : List Tg) : graphBytes ts = ptsBytes (ts.map Tg.plain) := by
  unfold graphBytes ptsBytes allTgs
  rw [List.length_map, List.flatMap_map]
  rfl

theorem err_stays (s : Rs) (most : Nat) (h : s.err ≠ 0) : (s.text most).2 = s ∧ (s.var most).2 = s := by
  unfold Rs.text Rs.var
  rw [if_pos h, if_pos h]
  exact ⟨rfl, rfl⟩
theorem text_ok (s : Rs) (most : Nat) (h : (s.text most).2.err = 0) : s.err = 0 := by
  by_cases e : s.err = 0
  · exact e
  · rw [(err_stays s most e).1] at h
    exact absurd h e
theorem var_ok (s : Rs) (most : Nat) (h : (s.var most).2.err = 0) : s.err = 0 := by
  by_cases e : s.err = 0
  · exact e
  · rw [(err_stays s most e).2] at h
    exact absurd h e
theorem rs_eta (s : Rs) (h : s.err = 0) : s = ⟨s.left, 0⟩ := by
  obtain ⟨l, e⟩ := s
  simp only at h
  subst h
  rfl
theorem text_was (s : Rs) (most : Nat) (h : (s.text most).2.err = 0) : s.left = textBytes (s.text most).1 ++ (s.text most).2.left ∧ (s.text most).1.length ≤ most := by
  have hs := rs_eta s (text_ok s most h)
  have key := text_read s.left (s.text most).1 most (s.text most).2 (by rw [← hs]) h
  exact key
theorem var_was (s : Rs) (most : Nat) (h : (s.var most).2.err = 0) : s.left = varBytes (s.var most).1 ++ (s.var most).2.left ∧ (s.var most).1 ≤ most := by
  have he := var_ok s most h
  unfold Rs.var at h ⊢
  rw [if_neg (fun h' => h' he)] at h ⊢
  by_cases h1 : (frontV s.left most).2.2 ≠ 0
  · rw [if_pos h1] at h
    exact absurd h h1
  · rw [if_neg h1]
    have h1 : (frontV s.left most).2.2 = 0 := Decidable.not_not.1 h1
    obtain ⟨n, k, e, hf⟩ : ∃ n k e, frontV s.left most = (n, k, e) := ⟨_, _, _, rfl⟩
    rw [hf] at h1 ⊢
    simp only at h1
    subst h1
    obtain ⟨a, b, _⟩ := frontV_read s.left most n k hf
    exact ⟨a, b⟩
theorem texts_was (n : Nat) (s : Rs) (h : (rdTexts n s).2.err = 0) : s.err = 0 ∧ s.left = allTexts (rdTexts n s).1 ++ (rdTexts n s).2.left ∧ (rdTexts n s).1.length = n ∧ ∀ x ∈ (rdTexts n s).1, x.size ≤ 32 := by
  induction n generalizing s with
  | zero => exact ⟨h, by simp [rdTexts, allTexts], rfl, fun x hx => by cases hx⟩
  | succ n ih =>
    by_cases e : s.err ≠ 0
    · rw [rdTexts, if_pos e] at h
      exact absurd h e
    · rw [rdTexts, if_neg e] at h ⊢
      have e : s.err = 0 := Decidable.not_not.1 e
      obtain ⟨a, b, c, d⟩ := ih (s.text 32).2 h
      obtain ⟨f, g⟩ := text_was s 32 a
      refine ⟨e, ?_, by simp [c], fun x hx => ?_⟩
      · have e1 : allTexts (strOf (s.text 32).1 :: (rdTexts n (s.text 32).2).1) = textBytes (s.text 32).1 ++ allTexts (rdTexts n (s.text 32).2).1 := by simp [allTexts, sb_strOf]
        rw [e1, List.append_assoc, ← b]
        exact f
      · rcases List.mem_cons.1 hx with rfl | hx
        · rw [← sb_length, sb_strOf]
          exact g
        · exact d x hx
theorem target_was (s : Rs) (h : (rdTarget s).2.err = 0) : s.err = 0 ∧ s.left = ptBytes (rdTarget s).1 ++ (rdTarget s).2.left ∧ (rdTarget s).1.fits = true := by
  obtain ⟨a, b, c, d⟩ := texts_was _ _ h
  obtain ⟨f, g⟩ := var_was _ 16 a
  obtain ⟨f2, g2⟩ := text_was _ 256 (var_ok _ _ a)
  obtain ⟨f1, g1⟩ := text_was s 32 (text_ok _ _ (var_ok _ _ a))
  refine ⟨text_ok _ _ (text_ok _ _ (var_ok _ _ a)), ?_, ?_⟩
  · unfold ptBytes strsBytes rdTarget
    simp only
    rw [c, sb_strOf, sb_strOf, List.append_assoc, List.append_assoc, List.append_assoc, ← b, ← f, ← f2]
    exact f1
  · unfold Pt.fits rdTarget
    simp only [Bool.and_eq_true, decide_eq_true_eq, List.all_eq_true]
    refine ⟨⟨⟨?_, ?_⟩, ?_⟩, d⟩
    · rw [← sb_length, sb_strOf]; exact g1
    · rw [← sb_length, sb_strOf]; exact g2
    · rw [c]; exact g
theorem targets_was (n : Nat) (s : Rs) (h : (rdTargets n s).2.err = 0) : s.err = 0 ∧ s.left = (rdTargets n s).1.flatMap ptBytes ++ (rdTargets n s).2.left ∧ (rdTargets n s).1.length = n ∧ ∀ x ∈ (rdTargets n s).1, x.fits = true := by
  induction n generalizing s with
  | zero => exact ⟨h, by simp [rdTargets], rfl, fun x hx => by cases hx⟩
  | succ n ih =>
    by_cases e : s.err ≠ 0
    · rw [rdTargets, if_pos e] at h
      exact absurd h e
    · rw [rdTargets, if_neg e] at h ⊢
      have e : s.err = 0 := Decidable.not_not.1 e
      obtain ⟨a, b, c, d⟩ := ih (rdTarget s).2 h
      obtain ⟨_, f, g⟩ := target_was s a
      refine ⟨e, ?_, by simp [c], fun x hx => ?_⟩
      · simp only
        rw [List.flatMap_cons, List.append_assoc, ← b]
        exact f
      · rcases List.mem_cons.1 hx with rfl | hx
        · exact g
        · exact d x hx
/-- A graph that is read is the one that is written. -/
theorem graph_was (s : Rs) (h : (rdGraph s).2.err = 0) : s.err = 0 ∧ s.left = ptsBytes (rdGraph s).1 ++ (rdGraph s).2.left ∧ pFits (rdGraph s).1 = true := by
  obtain ⟨a, b, c, d⟩ := targets_was _ _ h
  obtain ⟨f, g⟩ := var_was s 32 a
  refine ⟨var_ok _ _ a, ?_, ?_⟩
  · unfold ptsBytes
    have e : (rdGraph s).1.length = (s.var 32).1 := c
    rw [e, List.append_assoc]
    have b' : (s.var 32).2.left = (rdGraph s).1.flatMap ptBytes ++ (rdGraph s).2.left := b
    rw [← b']
    exact f
  · unfold pFits
    simp only [Bool.and_eq_true, decide_eq_true_eq, List.all_eq_true]
    have e : (rdGraph s).1.length = (s.var 32).1 := c
    exact ⟨by rw [e]; exact g, d⟩
end Go.Proofs.Ytngbminjbgomgaa
