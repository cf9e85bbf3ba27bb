/-
  Bytes, written and read: plain lemmas.
-/
import Derived.Test.YtngbminjbgomgaaCommand
import Derived.Test.YtngbminjbgomgaaReads
import Derived.Test.YtngbminjbgomgaaSameCmd
namespace Go.Proofs.Ytngbminjbgomgaa
open Go.RowKit

theorem num_from (l : List UInt8) (n : Nat) : l.foldl (fun n b => n * 256 + b.toNat) n = n * 256 ^ l.length + num l := by
  unfold num
  induction l generalizing n with
  | nil => simp
  | cons a l ih =>
    rw [List.foldl_cons, List.foldl_cons, ih, ih (0 * 256 + a.toNat), List.length_cons, Nat.pow_succ]
    simp only [Nat.zero_mul, Nat.zero_add]
    rw [Nat.add_mul, Nat.mul_assoc, Nat.mul_comm 256, Nat.add_assoc]
theorem num_cons (b : UInt8) (l : List UInt8) : num (b :: l) = b.toNat * 256 ^ l.length + num l := by
  have := num_from l (0 * 256 + b.toNat)
  simpa [num] using this
theorem ofNat_toNat8 (n : Nat) : (UInt8.ofNat (n % 256)).toNat = n % 256 := by rw [UInt8.toNat_ofNat']; omega
theorem num_be_mod (n k : Nat) : num (be n k) = n % 256 ^ k := by
  induction k with
  | zero => simp [be, num, Nat.mod_one]
  | succ k ih =>
    rw [be, num_cons, be_length, ih, ofNat_toNat8, Nat.mod_pow_succ, Nat.add_comm, Nat.mul_comm]
theorem num_be (n k : Nat) (h : n < 256 ^ k) : num (be n k) = n := by rw [num_be_mod, Nat.mod_eq_of_lt h]
theorem be_mod (n k : Nat) : be (n % 256 ^ k) k = be n k := by
  suffices h : ∀ j, j ≤ k → be (n % 256 ^ k) j = be n j from h k (Nat.le_refl _)
  intro j
  induction j with
  | zero => intro _; rfl
  | succ j ih =>
    intro hj
    rw [be, be, ih (by omega)]
    congr 2
    have e : n % 256 ^ k / 256 ^ j % 256 = n / 256 ^ j % 256 := by
      obtain ⟨d, rfl⟩ : ∃ d, k = j + (d + 1) := ⟨k - j - 1, by omega⟩
      rw [Nat.pow_add, Nat.mod_mul_right_div_self, Nat.pow_succ, Nat.mul_comm (256 ^ d), Nat.mod_mul_right_mod]
    exact e
theorem be_num (l : List UInt8) : be (num l) l.length = l := by
  induction l with
  | nil => rfl
  | cons b l ih =>
    have hlt := num_lt l
    rw [List.length_cons, be, num_cons]
    have e1 : (b.toNat * 256 ^ l.length + num l) / 256 ^ l.length % 256 = b.toNat := by
      rw [Nat.mul_comm, Nat.mul_add_div (Nat.pow_pos (by decide)), Nat.div_eq_of_lt hlt]
      have := b.toNat_lt
      omega
    have e2 : be (b.toNat * 256 ^ l.length + num l) l.length = l := by
      rw [← be_mod, Nat.mul_comm, Nat.mul_add_mod, Nat.mod_eq_of_lt hlt]
      exact ih
    rw [e1, e2]
    congr 1
    simp
theorem be_inj {n m k : Nat} (hn : n < 256 ^ k) (hm : m < 256 ^ k) (h : be n k = be m k) : n = m := by
  rw [← num_be n k hn, ← num_be m k hm, h]
theorem be_app {n m k : Nat} {r s : List UInt8} (hn : n < 256 ^ k) (hm : m < 256 ^ k) (h : be n k ++ r = be m k ++ s) : n = m ∧ r = s := by
  obtain ⟨h1, h2⟩ := List.append_inj h (by rw [be_length, be_length])
  exact ⟨be_inj hn hm h1, h2⟩

theorem pow8 : 256 ^ 8 = 18446744073709551616 := by decide
theorem varFirst_toNat (n : Nat) : (UInt8.ofNat (varFirst n)).toNat = varFirst n := by
  rw [UInt8.toNat_ofNat']
  exact Nat.mod_eq_of_lt (varFirst_lt n)
theorem varMore_fits (n : Nat) (h : n < 18446744073709551616) (h0 : varMore (varFirst n) ≠ 0) : n < 256 ^ varMore (varFirst n) := by
  unfold varFirst varMore at *
  (repeat' split) <;> (try split at h0) <;> simp_all <;> omega
theorem varMore_none (n : Nat) (h0 : varMore (varFirst n) = 0) : varFirst n = n := by
  unfold varFirst varMore at *
  (repeat' split) <;> simp_all
  all_goals omega
theorem frontV_var (n most : Nat) (r : List UInt8) (h : n < 18446744073709551616) : frontV (varBytes n ++ r) most = if most < n then (0, 0, 12) else (n, (varBytes n).length, 0) := by
  rw [varBytes, List.cons_append, frontV_cons, varFirst_toNat, if_neg (by simp [be_length]; omega)]
  have e : (if varMore (varFirst n) = 0 then varFirst n else num ((be n (varMore (varFirst n)) ++ r).take (varMore (varFirst n)))) = n := by
    split
    · rename_i h0; exact varMore_none n h0
    · rename_i h0
      rw [List.take_append_of_le_length (by rw [be_length]; exact Nat.le_refl _), List.take_of_length_le (by rw [be_length]; exact Nat.le_refl _), num_be _ _ (varMore_fits n h h0)]
  rw [e]
  unfold frontN
  rw [if_neg (fun h => h rfl)]
  simp [be_length, Nat.add_comm]
theorem var_app {n m : Nat} {r s : List UInt8} (hn : n < 18446744073709551616) (hm : m < 18446744073709551616) (h : varBytes n ++ r = varBytes m ++ s) : n = m ∧ r = s := by
  have e1 := frontV_var n 18446744073709551616 r hn
  have e2 := frontV_var m 18446744073709551616 s hm
  rw [if_neg (by omega)] at e1 e2
  rw [h, e2] at e1
  have hnm : n = m := by injection e1 with e _; exact e.symm
  subst hnm
  exact ⟨rfl, List.append_cancel_left h⟩
theorem text_app {a b r s : List UInt8} (ha : a.length < 18446744073709551616) (hb : b.length < 18446744073709551616) (h : textBytes a ++ r = textBytes b ++ s) : a = b ∧ r = s := by
  unfold textBytes at h
  rw [List.append_assoc, List.append_assoc] at h
  obtain ⟨h1, h2⟩ := var_app ha hb h
  exact List.append_inj h2 h1
theorem sb_inj {a b : ByteArray} (h : sb a = sb b) : a = b := by
  obtain ⟨⟨l⟩⟩ := a
  obtain ⟨⟨m⟩⟩ := b
  have h' : l = m := h
  rw [h']
theorem texts_app {ss ss' : List ByteArray} {r s : List UInt8} (hl : ss.length = ss'.length) (h1 : ∀ x ∈ ss, x.size ≤ 32) (h2 : ∀ x ∈ ss', x.size ≤ 32) (h : allTexts ss ++ r = allTexts ss' ++ s) : ss = ss' ∧ r = s := by
  induction ss generalizing ss' with
  | nil =>
    obtain rfl : ss' = [] := List.eq_nil_of_length_eq_zero hl.symm
    exact ⟨rfl, h⟩
  | cons a l ih =>
    cases ss' with
    | nil => cases hl
    | cons a' l' =>
      have e1 : allTexts (a :: l) = textBytes (sb a) ++ allTexts l := by simp [allTexts]
      have e2 : allTexts (a' :: l') = textBytes (sb a') ++ allTexts l' := by simp [allTexts]
      rw [e1, e2, List.append_assoc, List.append_assoc] at h
      have ha := h1 a List.mem_cons_self
      have ha' := h2 a' List.mem_cons_self
      obtain ⟨q1, q2⟩ := text_app (by rw [sb_length]; omega) (by rw [sb_length]; omega) h
      obtain ⟨q3, q4⟩ := ih (by simpa using hl) (fun x hx => h1 x (List.mem_cons_of_mem _ hx)) (fun x hx => h2 x (List.mem_cons_of_mem _ hx)) q2
      exact ⟨by rw [sb_inj q1, q3], q4⟩
theorem fits_parts {t : Tg} (h : t.fits = true) : t.name.size ≤ 32 ∧ t.cmd.size ≤ 256 ∧ t.needs.length ≤ 16 ∧ ∀ s ∈ t.needs, s.size ≤ 32 := by
  unfold Tg.fits at h
  simp only [Bool.and_eq_true, decide_eq_true_eq, List.all_eq_true] at h
  exact ⟨h.1.1.1, h.1.1.2, h.1.2, h.2⟩
theorem tg_app {t t' : Tg} {r s : List UInt8} (h1 : t.fits = true) (h2 : t'.fits = true) (h : tgBytes t ++ r = tgBytes t' ++ s) : t.plain = t'.plain ∧ r = s := by
  obtain ⟨a1, a2, a3, a4⟩ := fits_parts h1
  obtain ⟨b1, b2, b3, b4⟩ := fits_parts h2
  unfold tgBytes strsBytes at h
  simp only [List.append_assoc] at h
  obtain ⟨q1, h⟩ := text_app (by rw [sb_length]; omega) (by rw [sb_length]; omega) h
  obtain ⟨q2, h⟩ := text_app (by rw [sb_length]; omega) (by rw [sb_length]; omega) h
  obtain ⟨q3, h⟩ := var_app (by omega) (by omega) h
  obtain ⟨q4, h⟩ := texts_app q3 a4 b4 h
  exact ⟨plain_ext q4 (sb_inj q1) (sb_inj q2), h⟩
theorem tgs_app {ts ts' : List Tg} {r s : List UInt8} (hl : ts.length = ts'.length) (h1 : ∀ x ∈ ts, x.fits = true) (h2 : ∀ x ∈ ts', x.fits = true) (h : allTgs ts ++ r = allTgs ts' ++ s) : ts.map Tg.plain = ts'.map Tg.plain ∧ r = s := by
  induction ts generalizing ts' with
  | nil =>
    obtain rfl : ts' = [] := List.eq_nil_of_length_eq_zero hl.symm
    exact ⟨rfl, h⟩
  | cons a l ih =>
    cases ts' with
    | nil => cases hl
    | cons a' l' =>
      have e1 : allTgs (a :: l) = tgBytes a ++ allTgs l := by simp [allTgs]
      have e2 : allTgs (a' :: l') = tgBytes a' ++ allTgs l' := by simp [allTgs]
      rw [e1, e2, List.append_assoc, List.append_assoc] at h
      obtain ⟨q1, q2⟩ := tg_app (h1 a List.mem_cons_self) (h2 a' List.mem_cons_self) h
      obtain ⟨q3, q4⟩ := ih (by simpa using hl) (fun x hx => h1 x (List.mem_cons_of_mem _ hx)) (fun x hx => h2 x (List.mem_cons_of_mem _ hx)) q2
      exact ⟨by rw [List.map_cons, List.map_cons, q1, q3], q4⟩
theorem gFits_parts {ts : List Tg} (h : gFits ts = true) : ts.length ≤ 32 ∧ ∀ t ∈ ts, t.fits = true := by
  unfold gFits at h
  simpa only [Bool.and_eq_true, decide_eq_true_eq, List.all_eq_true] using h
theorem graph_app {ts ts' : List Tg} {r s : List UInt8} (h1 : gFits ts = true) (h2 : gFits ts' = true) (h : graphBytes ts ++ r = graphBytes ts' ++ s) : ts.map Tg.plain = ts'.map Tg.plain ∧ r = s := by
  obtain ⟨a1, a2⟩ := gFits_parts h1
  obtain ⟨b1, b2⟩ := gFits_parts h2
  unfold graphBytes at h
  simp only [List.append_assoc] at h
  obtain ⟨q3, h⟩ := var_app (by omega) (by omega) h
  exact tgs_app q3 a2 b2 h

theorem partLong_app {b : Bool} {n m : Nat} {r s : List UInt8} (hn : (n : Int) < 18446744073709551616) (hm : (m : Int) < 18446744073709551616) (h : partLong b n ++ r = partLong b m ++ s) : (b = true → n = m) ∧ r = s := by
  cases b with
  | false => exact ⟨fun e => (by cases e), h⟩
  | true =>
    obtain ⟨q1, q2⟩ := be_app (by rw [pow8]; omega) (by rw [pow8]; omega) h
    exact ⟨fun _ => q1, q2⟩
theorem partGood_app {b g g' : Bool} {r s : List UInt8} (h : partGood b g ++ r = partGood b g' ++ s) : (b = true → g = g') ∧ r = s := by
  cases b with
  | false => exact ⟨fun e => (by cases e), h⟩
  | true =>
    simp only [partGood, if_true, List.cons_append, List.nil_append, List.cons.injEq] at h
    refine ⟨fun _ => ?_, h.2⟩
    cases g <;> cases g' <;> simp_all
theorem partGraph_app {b : Bool} {ts ts' : List Tg} {r s : List UInt8} (h1 : gFits ts = true) (h2 : gFits ts' = true) (h : partGraph b ts ++ r = partGraph b ts' ++ s) : (b = true → ts.map Tg.plain = ts'.map Tg.plain) ∧ r = s := by
  cases b with
  | false => exact ⟨fun e => (by cases e), h⟩
  | true =>
    obtain ⟨q1, q2⟩ := graph_app h1 h2 h
    exact ⟨fun _ => q1, q2⟩

/-- The parts of a right command. -/
theorem right_all (c : Cmd) (h : c.right = true) : (1 ≤ c.kind ∧ c.kind ≤ 7) ∧ (fSes c.kind = true ∨ c.ses = 0) ∧ (fSeq c.kind = true ∨ c.seq = 0) ∧ (fGra c.kind = true ∨ c.ts = []) ∧ (fId c.kind = true ∨ c.id = 0) ∧ (fTok c.kind = true ∨ c.tok = 0) ∧
    (fGood c.kind = true ∨ c.good = false) ∧ (fTime c.kind = true ∨ c.time = 0) ∧ gFits c.ts = true := by
  have hp := right_parts c h
  unfold Cmd.right at h
  simp only [Bool.and_eq_true, Bool.or_eq_true, decide_eq_true_eq, Bool.not_eq_true', List.length_eq_zero_iff] at h
  obtain ⟨⟨⟨⟨⟨⟨⟨⟨_, h1⟩, h2⟩, h3⟩, h4⟩, h5⟩, h6⟩, h7⟩, h8⟩ := h
  exact ⟨hp.1, h1, h2, h3, h4, h5, h6, h7, h8⟩
theorem or_join {b : Bool} {α : Type} {x y z : α} (h1 : b = true ∨ x = z) (h2 : b = true ∨ y = z) (h : b = true → x = y) : x = y := by
  cases b with
  | true => exact h rfl
  | false => rcases h1 with h1 | h1 <;> rcases h2 with h2 | h2 <;> simp_all

theorem Cmd.same_iff (x y : Cmd) : x.same y = true ↔ x.ts.map Tg.plain = y.ts.map Tg.plain ∧ x.kind = y.kind ∧ x.ses = y.ses ∧ x.seq = y.seq ∧ x.id = y.id ∧ x.tok = y.tok ∧ x.good = y.good ∧ x.time = y.time := by
  unfold Cmd.same
  simp only [Bool.and_eq_true, decide_eq_true_eq]
  constructor
  · rintro ⟨⟨⟨⟨⟨⟨⟨a, b⟩, c⟩, d⟩, e⟩, f⟩, g⟩, h⟩
    exact ⟨a, b, c, d, e, f, g, h⟩
  · rintro ⟨a, b, c, d, e, f, g, h⟩
    exact ⟨⟨⟨⟨⟨⟨⟨a, b⟩, c⟩, d⟩, e⟩, f⟩, g⟩, h⟩

theorem kind_inj {a b : Int} (ha : 1 ≤ a ∧ a ≤ 7) (hb : 1 ≤ b ∧ b ≤ 7) (h : UInt8.ofNat a.toNat = UInt8.ofNat b.toNat) : a = b := by
  have := congrArg UInt8.toNat h
  rw [UInt8.toNat_ofNat', UInt8.toNat_ofNat'] at this
  omega

/-- The bytes of commands say which they are. -/
theorem cmdBytes_inj {w w' : World} {D D' : Nat → Prop} (x y : Cmd) (hx : x.lies w D) (hy : y.lies w' D') (rx : x.right = true) (ry : y.right = true) (h : cmdBytes x = cmdBytes y) : x.same y = true := by
  obtain ⟨a0, a1, a2, a3, a4, a5, a6, a7, a8⟩ := right_all x rx
  obtain ⟨b0, b1, b2, b3, b4, b5, b6, b7, b8⟩ := right_all y ry
  obtain ⟨k, ses, seq, gv, ts, gid, tok, good, time⟩ := x
  obtain ⟨k', ses', seq', gv', ts', gid', tok', good', time'⟩ := y
  obtain ⟨x1, x2, x3, x4, x5, _⟩ := hx
  obtain ⟨y1, y2, y3, y4, y5, _⟩ := hy
  unfold cmdBytes fieldBytes at h
  simp only at *
  rw [List.cons.injEq] at h
  obtain ⟨hk, h⟩ := h
  obtain rfl := kind_inj a0 b0 hk
  have h' := congrArg (· ++ ([] : List UInt8)) h
  simp only [List.append_assoc] at h'
  obtain ⟨e1, h'⟩ := partLong_app x1 y1 h'
  obtain ⟨e2, h'⟩ := partLong_app x2 y2 h'
  obtain ⟨e3, h'⟩ := partGraph_app a8 b8 h'
  obtain ⟨e4, h'⟩ := partLong_app x3 y3 h'
  obtain ⟨e5, h'⟩ := partLong_app x4 y4 h'
  obtain ⟨e6, h'⟩ := partGood_app h'
  obtain ⟨e7, h'⟩ := partLong_app x5 y5 h'
  refine (Cmd.same_iff _ _).2 ⟨?_, rfl, or_join a1 b1 e1, or_join a2 b2 e2, or_join a4 b4 e4, or_join a5 b5 e5, or_join a6 b6 e6, or_join a7 b7 e7⟩
  exact or_join (z := []) (a3.imp id (fun h => by simp only at h ⊢; rw [h]; rfl)) (b3.imp id (fun h => by simp only at h ⊢; rw [h]; rfl)) e3

theorem tgBytes_plain {t t' : Tg} (h : t.plain = t'.plain) : tgBytes t = tgBytes t' := by
  obtain ⟨a, b, c, d⟩ := t
  obtain ⟨a', b', c', d'⟩ := t'
  unfold Tg.plain at h
  simp only [Pt.mk.injEq] at h
  obtain ⟨rfl, rfl, rfl⟩ := h
  rfl
theorem graphBytes_plain {ts ts' : List Tg} (h : ts.map Tg.plain = ts'.map Tg.plain) : graphBytes ts = graphBytes ts' := by
  have hl : ts.length = ts'.length := by simpa using congrArg List.length h
  unfold graphBytes
  rw [hl]
  congr 1
  clear hl
  induction ts generalizing ts' with
  | nil =>
    obtain rfl : ts' = [] := by simpa using h.symm
    rfl
  | cons a l ih =>
    cases ts' with
    | nil => simp at h
    | cons a' l' =>
      rw [List.map_cons, List.map_cons, List.cons.injEq] at h
      have e1 : allTgs (a :: l) = tgBytes a ++ allTgs l := by simp [allTgs]
      have e2 : allTgs (a' :: l') = tgBytes a' ++ allTgs l' := by simp [allTgs]
      rw [e1, e2, tgBytes_plain h.1, ih h.2]
theorem cmdBytes_same (x y : Cmd) (h : x.same y = true) : cmdBytes x = cmdBytes y := by
  obtain ⟨h1, h2, h3, h4, h5, h6, h7, h8⟩ := (Cmd.same_iff x y).1 h
  unfold cmdBytes fieldBytes partGraph
  rw [h2, h3, h4, h5, h6, h7, h8, graphBytes_plain h1]

/-- The bytes of entries say which they are. -/
theorem entBytes_inj {i t i' t' : Nat} {k k' : Int} {cs cs' : List UInt8} (h1 : (i : Int) < 18446744073709551616) (h2 : (t : Int) < 18446744073709551616) (h3 : (i' : Int) < 18446744073709551616) (h4 : (t' : Int) < 18446744073709551616)
    (r : entRight i t k cs.length = true) (r' : entRight i' t' k' cs'.length = true) (h : entBytes i t k.toNat cs = entBytes i' t' k'.toNat cs') : sameEnt i t k cs i' t' k' cs' = true := by
  obtain ⟨_, _, q1, q2⟩ := (entRight_iff _ _ _ _).1 r
  obtain ⟨_, _, q3, q4⟩ := (entRight_iff _ _ _ _).1 r'
  unfold entBytes at h
  have h' := congrArg (· ++ ([] : List UInt8)) h
  simp only [List.append_assoc] at h'
  obtain ⟨e1, h'⟩ := be_app (by rw [pow8]; omega) (by rw [pow8]; omega) h'
  obtain ⟨e2, h'⟩ := be_app (by rw [pow8]; omega) (by rw [pow8]; omega) h'
  rw [List.cons_append, List.cons_append, List.cons.injEq] at h'
  obtain ⟨e3, h'⟩ := h'
  obtain ⟨e4, _⟩ := text_app (by omega) (by omega) h'
  have e5 := congrArg UInt8.toNat e3
  rw [UInt8.toNat_ofNat', UInt8.toNat_ofNat'] at e5
  have e6 : k = k' := by omega
  unfold sameEnt
  simp [e1, e2, e4, e6]
theorem entBytes_same {i t i' t' : Nat} {k k' : Int} {cs cs' : List UInt8} (h : sameEnt i t k cs i' t' k' cs' = true) : entBytes i t k.toNat cs = entBytes i' t' k'.toNat cs' := by
  unfold sameEnt at h
  simp only [Bool.and_eq_true, decide_eq_true_eq] at h
  obtain ⟨⟨⟨rfl, rfl⟩, rfl⟩, rfl⟩ := h
  rfl
end Go.Proofs.Ytngbminjbgomgaa
