import Derived.Test.YtdikmmdkpfmocaaBs07
import Derived.Test.YtdikmmdkpfmocaaBs09
namespace Go.Proofs.Ytdikmmdkpfmocaa
open Go.RowKit
theorem num_from (l : List UInt8) (n : Nat) : l.foldl (fun n b => n * 256 + b.toNat) n = n * 256 ^ l.length + num l := by
  unfold num
  induction l generalizing n with
  | nil => simp
  | cons a l ih =>
    rw [List.foldl_cons, List.foldl_cons, ih, ih (0 * 256 + a.toNat), List.length_cons, Nat.pow_succ]
    simp only [Nat.zero_mul, Nat.zero_add]
    rw [Nat.add_mul, Nat.mul_assoc, Nat.mul_comm 256, Nat.add_assoc]
theorem num_cons (b : UInt8) (l : List UInt8) : num (b :: l) = b.toNat * 256 ^ l.length + num l := by
  have := num_from l (0 * 256 + b.toNat)
  simpa [num] using this
theorem ofNat_toNat8 (n : Nat) : (UInt8.ofNat (n % 256)).toNat = n % 256 := by rw [UInt8.toNat_ofNat']; omega
theorem num_be_mod (n k : Nat) : num (be n k) = n % 256 ^ k := by
  induction k with
  | zero => simp [be, num, Nat.mod_one]
  | succ k ih =>
    rw [be, num_cons, be_length, ih, ofNat_toNat8, Nat.mod_pow_succ, Nat.add_comm, Nat.mul_comm]
theorem num_be (n k : Nat) (h : n < 256 ^ k) : num (be n k) = n := by rw [num_be_mod, Nat.mod_eq_of_lt h]
theorem be_mod (n k : Nat) : be (n % 256 ^ k) k = be n k := by
  suffices h : ∀ j, j ≤ k → be (n % 256 ^ k) j = be n j from h k (Nat.le_refl _)
  intro j
  induction j with
  | zero => intro _; rfl
  | succ j ih =>
    intro hj
    rw [be, be, ih (by omega)]
    congr 2
    have e : n % 256 ^ k / 256 ^ j % 256 = n / 256 ^ j % 256 := by
      obtain ⟨d, rfl⟩ : ∃ d, k = j + (d + 1) := ⟨k - j - 1, by omega⟩
      rw [Nat.pow_add, Nat.mod_mul_right_div_self, Nat.pow_succ, Nat.mul_comm (256 ^ d), Nat.mod_mul_right_mod]
    exact e
theorem be_num (l : List UInt8) : be (num l) l.length = l := by
  induction l with
  | nil => rfl
  | cons b l ih =>
    have hlt := num_lt l
    rw [List.length_cons, be, num_cons]
    have e1 : (b.toNat * 256 ^ l.length + num l) / 256 ^ l.length % 256 = b.toNat := by
      rw [Nat.mul_comm, Nat.mul_add_div (Nat.pow_pos (by decide)), Nat.div_eq_of_lt hlt]
      have := b.toNat_lt
      omega
    have e2 : be (b.toNat * 256 ^ l.length + num l) l.length = l := by
      rw [← be_mod, Nat.mul_comm, Nat.mul_add_mod, Nat.mod_eq_of_lt hlt]
      exact ih
    rw [e1, e2]
    congr 1
    simp
theorem pow8 : 256 ^ 8 = 18446744073709551616 := by decide
theorem varFirst_toNat (n : Nat) : (UInt8.ofNat (varFirst n)).toNat = varFirst n := by
  rw [UInt8.toNat_ofNat']
  exact Nat.mod_eq_of_lt (varFirst_lt n)
theorem varMore_fits (n : Nat) (h : n < 18446744073709551616) (h0 : varMore (varFirst n) ≠ 0) : n < 256 ^ varMore (varFirst n) := by
  unfold varFirst varMore at *
  (repeat' split) <;> (try split at h0) <;> simp_all <;> omega
theorem varMore_none (n : Nat) (h0 : varMore (varFirst n) = 0) : varFirst n = n := by
  unfold varFirst varMore at *
  (repeat' split) <;> simp_all
  all_goals omega
theorem frontV_var (n most : Nat) (r : List UInt8) (h : n < 18446744073709551616) : frontV (varBytes n ++ r) most = if most < n then (0, 0, 12) else (n, (varBytes n).length, 0) := by
  rw [varBytes, List.cons_append, frontV_cons, varFirst_toNat, if_neg (by simp [be_length]; omega)]
  have e : (if varMore (varFirst n) = 0 then varFirst n else num ((be n (varMore (varFirst n)) ++ r).take (varMore (varFirst n)))) = n := by
    split
    · rename_i h0; exact varMore_none n h0
    · rename_i h0
      rw [List.take_append_of_le_length (by rw [be_length]; exact Nat.le_refl _), List.take_of_length_le (by rw [be_length]; exact Nat.le_refl _), num_be _ _ (varMore_fits n h h0)]
  rw [e]
  unfold frontN
  rw [if_neg (fun h => h rfl)]
  simp [be_length, Nat.add_comm]
theorem Rs.take_all (l r : List UInt8) (n : Nat) (h : l.length = n) : Rs.take ⟨l ++ r, 0⟩ n = (l, ⟨r, 0⟩) := by
  unfold Rs.take
  rw [if_neg (fun h => h rfl), if_neg (by simp; omega)]
  subst h
  simp
theorem frontV_read (l : List UInt8) (most n k : Nat) (h : frontV l most = (n, k, 0)) : l = varBytes n ++ l.drop k ∧ n ≤ most ∧ n < 18446744073709551616 := by
  cases l with
  | nil => cases h
  | cons f r =>
    rw [frontV_cons] at h
    have hf : f.toNat < 256 := f.toNat_lt
    have hm8 := varMore_le f.toNat
    by_cases h1 : (f :: r).length < 1 + varMore f.toNat
    · rw [if_pos h1] at h
      cases h
    · rw [if_neg h1] at h
      rw [List.length_cons] at h1
      unfold frontN at h
      generalize hx : (if varMore f.toNat = 0 then f.toNat else num (r.take (varMore f.toNat))) = x at h
      by_cases h2 : varFirst x ≠ f.toNat
      · rw [if_pos h2] at h
        cases h
      · rw [if_neg h2] at h
        have h2 : varFirst x = f.toNat := Decidable.not_not.1 h2
        by_cases h3 : most < x
        · rw [if_pos h3] at h
          cases h
        · rw [if_neg h3] at h
          injection h with e1 e2
          injection e2 with e2 _
          subst e1 e2
          have hrf : UInt8.ofNat (varFirst x) = f := by rw [h2]; simp
          have hx64 : x < 18446744073709551616 := by
            rw [← hx]
            split
            · omega
            · have := num_lt64 (r.take (varMore f.toNat)) (by rw [List.length_take]; omega)
              omega
          refine ⟨?_, by omega, hx64⟩
          unfold varBytes
          rw [hrf, h2, Nat.add_comm, List.drop_succ_cons, List.cons_append]
          congr 1
          by_cases h4 : varMore f.toNat = 0
          · rw [h4]
            rfl
          · rw [if_neg h4] at hx
            have e := be_num (r.take (varMore f.toNat))
            rw [List.length_take, Nat.min_eq_left (by omega), hx] at e
            rw [e, List.take_append_drop]
theorem text_read (l cs : List UInt8) (most : Nat) (s : Rs) (h : Rs.text ⟨l, 0⟩ most = (cs, s)) (he : s.err = 0) : l = textBytes cs ++ s.left ∧ cs.length ≤ most := by
  unfold Rs.text at h
  rw [if_neg (fun h => h rfl)] at h
  obtain ⟨n, k, e, hf⟩ : ∃ n k e, frontV l most = (n, k, e) := ⟨_, _, _, rfl⟩
  simp only [hf] at h
  by_cases h1 : e ≠ 0
  · rw [if_pos h1] at h
    obtain ⟨rfl, rfl⟩ := Prod.mk.inj h
    exact absurd he h1
  · rw [if_neg h1] at h
    obtain rfl : e = 0 := Decidable.not_not.1 h1
    obtain ⟨hl, hm, _⟩ := frontV_read l most n k hf
    by_cases h2 : l.length - k < n
    · rw [if_pos h2] at h
      obtain ⟨rfl, rfl⟩ := Prod.mk.inj h
      cases he
    · rw [if_neg h2] at h
      obtain ⟨rfl, rfl⟩ := Prod.mk.inj h
      have hlen : ((l.drop k).take n).length = n := by rw [List.length_take, List.length_drop]; omega
      refine ⟨?_, by omega⟩
      unfold textBytes
      rw [hlen, List.append_assoc, List.take_append_drop]
      exact hl
theorem text_back (cs r : List UInt8) (most : Nat) (h : cs.length ≤ most) (h64 : cs.length < 18446744073709551616) : Rs.text ⟨textBytes cs ++ r, 0⟩ most = (cs, ⟨r, 0⟩) := by
  unfold Rs.text
  have hf := frontV_var cs.length most (cs ++ r) h64
  rw [if_neg (by omega)] at hf
  have e : textBytes cs ++ r = varBytes cs.length ++ (cs ++ r) := by unfold textBytes; rw [List.append_assoc]
  simp only [e, hf]
  rw [if_neg (fun h => h rfl), if_neg (fun h => h rfl), if_neg (by simp), List.drop_left, List.take_left, List.drop_left]
theorem dec_parts (bs : List UInt8) (h : 18 ≤ bs.length) : decI bs = (bs.take 8, ⟨bs.drop 8, 0⟩) ∧ decT bs = ((bs.drop 8).take 8, ⟨bs.drop 16, 0⟩) ∧ decK bs = ((bs.drop 16).take 1, ⟨bs.drop 17, 0⟩) ∧ decD bs = Rs.text ⟨bs.drop 17, 0⟩ 65536 := by
  have e1 : decI bs = (bs.take 8, ⟨bs.drop 8, 0⟩) := by unfold decI Rs.take; rw [if_neg (fun h => h rfl), if_neg (by simp only; omega)]
  have e2 : decT bs = ((bs.drop 8).take 8, ⟨bs.drop 16, 0⟩) := by
    unfold decT
    rw [e1]
    unfold Rs.take
    simp only
    rw [if_neg (fun h => h rfl), if_neg (by rw [List.length_drop]; omega), List.drop_drop]
  have e3 : decK bs = ((bs.drop 16).take 1, ⟨bs.drop 17, 0⟩) := by
    unfold decK
    rw [e2]
    unfold Rs.take
    simp only
    rw [if_neg (fun h => h rfl), if_neg (by rw [List.length_drop]; omega), List.drop_drop]
  refine ⟨e1, e2, e3, ?_⟩
  unfold decD
  rw [e3]
theorem dec_short (bs : List UInt8) (h : bs.length < 18) : decOk bs = false := by
  have key : (decD bs).2.end_ ≠ 0 := by
    have taken : ∀ (s : Rs) (n : Nat), (s.err ≠ 0 → (s.take n).2 = s) ∧ (s.err = 0 → s.left.length < n → (s.take n).2.err ≠ 0) ∧ (s.err = 0 → n ≤ s.left.length → (s.take n).2.err = 0 ∧ (s.take n).2.left.length = s.left.length - n) := by
      intro s n
      unfold Rs.take
      refine ⟨fun h => by rw [if_pos h], fun h h2 => ?_, fun h h2 => ?_⟩
      · rw [if_neg (fun h' => h' h), if_pos h2]
        show (10 : Int) ≠ 0
        decide
      · rw [if_neg (fun h' => h' h), if_neg (by omega)]
        exact ⟨rfl, by rw [List.length_drop]⟩
    have bad : ∀ s : Rs, s.err ≠ 0 → s.end_ ≠ 0 := by
      intro s h
      unfold Rs.end_
      rw [if_neg (fun h' => h h'.1)]
      exact h
    have texted : ∀ s : Rs, s.err ≠ 0 → (s.text 65536).2 = s := by
      intro s h
      unfold Rs.text
      rw [if_pos h]
    have T1 := taken ⟨bs, 0⟩ 8
    have T2 := taken (decI bs).2 8
    have T3 := taken (decT bs).2 1
    change _ ∧ _ ∧ (_ → _ → (decI bs).2.err = 0 ∧ (decI bs).2.left.length = _) at T1
    change ((decI bs).2.err ≠ 0 → (decT bs).2 = _) ∧ (_ → _ → (decT bs).2.err ≠ 0) ∧ (_ → _ → (decT bs).2.err = 0 ∧ (decT bs).2.left.length = _) at T2
    change ((decT bs).2.err ≠ 0 → (decK bs).2 = _) ∧ (_ → _ → (decK bs).2.err ≠ 0) ∧ (_ → _ → (decK bs).2.err = 0 ∧ (decK bs).2.left.length = _) at T3
    have hk : (decK bs).2.err ≠ 0 ∨ ((decK bs).2.err = 0 ∧ (decK bs).2.left.length = bs.length - 17 ∧ 17 ≤ bs.length) := by
      by_cases a1 : bs.length < 8
      · have b1 : (decI bs).2.err ≠ 0 := T1.2.1 rfl a1
        have b2 := T2.1 b1
        have b3 := T3.1 (by rw [b2]; exact b1)
        left
        rw [b3, b2]
        exact b1
      · obtain ⟨c1, c2⟩ := T1.2.2 rfl (by simp only; omega)
        simp only at c2
        by_cases a2 : bs.length < 16
        · have b2 := T2.2.1 c1 (by omega)
          have b3 := T3.1 b2
          left
          rw [b3]
          exact b2
        · obtain ⟨d1, d2⟩ := T2.2.2 c1 (by omega)
          by_cases a3 : bs.length < 17
          · left
            exact T3.2.1 d1 (by omega)
          · obtain ⟨f1, f2⟩ := T3.2.2 d1 (by omega)
            exact .inr ⟨f1, by omega, by omega⟩
    have hD : decD bs = (decK bs).2.text 65536 := rfl
    rcases hk with hk | ⟨hk, hk2, hk3⟩
    · rw [hD, texted _ hk]
      exact bad _ hk
    · have hl : (decK bs).2.left = [] := List.eq_nil_of_length_eq_zero (by omega)
      rw [hD]
      unfold Rs.text
      rw [if_neg (fun h => h hk), hl]
      have e : frontV [] 65536 = (0, 0, 10) := rfl
      rw [e, if_pos (by decide)]
      exact bad _ (by decide)
  unfold decOk
  simp [key]
theorem dec_read (bs : List UInt8) (h : decOk bs = true) : entBytes (num (decI bs).1) (num (decT bs).1) (num (decK bs).1) (decD bs).1 = bs := by
  by_cases hl : bs.length < 18
  · rw [dec_short bs hl] at h
    cases h
  · obtain ⟨e1, e2, e3, e4⟩ := dec_parts bs (by omega)
    unfold decOk at h
    rw [Bool.and_eq_true, decide_eq_true_eq] at h
    obtain ⟨h1, _⟩ := h
    rw [e4] at h1
    obtain ⟨cd, sd, ht⟩ : ∃ cd sd, Rs.text ⟨bs.drop 17, 0⟩ 65536 = (cd, sd) := ⟨_, _, rfl⟩
    rw [ht] at h1
    unfold Rs.end_ at h1
    have hsd : sd.err = 0 ∧ sd.left = [] := by
      by_cases a : sd.err = 0 ∧ 0 < sd.left.length
      · rw [if_pos a] at h1
        cases h1
      · rw [if_neg a] at h1
        have h1' : sd.err = 0 := h1
        exact ⟨h1', List.eq_nil_of_length_eq_zero (by omega)⟩
    obtain ⟨ht2, _⟩ := text_read _ _ _ _ ht hsd.1
    rw [hsd.2, List.append_nil] at ht2
    rw [e1, e2, e3, e4, ht]
    unfold entBytes
    simp only
    have b1 := be_num (bs.take 8)
    have b2 := be_num ((bs.drop 8).take 8)
    rw [List.length_take, Nat.min_eq_left (by omega)] at b1
    rw [List.length_take, List.length_drop, Nat.min_eq_left (by omega)] at b2
    rw [b1, b2, ← ht2]
    have b3 : [UInt8.ofNat (num ((bs.drop 16).take 1))] = (bs.drop 16).take 1 := by
      have b4 := be_num ((bs.drop 16).take 1)
      have b5 := num_lt ((bs.drop 16).take 1)
      rw [List.length_take, List.length_drop, Nat.min_eq_left (by omega)] at b4 b5
      rw [be] at b4
      simp only [Nat.pow_zero, Nat.div_one, be] at b4
      rw [Nat.mod_eq_of_lt (by omega)] at b4
      exact b4
    rw [b3]
    have s1 : bs.drop 16 = (bs.drop 16).take 1 ++ bs.drop 17 := by rw [show bs.drop 17 = (bs.drop 16).drop 1 by rw [List.drop_drop], List.take_append_drop]
    have s2 : bs.drop 8 = (bs.drop 8).take 8 ++ bs.drop 16 := by rw [show bs.drop 16 = (bs.drop 8).drop 8 by rw [List.drop_drop], List.take_append_drop]
    rw [List.append_assoc, List.append_assoc, ← s1, ← s2, List.take_append_drop]
theorem dec_back (i t : Nat) (k : Int) (cs : List UInt8) (hi : (i : Int) < 18446744073709551616) (ht : (t : Int) < 18446744073709551616) (hr : entRight i t k cs.length = true) :
    decOk (entBytes i t k.toNat cs) = true ∧ num (decI (entBytes i t k.toNat cs)).1 = i ∧ num (decT (entBytes i t k.toNat cs)).1 = t ∧ (num (decK (entBytes i t k.toNat cs)).1 : Int) = k ∧ (decD (entBytes i t k.toNat cs)).1 = cs := by
  obtain ⟨_, _, h3, h4⟩ := (entRight_iff _ _ _ _).1 hr
  have e1 : decI (entBytes i t k.toNat cs) = (be i 8, ⟨be t 8 ++ ([UInt8.ofNat k.toNat] ++ textBytes cs), 0⟩) := by
    unfold decI entBytes
    rw [List.append_assoc, List.append_assoc]
    exact Rs.take_all _ _ _ (be_length i 8)
  have e2 : decT (entBytes i t k.toNat cs) = (be t 8, ⟨[UInt8.ofNat k.toNat] ++ textBytes cs, 0⟩) := by
    unfold decT
    rw [e1]
    exact Rs.take_all _ _ _ (be_length t 8)
  have e3 : decK (entBytes i t k.toNat cs) = ([UInt8.ofNat k.toNat], ⟨textBytes cs, 0⟩) := by
    unfold decK
    rw [e2]
    exact Rs.take_all _ _ _ rfl
  have e4 : decD (entBytes i t k.toNat cs) = (cs, ⟨[], 0⟩) := by
    unfold decD
    rw [e3]
    have := text_back cs [] 65536 h3 (by omega)
    rwa [List.append_nil] at this
  have n1 : num (be i 8) = i := num_be i 8 (by rw [pow8]; omega)
  have n2 : num (be t 8) = t := num_be t 8 (by rw [pow8]; omega)
  have n3 : (num [UInt8.ofNat k.toNat] : Int) = k := by
    have : num [UInt8.ofNat k.toNat] = k.toNat := by
      simp only [num, List.foldl_cons, List.foldl_nil, Nat.zero_mul, Nat.zero_add, UInt8.toNat_ofNat']
      omega
    rw [this]
    omega
  refine ⟨?_, by rw [e1, n1], by rw [e2, n2], by rw [e3, n3], by rw [e4]⟩
  unfold decOk
  rw [e1, e2, e3, e4]
  simp only
  rw [n1, n2, n3, hr]
  rfl
theorem var_back (n most : Nat) (r : List UInt8) (h : n ≤ most) (h64 : n < 18446744073709551616) : Rs.var ⟨varBytes n ++ r, 0⟩ most = (n, ⟨r, 0⟩) := by
  unfold Rs.var
  have hf := frontV_var n most r h64
  rw [if_neg (by omega)] at hf
  simp only [hf]
  rw [if_neg (fun h => h rfl), if_neg (fun h => h rfl), List.drop_left]
theorem err_stays (s : Rs) (most : Nat) (h : s.err ≠ 0) : (s.text most).2 = s ∧ (s.var most).2 = s := by
  unfold Rs.text Rs.var
  rw [if_pos h, if_pos h]
  exact ⟨rfl, rfl⟩
theorem text_ok (s : Rs) (most : Nat) (h : (s.text most).2.err = 0) : s.err = 0 := by
  by_cases e : s.err = 0
  · exact e
  · rw [(err_stays s most e).1] at h
    exact absurd h e
theorem var_ok (s : Rs) (most : Nat) (h : (s.var most).2.err = 0) : s.err = 0 := by
  by_cases e : s.err = 0
  · exact e
  · rw [(err_stays s most e).2] at h
    exact absurd h e
theorem rs_eta (s : Rs) (h : s.err = 0) : s = ⟨s.left, 0⟩ := by
  obtain ⟨l, e⟩ := s
  simp only at h
  subst h
  rfl
theorem text_was (s : Rs) (most : Nat) (h : (s.text most).2.err = 0) : s.left = textBytes (s.text most).1 ++ (s.text most).2.left ∧ (s.text most).1.length ≤ most := by
  have hs := rs_eta s (text_ok s most h)
  have key := text_read s.left (s.text most).1 most (s.text most).2 (by rw [← hs]) h
  exact key
theorem var_was (s : Rs) (most : Nat) (h : (s.var most).2.err = 0) : s.left = varBytes (s.var most).1 ++ (s.var most).2.left ∧ (s.var most).1 ≤ most := by
  have he := var_ok s most h
  unfold Rs.var at h ⊢
  rw [if_neg (fun h' => h' he)] at h ⊢
  by_cases h1 : (frontV s.left most).2.2 ≠ 0
  · rw [if_pos h1] at h
    exact absurd h h1
  · rw [if_neg h1]
    have h1 : (frontV s.left most).2.2 = 0 := Decidable.not_not.1 h1
    obtain ⟨n, k, e, hf⟩ : ∃ n k e, frontV s.left most = (n, k, e) := ⟨_, _, _, rfl⟩
    rw [hf] at h1 ⊢
    simp only at h1
    subst h1
    obtain ⟨a, b, _⟩ := frontV_read s.left most n k hf
    exact ⟨a, b⟩
end Go.Proofs.Ytdikmmdkpfmocaa
