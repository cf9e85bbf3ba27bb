import Derived.Test.YtdikmmdkpfmocaaBs02
namespace Go.Proofs.Ytdikmmdkpfmocaa
open Go.RowKit
def num (bs : List UInt8) : Nat := bs.foldl (fun n b => n * 256 + b.toNat) 0
theorem num_snoc (bs : List UInt8) (b : UInt8) : num (bs ++ [b]) = num bs * 256 + b.toNat := by simp [num]
theorem num_lt_from (bs : List UInt8) : ∀ (n m : Nat), n < 256 ^ m → bs.foldl (fun n b => n * 256 + b.toNat) n < 256 ^ (m + bs.length) := by
  induction bs with
  | nil => intro n m h; simpa using h
  | cons b bs ih =>
    intro n m h
    have hb := b.toNat_lt
    have := ih (n * 256 + b.toNat) (m + 1) (by rw [Nat.pow_succ]; omega)
    rw [List.foldl_cons, List.length_cons, show m + (bs.length + 1) = m + 1 + bs.length from by omega]
    exact this
theorem num_lt (bs : List UInt8) : num bs < 256 ^ bs.length := by unfold num; simpa using num_lt_from bs 0 0 (by simp)
theorem num_lt64 (bs : List UInt8) (h : bs.length ≤ 8) : (num bs : Int) < 18446744073709551616 := by
  have h1 := num_lt bs
  have h2 : 256 ^ bs.length ≤ 256 ^ 8 := Nat.pow_le_pow_right (by decide) h
  have h3 : (256 : Nat) ^ 8 = 18446744073709551616 := by decide
  omega
theorem or_step (a x : Nat) (ha : a * 256 < 18446744073709551616) (hx : x < 256) :
    bits BinOp.or IntKind.u64 (IntKind.u64.wrap ((a : Int) * 256)) (IntKind.u64.wrap (x : Int)) = ((a * 256 + x : Nat) : Int) := by
  rw [IntWalk.u64_in _ ⟨by omega, by omega⟩, IntWalk.u64_in _ ⟨by omega, by omega⟩, show ((a : Int) * 256) = ((a * 256 : Nat) : Int) from by omega, u64_or_nat _ _ ha (by omega)]
  have h := Nat.two_pow_add_eq_or_of_lt (i := 8) hx a
  rw [Nat.mul_comm] at h
  rw [show (2 : Nat) ^ 8 = 256 from rfl] at h
  rw [h]
theorem num_take (bs : List UInt8) (k : Nat) (h : k < bs.length) (hl : bs.length ≤ 8) :
    bits BinOp.or IntKind.u64 (IntKind.u64.wrap ((num (bs.take k) : Int) * 256)) (IntKind.u64.wrap (bs[k].toNat : Int)) = (num (bs.take (k + 1)) : Int) := by
  have h1 := num_lt (bs.take k)
  have h2 : 256 ^ (bs.take k).length ≤ 256 ^ 7 := Nat.pow_le_pow_right (by decide) (by rw [List.length_take]; omega)
  have h3 : (256 : Nat) ^ 7 = 72057594037927936 := by decide
  rw [or_step _ _ (by omega) (bs[k].toNat_lt), List.take_succ_eq_append_getElem h, num_snoc]
set_option maxRecDepth 100000 in
set_option maxHeartbeats 400000 in
theorem cnumber_any (w : World) (D : Nat → Prop) (u : Value) (bs : List UInt8) (hs : Bytes w D u bs) (hl : bs.length ≤ 8) :
    Calls Try.prog 42 #[u] w fun e w' => e = .returned (.int .u64 (num bs)) ∧ w = w' := by
  obtain ⟨A, c, rfl, hlc, hcm, _, hc⟩ := hs
  have HC := Lib.hid hc
  clear hc
  go_enter Try.func42, Try.ntmps42
  go_wp2
  go_loop [3, 8] (fun n i => ∃ k : Nat, k ≤ bs.length ∧ i = .int .i64 k ∧ n = .int .u64 (num (bs.take k))) (fun _ i => bs.length - (intOf i).toNat)
  case atStart => exact ⟨0, Nat.zero_le _, rfl, rfl⟩
  case round =>
    obtain ⟨k, hk, rfl, rfl⟩ := hrel
    by_cases hlt : k < bs.length
    · obtain ⟨ad, rfl, hsp, _, _, hcell⟩ := HC.out (by omega)
      obtain ⟨b, o, sp⟩ := ad
      simp only at hsp
      subst hsp
      have hck : w.cell? ⟨b, o + k, none⟩ = some (.int .u8 (bs[k].toNat : Int)) := hcell k bs[k] (List.getElem?_eq_getElem hlt)
      clear hcell
      go_wp2
      go_round
      case rel => exact ⟨k + 1, by omega, by go_num, by rw [num_take bs k hlt hl]⟩
      case measure => simp [intOf]; omega
    · go_wp2
      go_ret
      have hke : k = bs.length := by omega
      subst hke
      exact ⟨by simp, rfl⟩
structure Rd (w : World) (p : Nat) (D : Nat → Prop) (u : Value) (bs : List UInt8) (er : Int) : Prop where
  box : Box w p 77 #[u, .int .i64 er]
  bytes : Bytes w (fun k => D k ∧ k ≠ p) u bs
  few : bs.length ≤ lim
structure Rs where
  left : List UInt8
  err : Int
def Rs.fail (s : Rs) (e : Int) : Rs := if s.err = 0 then ⟨s.left, e⟩ else s
def Rs.take (s : Rs) (n : Nat) : List UInt8 × Rs :=
  if s.err ≠ 0 then ([], s) else if s.left.length < n then ([], ⟨s.left, 10⟩) else (s.left.take n, ⟨s.left.drop n, 0⟩)
theorem Rd.keep {w w' : World} {p : Nat} {D : Nat → Prop} {u : Value} {bs : List UInt8} {er : Int} {S : Nat → Prop} (h : Rd w p D u bs er) (k : Keep S w w') (hp : ¬ S p) (hD : ∀ i, D i → ¬ S i) : Rd w' p D u bs er :=
  ⟨h.box.keep k hp, h.bytes.keep k (fun i _ hi => hD i hi.1), h.few⟩
theorem Rd.setErr {w : World} {p : Nat} {D : Nat → Prop} {u : Value} {bs : List UInt8} {er : Int} (h : Rd w p D u bs er) (e : Int) : Rd (w.setCell ⟨p, 1, none⟩ (.int .i64 e)) p D u bs e :=
  ⟨by simpa using h.box.put 1 (.int .i64 e), h.bytes.keep ((Keep.refl (fun k => k = p) w).setCell (p := ⟨p, 1, none⟩) (fun _ => rfl) _) (fun i _ hi hs => hi.2 hs), h.few⟩
set_option maxRecDepth 100000 in
set_option maxHeartbeats 400000 in
theorem fail_any (w : World) (p : Nat) (D : Nat → Prop) (u : Value) (bs : List UInt8) (er e0 : Int) (h : Rd w p D u bs er) :
    Calls Try.prog 49 #[.pointer (some ⟨p, 0, none⟩), .int .i64 e0] w fun e w' => e = .returned (.tuple #[]) ∧ Rd w' p D u bs (Rs.fail ⟨bs, er⟩ e0).err ∧ Keep (fun k => k = p) w w' := by
  have hc : w.cell? ⟨p, 1, none⟩ = some (.int .i64 er) := h.box.cell 1
  have hf := h.box.free 1
  by_cases he : er = 0
  · subst he
    have R := h.setErr e0
    have E := Lib.hid (show (Rs.fail ⟨bs, 0⟩ e0).err = e0 from rfl)
    clear h
    go_enter Try.func49, Try.ntmps49
    go_wp2
    go_end0
    exact ⟨rfl, by rw [E.out]; exact R, (Keep.refl (fun k => k = p) w).setCell (p := ⟨p, 1, none⟩) (fun _ => rfl) _⟩
  · have g : (er == 0) = false := beq_eq_false_iff_ne.2 he
    have E := Lib.hid (show (Rs.fail ⟨bs, er⟩ e0).err = er by unfold Rs.fail; rw [if_neg he])
    clear he
    go_enter Try.func49, Try.ntmps49
    go_wp2
    go_end0
    exact ⟨rfl, by rw [E.out]; exact h, Keep.refl _ _⟩
set_option maxRecDepth 100000 in
set_option maxHeartbeats 400000 in
theorem err_any (w : World) (p : Nat) (D : Nat → Prop) (u : Value) (bs : List UInt8) (er : Int) (h : Rd w p D u bs er) :
    Calls Try.prog 102 #[.pointer (some ⟨p, 0, none⟩)] w fun e w' => e = .returned (.int .i64 er) ∧ w = w' := by
  have hc : w.cell? ⟨p, 1, none⟩ = some (.int .i64 er) := h.box.cell 1
  go_enter Try.func102, Try.ntmps102
  go_wp2
  go_ret
  exact ⟨rfl, rfl⟩
def Rs.end_ (s : Rs) : Int := if s.err = 0 ∧ 0 < s.left.length then 13 else s.err
set_option maxRecDepth 100000 in
set_option maxHeartbeats 400000 in
theorem end_any (w : World) (p : Nat) (D : Nat → Prop) (u : Value) (bs : List UInt8) (er : Int) (h : Rd w p D u bs er) :
    Calls Try.prog 23 #[.pointer (some ⟨p, 0, none⟩)] w fun e w' => e = .returned (.int .i64 (Rs.end_ ⟨bs, er⟩)) ∧ w = w' := by
  obtain ⟨A, c, rfl, _⟩ := h.bytes
  have hc0 : w.cell? ⟨p, 0, none⟩ = some (.slice A bs.length c) := h.box.cell 0
  have hc : w.cell? ⟨p, 1, none⟩ = some (.int .i64 er) := h.box.cell 1
  by_cases he : er = 0
  · subst he
    by_cases hl : 0 < bs.length
    · have E := Lib.hid (show Rs.end_ ⟨bs, 0⟩ = 13 by unfold Rs.end_; rw [if_pos ⟨rfl, hl⟩])
      go_enter Try.func23, Try.ntmps23
      go_wp2
      go_ret
      exact ⟨by rw [E.out]; rfl, rfl⟩
    · have E := Lib.hid (show Rs.end_ ⟨bs, 0⟩ = 0 by unfold Rs.end_; rw [if_neg (fun h => hl h.2)])
      go_enter Try.func23, Try.ntmps23
      go_wp2
      go_ret
      exact ⟨by rw [E.out]; rfl, rfl⟩
  · have g : (er == 0) = false := beq_eq_false_iff_ne.2 he
    have E := Lib.hid (show Rs.end_ ⟨bs, er⟩ = er by unfold Rs.end_; rw [if_neg (fun h => he h.1)])
    clear he
    go_enter Try.func23, Try.ntmps23
    go_wp2
    go_ret
    exact ⟨by rw [E.out]; rfl, rfl⟩
theorem Bytes.take {w : World} {D : Nat → Prop} {A : Option Addr} {c n : Nat} {bs : List UInt8} (h : Bytes w D (.slice A bs.length c) bs) (hn : n ≤ bs.length) : Bytes w D (.slice A n c) (bs.take n) := by
  obtain ⟨A', c', e, hl, hm, hN, hc⟩ := h
  injection e with e1 e2 e3
  subst e1 e3
  have hl' : (bs.take n).length = n := by rw [List.length_take]; omega
  refine ⟨A, c, by rw [hl'], by omega, hm, hN, fun h0 => ?_⟩
  obtain ⟨ad, hA, hsp, hlt, hD, hcell⟩ := hc (by omega)
  refine ⟨ad, hA, hsp, hlt, hD, fun j b hb => hcell j b ?_⟩
  rw [List.getElem?_take] at hb
  split at hb
  · exact hb
  · cases hb
theorem Bytes.drop {w : World} {D : Nat → Prop} {A : Option Addr} {c n : Nat} {bs : List UInt8} (h : Bytes w D (.slice A bs.length c) bs) (hn : n ≤ bs.length) :
    Bytes w D (.slice (if c = n then A else A.map (·.add n)) (bs.length - n) (c - n)) (bs.drop n) := by
  obtain ⟨A', c', e, hl, hm, hN, hc⟩ := h
  injection e with e1 e2 e3
  subst e1 e3
  have hl' : (bs.drop n).length = bs.length - n := by rw [List.length_drop]
  refine ⟨_, c - n, by rw [hl'], by omega, by omega, ?_, fun h0 => ?_⟩
  · intro hA
    by_cases hcn : c = n
    · omega
    · rw [if_neg hcn] at hA
      have : A = none := by cases A with
        | none => rfl
        | some a => cases hA
      have := hN this
      omega
  · obtain ⟨ad, hA, hsp, hlt, hD, hcell⟩ := hc (by omega)
    subst hA
    rw [if_neg (by omega)]
    obtain ⟨b, o, sp⟩ := ad
    simp only at hsp
    subst hsp
    have ha : (⟨b, o, none⟩ : Addr).add n = ⟨b, o + n, none⟩ := by
      unfold Addr.add
      split
      · rename_i h0; subst h0; rfl
      · rfl
    refine ⟨⟨b, o + n, none⟩, by simp [ha], rfl, hlt, hD, fun j x hx => ?_⟩
    rw [List.getElem?_drop] at hx
    have := hcell (n + j) x hx
    simpa [Nat.add_assoc] using this
theorem Rd.taken {w : World} {p : Nat} {D : Nat → Prop} {A : Option Addr} {c n : Nat} {bs : List UInt8} {er : Int} (h : Rd w p D (.slice A bs.length c) bs er) (hn : n ≤ bs.length) :
    Rd (w.setCell ⟨p, 0, none⟩ (.slice (if c = n then A else A.map (·.add n)) (bs.length - n) (c - n))) p D (.slice (if c = n then A else A.map (·.add n)) (bs.length - n) (c - n)) (bs.drop n) er ∧
      Bytes (w.setCell ⟨p, 0, none⟩ (.slice (if c = n then A else A.map (·.add n)) (bs.length - n) (c - n))) (fun k => D k ∧ k ≠ p) (.slice A n c) (bs.take n) := by
  have k := (Keep.refl (fun k => k = p) w).setCell (p := ⟨p, 0, none⟩) (fun _ => rfl) (.slice (if c = n then A else A.map (·.add n)) (bs.length - n) (c - n))
  refine ⟨⟨by simpa using h.box.put 0 (.slice (if c = n then A else A.map (·.add n)) (bs.length - n) (c - n)), (h.bytes.drop hn).keep k (fun i _ hi hs => hi.2 hs), ?_⟩, (h.bytes.take hn).keep k (fun i _ hi hs => hi.2 hs)⟩
  have := h.few
  rw [List.length_drop]
  omega
def Took (w : World) (p : Nat) (D : Nat → Prop) (bs : List UInt8) (s : Rs) (e : Ending) (w' : World) : Prop :=
  ∃ u' x, e = .returned x ∧ Keep (fun k => k = p) w w' ∧ Rd w' p D u' s.left s.err ∧ Bytes w' (fun k => D k ∧ k ≠ p) x bs
set_option maxRecDepth 100000 in
set_option maxHeartbeats 400000 in
theorem take_any (w : World) (p : Nat) (D : Nat → Prop) (u : Value) (bs : List UInt8) (er : Int) (n : Nat) (h : Rd w p D u bs er) :
    Calls Try.prog 43 #[.pointer (some ⟨p, 0, none⟩), .int .i64 n] w (Took w p D (Rs.take ⟨bs, er⟩ n).1 (Rs.take ⟨bs, er⟩ n).2) := by
  obtain ⟨A, c, rfl, hlc, hcm, _, _⟩ := h.bytes
  have hc0 : w.cell? ⟨p, 0, none⟩ = some (.slice A bs.length c) := h.box.cell 0
  have hc : w.cell? ⟨p, 1, none⟩ = some (.int .i64 er) := h.box.cell 1
  by_cases he : er = 0
  · subst he
    by_cases hl : bs.length < n
    · have E := Lib.hid (show Rs.take ⟨bs, 0⟩ n = ([], ⟨bs, 10⟩) by unfold Rs.take; rw [if_neg (fun h => h rfl), if_pos hl])
      go_enter Try.func43, Try.ntmps43
      go_wp2_with fail
      refine (fail_any w p D _ bs 0 10 h).mono ?_
      rintro e w1 ⟨rfl, h1, k1⟩
      have hc1 : w1.cell? ⟨p, 1, none⟩ = some (.int .i64 10) := h1.box.cell 1
      go_wp2
      go_ret
      rw [E.out]
      exact ⟨_, _, rfl, k1, h1, Bytes.nil _ _⟩
    · have E := Lib.hid (show Rs.take ⟨bs, 0⟩ n = (bs.take n, ⟨bs.drop n, 0⟩) by unfold Rs.take; rw [if_neg (fun h => h rfl), if_neg hl])
      have hf := h.box.free 0
      have T := h.taken (n := n) (by omega)
      clear h
      by_cases hcn : c = n
      · subst hcn
        rw [if_pos rfl, Nat.sub_self, show bs.length - c = 0 from by omega] at T
        have T' := Lib.hid T
        clear T
        go_enter Try.func43, Try.ntmps43
        go_wp2
        go_ret
        rw [E.out]
        exact ⟨_, _, rfl, (Keep.refl (fun k => k = p) w).setCell (p := ⟨p, 0, none⟩) (fun _ => rfl) _, T'.out.1, T'.out.2⟩
      · rw [if_neg hcn] at T
        have T' := Lib.hid T
        clear T
        go_enter Try.func43, Try.ntmps43
        go_wp2
        go_ret
        rw [E.out]
        exact ⟨_, _, rfl, (Keep.refl (fun k => k = p) w).setCell (p := ⟨p, 0, none⟩) (fun _ => rfl) _, T'.out.1, T'.out.2⟩
  · have E := Lib.hid (show Rs.take ⟨bs, er⟩ n = ([], ⟨bs, er⟩) by unfold Rs.take; rw [if_pos he])
    have g : (er == 0) = false := beq_eq_false_iff_ne.2 he
    have g' : (er != 0) = true := by rw [bne_iff_ne]; exact he
    have E2 := Lib.hid (show (Rs.fail ⟨bs, er⟩ 10).err = er by unfold Rs.fail; rw [if_neg he])
    clear he
    by_cases hl : bs.length < n
    · go_enter Try.func43, Try.ntmps43
      go_wp2_with fail
      refine (fail_any w p D _ bs er 10 h).mono ?_
      rintro e w1 ⟨rfl, h1, k1⟩
      rw [E2.out] at h1
      have hc1 : w1.cell? ⟨p, 1, none⟩ = some (.int .i64 er) := h1.box.cell 1
      go_wp2
      go_ret
      rw [E.out]
      exact ⟨_, _, rfl, k1, h1, Bytes.nil _ _⟩
    · go_enter Try.func43, Try.ntmps43
      go_wp2
      go_ret
      rw [E.out]
      exact ⟨_, _, rfl, Keep.refl _ _, h, Bytes.nil _ _⟩
def Got (w : World) (p : Nat) (D : Nat → Prop) (v : Value) (s : Rs) (e : Ending) (w' : World) : Prop :=
  e = .returned v ∧ Keep (fun k => k = p) w w' ∧ ∃ u', Rd w' p D u' s.left s.err
theorem take_length (s : Rs) (n : Nat) : (s.take n).1.length ≤ n := by
  unfold Rs.take
  split
  · simp
  · split
    · simp
    · simp only [List.length_take]; omega
set_option maxRecDepth 100000 in
set_option maxHeartbeats 400000 in
theorem rlong_any (w : World) (p : Nat) (D : Nat → Prop) (u : Value) (bs : List UInt8) (er : Int) (h : Rd w p D u bs er) :
    Calls Try.prog 22 #[.pointer (some ⟨p, 0, none⟩)] w (Got w p D (.int .u64 (num (Rs.take ⟨bs, er⟩ 8).1)) (Rs.take ⟨bs, er⟩ 8).2) := by
  have hl := take_length ⟨bs, er⟩ 8
  have T := take_any w p D u bs er 8 h
  generalize (Rs.take ⟨bs, er⟩ 8).1 = cs at *
  generalize (Rs.take ⟨bs, er⟩ 8).2 = s at *
  have T' := Lib.hid T
  clear T
  go_enter Try.func22, Try.ntmps22
  go_wp2_with fail
  refine T'.out.mono ?_
  rintro e w1 ⟨u1, x, rfl, k1, h1, b1⟩
  go_wp2_with fail
  refine (cnumber_any w1 _ x cs b1 hl).mono ?_
  rintro e w2 ⟨rfl, rfl⟩
  go_wp2
  go_ret
  exact ⟨rfl, k1, u1, h1⟩
theorem num_one (bs : List UInt8) (h : bs.length ≤ 1) : num bs < 256 := by
  have h1 := num_lt bs
  have h2 : 256 ^ bs.length ≤ 256 ^ 1 := Nat.pow_le_pow_right (by decide) h
  omega
set_option maxRecDepth 100000 in
set_option maxHeartbeats 400000 in
theorem rbyte_any (w : World) (p : Nat) (D : Nat → Prop) (u : Value) (bs : List UInt8) (er : Int) (h : Rd w p D u bs er) :
    Calls Try.prog 21 #[.pointer (some ⟨p, 0, none⟩)] w (Got w p D (.int .u8 (num (Rs.take ⟨bs, er⟩ 1).1)) (Rs.take ⟨bs, er⟩ 1).2) := by
  have hl := take_length ⟨bs, er⟩ 1
  have T := take_any w p D u bs er 1 h
  generalize (Rs.take ⟨bs, er⟩ 1).1 = cs at *
  generalize (Rs.take ⟨bs, er⟩ 1).2 = s at *
  have hn := num_one cs hl
  have T' := Lib.hid T
  clear T
  go_enter Try.func21, Try.ntmps21
  go_wp2_with fail
  refine T'.out.mono ?_
  rintro e w1 ⟨u1, x, rfl, k1, h1, b1⟩
  go_wp2_with fail
  refine (cnumber_any w1 _ x cs b1 (by omega)).mono ?_
  rintro e w2 ⟨rfl, rfl⟩
  go_wp2
  go_ret
  exact ⟨rfl, k1, u1, h1⟩
def ReadDone (w : World) (bs : List UInt8) (e : Ending) (w' : World) : Prop :=
  ∃ p u, e = .returned (.pointer (some ⟨p, 0, none⟩)) ∧ w.heap.size ≤ p ∧ Keep noneOf w w' ∧ Rd w' p (fun k => w.heap.size ≤ k) u bs 0
set_option maxRecDepth 100000 in
set_option maxHeartbeats 400000 in
theorem read_any (w : World) (D : Nat → Prop) (v : Value) (bs : List UInt8) (hs : Bytes w D v bs) (hl : bs.length ≤ lim) :
    Calls Try.prog 20 #[v] w (ReadDone w bs) := by
  go_enter Try.func20, Try.ntmps20
  go_wp2_with fail
  refine (clone_any w v bs D hs hl).mono ?_
  rintro e w1 ⟨u, rfl, hF⟩
  have hb := hF.bytes
  have hk := hF.keep
  obtain ⟨A, c, rfl, _⟩ := hF.bytes
  clear hF
  go_wp2
  go_ret
  refine ⟨w1.heap.size, _, rfl, hk.size, hk.alloc _, Box.new _ _ _, ?_, hl⟩
  refine ((hb.mono (D' := fun k => w.heap.size ≤ k ∧ k ≠ w1.heap.size) (fun i hi hd => ⟨hd, by omega⟩))).keep ((Keep.refl noneOf w1).alloc _) (fun _ _ _ h => h)
def frontN (f m n most : Nat) : Nat × Nat × Int := if varFirst n ≠ f then (0, 0, 11) else if most < n then (0, 0, 12) else (n, 1 + m, 0)
def frontV (bs : List UInt8) (most : Nat) : Nat × Nat × Int :=
  match bs with
  | [] => (0, 0, 10)
  | f :: r =>
    if (f :: r).length < 1 + varMore f.toNat then (0, 0, 10)
    else frontN f.toNat (varMore f.toNat) (if varMore f.toNat = 0 then f.toNat else num (r.take (varMore f.toNat))) most
theorem frontV_cons (f : UInt8) (r : List UInt8) (most : Nat) : frontV (f :: r) most = if (f :: r).length < 1 + varMore f.toNat then (0, 0, 10)
    else frontN f.toNat (varMore f.toNat) (if varMore f.toNat = 0 then f.toNat else num (r.take (varMore f.toNat))) most := rfl
set_option maxRecDepth 100000 in
set_option maxHeartbeats 1000000 in
theorem frontVar_any (w : World) (D : Nat → Prop) (v : Value) (bs : List UInt8) (most : Nat) (hs : Bytes w D v bs) :
    Calls Try.prog 105 #[v, .int .u64 most] w fun e w' => e = .returned (.tuple #[.int .u64 (frontV bs most).1, .int .i64 (frontV bs most).2.1, .int .i64 (frontV bs most).2.2]) ∧ w = w' := by
  have hs' := hs
  obtain ⟨A, c, rfl, hlc, hcm, _, hc⟩ := hs
  cases bs with
  | nil =>
    have E := Lib.hid (show frontV [] most = (0, 0, 10) from rfl)
    clear hc
    go_enter Try.func105, Try.ntmps105
    go_wp2
    go_ret3
    rw [E.out]
    exact ⟨rfl, rfl⟩
  | cons f r =>
    obtain ⟨ad, rfl, hsp, _, _, hcell⟩ := hc (by simp)
    obtain ⟨b, o, sp⟩ := ad
    simp only at hsp
    subst hsp
    have hck : w.cell? ⟨b, o, none⟩ = some (.int .u8 (f.toNat : Int)) := hcell 0 f rfl
    have hm := varMore_le f.toNat
    have hf : f.toNat < 256 := f.toNat_lt
    have FC := frontV_cons f r most
    clear hcell hc
    have hb1 : varMore f.toNat ≠ 0 → varMore f.toNat + 1 ≤ (f :: r).length → Bytes w D (.slice (some ⟨b, o + 1, none⟩) (varMore f.toNat) (c - 1)) (r.take (varMore f.toNat)) := by
      intro h0 h1
      have d := hs'.drop (n := 1) (by simp)
      rw [if_neg (by omega)] at d
      have d2 := Bytes.take (n := varMore f.toNat) (bs := r) d (by simp at h1; omega)
      exact d2
    have HB := Lib.hid hb1
    generalize hL : (f :: r).length = L at *
    have hL0 : 0 < L := by rw [← hL]; simp
    have hLb : ((L : Int) == 0) = false := beq_eq_false_iff_ne.2 (by omega)
    clear hL hb1
    generalize f.toNat = fn at *
    generalize hmn : varMore fn = mn at *
    have HM := Lib.hid hmn
    clear hmn hs'
    by_cases hsh : L < 1 + mn
    · rw [if_pos hsh] at FC
      have E := Lib.hid FC
      clear FC
      go_enter Try.func105, Try.ntmps105
      go_wp2_with fail
      refine (following_any w fn).mono ?_
      rintro e w1 ⟨rfl, rfl⟩
      rw [HM.out]
      go_wp2
      go_ret3
      rw [E.out]
      exact ⟨rfl, rfl⟩
    · rw [if_neg hsh] at FC
      by_cases hm0 : mn = 0
      · subst hm0
        rw [if_pos rfl] at FC
        have E := Lib.hid FC
        clear FC
        go_enter Try.func105, Try.ntmps105
        go_wp2_with fail
        refine (following_any w fn).mono ?_
        rintro e w1 ⟨rfl, rfl⟩
        rw [HM.out]
        go_wp2_with fail
        refine (firstOfVar_any w fn).mono ?_
        rintro e w1 ⟨rfl, rfl⟩
        unfold frontN at E
        by_cases h1 : varFirst fn = fn
        · have g1 : ((varFirst fn : Int) != (fn : Int)) = false := by rw [h1]; simp
          rw [if_neg (fun h => h h1)] at E
          clear h1
          by_cases h2 : most < fn
          · rw [if_pos h2] at E
            go_wp2
            go_ret3
            rw [E.out]
            exact ⟨rfl, rfl⟩
          · rw [if_neg h2] at E
            go_wp2
            go_ret3
            rw [E.out]
            exact ⟨by simp, rfl⟩
        · have g1 : ((varFirst fn : Int) != (fn : Int)) = true := by rw [bne_iff_ne]; omega
          rw [if_pos h1] at E
          clear h1
          go_wp2
          go_ret3
          rw [E.out]
          exact ⟨rfl, rfl⟩
      · rw [if_neg hm0] at FC
        have hb2 := HB.out hm0 (by omega)
        have hmm : 1 < 1 + mn := by omega
        have hl8 : (r.take mn).length ≤ 8 := by rw [List.length_take]; omega
        generalize r.take mn = cs at *
        have E := Lib.hid FC
        clear FC
        go_enter Try.func105, Try.ntmps105
        go_wp2_with fail
        refine (following_any w fn).mono ?_
        rintro e w1 ⟨rfl, rfl⟩
        rw [HM.out]
        go_wp2_with fail
        refine (cnumber_any w D _ cs hb2 hl8).mono ?_
        rintro e w1 ⟨rfl, rfl⟩
        generalize num cs = n at *
        go_wp2_with fail
        refine (firstOfVar_any w n).mono ?_
        rintro e w1 ⟨rfl, rfl⟩
        unfold frontN at E
        by_cases h1 : varFirst n = fn
        · have g1 : ((varFirst n : Int) != (fn : Int)) = false := by rw [h1]; simp
          rw [if_neg (fun h => h h1)] at E
          clear h1
          by_cases h2 : most < n
          · rw [if_pos h2] at E
            go_wp2
            go_ret3
            rw [E.out]
            exact ⟨rfl, rfl⟩
          · rw [if_neg h2] at E
            go_wp2
            go_ret3
            rw [E.out]
            exact ⟨by simp, rfl⟩
        · have g1 : ((varFirst n : Int) != (fn : Int)) = true := by rw [bne_iff_ne]; omega
          rw [if_pos h1] at E
          clear h1
          go_wp2
          go_ret3
          rw [E.out]
          exact ⟨rfl, rfl⟩
end Go.Proofs.Ytdikmmdkpfmocaa
