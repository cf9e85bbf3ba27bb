import Derived.Test.YtdikmmdkpfmocaaRows
import Derived.Test.YtdikmmdkpfmocaaBs01
namespace Go.Proofs.Ytdikmmdkpfmocaa
open Go.RowKit
theorem u8info : (Try.prog.info? 5).map (fun i => (i.zero, i.size, i.bytes)) = some (some (.int .u8 0), 1, 1) := by kernel_rfl
structure Wr (w : World) (p : Nat) (v : Value) (bs : List UInt8) : Prop where
  box : Box w p 66 #[v]
  own : w.ownsRow 0 5 1 v bs.length (bs.map bv)
  few : bs.length ≤ lim
set_option maxRecDepth 100000 in
set_option maxHeartbeats 400000 in
theorem new_any (w : World) :
    Calls Try.prog 13 #[] w fun e w' => e = .returned (.pointer (some ⟨w.heap.size, 0, none⟩)) ∧ w.alloc (.cells #[.slice none 0 0] 66) = w' := by
  go_enter Try.func13, Try.ntmps13
  go_wp2
  go_ret
  exact ⟨rfl, rfl⟩
def by8 (n : Int) : UInt8 := UInt8.ofNat n.toNat
theorem bv_by8 {n : Int} (h0 : 0 ≤ n) (h1 : n < 256) : bv (by8 n) = .int .u8 n := by
  unfold bv by8
  have : (UInt8.ofNat n.toNat).toNat = n.toNat := by rw [UInt8.toNat_ofNat']; omega
  rw [this, Int.toNat_of_nonneg h0]
section
variable {P : Program}
theorem run_append_read (w : World) (t ty e : TypeId) (i : TypeInfo) (z : Value) (ht : P.underlying t = some (.slice e)) (hi : P.info? e = some i) (hz : i.zero = some z) (h1 : i.size = 1) (h2 : i.bytes = 1) (hzs : z.cells.size = 1)
    (v s : Value) (bs cs : List UInt8) (D : Nat → Prop) (hown : w.ownsRow 0 e 1 v bs.length (bs.map bv)) (hs : Bytes w D s cs) (hl : bs.length + cs.length ≤ lim) :
    ∃ v' w', (Builtin.append_ #[t, t] ty #[v, s]).run P w = .ok v' w' ∧ w'.ownsRow 0 e 1 v' (bs ++ cs).length ((bs ++ cs).map bv) ∧ w.grownBy w' v.ownBlock ∧ (v'.ownBlock = v.ownBlock ∨ v'.ownBlock = some w.heap.size) ∧
      (v' = .slice none 0 0 ↔ v = .slice none 0 0 ∧ cs = []) := by
  rw [lim_is] at hl
  obtain ⟨A, c, rfl, hlc, _, hn, hc⟩ := hs
  cases A with
  | none =>
    have h0 : cs = [] := List.eq_nil_of_length_eq_zero (by have := hn rfl; omega)
    subst h0
    refine ⟨v, w, ?_, by simpa using hown, World.grownBy.refl w _, .inl rfl, by simp⟩
    rcases hown.2 with ⟨rfl, _⟩ | ⟨g, cap, cur, rfl, _, _, hnc, _⟩
    · simp [Builtin.append_, run_underlying ht, sizeOf, typeInfo, hi, Builtin.lenOf, Builtin.firstCells]
    · simp [Builtin.append_, run_underlying ht, sizeOf, typeInfo, hi, Builtin.lenOf, Builtin.firstCells, hnc, storeCells]
  | some ad =>
    obtain ⟨v', w', hr, ho, hg, hnil, hat⟩ := run_append_own_at (P := P) w 0 t ty e i z 1 1 ht hi hz h1 h2 hzs (by decide) v bs.length (bs.map bv) hown ad cs.length c (cs.map bv) (by simp)
      (fun j u hu => by
        have hj : j < cs.length := by have := (List.getElem?_eq_some_iff.1 hu).1; simpa using this
        obtain ⟨ad', e, hsp, _, _, hcell⟩ := hc (by omega)
        injection e with e
        subst e
        have hb : cs[j]? = some cs[j] := List.getElem?_eq_getElem hj
        have := hcell j _ hb
        rw [List.getElem?_map, hb] at hu
        have ha : ad.add j = ⟨ad.block, ad.off + j, none⟩ := by
          obtain ⟨b, o, sp⟩ := ad
          simp only at hsp
          subst hsp
          unfold Addr.add
          split
          · rename_i h0; subst h0; rfl
          · rfl
        rw [ha, this]
        simpa using hu)
      (bytes_oneCell cs) (by unfold maxLen; omega) (by omega) (Nat.zero_le _)
    refine ⟨v', w', hr, by simpa using ho, hg, hat, ?_⟩
    rw [hnil]
    exact and_congr_right fun _ => List.length_eq_zero_iff
theorem wpList_append_read (w : World) {ops : Array Oper} {rest : List Oper} {o : Oper} {a : Act} {Q : Exit → Act → World → Prop} (hgd : o.guard = none) (s x : Operand) (t : TypeId)
    (ho : o.op = .call { callee := .builtin .append, args := #[s, x], argTypes := #[t, t] })
    (e : TypeId) (i : TypeInfo) (z : Value) (ht : P.underlying t = some (.slice e)) (hi : P.info? e = some i) (hz : i.zero = some z) (h1 : i.size = 1) (h2 : i.bytes = 1) (hzs : z.cells.size = 1)
    (v u : Value) (bs cs : List UInt8) (D : Nat → Prop) (hv : a.eval s = v) (hu : a.eval x = u) (hown : w.ownsRow 0 e 1 v bs.length (bs.map bv)) (hs : Bytes w D u cs) (hl : bs.length + cs.length ≤ lim)
    (h : ∀ v' w', w'.ownsRow 0 e 1 v' (bs ++ cs).length ((bs ++ cs).map bv) → w.grownBy w' v.ownBlock → (v'.ownBlock = v.ownBlock ∨ v'.ownBlock = some w.heap.size) →
      (v' = .slice none 0 0 ↔ v = .slice none 0 0 ∧ cs = []) → wpList P ops Q rest (a.put o.dst v') w') : wpList P ops Q (o :: rest) a w := by
  refine wpList_plain hgd fun K hK => ?_
  obtain ⟨v', w', hr, h3, h4, h5, h6⟩ := run_append_read (P := P) w t o.type e i z ht hi hz h1 h2 hzs v u bs cs D hown hs hl
  unfold Oper.wp execOp
  simp only [ho, resolve, invoke, builtin, Sem.run_bind, Sem.run_pure, Result.andThen_ok, List.map_toArray, List.map_cons, List.map_nil, hv, hu, hr]
  exact hK _ _ (h v' w' h3 h4 h5 h6)
end
structure Went (w : World) (p : Nat) (v : Value) (w' : World) (v' : Value) : Prop where
  keep : Keep (fun k => k = p ∨ some k = v.ownBlock) w w'
  row : v'.ownBlock = v.ownBlock ∨ ∀ k, v'.ownBlock = some k → w.heap.size ≤ k
theorem Wr.row_ne {w : World} {p : Nat} {v : Value} {bs : List UInt8} (h : Wr w p v bs) : v.ownBlock ≠ some p := by
  rcases h.own.2 with ⟨rfl, _⟩ | ⟨g, cap, cur, rfl, _, hg, _⟩
  · simp [Value.ownBlock]
  · intro he
    have : g = p := by simpa [Value.ownBlock] using he
    subst this
    exact Box.ne (t := 5) (cs := cur) hg h.box (by decide) rfl
theorem Wr.appended' {w w0 w1 : World} {p : Nat} {v v' : Value} {bs cs : List UInt8} (h : Wr w p v bs) (h0 : Keep noneOf w w0) (hle : bs.length + cs.length ≤ lim)
    (hown : w1.ownsRow 0 5 1 v' (bs ++ cs).length ((bs ++ cs).map bv)) (hg : w0.grownBy w1 v.ownBlock) (hat : v'.ownBlock = v.ownBlock ∨ v'.ownBlock = some w0.heap.size) :
    Wr (w1.setCell ⟨p, 0, none⟩ v') p v' (bs ++ cs) ∧ Went w p v (w1.setCell ⟨p, 0, none⟩ v') v' := by
  have hne := h.row_ne
  have hb0 : Box w0 p 66 #[v] := h.box.keep h0 id
  have hb1 : Box w1 p 66 #[v] := hb0.keep (Keep.of_grown hg) (fun e => hne e.symm)
  have hgp : v'.ownBlock ≠ some p := by
    rcases hown.2 with ⟨rfl, _⟩ | ⟨g', cap', cur, rfl, _, hh, _⟩
    · simp [Value.ownBlock]
    · have := Box.ne (t := 5) (cs := cur) hh hb1 (by decide)
      simpa [Value.ownBlock] using this
  refine ⟨⟨by simpa using hb1.put 0 v', ownsRow_setCell_other hown hgp _, by simpa using hle⟩, ⟨?_, ?_⟩⟩
  · exact Keep.setCell ((h0.mono (T := fun k => k = p ∨ some k = v.ownBlock) (fun _ _ x => x.elim)).trans (Keep.of_grown hg) (fun i _ hi => .inr hi)) (fun _ => .inl rfl) _
  · rcases hat with hat | hat
    · exact .inl hat
    · refine .inr fun k hk => ?_
      rw [hat] at hk
      injection hk with hk
      have := h0.size
      omega
theorem Wr.appended {w w0 w1 : World} {p g cap n : Nat} {v : Value} {bs cs : List UInt8} (h : Wr w p v bs) (h0 : Keep noneOf w w0) (hn : n = bs.length + cs.length) (hle : n ≤ lim)
    (hown : w1.ownsRow 0 5 1 (.slice (some ⟨g, 0, none⟩) n cap) n (bs.map bv ++ cs.map bv)) (hg : w0.grownBy w1 v.ownBlock) (hat : v.ownBlock = some g ∨ g = w0.heap.size) :
    Wr (w1.setCell ⟨p, 0, none⟩ (.slice (some ⟨g, 0, none⟩) n cap)) p (.slice (some ⟨g, 0, none⟩) n cap) (bs ++ cs) ∧
      Went w p v (w1.setCell ⟨p, 0, none⟩ (.slice (some ⟨g, 0, none⟩) n cap)) (.slice (some ⟨g, 0, none⟩) n cap) := by
  subst hn
  refine h.appended' h0 hle (by simpa using hown) hg ?_
  rcases hat with hat | hat
  · exact .inl (by rw [hat]; rfl)
  · exact .inr (by rw [← hat]; rfl)
set_option maxRecDepth 100000 in
set_option maxHeartbeats 400000 in
theorem byte_any (w : World) (p : Nat) (v : Value) (bs : List UInt8) (b : Int) (h : Wr w p v bs) (hb : bs.length < lim) (h0 : 0 ≤ b) (h1 : b < 256) :
    Calls Try.prog 14 #[.pointer (some ⟨p, 0, none⟩), .int .u8 b] w fun e w' => e = .returned (.tuple #[]) ∧ ∃ v', Wr w' p v' (bs ++ [by8 b]) ∧ Went w p v w' v' := by
  obtain ⟨i0, hi0, hz0, hz1, hz2⟩ := info_parts u8info
  have hc : w.cell? ⟨p, 0, none⟩ = some v := h.box.cell 0
  have hf := h.box.free 0
  go_enter Try.func14, Try.ntmps14
  go_wp2_with (at_builtin; refine wpList_append_lies _ rfl (.tmp 8) (.tmp 10) 27 rfl 0 5 i0 _ 1 1 Try.underlying27 hi0 hz0 hz1 hz2 rfl (by decide) v bs.length (bs.map bv) rfl (h.own.alloc _) ⟨w.heap.size, 0, none⟩ 1 1 [.int .u8 b] rfl rfl (cell_one_new _ _ _) ?c1 (by decide) ?c2 ?c3 (Nat.zero_le _) (w.heap.size + 1) ?c4 ?_)
  case c1 => intro u hu; simp at hu; subst hu; rfl
  case c2 => rw [lim_is] at hb; unfold maxLen; omega
  case c3 => rw [lim_is] at hb; omega
  case c4 => simp
  intro g cap w1 hown hgrow hat hlt
  have hne := h.row_ne
  have R := h.appended (cs := [by8 b]) ((Keep.refl noneOf w).alloc (.cells #[.int .u8 b] 5)) (by simp) hb (by simpa [bv_by8 h0 h1] using hown) hgrow (by simpa using hat)
  have hc1 : w1.cell? ⟨p, 0, none⟩ = some v := ((h.box.alloc _).keep (Keep.of_grown hgrow) (fun e => hne e.symm)).cell 0
  have hf1 : w1.frozen? ⟨p, 0, none⟩ = false := ((h.box.alloc _).keep (Keep.of_grown hgrow) (fun e => hne e.symm)).free 0
  clear hown hgrow hat hlt hne hc hf
  go_wp2
  go_end0
  exact ⟨rfl, _, R.1, R.2⟩
def be (n : Nat) : Nat → List UInt8
  | 0 => []
  | k + 1 => UInt8.ofNat (n / 256 ^ k % 256) :: be n k
theorem be_length (n k : Nat) : (be n k).length = k := by
  induction k with
  | zero => rfl
  | succ k ih => simp [be, ih]
theorem be_at (n k j : Nat) (h : j < k) : (be n k)[j]? = some (UInt8.ofNat (n / 256 ^ (k - 1 - j) % 256)) := by
  induction k generalizing j with
  | zero => omega
  | succ k ih =>
    cases j with
    | zero => simp [be]
    | succ j =>
      simp only [be, List.getElem?_cons_succ]
      rw [ih j (by omega)]
      rw [show k - 1 - j = k + 1 - 1 - (j + 1) from by omega]
theorem by8_shift (n m : Nat) : by8 ((n : Int) / 2 ^ (8 * m) % 256) = UInt8.ofNat (n / 256 ^ m % 256) := by
  unfold by8
  have e : ((n : Int) / 2 ^ (8 * m) % 256) = ((n / 256 ^ m % 256 : Nat) : Int) := by
    rw [Int.natCast_emod, Int.natCast_ediv, Int.natCast_pow, Int.pow_mul]
    rfl
  rw [e, Int.toNat_natCast]
theorem number_step (n m size : Nat) (h : m + 1 ≤ size) : (be n size).take (size - m) = (be n size).take (size - (m + 1)) ++ [by8 ((n : Int) / 2 ^ (8 * m) % 256)] := by
  rw [show size - m = size - (m + 1) + 1 from by omega, List.take_add_one, be_at n size _ (by omega), by8_shift, show size - 1 - (size - (m + 1)) = m from by omega]
  rfl
theorem Went.trans {w w1 w2 : World} {p : Nat} {v v1 v2 : Value} (h : Went w p v w1 v1) (k : Went w1 p v1 w2 v2) : Went w p v w2 v2 := by
  have hle := h.keep.size
  refine ⟨h.keep.trans k.keep fun i hi hs => ?_, ?_⟩
  · rcases hs with rfl | hs
    · exact .inl rfl
    · rcases h.row with e | e
      · exact .inr (hs.trans e)
      · have := e i hs.symm; omega
  · rcases k.row with e | e
    · rcases h.row with e' | e'
      · exact .inl (e.trans e')
      · exact .inr fun i hi => e' i (by rw [← e]; exact hi)
    · exact .inr fun i hi => Nat.le_trans hle (e i hi)
set_option maxRecDepth 100000 in
set_option maxHeartbeats 400000 in
theorem number_any (w : World) (p : Nat) (v : Value) (bs : List UInt8) (n size : Nat) (h : Wr w p v bs) (hb : bs.length + size ≤ lim) (hs : size ≤ 8) (hn : (n : Int) < 18446744073709551616) :
    Calls Try.prog 30 #[.pointer (some ⟨p, 0, none⟩), .int .u64 n, .int .i64 size] w fun e w' => e = .returned (.tuple #[]) ∧ ∃ v', Wr w' p v' (bs ++ be n size) ∧ Went w p v w' v' := by
  have HN := Lib.hid hn
  clear hn
  go_enter Try.func30, Try.ntmps30
  go_wp2
  go_loopw [6] (fun i wr => ∃ m : Nat, m ≤ size ∧ i = .int .i64 ((m : Int) - 1) ∧ ∃ v', Wr wr p v' (bs ++ (be n size).take (size - m)) ∧ Went w p v wr v') (fun i _ => (intOf i + 1).toNat)
  case atStart => exact ⟨size, Nat.le_refl _, rfl, v, by simpa using h, ⟨Keep.refl _ _, .inl rfl⟩⟩
  case round =>
    obtain ⟨m, hm, rfl, v', hw, hwent⟩ := hrel
    cases m with
    | succ m =>
      rw [show ((m + 1 : Nat) : Int) - 1 = (m : Int) from by omega]
      go_wp2_with fail
      refine (byte_any wr p v' _ _ hw ?ca ?cb ?cc).mono ?_
      case ca => rw [List.length_append, List.length_take, be_length]; omega
      case cb => omega
      case cc => omega
      rintro e w1 ⟨rfl, v1, hw1, hwent1⟩
      have R : Wr w1 p v1 (bs ++ (be n size).take (size - m)) := by rw [number_step n m size hm]; simpa using hw1
      have G := hwent.trans hwent1
      clear hw hw1 hwent hwent1
      go_wp2
      go_roundw
      case rel => exact ⟨m, by omega, rfl, v1, R, G⟩
      case measure => simp [intOf]
    | zero =>
      go_wp2
      go_end0
      exact ⟨rfl, v', by simpa [be_length, List.take_of_length_le] using hw, hwent⟩
set_option maxRecDepth 100000 in
set_option maxHeartbeats 400000 in
theorem long_any (w : World) (p : Nat) (v : Value) (bs : List UInt8) (n : Nat) (h : Wr w p v bs) (hb : bs.length + 8 ≤ lim) (hn : (n : Int) < 18446744073709551616) :
    Calls Try.prog 15 #[.pointer (some ⟨p, 0, none⟩), .int .u64 n] w fun e w' => e = .returned (.tuple #[]) ∧ ∃ v', Wr w' p v' (bs ++ be n 8) ∧ Went w p v w' v' := by
  have HN := Lib.hid hn
  clear hn
  go_enter Try.func15, Try.ntmps15
  go_wp2_with fail
  refine (number_any w p v bs n 8 h hb (by decide) HN.out).mono ?_
  rintro e w1 ⟨rfl, v1, hw1, hwent1⟩
  go_wp2
  go_end0
  exact ⟨rfl, v1, hw1, hwent1⟩
def varFirst (n : Nat) : Nat := if n < 253 then n else if n < 65536 then 253 else if n < 4294967296 then 254 else 255
def varMore (f : Nat) : Nat := if f = 253 then 2 else if f = 254 then 4 else if f = 255 then 8 else 0
def varBytes (n : Nat) : List UInt8 := UInt8.ofNat (varFirst n) :: be n (varMore (varFirst n))
theorem varFirst_lt (n : Nat) : varFirst n < 256 := by unfold varFirst; (repeat' split) <;> omega
theorem varMore_le (f : Nat) : varMore f ≤ 8 := by unfold varMore; (repeat' split) <;> omega
theorem varBytes_length (n : Nat) : (varBytes n).length = 1 + varMore (varFirst n) := by simp [varBytes, be_length, Nat.add_comm]
set_option maxRecDepth 100000 in
set_option maxHeartbeats 400000 in
theorem firstOfVar_any (w : World) (n : Nat) :
    Calls Try.prog 58 #[.int .u64 n] w fun e w' => e = .returned (.int .u8 (varFirst n)) ∧ w = w' := by
  rcases (show n < 253 ∨ (253 ≤ n ∧ n < 65536) ∨ (65536 ≤ n ∧ n < 4294967296) ∨ 4294967296 ≤ n from by omega) with h1 | h1 | h1 | h1
  · have E := Lib.hid (show varFirst n = n by unfold varFirst; rw [if_pos h1])
    have g1 : decide ((n : Int) < 253) = true := by simp; omega
    have g2 : (n : Int) < 256 := by omega
    clear h1
    go_enter Try.func58, Try.ntmps58
    go_wp2
    go_ret
    rw [E.out]
    exact ⟨rfl, rfl⟩
  · have E := Lib.hid (show varFirst n = 253 by unfold varFirst; rw [if_neg (by omega), if_pos (by omega)])
    have g1 : decide ((n : Int) < 253) = false := by simp; omega
    have g2 : decide ((n : Int) < 65536) = true := by simp; omega
    clear h1
    go_enter Try.func58, Try.ntmps58
    go_wp2
    go_ret
    rw [E.out]
    exact ⟨rfl, rfl⟩
  · have E := Lib.hid (show varFirst n = 254 by unfold varFirst; rw [if_neg (by omega), if_neg (by omega), if_pos (by omega)])
    have g1 : decide ((n : Int) < 253) = false := by simp; omega
    have g2 : decide ((n : Int) < 65536) = false := by simp; omega
    have g3 : decide ((n : Int) < 4294967296) = true := by simp; omega
    clear h1
    go_enter Try.func58, Try.ntmps58
    go_wp2
    go_ret
    rw [E.out]
    exact ⟨rfl, rfl⟩
  · have E := Lib.hid (show varFirst n = 255 by unfold varFirst; rw [if_neg (by omega), if_neg (by omega), if_neg (by omega)])
    have g1 : decide ((n : Int) < 253) = false := by simp; omega
    have g2 : decide ((n : Int) < 65536) = false := by simp; omega
    have g3 : decide ((n : Int) < 4294967296) = false := by simp; omega
    clear h1
    go_enter Try.func58, Try.ntmps58
    go_wp2
    go_ret
    rw [E.out]
    exact ⟨rfl, rfl⟩
set_option maxRecDepth 100000 in
set_option maxHeartbeats 400000 in
theorem following_any (w : World) (f : Nat) :
    Calls Try.prog 59 #[.int .u8 f] w fun e w' => e = .returned (.int .i64 (varMore f)) ∧ w = w' := by
  by_cases h1 : f = 253
  · subst h1
    go_enter Try.func59, Try.ntmps59
    go_wp2
    go_ret
    exact ⟨rfl, rfl⟩
  · by_cases h2 : f = 254
    · subst h2
      go_enter Try.func59, Try.ntmps59
      go_wp2
      go_ret
      exact ⟨rfl, rfl⟩
    · by_cases h3 : f = 255
      · subst h3
        go_enter Try.func59, Try.ntmps59
        go_wp2
        go_ret
        exact ⟨rfl, rfl⟩
      · have E := Lib.hid (show varMore f = 0 by unfold varMore; rw [if_neg h1, if_neg h2, if_neg h3])
        have g1 : ((f : Int) == 253) = false := beq_eq_false_iff_ne.2 (by omega)
        have g2 : ((f : Int) == 254) = false := beq_eq_false_iff_ne.2 (by omega)
        have g3 : ((f : Int) == 255) = false := beq_eq_false_iff_ne.2 (by omega)
        clear h1 h2 h3
        go_enter Try.func59, Try.ntmps59
        go_wp2
        go_ret
        rw [E.out]
        exact ⟨rfl, rfl⟩
set_option maxRecDepth 100000 in
set_option maxHeartbeats 400000 in
theorem var_any (w : World) (p : Nat) (v : Value) (bs : List UInt8) (n : Nat) (h : Wr w p v bs) (hb : bs.length + 9 ≤ lim) (hn : (n : Int) < 18446744073709551616) :
    Calls Try.prog 54 #[.pointer (some ⟨p, 0, none⟩), .int .u64 n] w fun e w' => e = .returned (.tuple #[]) ∧ ∃ v', Wr w' p v' (bs ++ varBytes n) ∧ Went w p v w' v' := by
  have HN := Lib.hid hn
  have hf := varFirst_lt n
  have hm := varMore_le (varFirst n)
  have HV := Lib.hid (show varBytes n = by8 (varFirst n) :: be n (varMore (varFirst n)) by simp [varBytes, by8])
  clear hn
  go_enter Try.func54, Try.ntmps54
  go_wp2_with fail
  refine (firstOfVar_any w n).mono ?_
  rintro e w0 ⟨rfl, rfl⟩
  go_wp2_with fail
  refine (byte_any w p v bs (varFirst n) h (by omega) (by omega) (by omega)).mono ?_
  rintro e w1 ⟨rfl, v1, hw1, hwent1⟩
  go_wp2_with fail
  refine (following_any w1 (varFirst n)).mono ?_
  rintro e w0 ⟨rfl, rfl⟩
  go_wp2_with fail
  refine (number_any w1 p v1 _ n (varMore (varFirst n)) hw1 (by simp; omega) hm HN.out).mono ?_
  rintro e w2 ⟨rfl, v2, hw2, hwent2⟩
  go_wp2
  go_end0
  exact ⟨rfl, v2, by rw [HV.out]; simpa using hw2, hwent1.trans hwent2⟩
set_option maxRecDepth 100000 in
set_option maxHeartbeats 400000 in
theorem raw_any (w : World) (p : Nat) (v u : Value) (bs cs : List UInt8) (D : Nat → Prop) (h : Wr w p v bs) (hs : Bytes w D u cs) (hb : bs.length + cs.length ≤ lim) :
    Calls Try.prog 39 #[.pointer (some ⟨p, 0, none⟩), u] w fun e w' => e = .returned (.tuple #[]) ∧ ∃ v', Wr w' p v' (bs ++ cs) ∧ Went w p v w' v' := by
  obtain ⟨i0, hi0, hz0, hz1, hz2⟩ := info_parts u8info
  have hc : w.cell? ⟨p, 0, none⟩ = some v := h.box.cell 0
  have hf := h.box.free 0
  go_enter Try.func39, Try.ntmps39
  go_wp2_with (at_builtin; refine wpList_append_read _ rfl (.tmp 8) (.tmp 9) 27 rfl 5 i0 _ Try.underlying27 hi0 hz0 hz1 hz2 rfl v u bs cs D rfl rfl h.own hs hb ?_)
  intro v1 w1 hown hgrow hat hnil
  have hne := h.row_ne
  have R := h.appended' (cs := cs) (Keep.refl noneOf w) hb (by simpa using hown) hgrow hat
  have hc1 : w1.cell? ⟨p, 0, none⟩ = some v := (h.box.keep (Keep.of_grown hgrow) (fun e => hne e.symm)).cell 0
  have hf1 : w1.frozen? ⟨p, 0, none⟩ = false := (h.box.keep (Keep.of_grown hgrow) (fun e => hne e.symm)).free 0
  obtain ⟨A1, n1, c1, rfl⟩ : ∃ A n c, v1 = .slice A n c := by
    rcases hown.2 with ⟨rfl, _⟩ | ⟨g, cap, cur, rfl, _⟩
    · exact ⟨_, _, _, rfl⟩
    · exact ⟨_, _, _, rfl⟩
  clear hown hgrow hat hne hc hf hnil
  go_wp2
  go_end0
  exact ⟨rfl, _, R.1, R.2⟩
def textBytes (bs : List UInt8) : List UInt8 := varBytes bs.length ++ bs
theorem Bytes.went {w w' : World} {p : Nat} {v v' u : Value} {cs : List UInt8} {D : Nat → Prop} (h : Bytes w D u cs) (hw : Went w p v w' v') (hD : ∀ k, D k → k ≠ p ∧ some k ≠ v.ownBlock) : Bytes w' D u cs :=
  h.keep hw.keep fun i _ hd hs => by
    have := hD i hd
    rcases hs with hs | hs
    · exact this.1 hs
    · exact this.2 hs
set_option maxRecDepth 100000 in
set_option maxHeartbeats 400000 in
theorem text_any (w : World) (p : Nat) (v u : Value) (bs cs : List UInt8) (D : Nat → Prop) (h : Wr w p v bs) (hs : Bytes w D u cs) (hb : bs.length + cs.length + 9 ≤ lim) (hD : ∀ k, D k → k ≠ p ∧ some k ≠ v.ownBlock) :
    Calls Try.prog 51 #[.pointer (some ⟨p, 0, none⟩), u] w fun e w' => e = .returned (.tuple #[]) ∧ ∃ v', Wr w' p v' (bs ++ textBytes cs) ∧ Went w p v w' v' := by
  have hlv := varBytes_length cs.length
  have hlm := varMore_le (varFirst cs.length)
  have HL : (varBytes cs.length).length ≤ 9 := by omega
  have hlen := hb
  rw [lim_is] at hlen
  have hcs : (cs.length : Int) < 18446744073709551616 := by omega
  have HC := Lib.hid hcs
  have hwr : IntKind.u64.wrap (cs.length : Int) = cs.length := IntWalk.u64_in _ ⟨by omega, by omega⟩
  have hs' := hs
  obtain ⟨A, c, rfl, _⟩ := hs
  clear hlv hlm hlen hcs
  go_enter Try.func51, Try.ntmps51
  go_wp2_with fail
  refine (var_any w p v bs cs.length h (by omega) HC.out).mono ?_
  rintro e w1 ⟨rfl, v1, hw1, hwent1⟩
  have hs1 := hs'.went hwent1 hD
  go_wp2_with fail
  refine (raw_any w1 p v1 _ _ cs D hw1 hs1 (by rw [List.length_append]; omega)).mono ?_
  rintro e w2 ⟨rfl, v2, hw2, hwent2⟩
  go_wp2
  go_end0
  exact ⟨rfl, v2, by rw [textBytes, ← List.append_assoc]; exact hw2, hwent1.trans hwent2⟩
theorem Wr.new (w : World) : Wr (w.alloc (.cells #[.slice none 0 0] 66)) w.heap.size (.slice none 0 0) [] := ⟨Box.new _ _ _, World.ownsRow_nil _ _ _ _, Nat.zero_le _⟩
theorem Went.box {w w' : World} {p : Nat} {v' : Value} (G : Went w p (.slice none 0 0) w' v') {g : Nat} {t : TypeId} {cs : Array Value} (h : Box w g t cs) (hne : g ≠ p) : Box w' g t cs :=
  h.keep G.keep (by rintro (h | h); exact hne h; cases h)
theorem Went.bytes {w w' : World} {p : Nat} {v' u : Value} {D : Nat → Prop} {cs : List UInt8} (G : Went w p (.slice none 0 0) w' v') (h : Bytes w D u cs) (hne : ¬ D p) : Bytes w' D u cs :=
  h.keep G.keep (by rintro i _ hd (h | h); exact hne (h ▸ hd); cases h)
theorem Went.row_new {w w' : World} {p : Nat} {v' : Value} (G : Went w p (.slice none 0 0) w' v') {k : Nat} (hk : k < w.heap.size) : some k ≠ v'.ownBlock := by
  intro e
  rcases G.row with h | h
  · rw [h] at e; cases e
  · have := h k e.symm; omega
structure Fresh (w w' : World) (u : Value) (cs : List UInt8) : Prop where
  keep : Keep noneOf w w'
  own : w'.ownsRow 0 5 1 u cs.length (cs.map bv)
  new : ∀ k, u.ownBlock = some k → w.heap.size ≤ k
theorem Fresh.bytes {w w' : World} {u : Value} {cs : List UInt8} (h : Fresh w w' u cs) : Bytes w' (fun k => w.heap.size ≤ k) u cs :=
  (Bytes.of_own h.own).mono fun i _ hi => h.new i hi.symm
set_option maxRecDepth 100000 in
set_option maxHeartbeats 400000 in
theorem clone_any (w : World) (u : Value) (cs : List UInt8) (D : Nat → Prop) (hs : Bytes w D u cs) (hb : cs.length ≤ lim) :
    Calls Try.prog 40 #[u] w fun e w' => ∃ u', e = .returned u' ∧ Fresh w w' u' cs := by
  obtain ⟨i0, hi0, hz0, hz1, hz2⟩ := info_parts u8info
  have hs' := hs
  obtain ⟨A, c, rfl, hlc, _, hn, _⟩ := hs
  have hq := fun wx a n c => Lib.run_eql_slice_nil (P := Try.prog) wx 27 5 a n c 0 0 Try.underlying27
  cases A with
  | none =>
    have h0 := hn rfl
    have hl : cs = [] := List.eq_nil_of_length_eq_zero (by omega)
    subst hl
    subst h0
    go_enter Try.func40, Try.ntmps40
    go_wp2
    go_ret
    exact ⟨_, rfl, Keep.refl _ _, World.ownsRow_nil _ _ _ _, by intro k hk; cases hk⟩
  | some ad =>
    have hk := (Keep.refl noneOf w).alloc (.cells #[] 5)
    have hown : (w.alloc (.cells #[] 5)).ownsRow 0 5 1 (.slice (some ⟨w.heap.size, 0, none⟩) 0 0) ([] : List UInt8).length (([] : List UInt8).map bv) := World.ownsRow_made w #[] 0 (Nat.zero_le _) (Nat.zero_le _) rfl
    have hs1 := hs'.keep hk (fun _ _ _ h => h)
    clear hs' hn hlc
    go_enter Try.func40, Try.ntmps40
    go_wp2_with (at_builtin; refine wpList_append_read _ rfl (.tmp 5) (.tmp 6) 27 rfl 5 i0 _ Try.underlying27 hi0 hz0 hz1 hz2 rfl _ _ [] cs D rfl rfl hown hs1 (by simpa using hb) ?_; intro v1 w1 hown1 hgrow1 hat1 hnil1)
    have hF : Fresh w w1 v1 cs := ⟨hk.trans (Keep.of_grown hgrow1) (fun i hi he => by have he' : some i = some w.heap.size := he; injection he' with he'; omega), by simpa using hown1, fun k hkk => by
      rcases hat1 with e | e
      · have he' : some k = some w.heap.size := hkk.symm.trans e; injection he' with he'; omega
      · rw [e] at hkk; simp at hkk; omega⟩
    clear hown1 hgrow1 hat1 hnil1 hown hs1 hk
    go_wp2
    go_ret
    exact ⟨_, rfl, hF⟩
set_option maxRecDepth 100000 in
set_option maxHeartbeats 400000 in
theorem bytes_any (w : World) (p : Nat) (v : Value) (bs : List UInt8) (h : Wr w p v bs) :
    Calls Try.prog 18 #[.pointer (some ⟨p, 0, none⟩)] w fun e w' => ∃ u, e = .returned u ∧ Fresh w w' u bs := by
  have hc : w.cell? ⟨p, 0, none⟩ = some v := h.box.cell 0
  obtain ⟨A1, n1, c1, rfl⟩ : ∃ A n c, v = .slice A n c := by
    rcases h.own.2 with ⟨rfl, _⟩ | ⟨g, cap, cur, rfl, _⟩
    · exact ⟨_, _, _, rfl⟩
    · exact ⟨_, _, _, rfl⟩
  go_enter Try.func18, Try.ntmps18
  go_wp2_with fail
  refine (clone_any w _ bs _ (Bytes.of_own h.own) h.few).mono ?_
  rintro e w1 ⟨u, rfl, hF⟩
  go_wp2
  go_ret
  exact ⟨_, rfl, hF⟩
end Go.Proofs.Ytdikmmdkpfmocaa
