import Derived.Test.YtkoikmdmejhhhaaGreatBs03
import Derived.Test.YtkoikmdmejhhhaaGreatBs07
namespace Go.Proofs.YtkoikmdmejhhhaaGreat
open Go.RowKit
def by8 (n : Int) : UInt8 := UInt8.ofNat n.toNat
theorem bv_by8 {n : Int} (h0 : 0 ≤ n) (h1 : n < 256) : bv (by8 n) = .int .u8 n := by
  unfold bv by8
  congr 1
  rw [UInt8.toNat_ofNat']
  omega
def be (n : Nat) : Nat → List UInt8
  | 0 => []
  | k + 1 => UInt8.ofNat (n / 256 ^ k % 256) :: be n k
theorem be_length (n k : Nat) : (be n k).length = k := by
  induction k with
  | zero => rfl
  | succ k ih => simp [be, ih]
theorem be_at (n k j : Nat) (h : j < k) : (be n k)[j]? = some (UInt8.ofNat (n / 256 ^ (k - 1 - j) % 256)) := by
  induction k generalizing j with
  | zero => omega
  | succ k ih =>
    cases j with
    | zero => simp [be]
    | succ j =>
      simp only [be, List.getElem?_cons_succ]
      rw [ih j (by omega)]
      rw [show k - 1 - j = k + 1 - 1 - (j + 1) from by omega]
theorem by8_shift (n m : Nat) : by8 ((n : Int) / 2 ^ (8 * m) % 256) = UInt8.ofNat (n / 256 ^ m % 256) := by
  unfold by8
  have e : ((n : Int) / 2 ^ (8 * m) % 256) = ((n / 256 ^ m % 256 : Nat) : Int) := by
    rw [Int.natCast_emod, Int.natCast_ediv, Int.natCast_pow, Int.pow_mul]
    rfl
  rw [e, Int.toNat_natCast]
theorem number_step (n m size : Nat) (h : m + 1 ≤ size) : (be n size).take (size - m) = (be n size).take (size - (m + 1)) ++ [by8 ((n : Int) / 2 ^ (8 * m) % 256)] := by
  rw [show size - m = size - (m + 1) + 1 from by omega, List.take_add_one, be_at n size _ (by omega), by8_shift, show size - 1 - (size - (m + 1)) = m from by omega]
  rfl
theorem u64_range (z : Int) : 0 ≤ IntKind.u64.wrap z ∧ IntKind.u64.wrap z < 18446744073709551616 := by
  have e : IntKind.u64.wrap z = z % 18446744073709551616 := rfl
  rw [e]
  omega
theorem mix_is : ∃ f : Nat → Nat → Nat, ∀ h b : Nat, IntKind.u64.wrap (bits BinOp.xor IntKind.u64 (h : Int) (b : Int) * 1099511628211) = (f h b : Int) :=
  ⟨fun h b => (IntKind.u64.wrap (bits BinOp.xor IntKind.u64 (h : Int) (b : Int) * 1099511628211)).toNat, fun _ _ => (Int.toNat_of_nonneg (u64_range _).1).symm⟩
noncomputable def mixN : Nat → Nat → Nat := Classical.choose mix_is
theorem mixN_int (h b : Nat) : IntKind.u64.wrap (bits BinOp.xor IntKind.u64 (h : Int) (b : Int) * 1099511628211) = (mixN h b : Int) := Classical.choose_spec mix_is h b
theorem mixN_lt (h b : Nat) : ((mixN h b : Nat) : Int) < 18446744073709551616 := by
  rw [← mixN_int]
  exact (u64_range _).2
noncomputable def mixL (h : Nat) (bs : List UInt8) : Nat := bs.foldl (fun h b => mixN h b.toNat) h
theorem mixL_nil (h : Nat) : mixL h [] = h := by simp only [mixL, List.foldl_nil]
theorem mixL_one (h : Nat) (b : UInt8) : mixL h [b] = mixN h b.toNat := by simp only [mixL, List.foldl_cons, List.foldl_nil]
theorem mixL_append (h : Nat) (bs cs : List UInt8) : mixL h (bs ++ cs) = mixL (mixL h bs) cs := List.foldl_append ..
theorem mixL_lt (h : Nat) (hh : (h : Int) < 18446744073709551616) (bs : List UInt8) : ((mixL h bs : Nat) : Int) < 18446744073709551616 := by
  induction bs generalizing h with
  | nil => rw [mixL_nil]; exact hh
  | cons b bs ih =>
    rw [show b :: bs = [b] ++ bs from rfl, mixL_append, mixL_one]
    exact ih _ (mixN_lt _ _)
def keyBytes (cmd : ByteArray) (ns : List Nat) : List UInt8 := be cmd.size 8 ++ cmd.data.toList ++ ns.flatMap (fun n => be n 8)
noncomputable def keyN (cmd : ByteArray) (ns : List Nat) : Nat := mixL 14695981039346656037 (keyBytes cmd ns)
theorem keyN_lt (cmd : ByteArray) (ns : List Nat) : ((keyN cmd ns : Nat) : Int) < 18446744073709551616 := mixL_lt _ (by decide) _
theorem keyN_is (cmd : ByteArray) (ns : List Nat) : keyN cmd ns = mixL (mixL (mixL 14695981039346656037 (be cmd.size 8)) cmd.data.toList) (ns.flatMap (fun n => be n 8)) := by
  unfold keyN keyBytes
  rw [mixL_append, mixL_append]
def kv (k : Nat) : Value := .int .u64 (k : Int)
def Kys (w : World) (D : Nat → Prop) (v : Value) (ks : List Nat) : Prop := Row w D v ks.length 1 (ks.map kv) ∧ ∀ k ∈ ks, (k : Int) < 18446744073709551616
theorem Kys.keep {w w' : World} {S D : Nat → Prop} {v : Value} {ks : List Nat} (h : Kys w D v ks) (k : Keep S w w') (hs : ∀ i, i < w.heap.size → D i → ¬ S i) : Kys w' D v ks := ⟨Row.keep h.1 k hs, h.2⟩
theorem Kys.mono {w : World} {D D' : Nat → Prop} {v : Value} {ks : List Nat} (h : Kys w D v ks) (hD : ∀ i, i < w.heap.size → D i → D' i) : Kys w D' v ks := ⟨Row.mono h.1 hD, h.2⟩
theorem Kys.shape {w : World} {D : Nat → Prop} {v : Value} {ks : List Nat} (h : Kys w D v ks) : ∃ A c, v = .slice A ks.length c := by
  obtain ⟨A, c, hv, _⟩ := h.1
  exact ⟨A, c, hv⟩
set_option maxRecDepth 100000 in
theorem mixByte_any (w : World) (h : Nat) (b : UInt8) :
    Calls Tryz.prog 175 #[.int .u64 (h : Int), .int .u8 (b.toNat : Int)] w fun e w' => e = .returned (.int .u64 (mixN h b.toNat : Int)) ∧ w = w' := by
  have hb : b.toNat < 256 := b.toNat_lt
  have HM := Lib.hid (mixN_int h b.toNat)
  go_enter Tryz.func175, Tryz.ntmps175
  go_wp2
  rw [HM.out]
  go_ret
  exact ⟨rfl, rfl⟩
set_option maxRecDepth 100000 in
set_option maxHeartbeats 1000000 in
theorem mixNumber_any (w : World) (h n : Nat) (hn : (n : Int) < 18446744073709551616) :
    Calls Tryz.prog 174 #[.int .u64 (h : Int), .int .u64 (n : Int)] w fun e w' => e = .returned (.int .u64 (mixL h (be n 8) : Int)) ∧ w = w' := by
  have HN := Lib.hid hn
  have HS : Hid (∀ m, m + 1 ≤ 8 → mixL h ((be n 8).take (8 - m)) = mixN (mixL h ((be n 8).take (8 - (m + 1)))) (by8 ((n : Int) / 2 ^ (8 * m) % 256)).toNat) := Lib.hid fun m hm => by
    rw [number_step n m 8 hm, mixL_append, mixL_one]
  obtain ⟨f, hf⟩ : ∃ f : Nat → Nat, ∀ m, f m = mixL h ((be n 8).take (8 - m)) := ⟨_, fun _ => rfl⟩
  have h8 : f 8 = h := by rw [hf 8, Nat.sub_self, List.take_zero, mixL_nil]
  have h0 : f 0 = mixL h (be n 8) := by rw [hf 0, List.take_of_length_le (by rw [be_length]; omega)]
  have HF : Hid (∀ m, m + 1 ≤ 8 → f m = mixN (f (m + 1)) (by8 ((n : Int) / 2 ^ (8 * m) % 256)).toNat) := Lib.hid fun m hm => by
    rw [hf, hf]
    exact HS.out m hm
  rw [← h0, ← h8]
  clear hn hf h0 h8 HS
  go_enter Tryz.func174, Tryz.ntmps174
  go_wp2
  go_loop [0, 5] (fun x i => ∃ m : Nat, m ≤ 8 ∧ i = .int .i64 (8 * (m : Int) - 8) ∧ x = .int .u64 (f m : Int)) (fun _ i => (intOf i + 8).toNat)
  case atStart => exact ⟨8, Nat.le_refl _, rfl, rfl⟩
  case round =>
    obtain ⟨m, hm, rfl, rfl⟩ := hrel
    cases m with
    | succ m =>
      rw [show 8 * ((m + 1 : Nat) : Int) - 8 = ((8 * m : Nat) : Int) from by omega]
      have HS := Lib.hid (HF.out m hm)
      have hby : (((by8 ((n : Int) / 2 ^ (8 * m) % 256)).toNat : Nat) : Int) = (n : Int) / 2 ^ (8 * m) % 256 := by
        have := bv_by8 (n := (n : Int) / 2 ^ (8 * m) % 256) (by omega) (by omega)
        unfold bv at this
        injection this
      have hb := mixByte_any w (f (m + 1)) (by8 ((n : Int) / 2 ^ (8 * m) % 256))
      rw [hby, ← HS.out] at hb
      have HB := Lib.hid hb
      clear hb hby HS HF
      clear HN
      go_wp2_with fail
      refine HB.out.mono ?_
      rintro e w1 ⟨rfl, rfl⟩
      clear HB
      go_wp2
      go_round
      case rel => exact ⟨m, by omega, by first | rfl | go_num, rfl⟩
      case measure => simp [intOf]; omega
    | zero =>
      go_wp2
      go_ret
      exact ⟨rfl, rfl⟩
theorem bytes_take {s : ByteArray} {k : Nat} (h : k < s.size) : s.data.toList.take (k + 1) = s.data.toList.take k ++ [s[k]] := by
  rw [List.take_add_one]
  congr 1
  rw [List.getElem?_eq_getElem (by simpa using h)]
  rfl
set_option maxRecDepth 100000 in
set_option maxHeartbeats 1000000 in
theorem key_any (w : World) (D : Nat → Prop) (s : ByteArray) (v : Value) (ks : List Nat) (hs : s.size ≤ maxLen) (h : Kys w D v ks) :
    Calls Tryz.prog 149 #[.string s, v] w fun e w' => e = .returned (.int .u64 (keyN s ks : Int)) ∧ w = w' := by
  obtain ⟨⟨A, c, rfl, hlc, hcm, hn, hxl, hc⟩, hk⟩ := h
  unfold maxLen at hs hcm
  have HC := Lib.hid hc
  have HK := Lib.hid hk
  have hb0 : ((14695981039346656037 : Nat) : Int) < 18446744073709551616 := by decide
  have h0 := mixL_lt _ hb0 (be s.size 8)
  have HN := Lib.hid (mixNumber_any w 14695981039346656037 s.size (by omega))
  have HE := Lib.hid (keyN_is s ks)
  generalize keyN s ks = R at *
  generalize mixL 14695981039346656037 (be s.size 8) = q0 at *
  clear hc hk hxl hn hb0
  go_enter Tryz.func149, Tryz.ntmps149
  go_wp2_with fail
  refine HN.out.mono ?_
  rintro e w1 ⟨rfl, rfl⟩
  clear HN
  go_wp2
  go_loop [5, 15] (fun x i => ∃ k : Nat, k ≤ s.size ∧ i = .int .i64 k ∧ x = .int .u64 (mixL q0 (s.data.toList.take k) : Int)) (fun _ i => s.size - (intOf i).toNat)
  case atStart => exact ⟨0, Nat.zero_le _, rfl, rfl⟩
  case round =>
    obtain ⟨k, hk, rfl, rfl⟩ := hrel
    by_cases hp : k < s.size
    · have HB := Lib.hid (mixByte_any w (mixL q0 (s.data.toList.take k)) s[k])
      have HR : Hid (mixN (mixL q0 (s.data.toList.take k)) (s[k]).toNat = mixL q0 (s.data.toList.take (k + 1))) := Lib.hid (by rw [bytes_take hp, mixL_append, mixL_one])
      generalize mixN (mixL q0 (s.data.toList.take k)) (s[k]).toNat = q2 at *
      generalize mixL q0 (s.data.toList.take k) = q at *
      go_wp2_with fail
      refine HB.out.mono ?_
      rintro e w1 ⟨rfl, rfl⟩
      clear HB
      go_wp2
      go_round
      case rel => exact ⟨k + 1, by omega, by go_num, by rw [HR.out]⟩
      case measure => simp [intOf]; omega
    · have hq1 := mixL_lt _ h0 (s.data.toList.take k)
      have HQ : Hid (mixL q0 (s.data.toList.take k) = mixL q0 s.data.toList) := Lib.hid (by rw [List.take_of_length_le (by simp; omega)])
      rw [← HQ.out] at HE
      generalize mixL q0 (s.data.toList.take k) = q1 at *
      clear HQ
      go_wp2
      go_loop [5, 26] (fun x i => ∃ k : Nat, k ≤ ks.length ∧ i = .int .i64 k ∧ x = .int .u64 (mixL q1 ((ks.take k).flatMap (fun n => be n 8)) : Int)) (fun _ i => ks.length - (intOf i).toNat)
      case atStart => exact ⟨0, Nat.zero_le _, rfl, rfl⟩
      case round =>
        obtain ⟨k, hk, rfl, rfl⟩ := hrel
        by_cases hlt : k < ks.length
        · obtain ⟨ad, rfl, hsp, hblk, hD, hcell⟩ := HC.out (by omega)
          obtain ⟨b, o, sp⟩ := ad
          simp only at hsp hblk hD hcell
          subst hsp
          have c0 : w.cell? ⟨b, o + k, none⟩ = some (.int .u64 (ks[k] : Int)) := hcell k _ (by rw [List.getElem?_map, List.getElem?_eq_getElem hlt]; rfl)
          have HB := Lib.hid (mixNumber_any w (mixL q1 ((ks.take k).flatMap (fun n => be n 8))) ks[k] (HK.out _ (List.getElem_mem hlt)))
          have HR : Hid (mixL (mixL q1 ((ks.take k).flatMap (fun n => be n 8))) (be ks[k] 8) = mixL q1 ((ks.take (k + 1)).flatMap (fun n => be n 8))) := Lib.hid (by
            rw [List.take_add_one, List.getElem?_eq_getElem hlt, List.flatMap_append, mixL_append]
            simp)
          generalize mixL (mixL q1 ((ks.take k).flatMap (fun n => be n 8))) (be ks[k] 8) = q2 at *
          generalize mixL q1 ((ks.take k).flatMap (fun n => be n 8)) = q at *
          generalize ks[k] = n at *
          clear hcell
          go_wp2_with fail
          refine HB.out.mono ?_
          rintro e w1 ⟨rfl, rfl⟩
          clear HB
          go_wp2
          go_round
          case rel => exact ⟨k + 1, by omega, by go_num, by rw [HR.out]⟩
          case measure => simp [intOf]; omega
        · have HQ : Hid (mixL q1 ((ks.take k).flatMap (fun n => be n 8)) = R) := Lib.hid (by rw [HE.out, List.take_of_length_le (by omega)])
          rw [HQ.out]
          go_wp2
          go_ret
          exact ⟨rfl, rfl⟩
end Go.Proofs.YtkoikmdmejhhhaaGreat
namespace Go.Proofs.YtkoikmdmejhhhaaGreat
noncomputable def keyAt (ps : List Pt) (l : List Nat) (p : Nat) : Nat := keyN (((ps[p]?).map Pt.cmd).getD ⟨#[]⟩) ((needsAt ps (p : Int)).map (fun n => l.getD n 0))
noncomputable def grKeys (ps : List Pt) : List Nat := runOf (keyAt ps) (List.replicate (grOrder ps).length 0) (grOrder ps)
theorem grKeys_length (ps : List Pt) : (grKeys ps).length = (grOrder ps).length := by
  unfold grKeys
  rw [runOf_length, List.length_replicate]
theorem keys_bound (ps : List Pt) (n : Nat) (order : List Nat) : ∀ k ∈ runOf (keyAt ps) (List.replicate n 0) order, (k : Int) < 18446744073709551616 :=
  runOf_all (α := Nat) (Q := fun k : Nat => (k : Int) < 18446744073709551616) (keyAt ps) _ _ (fun _ _ => keyN_lt _ _) (fun x hx => by rw [(List.mem_replicate.1 hx).2]; decide)
def freshAt (ps : List Pt) (ks : List Nat) (P : Nat → Bool) (l : List Bool) (p : Nat) : Bool := (needsAt ps (p : Int)).all (fun n => l.getD n false) && P (ks.getD p 0)
noncomputable def grFresh (ps : List Pt) (P : Nat → Bool) : List Bool := runOf (freshAt ps (grKeys ps) P) (List.replicate (grOrder ps).length false) (grOrder ps)
end Go.Proofs.YtkoikmdmejhhhaaGreat
