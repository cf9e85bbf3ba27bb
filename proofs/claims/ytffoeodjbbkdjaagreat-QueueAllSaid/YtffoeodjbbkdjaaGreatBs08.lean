import Derived.Deep.AppendLies
import Derived.IntWalk
import Derived.Lib.AppendStr
import Derived.Test.YtffoeodjbbkdjaaGreatBs03
import Derived.Test.YtffoeodjbbkdjaaGreatBs06
namespace Go.Proofs.YtffoeodjbbkdjaaGreat
open Go.RowKit
def by8 (n : Int) : UInt8 := UInt8.ofNat n.toNat
theorem bv_by8 {n : Int} (h0 : 0 ≤ n) (h1 : n < 256) : bv (by8 n) = .int .u8 n := by
 unfold bv by8
 congr 1
 rw [UInt8.toNat_ofNat']
 omega
def be (n : Nat) : Nat → List UInt8
 | 0 => []
 | k + 1 => UInt8.ofNat (n / 256 ^ k % 256) :: be n k
theorem be_length (n k : Nat) : (be n k).length = k := by
 induction k with
 | zero => rfl
 | succ k ih => simp [be, ih]
theorem be_at (n k j : Nat) (h : j < k) : (be n k)[j]? = some (UInt8.ofNat (n / 256 ^ (k - 1 - j) % 256)) := by
 induction k generalizing j with
 | zero => omega
 | succ k ih =>
  cases j with
  | zero => simp [be]
  | succ j =>
   simp only [be, List.getElem?_cons_succ]
   rw [ih j (by omega)]
   rw [show k - 1 - j = k + 1 - 1 - (j + 1) from by omega]
theorem by8_shift (n m : Nat) : by8 ((n : Int) / 2 ^ (8 * m) % 256) = UInt8.ofNat (n / 256 ^ m % 256) := by
 unfold by8
 have e : ((n : Int) / 2 ^ (8 * m) % 256) = ((n / 256 ^ m % 256 : Nat) : Int) := by
  rw [Int.natCast_emod, Int.natCast_ediv, Int.natCast_pow, Int.pow_mul]
  rfl
 rw [e, Int.toNat_natCast]
theorem number_step (n m size : Nat) (h : m + 1 ≤ size) : (be n size).take (size - m) = (be n size).take (size - (m + 1)) ++ [by8 ((n : Int) / 2 ^ (8 * m) % 256)] := by
 rw [show size - m = size - (m + 1) + 1 from by omega, List.take_add_one, be_at n size _ (by omega), by8_shift, show size - 1 - (size - (m + 1)) = m from by omega]
 rfl
theorem u64_range (z : Int) : 0 ≤ IntKind.u64.wrap z ∧ IntKind.u64.wrap z < 18446744073709551616 := by
 have e : IntKind.u64.wrap z = z % 18446744073709551616 := rfl
 rw [e]
 omega
theorem mix_is : ∃ f : Nat → Nat → Nat, ∀ h b : Nat, IntKind.u64.wrap (bits BinOp.xor IntKind.u64 (h : Int) (b : Int) * 1099511628211) = (f h b : Int) :=
 ⟨fun h b => (IntKind.u64.wrap (bits BinOp.xor IntKind.u64 (h : Int) (b : Int) * 1099511628211)).toNat, fun _ _ => (Int.toNat_of_nonneg (u64_range _).1).symm⟩
noncomputable def mixN : Nat → Nat → Nat := Classical.choose mix_is
theorem mixN_int (h b : Nat) : IntKind.u64.wrap (bits BinOp.xor IntKind.u64 (h : Int) (b : Int) * 1099511628211) = (mixN h b : Int) := Classical.choose_spec mix_is h b
theorem mixN_lt (h b : Nat) : ((mixN h b : Nat) : Int) < 18446744073709551616 := by
 rw [← mixN_int]
 exact (u64_range _).2
noncomputable def mixL (h : Nat) (bs : List UInt8) : Nat := bs.foldl (fun h b => mixN h b.toNat) h
theorem mixL_nil (h : Nat) : mixL h [] = h := by simp only [mixL, List.foldl_nil]
theorem mixL_one (h : Nat) (b : UInt8) : mixL h [b] = mixN h b.toNat := by simp only [mixL, List.foldl_cons, List.foldl_nil]
theorem mixL_append (h : Nat) (bs cs : List UInt8) : mixL h (bs ++ cs) = mixL (mixL h bs) cs := List.foldl_append ..
theorem mixL_lt (h : Nat) (hh : (h : Int) < 18446744073709551616) (bs : List UInt8) : ((mixL h bs : Nat) : Int) < 18446744073709551616 := by
 induction bs generalizing h with
 | nil => rw [mixL_nil]; exact hh
 | cons b bs ih =>
  rw [show b :: bs = [b] ++ bs from rfl, mixL_append, mixL_one]
  exact ih _ (mixN_lt _ _)
def keyBytes (cmd : ByteArray) (ns : List Nat) : List UInt8 := be cmd.size 8 ++ cmd.data.toList ++ ns.flatMap (fun n => be n 8)
noncomputable def keyN (cmd : ByteArray) (ns : List Nat) : Nat := mixL 14695981039346656037 (keyBytes cmd ns)
theorem keyN_lt (cmd : ByteArray) (ns : List Nat) : ((keyN cmd ns : Nat) : Int) < 18446744073709551616 := mixL_lt _ (by decide) _
theorem keyN_is (cmd : ByteArray) (ns : List Nat) : keyN cmd ns = mixL (mixL (mixL 14695981039346656037 (be cmd.size 8)) cmd.data.toList) (ns.flatMap (fun n => be n 8)) := by
 unfold keyN keyBytes
 rw [mixL_append, mixL_append]
def kv (k : Nat) : Value := .int .u64 (k : Int)
def Kys (w : World) (D : Nat → Prop) (v : Value) (ks : List Nat) : Prop := Row w D v ks.length 1 (ks.map kv) ∧ ∀ k ∈ ks, (k : Int) < 18446744073709551616
theorem Kys.keep {w w' : World} {S D : Nat → Prop} {v : Value} {ks : List Nat} (h : Kys w D v ks) (k : Keep S w w') (hs : ∀ i, i < w.heap.size → D i → ¬ S i) : Kys w' D v ks := ⟨Row.keep h.1 k hs, h.2⟩
theorem Kys.mono {w : World} {D D' : Nat → Prop} {v : Value} {ks : List Nat} (h : Kys w D v ks) (hD : ∀ i, i < w.heap.size → D i → D' i) : Kys w D' v ks := ⟨Row.mono h.1 hD, h.2⟩
theorem Kys.shape {w : World} {D : Nat → Prop} {v : Value} {ks : List Nat} (h : Kys w D v ks) : ∃ A c, v = .slice A ks.length c := by
 obtain ⟨A, c, hv, _⟩ := h.1
 exact ⟨A, c, hv⟩
set_option maxRecDepth 100000 in
theorem mixByte_any (w : World) (h : Nat) (b : UInt8) :
  Calls Tryz.prog 164 #[.int .u64 (h : Int), .int .u8 (b.toNat : Int)] w fun e w' => e = .returned (.int .u64 (mixN h b.toNat : Int)) ∧ w = w' := by
 have hb : b.toNat < 256 := b.toNat_lt
 have HM := Lib.hid (mixN_int h b.toNat)
 go_enter Tryz.func164, Tryz.ntmps164
 go_wp2
 rw [HM.out]
 go_ret
 exact ⟨rfl, rfl⟩
set_option maxRecDepth 100000 in
set_option maxHeartbeats 1000000 in
theorem mixNumber_any (w : World) (h n : Nat) (hn : (n : Int) < 18446744073709551616) :
  Calls Tryz.prog 163 #[.int .u64 (h : Int), .int .u64 (n : Int)] w fun e w' => e = .returned (.int .u64 (mixL h (be n 8) : Int)) ∧ w = w' := by
 have HN := Lib.hid hn
 have HS : Hid (∀ m, m + 1 ≤ 8 → mixL h ((be n 8).take (8 - m)) = mixN (mixL h ((be n 8).take (8 - (m + 1)))) (by8 ((n : Int) / 2 ^ (8 * m) % 256)).toNat) := Lib.hid fun m hm => by
  rw [number_step n m 8 hm, mixL_append, mixL_one]
 obtain ⟨f, hf⟩ : ∃ f : Nat → Nat, ∀ m, f m = mixL h ((be n 8).take (8 - m)) := ⟨_, fun _ => rfl⟩
 have h8 : f 8 = h := by rw [hf 8, Nat.sub_self, List.take_zero, mixL_nil]
 have h0 : f 0 = mixL h (be n 8) := by rw [hf 0, List.take_of_length_le (by rw [be_length]; omega)]
 have HF : Hid (∀ m, m + 1 ≤ 8 → f m = mixN (f (m + 1)) (by8 ((n : Int) / 2 ^ (8 * m) % 256)).toNat) := Lib.hid fun m hm => by
  rw [hf, hf]
  exact HS.out m hm
 rw [← h0, ← h8]
 clear hn hf h0 h8 HS
 go_enter Tryz.func163, Tryz.ntmps163
 go_wp2
 go_loop [0, 5] (fun x i => ∃ m : Nat, m ≤ 8 ∧ i = .int .i64 (8 * (m : Int) - 8) ∧ x = .int .u64 (f m : Int)) (fun _ i => (intOf i + 8).toNat)
 case atStart => exact ⟨8, Nat.le_refl _, rfl, rfl⟩
 case round =>
  obtain ⟨m, hm, rfl, rfl⟩ := hrel
  cases m with
  | succ m =>
   rw [show 8 * ((m + 1 : Nat) : Int) - 8 = ((8 * m : Nat) : Int) from by omega]
   have HS := Lib.hid (HF.out m hm)
   have hby : (((by8 ((n : Int) / 2 ^ (8 * m) % 256)).toNat : Nat) : Int) = (n : Int) / 2 ^ (8 * m) % 256 := by
    have := bv_by8 (n := (n : Int) / 2 ^ (8 * m) % 256) (by omega) (by omega)
    unfold bv at this
    injection this
   have hb := mixByte_any w (f (m + 1)) (by8 ((n : Int) / 2 ^ (8 * m) % 256))
   rw [hby, ← HS.out] at hb
   have HB := Lib.hid hb
   clear hb hby HS HF
   clear HN
   go_wp2_with fail
   refine HB.out.mono ?_
   rintro e w1 ⟨rfl, rfl⟩
   clear HB
   go_wp2
   go_round
   case rel => exact ⟨m, by omega, by first | rfl | go_num, rfl⟩
   case measure => simp [intOf]; omega
  | zero =>
   go_wp2
   go_ret
   exact ⟨rfl, rfl⟩
theorem bytes_take {s : ByteArray} {k : Nat} (h : k < s.size) : s.data.toList.take (k + 1) = s.data.toList.take k ++ [s[k]] := by
 rw [List.take_add_one]
 congr 1
 rw [List.getElem?_eq_getElem (by simpa using h)]
 rfl
set_option maxRecDepth 100000 in
set_option maxHeartbeats 1000000 in
theorem key_any (w : World) (D : Nat → Prop) (s : ByteArray) (v : Value) (ks : List Nat) (hs : s.size ≤ maxLen) (h : Kys w D v ks) :
  Calls Tryz.prog 138 #[.string s, v] w fun e w' => e = .returned (.int .u64 (keyN s ks : Int)) ∧ w = w' := by
 obtain ⟨⟨A, c, rfl, hlc, hcm, hn, hxl, hc⟩, hk⟩ := h
 unfold maxLen at hs hcm
 have HC := Lib.hid hc
 have HK := Lib.hid hk
 have hb0 : ((14695981039346656037 : Nat) : Int) < 18446744073709551616 := by decide
 have h0 := mixL_lt _ hb0 (be s.size 8)
 have HN := Lib.hid (mixNumber_any w 14695981039346656037 s.size (by omega))
 have HE := Lib.hid (keyN_is s ks)
 generalize keyN s ks = R at *
 generalize mixL 14695981039346656037 (be s.size 8) = q0 at *
 clear hc hk hxl hn hb0
 go_enter Tryz.func138, Tryz.ntmps138
 go_wp2_with fail
 refine HN.out.mono ?_
 rintro e w1 ⟨rfl, rfl⟩
 clear HN
 go_wp2
 go_loop [5, 15] (fun x i => ∃ k : Nat, k ≤ s.size ∧ i = .int .i64 k ∧ x = .int .u64 (mixL q0 (s.data.toList.take k) : Int)) (fun _ i => s.size - (intOf i).toNat)
 case atStart => exact ⟨0, Nat.zero_le _, rfl, rfl⟩
 case round =>
  obtain ⟨k, hk, rfl, rfl⟩ := hrel
  by_cases hp : k < s.size
  ·
   have HB := Lib.hid (mixByte_any w (mixL q0 (s.data.toList.take k)) s[k])
   have HR : Hid (mixN (mixL q0 (s.data.toList.take k)) (s[k]).toNat = mixL q0 (s.data.toList.take (k + 1))) := Lib.hid (by rw [bytes_take hp, mixL_append, mixL_one])
   generalize mixN (mixL q0 (s.data.toList.take k)) (s[k]).toNat = q2 at *
   generalize mixL q0 (s.data.toList.take k) = q at *
   go_wp2_with fail
   refine HB.out.mono ?_
   rintro e w1 ⟨rfl, rfl⟩
   clear HB
   go_wp2
   go_round
   case rel => exact ⟨k + 1, by omega, by go_num, by rw [HR.out]⟩
   case measure => simp [intOf]; omega
  ·
   have hq1 := mixL_lt _ h0 (s.data.toList.take k)
   have HQ : Hid (mixL q0 (s.data.toList.take k) = mixL q0 s.data.toList) := Lib.hid (by rw [List.take_of_length_le (by simp; omega)])
   rw [← HQ.out] at HE
   generalize mixL q0 (s.data.toList.take k) = q1 at *
   clear HQ
   go_wp2
   go_loop [5, 26] (fun x i => ∃ k : Nat, k ≤ ks.length ∧ i = .int .i64 k ∧ x = .int .u64 (mixL q1 ((ks.take k).flatMap (fun n => be n 8)) : Int)) (fun _ i => ks.length - (intOf i).toNat)
   case atStart => exact ⟨0, Nat.zero_le _, rfl, rfl⟩
   case round =>
    obtain ⟨k, hk, rfl, rfl⟩ := hrel
    by_cases hlt : k < ks.length
    ·
     obtain ⟨ad, rfl, hsp, hblk, hD, hcell⟩ := HC.out (by omega)
     obtain ⟨b, o, sp⟩ := ad
     simp only at hsp hblk hD hcell
     subst hsp
     have c0 : w.cell? ⟨b, o + k, none⟩ = some (.int .u64 (ks[k] : Int)) := hcell k _ (by rw [List.getElem?_map, List.getElem?_eq_getElem hlt]; rfl)
     have HB := Lib.hid (mixNumber_any w (mixL q1 ((ks.take k).flatMap (fun n => be n 8))) ks[k] (HK.out _ (List.getElem_mem hlt)))
     have HR : Hid (mixL (mixL q1 ((ks.take k).flatMap (fun n => be n 8))) (be ks[k] 8) = mixL q1 ((ks.take (k + 1)).flatMap (fun n => be n 8))) := Lib.hid (by
      rw [List.take_add_one, List.getElem?_eq_getElem hlt, List.flatMap_append, mixL_append]
      simp)
     generalize mixL (mixL q1 ((ks.take k).flatMap (fun n => be n 8))) (be ks[k] 8) = q2 at *
     generalize mixL q1 ((ks.take k).flatMap (fun n => be n 8)) = q at *
     generalize ks[k] = n at *
     clear hcell
     go_wp2_with fail
     refine HB.out.mono ?_
     rintro e w1 ⟨rfl, rfl⟩
     clear HB
     go_wp2
     go_round
     case rel => exact ⟨k + 1, by omega, by go_num, by rw [HR.out]⟩
     case measure => simp [intOf]; omega
    ·
     have HQ : Hid (mixL q1 ((ks.take k).flatMap (fun n => be n 8)) = R) := Lib.hid (by rw [HE.out, List.take_of_length_le (by omega)])
     rw [HQ.out]
     go_wp2
     go_ret
     exact ⟨rfl, rfl⟩
end Go.Proofs.YtffoeodjbbkdjaaGreat
namespace Go.Proofs.YtffoeodjbbkdjaaGreat
noncomputable def keyAt (ps : List Pt) (l : List Nat) (p : Nat) : Nat := keyN (((ps[p]?).map Pt.cmd).getD ⟨#[]⟩) ((needsAt ps (p : Int)).map (fun n => l.getD n 0))
noncomputable def grKeys (ps : List Pt) : List Nat := runOf (keyAt ps) (List.replicate (grOrder ps).length 0) (grOrder ps)
theorem grKeys_length (ps : List Pt) : (grKeys ps).length = (grOrder ps).length := by
 unfold grKeys
 rw [runOf_length, List.length_replicate]
theorem keys_bound (ps : List Pt) (n : Nat) (order : List Nat) : ∀ k ∈ runOf (keyAt ps) (List.replicate n 0) order, (k : Int) < 18446744073709551616 :=
 runOf_all (α := Nat) (Q := fun k : Nat => (k : Int) < 18446744073709551616) (keyAt ps) _ _ (fun _ _ => keyN_lt _ _) (fun x hx => by rw [(List.mem_replicate.1 hx).2]; decide)
def freshAt (ps : List Pt) (ks : List Nat) (P : Nat → Bool) (l : List Bool) (p : Nat) : Bool := (needsAt ps (p : Int)).all (fun n => l.getD n false) && P (ks.getD p 0)
noncomputable def grFresh (ps : List Pt) (P : Nat → Bool) : List Bool := runOf (freshAt ps (grKeys ps) P) (List.replicate (grOrder ps).length false) (grOrder ps)
theorem grFresh_length (ps : List Pt) (P : Nat → Bool) : (grFresh ps P).length = (grOrder ps).length := by
 unfold grFresh
 rw [runOf_length, List.length_replicate]
end Go.Proofs.YtffoeodjbbkdjaaGreat
namespace Go.Proofs.YtffoeodjbbkdjaaGreat
open Go.RowKit
theorem u8info : (Tryz.prog.info? 5).map (fun i => (i.zero, i.size, i.bytes)) = some (some (.int .u8 0), 1, 1) := by kernel_rfl
section
variable {P : Program}
end
structure Fresh (w w' : World) (u : Value) (cs : List UInt8) : Prop where
 keep : Keep noneOf w w'
 own : w'.ownsRow 0 5 1 u cs.length (cs.map bv)
 new : ∀ k, u.ownBlock = some k → w.heap.size ≤ k
theorem Fresh.bytes {w w' : World} {u : Value} {cs : List UInt8} (h : Fresh w w' u cs) : Bytes w' (fun k => w.heap.size ≤ k) u cs :=
 (Bytes.of_own h.own).mono fun i _ hi => h.new i hi.symm
theorem div_step (n t : Nat) : ((n / 256 ^ t : Nat) : Int) / 256 = ((n / 256 ^ (t + 1) : Nat) : Int) := by
 rw [Nat.pow_succ, ← Nat.div_div_eq_div_mul]
 exact (Int.natCast_ediv _ _).symm
theorem ref_step (n m size : Nat) (h : m + 1 ≤ size) : (be n size).take (size - m) = (be n size).take (size - (m + 1)) ++ [by8 (((n / 256 ^ m : Nat) : Int) % 256)] := by
 have e : (((n / 256 ^ m : Nat) : Int) % 256) = (n : Int) / 2 ^ (8 * m) % 256 := by
  rw [Int.natCast_ediv, Int.natCast_pow, Int.pow_mul]
  rfl
 rw [number_step n m size h, e]
set_option maxRecDepth 100000 in
set_option maxHeartbeats 1000000 in
theorem refNumber_any (w : World) (n size : Nat) (hs : size ≤ 8) (hn : (n : Int) < 18446744073709551616) :
  Calls Tryz.prog 165 #[.int .u64 n, .int .i64 size] w fun e w' => ∃ u, e = .returned u ∧ Fresh w w' u (be n size) := by
 obtain ⟨i0, hi0, hz0, hz1, hz2⟩ := info_parts u8info
 have HNN := Lib.hid hn
 clear hn
 go_enter Tryz.func165, Tryz.ntmps165
 go_wp2
 go_loopw [5, 6] (fun b i wr => ∃ m : Nat, m ≤ size ∧ i = .int .i64 ((m : Int) - 1) ∧ Fresh w wr b ((be n size).take (size - m))) (fun _ i _ => (intOf i + 1).toNat)
 case atStart => exact ⟨size, Nat.le_refl _, rfl, ⟨Keep.refl _ _, by simpa using World.ownsRow_nil w 0 5 1, by intro k hk; cases hk⟩⟩
 case round =>
  obtain ⟨m, hm, rfl, hF⟩ := hrel
  cases m with
  | succ m =>
   rw [show ((m + 1 : Nat) : Int) - 1 = (m : Int) from by omega]
   go_wp2
   go_loop [7, 8] (fun k j => ∃ t : Nat, t ≤ m ∧ j = .int .i64 t ∧ k = .int .u64 ((n / 256 ^ t : Nat) : Int)) (fun _ j => m - (intOf j).toNat)
   case atStart => exact ⟨0, Nat.zero_le _, rfl, by rw [Nat.pow_zero, Nat.div_one]⟩
   case round =>
    obtain ⟨t, ht, rfl, rfl⟩ := hrel
    by_cases hlt : t < m
    ·
     generalize hq : n / 256 ^ t = q at *
     have HQ := Lib.hid hq
     clear hq
     go_wp2
     go_round
     case rel => exact ⟨t + 1, by omega, by go_num, by rw [← div_step, HQ.out, IntWalk.u64_in _ (by have := HNN.out; have h1 := Nat.div_le_self n (256 ^ t); have h2 := HQ.out; omega)]⟩
     case measure => simp [intOf]; omega
    ·
     have hte : t = m := by omega
     subst hte
     have HN := Lib.hid (ref_step n t size hm)
     have hlen : ((be n size).take (size - (t + 1))).length + 1 ≤ lim := by rw [List.length_take, be_length, lim_is]; omega
     generalize n / 256 ^ t = q at *
     have ho := hF.own
     obtain ⟨A, c, hsh⟩ := own_shape ho
     subst hsh
     generalize hL : (be n size).take (size - (t + 1)) = L at *
     clear hL
     have HF := Lib.hid hF
     clear hF
     go_wp2_with (at_builtin; refine wpList_append_lies _ rfl (.tmp 23) (.tmp 27) 195 rfl 0 5 i0 _ 1 1 Tryz.underlying195 hi0 hz0 hz1 hz2 rfl (by decide) _ L.length (L.map bv) rfl (ho.alloc _) ⟨wr.heap.size, 0, none⟩ 1 1 [.int .u8 ((q : Int) % 256)] rfl rfl (cell_one_new _ _ _) ?c1 (by decide) ?c2 ?c3 (Nat.zero_le _) (wr.heap.size + 1) ?c4 ?_)
     case c1 => first | rfl | (intro u hu; simp at hu; subst hu; rfl)
     case c2 => rw [lim_is] at hlen; unfold maxLen; omega
     case c3 => rw [lim_is] at hlen; omega
     try (case c4 => simp)
     intro g cap w1 hown hgrow hat hlt'
     have R : Fresh w w1 (.slice (some ⟨g, 0, none⟩) (L.length + 1) cap) ((be n size).take (size - t)) := by
      rw [HN.out]
      refine ⟨HF.out.keep.trans (((Keep.refl noneOf wr).alloc (.cells #[.int .u8 ((q : Int) % 256)] 5)).mono (T := fun k => some k = (Value.slice A L.length c).ownBlock) (fun _ _ h => h.elim) |>.trans (Keep.of_grown hgrow) (fun _ _ h => h)) (fun i hi h => ?_), ?_, fun k hk => ?_⟩
      ·
       have := HF.out.new i h.symm
       omega
      ·
       simpa [bv_by8 (n := (q : Int) % 256) (by omega) (by omega)] using hown
      ·
       have hkg : k = g := by simpa [Value.ownBlock] using hk.symm
       have := HF.out.keep.size
       rcases hat with h | h
       ·
        have := HF.out.new g h
        omega
       ·
        omega
     clear hown hgrow hat hlt' ho
     go_wp2
     go_roundw
     case rel => exact ⟨t, by omega, by go_num, R⟩
     case measure => simp [intOf]
  | zero =>
   have R := hF
   rw [Nat.sub_zero, List.take_of_length_le (by rw [be_length]; exact Nat.le_refl _)] at R
   clear hF
   go_wp2
   go_ret
   exact ⟨_, rfl, R⟩
theorem Fresh.append {w w1 w2 : World} {v v' : Value} {bs cs : List UInt8} (h : Fresh w w1 v bs) (hg : w1.grownBy w2 v.ownBlock) (hat : v'.ownBlock = v.ownBlock ∨ v'.ownBlock = some w1.heap.size) (ho : w2.ownsRow 0 5 1 v' (bs ++ cs).length ((bs ++ cs).map bv)) : Fresh w w2 v' (bs ++ cs) := by
 refine ⟨h.keep.trans (Keep.of_grown hg) (fun i hi he => ?_), ho, fun k hk => ?_⟩
 ·
  have := h.new i he.symm
  omega
 ·
  rcases hat with e | e
  ·
   exact h.new k (e.symm.trans hk)
  ·
   have := h.keep.size
   rw [e] at hk
   injection hk with hk
   omega
theorem Fresh.later {w w1 w2 : World} {v : Value} {bs : List UInt8} (h : Fresh w w1 v bs) (k : Keep noneOf w1 w2) : Fresh w w2 v bs := ⟨h.keep.trans k (fun _ _ h => h), own_keep h.own k (fun _ _ => id), h.new⟩
theorem Fresh.any {w w1 : World} {v : Value} {bs : List UInt8} (h : Fresh w w1 v bs) : Bytes w1 (fun _ => True) v bs := h.bytes.mono (fun _ _ _ => trivial)
end Go.Proofs.YtffoeodjbbkdjaaGreat
namespace Go.Proofs.YtffoeodjbbkdjaaGreat
open Go.RowKit
theorem Fresh.own_at {w w1 : World} {v : Value} {bs : List UInt8} (h : Fresh w w1 v bs) : w1.ownsRow w.heap.size 5 1 v bs.length (bs.map bv) := by
 refine ⟨h.own.1, ?_⟩
 rcases h.own.2 with hn | ⟨g, cap, cur, rfl, hb, rest⟩
 ·
  exact .inl hn
 ·
  exact .inr ⟨g, cap, cur, rfl, h.new g rfl, rest⟩
theorem strCells_bv (s : ByteArray) : Lib.strCells s = s.data.toList.map bv := rfl
theorem bytes_len (s : ByteArray) : s.data.toList.length = s.size := by simp
theorem keyBytes_take (s : ByteArray) (ks : List Nat) (k : Nat) (hk : k < ks.length) : keyBytes s (ks.take (k + 1)) = keyBytes s (ks.take k) ++ be ks[k] 8 := by
 unfold keyBytes
 rw [List.take_add_one, List.getElem?_eq_getElem hk, List.flatMap_append]
 simp [List.append_assoc]
theorem keyBytes_length (s : ByteArray) (ks : List Nat) : (keyBytes s ks).length = 8 + s.size + 8 * ks.length := by
 unfold keyBytes
 have : (ks.flatMap (fun n => be n 8)).length = 8 * ks.length := by
  induction ks with
  | nil => rfl
  | cons a l ih => rw [List.flatMap_cons, List.length_append, ih, be_length, List.length_cons]; omega
 rw [List.length_append, List.length_append, this, be_length, bytes_len]
set_option maxRecDepth 100000 in
set_option maxHeartbeats 1000000 in
theorem refKey_any (w : World) (D : Nat → Prop) (s : ByteArray) (v : Value) (ks : List Nat) (hs : 8 + s.size + 8 * ks.length ≤ lim) (h : Kys w D v ks) :
  Calls Tryz.prog 145 #[.string s, v] w fun e w' => e = .returned (.int .u64 (keyN s ks : Int)) ∧ Keep noneOf w w' := by
 obtain ⟨i0, hi0, hz0, hz1, hz2⟩ := info_parts u8info
 rw [lim_is] at hs
 have HH := Lib.hid h
 obtain ⟨⟨A, c, rfl, hlc, hcm, hn, hxl, hc⟩, hk⟩ := h
 unfold maxLen at hcm
 have HK := Lib.hid hk
 have HN := Lib.hid (refNumber_any w s.size 8 (by decide) (by omega))
 have HE := Lib.hid (show keyN s ks = mixL 14695981039346656037 (keyBytes s ks) from rfl)
 generalize keyN s ks = R at *
 clear hc hk hxl hn
 have hss : s.size ≤ 9223372036854775807 := by omega
 go_enter Tryz.func145, Tryz.ntmps145
 go_wp2_with fail
 refine HN.out.mono ?_
 rintro e w1 ⟨u1, rfl, hf1⟩
 have HO1 := Lib.hid hf1.own_at
 have HK1 := Lib.hid hf1.keep
 clear hf1 HN
 have hsz1 := HK1.out.size
 go_wp2_with (at_builtin; refine Lib.wpList_append_own_string _ rfl _ _ 195 9 rfl w.heap.size 5 i0 Tryz.underlying195 Tryz.underlying9 hi0 hz0 hz1 hz2 _ _ _ rfl HO1.out s rfl ?c3 ?c4 ?c5 ?_)
 case c3 => rw [be_length]; unfold maxLen; omega
 case c4 => rw [be_length]; omega
 case c5 => exact hsz1
 intro v2 w2 hown2 hgrow2 _
 have kg := Keep.of_grown hgrow2
 have K2 : Keep noneOf w w2 := HK1.out.trans kg (fun j hj hs => by have := (HO1.out.lt j hs.symm).1; omega)
 have hlen0 := keyBytes_length s []
 have hown3 : w2.ownsRow w.heap.size 5 1 v2 (keyBytes s []).length ((keyBytes s []).map bv) := by
  rw [hlen0]
  rw [be_length] at hown2
  simpa [keyBytes, strCells_bv] using hown2
 have HO2 := Lib.hid hown3
 have HK2 := Lib.hid K2
 clear hown2 hown3 hgrow2 kg K2 HO1 HK1 hlen0 hsz1
 go_wp2
 go_loopw [5, 6] (fun b i wr => ∃ k : Nat, k ≤ ks.length ∧ i = .int .i64 k ∧ Keep noneOf w wr ∧ wr.ownsRow w.heap.size 5 1 b (keyBytes s (ks.take k)).length ((keyBytes s (ks.take k)).map bv)) (fun _ i _ => ks.length - (intOf i).toNat)
 case atStart => exact ⟨0, Nat.zero_le _, rfl, HK2.out, HO2.out⟩
 case round =>
  obtain ⟨k, hk, rfl, hkeep, hown⟩ := hrel
  have HKP := Lib.hid hkeep
  have HOWN := Lib.hid hown
  by_cases hlt : k < ks.length
  ·
   obtain ⟨⟨A', c', hv', _, _, _, _, hc⟩, _⟩ := HH.out.keep hkeep (fun _ _ _ => id)
   obtain ⟨rfl, rfl⟩ : A = A' ∧ c = c' := by simpa using hv'
   obtain ⟨ad, rfl, hsp, hblk, hD, hcell⟩ := hc (by omega)
   obtain ⟨b, o, sp⟩ := ad
   simp only at hsp hblk hD hcell
   subst hsp
   have c0 : wr.cell? ⟨b, o + k, none⟩ = some (.int .u64 (ks[k] : Int)) := hcell k _ (by rw [List.getElem?_map, List.getElem?_eq_getElem hlt]; rfl)
   have HN := Lib.hid (refNumber_any wr ks[k] 8 (by decide) (HK.out _ (List.getElem_mem hlt)))
   have HT := Lib.hid (keyBytes_take s ks k hlt)
   have hl1 := keyBytes_length s (ks.take k)
   rw [List.length_take, Nat.min_eq_left hk] at hl1
   generalize ks[k] = n at *
   generalize keyBytes s (ks.take k) = bs at *
   clear hc hcell hv' hown hkeep HO2 HK2 HH
   go_wp2_with fail
   refine HN.out.mono ?_
   rintro e w3 ⟨u3, rfl, hf3⟩
   obtain ⟨A3, c3, rfl, hlc3, hcm3, _, hc3⟩ := hf3.bytes
   rw [be_length] at hlc3 hc3
   obtain ⟨ad3, rfl, hsp3, hblk3, _, hcell3⟩ := hc3 (by decide)
   obtain ⟨b3, o3, sp3⟩ := ad3
   simp only at hsp3 hblk3 hcell3
   subst hsp3
   unfold maxLen at hcm3
   have HO3 := Lib.hid (own_keep HOWN.out hf3.keep (fun _ _ h => h))
   have HK3 := Lib.hid (HKP.out.trans hf3.keep (fun _ _ h => h))
   have HC3 : Hid (∀ j u, ((be n 8).map bv)[j]? = some u → w3.cell? ((⟨b3, o3, none⟩ : Addr).add j) = some u) := Lib.hid fun j u hu => by
    rw [List.getElem?_map] at hu
    cases hb : (be n 8)[j]? with
    | none => rw [hb] at hu; cases hu
    | some x =>
     rw [hb] at hu
     have := hcell3 j x hb
     have ha : (⟨b3, o3, none⟩ : Addr).add j = ⟨b3, o3 + j, none⟩ := by
      unfold Addr.add
      split
      ·
       rename_i h0; subst h0; rfl
      ·
       rfl
     rw [ha, this]
     simpa using hu
   have hsz3 := HK3.out.size
   rw [be_length]
   clear hc3 hcell3 hf3 HN HOWN HKP
   go_wp2_with (at_builtin; refine wpList_append_own _ rfl _ _ 195 rfl w.heap.size 5 i0 _ 1 1 Tryz.underlying195 hi0 hz0 hz1 hz2 rfl (by decide) _ _ _ rfl HO3.out ⟨b3, o3, none⟩ 8 c3 ((be n 8).map bv) rfl (by simp [be_length]) HC3.out (bytes_oneCell _) (by unfold maxLen; omega) (by omega) hsz3 ?_; intro v' w4 hown' hgrow _)
   have kg := Keep.of_grown hgrow
   go_roundw
   case rel =>
    refine ⟨k + 1, by omega, by go_num, HK3.out.trans kg (fun j hj hs => absurd (HO3.out.lt j hs.symm).1 (by omega)), ?_⟩
    rw [HT.out, List.length_append, List.map_append, be_length]
    exact hown'
   case measure => simp [intOf]; omega
  ·
   have hE : keyBytes s (ks.take k) = keyBytes s ks := by rw [List.take_of_length_le (by omega)]
   have hl1 := keyBytes_length s ks
   rw [hE] at hown
   have hB := Bytes.of_own hown
   rw [← hl1] at hs
   generalize keyBytes s ks = bs at *
   obtain ⟨A3, c3, hv3, hlc3, hcm3, _, hc3⟩ := hB
   subst hv3
   unfold maxLen at hcm3
   have HC3 := Lib.hid hc3
   clear hE hl1 hown hc3 HO2 HK2 HH HOWN hkeep
   go_wp2
   go_loop [7, 8] (fun x i => ∃ k : Nat, k ≤ bs.length ∧ i = .int .i64 k ∧ x = .int .u64 (mixL 14695981039346656037 (bs.take k) : Int)) (fun _ i => bs.length - (intOf i).toNat)
   case atStart => exact ⟨0, Nat.zero_le _, rfl, by rw [List.take_zero, mixL_nil]; rfl⟩
   case round =>
    obtain ⟨j, hj, rfl, rfl⟩ := hrel
    by_cases hjl : j < bs.length
    ·
     obtain ⟨ad3, rfl, hsp3, hblk3, _, hcell3⟩ := HC3.out (by omega)
     obtain ⟨b3, o3, sp3⟩ := ad3
     simp only at hsp3 hblk3 hcell3
     subst hsp3
     have c0 : wr.cell? ⟨b3, o3 + j, none⟩ = some (.int .u8 (bs[j].toNat : Int)) := hcell3 j _ (List.getElem?_eq_getElem hjl)
     have HR := Lib.hid (show mixN (mixL 14695981039346656037 (bs.take j)) bs[j].toNat = mixL 14695981039346656037 (bs.take (j + 1)) by rw [List.take_succ_eq_append_getElem hjl, mixL_append, mixL_one])
     have hb : bs[j].toNat < 256 := bs[j].toNat_lt
     generalize mixL 14695981039346656037 (bs.take j) = q at *
     generalize bs[j].toNat = x at *
     have HM := Lib.hid (mixN_int q x)
     clear hcell3
     go_wp2
     rw [HM.out]
     go_round
     case rel => exact ⟨j + 1, by omega, by go_num, by rw [HR.out]⟩
     case measure => simp [intOf]; omega
    ·
     have HQ := Lib.hid (show mixL 14695981039346656037 (bs.take j) = R by rw [HE.out, List.take_of_length_le (by omega)])
     rw [HQ.out]
     go_wp2
     go_ret
     exact ⟨rfl, HKP.out⟩
end Go.Proofs.YtffoeodjbbkdjaaGreat
