/-
  dockyardref08.Key.
-/
import Derived.Test.YtndojciealkhmaaNum
import Derived.Lib.AppendStr
namespace Go.Proofs.Ytndojciealkhmaa
open Go.RowKit

theorem Fresh.own_at {w w1 : World} {v : Value} {bs : List UInt8} (h : Fresh w w1 v bs) : w1.ownsRow w.heap.size 5 1 v bs.length (bs.map bv) := by
  refine ⟨h.own.1, ?_⟩
  rcases h.own.2 with hn | ⟨g, cap, cur, rfl, hb, rest⟩
  · exact .inl hn
  · exact .inr ⟨g, cap, cur, rfl, h.new g rfl, rest⟩
theorem strCells_bv (s : ByteArray) : Lib.strCells s = s.data.toList.map bv := rfl
theorem bytes_len (s : ByteArray) : s.data.toList.length = s.size := by simp
theorem keyBytes_take (s : ByteArray) (ks : List Nat) (k : Nat) (hk : k < ks.length) : keyBytes s (ks.take (k + 1)) = keyBytes s (ks.take k) ++ be ks[k] 8 := by
  unfold keyBytes
  rw [List.take_add_one, List.getElem?_eq_getElem hk, List.flatMap_append]
  simp [List.append_assoc]
theorem keyBytes_length (s : ByteArray) (ks : List Nat) : (keyBytes s ks).length = 8 + s.size + 8 * ks.length := by
  unfold keyBytes
  have : (ks.flatMap (fun n => be n 8)).length = 8 * ks.length := by
    induction ks with
    | nil => rfl
    | cons a l ih => rw [List.flatMap_cons, List.length_append, ih, be_length, List.length_cons]; omega
  rw [List.length_append, List.length_append, this, be_length, bytes_len]

set_option maxRecDepth 100000 in
set_option maxHeartbeats 1000000 in
theorem refKey_any (w : World) (D : Nat → Prop) (s : ByteArray) (v : Value) (ks : List Nat) (hs : 8 + s.size + 8 * ks.length ≤ lim) (h : Kys w D v ks) :
    Calls Try.prog 11 #[.string s, v] w fun e w' => e = .returned (.int .u64 (keyN s ks : Int)) ∧ Keep noneOf w w' := by
  obtain ⟨i0, hi0, hz0, hz1, hz2⟩ := info_parts u8info
  rw [lim_is] at hs
  have HH := Lib.hid h
  obtain ⟨⟨A, c, rfl, hlc, hcm, hn, hxl, hc⟩, hk⟩ := h
  unfold maxLen at hcm
  have HK := Lib.hid hk
  have HN := Lib.hid (refNumber_any w s.size 8 (by decide) (by omega))
  have HE := Lib.hid (show keyN s ks = mixL 14695981039346656037 (keyBytes s ks) from rfl)
  generalize keyN s ks = R at *
  clear hc hk hxl hn
  have hss : s.size ≤ 9223372036854775807 := by omega
  go_enter Try.func11, Try.ntmps11
  go_wp2_with fail
  refine HN.out.mono ?_
  rintro e w1 ⟨u1, rfl, hf1⟩
  have HO1 := Lib.hid hf1.own_at
  have HK1 := Lib.hid hf1.keep
  clear hf1 HN
  have hsz1 := HK1.out.size
  go_wp2_with (at_builtin; refine Lib.wpList_append_own_string _ rfl _ _ 52 9 rfl w.heap.size 5 i0 Try.underlying52 Try.underlying9 hi0 hz0 hz1 hz2 _ _ _ rfl HO1.out s rfl ?c3 ?c4 ?c5 ?_)
  case c3 => rw [be_length]; unfold maxLen; omega
  case c4 => rw [be_length]; omega
  case c5 => exact hsz1
  intro v2 w2 hown2 hgrow2 _
  have kg := Keep.of_grown hgrow2
  have K2 : Keep noneOf w w2 := HK1.out.trans kg (fun j hj hs => by have := (HO1.out.lt j hs.symm).1; omega)
  have hlen0 := keyBytes_length s []
  have hown3 : w2.ownsRow w.heap.size 5 1 v2 (keyBytes s []).length ((keyBytes s []).map bv) := by
    rw [hlen0]
    rw [be_length] at hown2
    simpa [keyBytes, strCells_bv] using hown2
  have HO2 := Lib.hid hown3
  have HK2 := Lib.hid K2
  clear hown2 hown3 hgrow2 kg K2 HO1 HK1 hlen0 hsz1
  go_wp2
  go_loopw [5, 6] (fun b i wr => ∃ k : Nat, k ≤ ks.length ∧ i = .int .i64 k ∧ Keep noneOf w wr ∧ wr.ownsRow w.heap.size 5 1 b (keyBytes s (ks.take k)).length ((keyBytes s (ks.take k)).map bv)) (fun _ i _ => ks.length - (intOf i).toNat)
  case atStart => exact ⟨0, Nat.zero_le _, rfl, HK2.out, HO2.out⟩
  case round =>
    obtain ⟨k, hk, rfl, hkeep, hown⟩ := hrel
    have HKP := Lib.hid hkeep
    have HOWN := Lib.hid hown
    by_cases hlt : k < ks.length
    · obtain ⟨⟨A', c', hv', _, _, _, _, hc⟩, _⟩ := HH.out.keep hkeep (fun _ _ _ => id)
      obtain ⟨rfl, rfl⟩ : A = A' ∧ c = c' := by simpa using hv'
      obtain ⟨ad, rfl, hsp, hblk, hD, hcell⟩ := hc (by omega)
      obtain ⟨b, o, sp⟩ := ad
      simp only at hsp hblk hD hcell
      subst hsp
      have c0 : wr.cell? ⟨b, o + k, none⟩ = some (.int .u64 (ks[k] : Int)) := hcell k _ (by rw [List.getElem?_map, List.getElem?_eq_getElem hlt]; rfl)
      have HN := Lib.hid (refNumber_any wr ks[k] 8 (by decide) (HK.out _ (List.getElem_mem hlt)))
      have HT := Lib.hid (keyBytes_take s ks k hlt)
      have hl1 := keyBytes_length s (ks.take k)
      rw [List.length_take, Nat.min_eq_left hk] at hl1
      generalize ks[k] = n at *
      generalize keyBytes s (ks.take k) = bs at *
      clear hc hcell hv' hown hkeep HO2 HK2 HH
      go_wp2_with fail
      refine HN.out.mono ?_
      rintro e w3 ⟨u3, rfl, hf3⟩
      obtain ⟨A3, c3, rfl, hlc3, hcm3, _, hc3⟩ := hf3.bytes
      rw [be_length] at hlc3 hc3
      obtain ⟨ad3, rfl, hsp3, hblk3, _, hcell3⟩ := hc3 (by decide)
      obtain ⟨b3, o3, sp3⟩ := ad3
      simp only at hsp3 hblk3 hcell3
      subst hsp3
      unfold maxLen at hcm3
      have HO3 := Lib.hid (own_keep HOWN.out hf3.keep (fun _ _ h => h))
      have HK3 := Lib.hid (HKP.out.trans hf3.keep (fun _ _ h => h))
      have HC3 : Hid (∀ j u, ((be n 8).map bv)[j]? = some u → w3.cell? ((⟨b3, o3, none⟩ : Addr).add j) = some u) := Lib.hid fun j u hu => by
        rw [List.getElem?_map] at hu
        cases hb : (be n 8)[j]? with
        | none => rw [hb] at hu; cases hu
        | some x =>
          rw [hb] at hu
          have := hcell3 j x hb
          have ha : (⟨b3, o3, none⟩ : Addr).add j = ⟨b3, o3 + j, none⟩ := by
            unfold Addr.add
            split
            · rename_i h0; subst h0; rfl
            · rfl
          rw [ha, this]
          simpa using hu
      have hsz3 := HK3.out.size
      rw [be_length]
      clear hc3 hcell3 hf3 HN HOWN HKP
      go_wp2_with (at_builtin; refine wpList_append_own _ rfl _ _ 52 rfl w.heap.size 5 i0 _ 1 1 Try.underlying52 hi0 hz0 hz1 hz2 rfl (by decide) _ _ _ rfl HO3.out ⟨b3, o3, none⟩ 8 c3 ((be n 8).map bv) rfl (by simp [be_length]) HC3.out (bytes_oneCell _) (by unfold maxLen; omega) (by omega) hsz3 ?_; intro v' w4 hown' hgrow _)
      have kg := Keep.of_grown hgrow
      go_roundw
      case rel =>
        refine ⟨k + 1, by omega, by go_num, HK3.out.trans kg (fun j hj hs => absurd (HO3.out.lt j hs.symm).1 (by omega)), ?_⟩
        rw [HT.out, List.length_append, List.map_append, be_length]
        exact hown'
      case measure => simp [intOf]; omega
    · have hE : keyBytes s (ks.take k) = keyBytes s ks := by rw [List.take_of_length_le (by omega)]
      have hl1 := keyBytes_length s ks
      rw [hE] at hown
      have hB := Bytes.of_own hown
      rw [← hl1] at hs
      generalize keyBytes s ks = bs at *
      obtain ⟨A3, c3, hv3, hlc3, hcm3, _, hc3⟩ := hB
      subst hv3
      unfold maxLen at hcm3
      have HC3 := Lib.hid hc3
      clear hE hl1 hown hc3 HO2 HK2 HH HOWN hkeep
      go_wp2
      go_loop [7, 8] (fun x i => ∃ k : Nat, k ≤ bs.length ∧ i = .int .i64 k ∧ x = .int .u64 (mixL 14695981039346656037 (bs.take k) : Int)) (fun _ i => bs.length - (intOf i).toNat)
      case atStart => exact ⟨0, Nat.zero_le _, rfl, by rw [List.take_zero, mixL_nil]; rfl⟩
      case round =>
        obtain ⟨j, hj, rfl, rfl⟩ := hrel
        by_cases hjl : j < bs.length
        · obtain ⟨ad3, rfl, hsp3, hblk3, _, hcell3⟩ := HC3.out (by omega)
          obtain ⟨b3, o3, sp3⟩ := ad3
          simp only at hsp3 hblk3 hcell3
          subst hsp3
          have c0 : wr.cell? ⟨b3, o3 + j, none⟩ = some (.int .u8 (bs[j].toNat : Int)) := hcell3 j _ (List.getElem?_eq_getElem hjl)
          have HR := Lib.hid (show mixN (mixL 14695981039346656037 (bs.take j)) bs[j].toNat = mixL 14695981039346656037 (bs.take (j + 1)) by rw [List.take_succ_eq_append_getElem hjl, mixL_append, mixL_one])
          have hb : bs[j].toNat < 256 := bs[j].toNat_lt
          generalize mixL 14695981039346656037 (bs.take j) = q at *
          generalize bs[j].toNat = x at *
          have HM := Lib.hid (mixN_int q x)
          clear hcell3
          go_wp2
          rw [HM.out]
          go_round
          case rel => exact ⟨j + 1, by omega, by go_num, by rw [HR.out]⟩
          case measure => simp [intOf]; omega
        · have HQ := Lib.hid (show mixL 14695981039346656037 (bs.take j) = R by rw [HE.out, List.take_of_length_le (by omega)])
          rw [HQ.out]
          go_wp2
          go_ret
          exact ⟨rfl, HKP.out⟩
end Go.Proofs.Ytndojciealkhmaa
