import Derived.Deep.RegionHeld3
import Derived.Laws.RangeAny
import Derived.Test.YtffoeodjbbkdjaaGreatBs02
import Derived.Test.YtffoeodjbbkdjaaGreatBs03
namespace Go.Proofs.YtffoeodjbbkdjaaGreat
open Go.RowKit
theorem byte_at {s : ByteArray} {k : Nat} (h : k < s.size) : s.data.toList[k]? = some s[k] := by
 have h2 : k < s.data.toList.length := by simpa using h
 rw [List.getElem?_eq_getElem h2]
 rfl
theorem all_bytes {s : ByteArray} {p : UInt8 → Bool} (h : ∀ (j : Nat) (b : UInt8), s.data.toList[j]? = some b → p b = true) : s.data.toList.all p = true := by
 rw [List.all_eq_true]
 intro b hb
 obtain ⟨j, hj⟩ := List.getElem?_of_mem hb
 exact h j b hj
theorem not_all_bytes {s : ByteArray} {p : UInt8 → Bool} {k : Nat} (hk : k < s.size) (h : p s[k] = false) : s.data.toList.all p = false := by
 rw [List.all_eq_false]
 exact ⟨s[k], List.mem_of_getElem? (byte_at hk), by rw [h]; decide⟩
theorem bytes_more {s : ByteArray} {p : UInt8 → Bool} {k : Nat} (hk : k < s.size) (h : ∀ j b, j < k → s.data.toList[j]? = some b → p b = true) (h1 : p s[k] = true) : ∀ j b, j < k + 1 → s.data.toList[j]? = some b → p b = true := by
 intro j b hj e
 rcases Nat.lt_or_ge j k with h2 | h2
 ·
  exact h j b h2 e
 ·
  have : j = k := by omega
  subst this
  rw [byte_at hk] at e
  injection e with e
  rw [← e]
  exact h1
theorem str_some (s : ByteArray) : (!s.toList.isEmpty) = decide (s.size ≠ 0) := by
 rw [ByteArray.toList_eq, Bool.eq_iff_iff]
 obtain ⟨⟨l⟩⟩ := s
 cases l <;> simp [ByteArray.size]
set_option maxRecDepth 100000 in
set_option maxHeartbeats 1000000 in
theorem isName_any (w : World) (s : ByteArray) :
  Calls Tryz.prog 158 #[.string s] w fun e w' => e = .returned (.bool (isNameB s)) ∧ Keep noneOf w w' := by
 generalize hR : isNameB s = R
 have HR := Lib.hid hR
 clear hR
 have HK : Hid (∀ p, Keep noneOf w (w.iter s p)) := fun p => (Keep.refl noneOf w).alloc _
 go_enter Tryz.func158, Tryz.ntmps158
 go_wp2
 go_loopw [] (fun wr => ∃ pos : Nat, pos ≤ s.size ∧ wr = w.iter s pos ∧ ∀ j b, j < pos → s.data.toList[j]? = some b → nameB b = true) (fun wr => s.size - wr.iterPos w.heap.size)
 case atStart => exact ⟨0, Nat.zero_le _, rfl, fun j _ hj => absurd hj (by omega)⟩
 case round =>
  obtain ⟨pos, hpos, rfl, hall⟩ := hrel
  have HA := Lib.hid hall
  clear hall
  by_cases hp : pos < s.size
  ·
   by_cases hb : nameB s[pos] = true
   ·
    have hb' : 33 ≤ s[pos].toNat ∧ s[pos].toNat ≤ 126 ∧ s[pos].toNat ≠ 58 := by
     unfold nameB at hb
     simpa [and_assoc] using hb
    have hnx : ∀ ty, (Instr.next (.pointer (some ⟨w.heap.size, 0, none⟩)) true ty).run Tryz.prog (w.iter s pos) = _ := fun ty => run_next_ascii w s pos ty hp (by omega)
    obtain ⟨b1, b2, b3⟩ := hb'
    have HM := Lib.hid (bytes_more hp HA.out hb)
    clear hb
    generalize s[pos].toNat = n at *
    have g1 : decide ((n : Int) ≤ 32) = false := by simp; omega
    have g2 : decide ((126 : Int) < (n : Int)) = false := by simp; omega
    have g3 : ((n : Int) == 58) = false := by rw [beq_eq_false_iff_ne]; omega
    go_wp2
    go_roundw
    case rel => exact ⟨pos + 1, by omega, rfl, HM.out⟩
    case measure => simp only [World.iterPos_iter]; omega
   ·
    have hR : R = false := by
     rw [← HR.out]
     unfold isNameB
     rw [not_all_bytes hp (by simpa using hb)]
     rfl
    subst hR
    have hb' : s[pos].toNat ≤ 32 ∨ 126 < s[pos].toNat ∨ s[pos].toNat = 58 := by
     unfold nameB at hb
     simp at hb
     omega
    have hd : ∃ n p', Utf8.decode s pos = (n, p') ∧ (n ≤ 32 ∨ (32 < n ∧ 126 < n) ∨ n = 58) ∧ n ≤ 2147483647 := by
     by_cases ha : s[pos].toNat < 128
     ·
      exact ⟨_, _, decode_ascii s pos hp ha, by omega, by omega⟩
     ·
      have h1 := decode_high s pos hp (by omega)
      have h2 := decode_le s pos
      exact ⟨(Utf8.decode s pos).1, (Utf8.decode s pos).2, rfl, by omega, h2⟩
    obtain ⟨n, p', hdec, hn, hn2⟩ := hd
    have hnx : ∀ ty, (Instr.next (.pointer (some ⟨w.heap.size, 0, none⟩)) true ty).run Tryz.prog (w.iter s pos) = .ok (.tuple #[.bool true, .int .i64 pos, .int .i32 n]) (w.iter s (pos + p')) := fun ty => by rw [run_next_any w s pos ty hp, hdec]
    clear hdec hb hb'
    rcases hn with hn | ⟨hn, hm⟩ | rfl
    ·
     have g1 : decide ((n : Int) ≤ 32) = true := by simp; omega
     go_wp2
     go_ret
     exact ⟨rfl, HK.out _⟩
    ·
     have g1 : decide ((n : Int) ≤ 32) = false := by simp; omega
     have g2 : decide ((126 : Int) < (n : Int)) = true := by simp; omega
     go_wp2
     go_ret
     exact ⟨rfl, HK.out _⟩
    ·
     go_wp2
     go_ret
     exact ⟨rfl, HK.out _⟩
  ·
   have hnx : ∀ ty, (Instr.next (.pointer (some ⟨w.heap.size, 0, none⟩)) true ty).run Tryz.prog (w.iter s pos) = _ := fun ty => run_next_end w s pos ty hp
   have hR : R = decide (s.size ≠ 0) := by
    rw [← HR.out]
    unfold isNameB
    rw [all_bytes (fun j b hj => HA.out j b (by have := (List.getElem?_eq_some_iff.1 hj).1; simp at this; omega) hj), Bool.true_and]
   have HR2 := Lib.hid hR
   clear hR
   go_wp2
   go_ret
   refine ⟨ret_bool ?_, HK.out _⟩
   rw [HR2.out]
   exact str_some s
set_option maxRecDepth 100000 in
set_option maxHeartbeats 1000000 in
theorem isCmd_any (w : World) (s : ByteArray) :
  Calls Tryz.prog 159 #[.string s] w fun e w' => e = .returned (.bool (isCmdB s)) ∧ Keep noneOf w w' := by
 generalize hR : isCmdB s = R
 have HR := Lib.hid hR
 clear hR
 have HK : Hid (∀ p, Keep noneOf w (w.iter s p)) := fun p => (Keep.refl noneOf w).alloc _
 go_enter Tryz.func159, Tryz.ntmps159
 go_wp2
 go_loopw [] (fun wr => ∃ pos : Nat, pos ≤ s.size ∧ wr = w.iter s pos ∧ ∀ j b, j < pos → s.data.toList[j]? = some b → cmdB b = true) (fun wr => s.size - wr.iterPos w.heap.size)
 case atStart => exact ⟨0, Nat.zero_le _, rfl, fun j _ hj => absurd hj (by omega)⟩
 case round =>
  obtain ⟨pos, hpos, rfl, hall⟩ := hrel
  have HA := Lib.hid hall
  clear hall
  by_cases hp : pos < s.size
  ·
   by_cases hb : cmdB s[pos] = true
   ·
    have hb' : 32 ≤ s[pos].toNat ∧ s[pos].toNat ≤ 126 := by
     unfold cmdB at hb
     simpa using hb
    have hnx : ∀ ty, (Instr.next (.pointer (some ⟨w.heap.size, 0, none⟩)) true ty).run Tryz.prog (w.iter s pos) = _ := fun ty => run_next_ascii w s pos ty hp (by omega)
    obtain ⟨b1, b2⟩ := hb'
    have HM := Lib.hid (bytes_more hp HA.out hb)
    clear hb
    generalize s[pos].toNat = n at *
    have g1 : decide ((n : Int) < 32) = false := by simp; omega
    have g2 : decide ((126 : Int) < (n : Int)) = false := by simp; omega
    go_wp2
    go_roundw
    case rel => exact ⟨pos + 1, by omega, rfl, HM.out⟩
    case measure => simp only [World.iterPos_iter]; omega
   ·
    have hR : R = false := by
     rw [← HR.out]
     unfold isCmdB
     exact not_all_bytes hp (by simpa using hb)
    subst hR
    have hb' : s[pos].toNat < 32 ∨ 126 < s[pos].toNat := by
     unfold cmdB at hb
     simp at hb
     omega
    have hd : ∃ n p', Utf8.decode s pos = (n, p') ∧ (n < 32 ∨ (32 < n ∧ 126 < n)) ∧ n ≤ 2147483647 := by
     by_cases ha : s[pos].toNat < 128
     ·
      exact ⟨_, _, decode_ascii s pos hp ha, by omega, by omega⟩
     ·
      have h1 := decode_high s pos hp (by omega)
      have h2 := decode_le s pos
      exact ⟨(Utf8.decode s pos).1, (Utf8.decode s pos).2, rfl, by omega, h2⟩
    obtain ⟨n, p', hdec, hn, hn2⟩ := hd
    have hnx : ∀ ty, (Instr.next (.pointer (some ⟨w.heap.size, 0, none⟩)) true ty).run Tryz.prog (w.iter s pos) = .ok (.tuple #[.bool true, .int .i64 pos, .int .i32 n]) (w.iter s (pos + p')) := fun ty => by rw [run_next_any w s pos ty hp, hdec]
    clear hdec hb hb'
    rcases hn with hn | ⟨hn, hm⟩
    ·
     have g1 : decide ((n : Int) < 32) = true := by simp; omega
     go_wp2
     go_ret
     exact ⟨rfl, HK.out _⟩
    ·
     have g1 : decide ((n : Int) < 32) = false := by simp; omega
     have g2 : decide ((126 : Int) < (n : Int)) = true := by simp; omega
     go_wp2
     go_ret
     exact ⟨rfl, HK.out _⟩
  ·
   have hnx : ∀ ty, (Instr.next (.pointer (some ⟨w.heap.size, 0, none⟩)) true ty).run Tryz.prog (w.iter s pos) = _ := fun ty => run_next_end w s pos ty hp
   have hR : R = true := by
    rw [← HR.out]
    unfold isCmdB
    exact all_bytes (fun j b hj => HA.out j b (by have := (List.getElem?_eq_some_iff.1 hj).1; simp at this; omega) hj)
   subst hR
   go_wp2
   go_ret
   exact ⟨rfl, HK.out _⟩
set_option maxRecDepth 100000 in
set_option maxHeartbeats 1000000 in
theorem refName_any (w : World) (s : ByteArray) (hs : s.size ≤ maxLen) :
  Calls Tryz.prog 90 #[.string s] w fun e w' => e = .returned (.bool (isNameB s)) ∧ w = w' := by
 unfold maxLen at hs
 generalize hR : isNameB s = R
 have HR := Lib.hid hR
 clear hR
 go_enter Tryz.func90, Tryz.ntmps90
 go_wp2
 go_loop [3] (fun i => ∃ k : Nat, k ≤ s.size ∧ i = .int .i64 k ∧ ∀ j b, j < k → s.data.toList[j]? = some b → nameB b = true) (fun i => s.size - (intOf i).toNat)
 case atStart => exact ⟨0, Nat.zero_le _, rfl, fun j _ hj => absurd hj (by omega)⟩
 case round =>
  obtain ⟨k, hk, rfl, hall⟩ := hrel
  have HA := Lib.hid hall
  clear hall
  by_cases hp : k < s.size
  ·
   by_cases hb : nameB s[k] = true
   ·
    have hb' : 33 ≤ s[k].toNat ∧ s[k].toNat ≤ 126 ∧ s[k].toNat ≠ 58 := by
     unfold nameB at hb
     simpa [and_assoc] using hb
    obtain ⟨b1, b2, b3⟩ := hb'
    have HM := Lib.hid (bytes_more hp HA.out hb)
    clear hb
    have g1 : decide ((s[k].toNat : Int) < 33) = false := by simp; omega
    have g2 : decide ((126 : Int) < (s[k].toNat : Int)) = false := by simp; omega
    have g3 : ((s[k].toNat : Int) == 58) = false := by rw [beq_eq_false_iff_ne]; omega
    go_wp2
    go_round
    case rel => exact ⟨k + 1, by omega, by go_num, HM.out⟩
    case measure => simp [intOf]; omega
   ·
    have hR : R = false := by
     rw [← HR.out]
     unfold isNameB
     rw [not_all_bytes hp (by simpa using hb)]
     rfl
    subst hR
    have hb' : s[k].toNat < 33 ∨ (33 ≤ s[k].toNat ∧ 126 < s[k].toNat) ∨ (33 ≤ s[k].toNat ∧ s[k].toNat ≤ 126 ∧ s[k].toNat = 58) := by
     unfold nameB at hb
     simp at hb
     omega
    clear hb
    rcases hb' with hn | ⟨hn, hm⟩ | ⟨hn, hm, h58⟩
    ·
     have g1 : decide ((s[k].toNat : Int) < 33) = true := by simp; omega
     go_wp2
     go_ret
     exact ⟨rfl, rfl⟩
    ·
     have g1 : decide ((s[k].toNat : Int) < 33) = false := by simp; omega
     have g2 : decide ((126 : Int) < (s[k].toNat : Int)) = true := by simp; omega
     go_wp2
     go_ret
     exact ⟨rfl, rfl⟩
    ·
     have g1 : decide ((s[k].toNat : Int) < 33) = false := by simp; omega
     have g2 : decide ((126 : Int) < (s[k].toNat : Int)) = false := by simp; omega
     have g3 : ((s[k].toNat : Int) == 58) = true := by rw [beq_iff_eq]; omega
     clear h58
     go_wp2
     go_ret
     exact ⟨rfl, rfl⟩
  ·
   have hR : R = decide (s.size ≠ 0) := by
    rw [← HR.out]
    unfold isNameB
    rw [all_bytes (fun j b hj => HA.out j b (by have := (List.getElem?_eq_some_iff.1 hj).1; simp at this; omega) hj), Bool.true_and]
   have HR2 := Lib.hid hR
   clear hR
   go_wp2
   go_ret
   refine ⟨ret_bool ?_, rfl⟩
   rw [HR2.out]
   exact str_some s
set_option maxRecDepth 100000 in
set_option maxHeartbeats 1000000 in
theorem refCmd_any (w : World) (s : ByteArray) (hs : s.size ≤ maxLen) :
  Calls Tryz.prog 91 #[.string s] w fun e w' => e = .returned (.bool (isCmdB s)) ∧ w = w' := by
 unfold maxLen at hs
 generalize hR : isCmdB s = R
 have HR := Lib.hid hR
 clear hR
 go_enter Tryz.func91, Tryz.ntmps91
 go_wp2
 go_loop [3] (fun i => ∃ k : Nat, k ≤ s.size ∧ i = .int .i64 k ∧ ∀ j b, j < k → s.data.toList[j]? = some b → cmdB b = true) (fun i => s.size - (intOf i).toNat)
 case atStart => exact ⟨0, Nat.zero_le _, rfl, fun j _ hj => absurd hj (by omega)⟩
 case round =>
  obtain ⟨k, hk, rfl, hall⟩ := hrel
  have HA := Lib.hid hall
  clear hall
  by_cases hp : k < s.size
  ·
   by_cases hb : cmdB s[k] = true
   ·
    have hb' : 32 ≤ s[k].toNat ∧ s[k].toNat ≤ 126 := by
     unfold cmdB at hb
     simpa using hb
    obtain ⟨b1, b2⟩ := hb'
    have HM := Lib.hid (bytes_more hp HA.out hb)
    clear hb
    have g1 : decide ((s[k].toNat : Int) < 32) = false := by simp; omega
    have g2 : decide ((126 : Int) < (s[k].toNat : Int)) = false := by simp; omega
    go_wp2
    go_round
    case rel => exact ⟨k + 1, by omega, by go_num, HM.out⟩
    case measure => simp [intOf]; omega
   ·
    have hR : R = false := by
     rw [← HR.out]
     unfold isCmdB
     exact not_all_bytes hp (by simpa using hb)
    subst hR
    have hb' : s[k].toNat < 32 ∨ (32 ≤ s[k].toNat ∧ 126 < s[k].toNat) := by
     unfold cmdB at hb
     simp at hb
     omega
    clear hb
    rcases hb' with hn | ⟨hn, hm⟩
    ·
     have g1 : decide ((s[k].toNat : Int) < 32) = true := by simp; omega
     go_wp2
     go_ret
     exact ⟨rfl, rfl⟩
    ·
     have g1 : decide ((s[k].toNat : Int) < 32) = false := by simp; omega
     have g2 : decide ((126 : Int) < (s[k].toNat : Int)) = true := by simp; omega
     go_wp2
     go_ret
     exact ⟨rfl, rfl⟩
  ·
   have hR : R = true := by
    rw [← HR.out]
    unfold isCmdB
    exact all_bytes (fun j b hj => HA.out j b (by have := (List.getElem?_eq_some_iff.1 hj).1; simp at this; omega) hj)
   subst hR
   go_wp2
   go_ret
   exact ⟨rfl, rfl⟩
end Go.Proofs.YtffoeodjbbkdjaaGreat
namespace Go.Proofs.YtffoeodjbbkdjaaGreat
open Go.RowKit
theorem ptFits_eq (nm cm : ByteArray) (nv : Value) (ss : List ByteArray) : ptFits (Tg.plain ⟨nm, cm, nv, ss⟩) = (decide (nm.size ≤ 32) && decide (cm.size ≤ 256) && decide (ss.length ≤ 16)) := rfl
theorem all_plain {ts : List Tg} {p : Pt → Bool} (h : ∀ (j : Nat) (t : Tg), ts[j]? = some t → p t.plain = true) : (ts.map Tg.plain).all p = true := by
 rw [List.all_eq_true]
 intro x hx
 obtain ⟨t, ht, rfl⟩ := List.mem_map.1 hx
 obtain ⟨j, hj⟩ := List.getElem?_of_mem ht
 exact h j t hj
theorem not_all_plain {ts : List Tg} {p : Pt → Bool} {k : Nat} {t : Tg} (ht : ts[k]? = some t) (h : p t.plain = false) : (ts.map Tg.plain).all p = false := by
 rw [List.all_eq_false]
 exact ⟨t.plain, List.mem_map.2 ⟨t, List.mem_of_getElem? ht, rfl⟩, by rw [h]; decide⟩
set_option maxRecDepth 100000 in
set_option maxHeartbeats 1000000 in
theorem grFits_any (w : World) (D : Nat → Prop) (v : Value) (ts : List Tg) (h : Tgs w D v ts) :
  Calls Tryz.prog 127 #[.agg #[v]] w fun e w' => e = .returned (.bool (grFits (ts.map Tg.plain))) ∧ Keep noneOf w w' := by
 obtain ⟨A, c, rfl, hlc, hcm, hn, hxl, hc⟩ := h.1
 unfold maxLen at hcm
 have EF := Lib.hid (show grFits (ts.map Tg.plain) = (decide (ts.length ≤ 32) && (ts.map Tg.plain).all ptFits) by unfold grFits; rw [List.length_map])
 generalize grFits (ts.map Tg.plain) = R at *
 have HC := Lib.hid hc
 have HT := Lib.hid h.2
 have HK0 := Lib.hid ((Keep.refl noneOf w).alloc (.cells #[.slice A ts.length c] 35))
 clear hc h hxl
 by_cases hb : ts.length ≤ 32
 ·
  have hb' : decide ((32 : Int) < (ts.length : Int)) = false := by simp; omega
  go_enter Tryz.func127, Tryz.ntmps127
  go_wp2
  go_loopw [12] (fun i wr => ∃ k : Nat, k ≤ ts.length ∧ i = .int .i64 k ∧ Keep noneOf w wr ∧ ∀ j t, j < k → ts[j]? = some t → ptFits t.plain = true) (fun i _ => ts.length - (intOf i).toNat)
  case atStart => exact ⟨0, Nat.zero_le _, rfl, HK0.out, fun j _ hj => absurd hj (by omega)⟩
  case round =>
   obtain ⟨k, hk, rfl, hkeep, hall⟩ := hrel
   have HA := Lib.hid hall
   have HKP := Lib.hid hkeep
   clear hall HK0
   by_cases hlt : k < ts.length
   ·
    obtain ⟨ad, rfl, hsp, hblk, hD, hcell⟩ := HC.out (by omega)
    obtain ⟨b, o, sp⟩ := ad
    simp only at hsp hblk hD hcell
    subst hsp
    have HS := Lib.hid (List.getElem?_eq_getElem hlt)
    have hlies := HT.out _ (List.getElem_mem hlt)
    generalize ts[k] = t at *
    obtain ⟨c0, c1, c2⟩ := tgs_at hkeep hblk hcell HS.out
    clear hcell hkeep
    obtain ⟨nm, cm, nv, ss⟩ := t
    obtain ⟨l1, l2, ⟨A2, cp2, hnv, hl2, hm2, _⟩, _⟩ := hlies
    simp only at c0 c1 c2 hnv l1 l2 hl2
    subst hnv
    unfold maxLen at l1 l2 hm2
    by_cases hq : nm.size ≤ 32 ∧ cm.size ≤ 256 ∧ ss.length ≤ 16
    ·
     obtain ⟨b1, b2, b3⟩ := hq
     have HF := Lib.hid (show ptFits (Tg.plain ⟨nm, cm, .slice A2 ss.length cp2, ss⟩) = true by rw [ptFits_eq]; simp [b1, b2, b3])
     go_wp2
     go_roundw
     case rel =>
      refine ⟨k + 1, by omega, by go_num, HKP.out.alloc _, fun j t hj e => ?_⟩
      rcases Nat.lt_or_ge j k with h | h
      ·
       exact HA.out j t h e
      ·
       have : j = k := by omega
       subst this
       rw [HS.out] at e
       injection e with e
       rw [← e]
       exact HF.out
     case measure => simp [intOf]; omega
    ·
     have hf : ptFits (Tg.plain ⟨nm, cm, .slice A2 ss.length cp2, ss⟩) = false := by
      rw [ptFits_eq]
      by_cases h1 : nm.size ≤ 32
      ·
       by_cases h2 : cm.size ≤ 256
       ·
        have h3 : ¬ ss.length ≤ 16 := fun h3 => hq ⟨h1, h2, h3⟩
        simp [h3]
       ·
        simp [h2]
      ·
       simp [h1]
     have hR : R = false := by
      rw [EF.out, not_all_plain HS.out hf, Bool.and_false]
     subst hR
     have HB : ¬ nm.size ≤ 32 ∨ (nm.size ≤ 32 ∧ ¬ cm.size ≤ 256) ∨ (nm.size ≤ 32 ∧ cm.size ≤ 256 ∧ ¬ ss.length ≤ 16) := by omega
     clear hq hf
     rcases HB with hb | ⟨ha, hb⟩ | ⟨ha, ha', hb⟩
     all_goals
      go_wp2
      go_ret
      exact ⟨rfl, HKP.out.alloc _⟩
   ·
    have hR : R = true := by
     rw [EF.out, all_plain (fun j t hj => HA.out j t (by have := (List.getElem?_eq_some_iff.1 hj).1; omega) hj)]
     simpa using hb
    subst hR
    go_wp2
    go_ret
    exact ⟨rfl, HKP.out⟩
 ·
  have hR : R = false := by rw [EF.out]; simp [hb]
  subst hR
  go_enter Tryz.func127, Tryz.ntmps127
  go_wp2
  go_ret
  exact ⟨rfl, HK0.out⟩
theorem grFormed_true {ts : List Tg} (h0 : ts ≠ []) (h : ∀ (j : Nat) (t : Tg), ts[j]? = some t → ptFormed (ts.map Tg.plain) j t.plain = true) : grFormed (ts.map Tg.plain) = true := by
 unfold grFormed
 rw [Bool.and_eq_true, decide_eq_true_eq, List.all_eq_true]
 refine ⟨by simpa using h0, fun i hi => ?_⟩
 have hi' : i < ts.length := by simpa using hi
 rw [plain_at (List.getElem?_eq_getElem hi')]
 exact h i _ (List.getElem?_eq_getElem hi')
theorem grFormed_false {ts : List Tg} {k : Nat} {t : Tg} (ht : ts[k]? = some t) (h : ptFormed (ts.map Tg.plain) k t.plain = false) : grFormed (ts.map Tg.plain) = false := by
 unfold grFormed
 rw [Bool.and_eq_false_iff]
 right
 rw [List.all_eq_false]
 refine ⟨k, by simpa using (List.getElem?_eq_some_iff.1 ht).1, ?_⟩
 rw [plain_at ht]
 simp [h]
theorem findIx_there {ps : List Pt} {k : Nat} {p : Pt} (h : ps[k]? = some p) : ∃ j, findIx ps p.name = some j := by
 cases hf : findIx ps p.name with
 | some j => exact ⟨j, rfl⟩
 | none =>
  unfold findIx at hf
  rw [List.findIdx?_eq_none_iff] at hf
  exact absurd (hf p (List.mem_of_getElem? h)) (by simp)
set_option maxRecDepth 100000 in
set_option maxHeartbeats 1000000 in
theorem grFormed_any (w : World) (D : Nat → Prop) (v : Value) (ts : List Tg) (h : Tgs w D v ts) :
  Calls Tryz.prog 128 #[.agg #[v]] w fun e w' => e = .returned (.bool (grFormed (ts.map Tg.plain))) ∧ Keep noneOf w w' := by
 have HH := Lib.hid h
 obtain ⟨A, c, rfl, hlc, hcm, hn, hxl, hc⟩ := h.1
 unfold maxLen at hcm
 generalize hR : grFormed (ts.map Tg.plain) = R
 have HR := Lib.hid hR
 have HC := Lib.hid hc
 have HT := Lib.hid h.2
 have HK0 := Lib.hid ((Keep.refl noneOf w).alloc (.cells #[.slice A ts.length c] 35))
 have HX0 := Lib.hid (Box.new w 35 #[.slice A ts.length c])
 clear hc h hxl hR
 go_enter Tryz.func128, Tryz.ntmps128
 go_wp2
 go_loopw [10] (fun i wr => ∃ k : Nat, k ≤ ts.length ∧ i = .int .i64 k ∧ Keep noneOf w wr ∧ Box wr w.heap.size 35 #[.slice A ts.length c] ∧ ∀ j t, j < k → ts[j]? = some t → ptFormed (ts.map Tg.plain) j t.plain = true) (fun i _ => ts.length - (intOf i).toNat)
 case atStart => exact ⟨0, Nat.zero_le _, rfl, HK0.out, HX0.out, fun j _ hj => absurd hj (by omega)⟩
 case round =>
  obtain ⟨k, hk, rfl, hkeep, hX, hall⟩ := hrel
  have HA := Lib.hid hall
  have HKP := Lib.hid hkeep
  have x0 : wr.cell? ⟨w.heap.size, 0, none⟩ = some (.slice A ts.length c) := hX.cell 0
  have hz := hX.lt
  have HX := Lib.hid hX
  clear hall HK0 HX0 hX
  by_cases hlt : k < ts.length
  ·
   obtain ⟨ad, rfl, hsp, hblk, hD, hcell⟩ := HC.out (by omega)
   obtain ⟨b, o, sp⟩ := ad
   simp only at hsp hblk hD hcell
   subst hsp
   have HS := Lib.hid (List.getElem?_eq_getElem hlt)
   have hlies := HT.out _ (List.getElem_mem hlt)
   generalize ts[k] = t at *
   obtain ⟨c0, c1, c2⟩ := tgs_at hkeep hblk hcell HS.out
   have HEQ := Lib.hid (show ptFormed (ts.map Tg.plain) k t.plain = (decide (findIx (ts.map Tg.plain) t.name = some k) && isNameB t.name && isCmdB t.cmd && decide t.needs.Nodup) from rfl)
   obtain ⟨nm, cm, nv, ss⟩ := t
   obtain ⟨l1, l2, hstr⟩ := hlies
   obtain ⟨⟨A2, cp2, hnv, hl2, hm2, _⟩, _⟩ := id hstr
   simp only at c0 c1 c2 hnv l1 l2 hl2 hstr HEQ
   subst hnv
   obtain ⟨f, hf⟩ := findIx_there (plain_at HS.out)
   have hfn : findIx (ts.map Tg.plain) nm = some f := hf
   rw [hfn] at HEQ
   have ka := (Keep.refl noneOf wr).alloc (.cells #[.string nm, .string cm, .slice A2 ss.length cp2] 64)
   have HF := find_any _ D _ ts nm ((HH.out.keep hkeep (fun _ _ _ => id)).keep ka (fun _ _ _ => id))
   rw [hfn] at HF
   have HFF := Lib.hid HF
   have y0 := Box.new wr 64 #[.string nm, .string cm, .slice A2 ss.length cp2]
   have HY0 := Lib.hid y0
   have HX1 := Lib.hid (HX.out.alloc (.cells #[.string nm, .string cm, .slice A2 ss.length cp2] 64))
   have HK1 := Lib.hid (hkeep.alloc (.cells #[.string nm, .string cm, .slice A2 ss.length cp2] 64))
   have HSTR := Lib.hid ((hstr.keep hkeep (fun _ _ _ => id)).keep ka (fun _ _ _ => id))
   clear hcell hkeep hf hfn HF y0 ka hstr HX
   go_wp2_with fail
   refine HFF.out.mono ?_
   rintro e w1 ⟨rfl, k1⟩
   simp only [Option.getD_some, Option.isSome_some]
   have Y1 := HY0.out.keep k1 id
   have X1 := HX1.out.keep k1 id
   have K1 := HK1.out.trans k1 (fun _ _ h => h)
   have S1 := HSTR.out.keep k1 (fun _ _ _ => id)
   have hy1 := Y1.lt
   have y0 : w1.cell? ⟨wr.heap.size, 0, none⟩ = some (.string nm) := Y1.cell 0
   clear HFF HY0 HX1 HK1 HSTR
   have HK1 := Lib.hid K1
   have HX1 := Lib.hid X1
   have HY1 := Lib.hid Y1
   have HS1 := Lib.hid S1
   clear K1 X1 Y1 S1 k1
   by_cases hfk : f = k
   ·
    subst hfk
    cases hN : isNameB nm with
    | false =>
     have hR : R = false := by
      rw [← HR.out]
      refine grFormed_false HS.out ?_
      rw [HEQ.out, hN]
      simp
     subst hR
     clear HEQ
     go_wp2_with fail
     refine (isName_any w1 nm).mono ?_
     rintro e w2 ⟨rfl, k2⟩
     rw [hN]
     clear hN
     go_wp2
     go_ret
     exact ⟨rfl, HK1.out.trans k2 (fun _ _ h => h)⟩
    | true =>
     have IN := isName_any w1 nm
     rw [hN] at IN HEQ
     have HIN := Lib.hid IN
     clear IN hN
     go_wp2_with fail
     refine HIN.out.mono ?_
     rintro e w2 ⟨rfl, k2⟩
     have K2 := HK1.out.trans k2 (fun _ _ h => h)
     have X2 := HX1.out.keep k2 id
     have Y2 := HY1.out.keep k2 id
     have S2 := HS1.out.keep k2 (fun _ _ _ => id)
     have y1 : w2.cell? ⟨wr.heap.size, 1, none⟩ = some (.string cm) := Y2.cell 1
     clear HK1 HX1 HY1 HS1 HIN k2 y0
     have HK2 := Lib.hid K2
     have HX2 := Lib.hid X2
     have HY2 := Lib.hid Y2
     have HS2 := Lib.hid S2
     have hy2 := Y2.lt
     clear K2 X2 Y2 S2
     cases hN : isCmdB cm with
     | false =>
      have hR : R = false := by
       rw [← HR.out]
       refine grFormed_false HS.out ?_
       rw [HEQ.out, hN]
       simp
      subst hR
      have IN := isCmd_any w2 cm
      rw [hN] at IN
      have HIN := Lib.hid IN
      clear IN hN HEQ
      go_wp2_with fail
      refine HIN.out.mono ?_
      rintro e w3 ⟨rfl, k3⟩
      go_wp2
      go_ret
      exact ⟨rfl, HK2.out.trans k3 (fun _ _ h => h)⟩
     | true =>
      have IN := isCmd_any w2 cm
      rw [hN] at IN HEQ
      have HIN := Lib.hid IN
      clear IN hN
      go_wp2_with fail
      refine HIN.out.mono ?_
      rintro e w3 ⟨rfl, k3⟩
      have K3 := HK2.out.trans k3 (fun _ _ h => h)
      have X3 := HX2.out.keep k3 id
      have Y3 := HY2.out.keep k3 id
      have y2 : w3.cell? ⟨wr.heap.size, 2, none⟩ = some (.slice A2 ss.length cp2) := Y3.cell 2
      have RP := repeats_any w3 D _ ss (HS2.out.keep k3 (fun _ _ _ => id))
      have hy3 := Y3.lt
      clear HK2 HX2 HY2 HS2 HIN k3 y1
      cases hN : decide ss.Nodup with
      | false =>
       have hR : R = false := by
        rw [← HR.out]
        refine grFormed_false HS.out ?_
        rw [HEQ.out, hN]
        simp
       subst hR
       rw [hN] at RP
       have HRP := Lib.hid RP
       clear RP hN HEQ
       go_wp2_with fail
       refine HRP.out.mono ?_
       rintro e w4 ⟨rfl, rfl⟩
       go_wp2
       go_ret
       exact ⟨rfl, K3⟩
      | true =>
       rw [hN] at RP HEQ
       have HRP := Lib.hid RP
       have HF := Lib.hid (show ptFormed (ts.map Tg.plain) f (Tg.plain ⟨nm, cm, .slice A2 ss.length cp2, ss⟩) = true by rw [HEQ.out]; simp)
       clear RP hN HEQ
       go_wp2_with fail
       refine HRP.out.mono ?_
       rintro e w4 ⟨rfl, rfl⟩
       go_wp2
       go_roundw
       case rel =>
        refine ⟨f + 1, by omega, by go_num, K3, X3, fun j t hj e => ?_⟩
        rcases Nat.lt_or_ge j f with h | h
        ·
         exact HA.out j t h e
        ·
         have : j = f := by omega
         subst this
         rw [HS.out] at e
         injection e with e
         rw [← e]
         exact HF.out
       case measure => simp [intOf]; omega
   ·
    have hR : R = false := by
     rw [← HR.out]
     refine grFormed_false HS.out ?_
     rw [HEQ.out]
     simp [hfk]
    subst hR
    have g : ((f : Int) != (k : Int)) = true := by rw [bne_iff_ne]; omega
    have g' : ((f : Int) == (k : Int)) = false := by rw [beq_eq_false_iff_ne]; omega
    clear HEQ hfk
    go_wp2
    go_ret
    exact ⟨rfl, HK1.out⟩
  ·
   have hx : k = ts.length := by omega
   by_cases h0 : ts = []
   ·
    have hR : R = false := by rw [← HR.out, h0]; rfl
    subst hR h0
    go_wp2
    go_ret
    exact ⟨rfl, HKP.out⟩
   ·
    have hR : R = true := by
     rw [← HR.out]
     exact grFormed_true h0 (fun j t hj => HA.out j t (by have := (List.getElem?_eq_some_iff.1 hj).1; omega) hj)
    subst hR
    have hpos : 0 < ts.length := List.length_pos_iff.2 h0
    clear h0 hx
    go_wp2
    go_ret
    exact ⟨rfl, HKP.out⟩
end Go.Proofs.YtffoeodjbbkdjaaGreat
