import Derived.Laws.RangeAny
import Derived.Test.YtkoikmdmejhhhaaGreatBs02
namespace Go.Proofs.YtkoikmdmejhhhaaGreat
open Go.RowKit
theorem byte_at {s : ByteArray} {k : Nat} (h : k < s.size) : s.data.toList[k]? = some s[k] := by
  have h2 : k < s.data.toList.length := by simpa using h
  rw [List.getElem?_eq_getElem h2]
  rfl
theorem all_bytes {s : ByteArray} {p : UInt8 → Bool} (h : ∀ (j : Nat) (b : UInt8), s.data.toList[j]? = some b → p b = true) : s.data.toList.all p = true := by
  rw [List.all_eq_true]
  intro b hb
  obtain ⟨j, hj⟩ := List.getElem?_of_mem hb
  exact h j b hj
theorem not_all_bytes {s : ByteArray} {p : UInt8 → Bool} {k : Nat} (hk : k < s.size) (h : p s[k] = false) : s.data.toList.all p = false := by
  rw [List.all_eq_false]
  exact ⟨s[k], List.mem_of_getElem? (byte_at hk), by rw [h]; decide⟩
theorem bytes_more {s : ByteArray} {p : UInt8 → Bool} {k : Nat} (hk : k < s.size) (h : ∀ j b, j < k → s.data.toList[j]? = some b → p b = true) (h1 : p s[k] = true) : ∀ j b, j < k + 1 → s.data.toList[j]? = some b → p b = true := by
  intro j b hj e
  rcases Nat.lt_or_ge j k with h2 | h2
  · exact h j b h2 e
  · have : j = k := by omega
    subst this
    rw [byte_at hk] at e
    injection e with e
    rw [← e]
    exact h1
theorem str_some (s : ByteArray) : (!s.toList.isEmpty) = decide (s.size ≠ 0) := by
  rw [ByteArray.toList_eq, Bool.eq_iff_iff]
  obtain ⟨⟨l⟩⟩ := s
  cases l <;> simp [ByteArray.size]
set_option maxRecDepth 100000 in
set_option maxHeartbeats 1000000 in
theorem isName_any (w : World) (s : ByteArray) :
    Calls Tryz.prog 169 #[.string s] w fun e w' => e = .returned (.bool (isNameB s)) ∧ Keep noneOf w w' := by
  generalize hR : isNameB s = R
  have HR := Lib.hid hR
  clear hR
  have HK : Hid (∀ p, Keep noneOf w (w.iter s p)) := fun p => (Keep.refl noneOf w).alloc _
  go_enter Tryz.func169, Tryz.ntmps169
  go_wp2
  go_loopw [] (fun wr => ∃ pos : Nat, pos ≤ s.size ∧ wr = w.iter s pos ∧ ∀ j b, j < pos → s.data.toList[j]? = some b → nameB b = true) (fun wr => s.size - wr.iterPos w.heap.size)
  case atStart => exact ⟨0, Nat.zero_le _, rfl, fun j _ hj => absurd hj (by omega)⟩
  case round =>
    obtain ⟨pos, hpos, rfl, hall⟩ := hrel
    have HA := Lib.hid hall
    clear hall
    by_cases hp : pos < s.size
    · by_cases hb : nameB s[pos] = true
      · have hb' : 33 ≤ s[pos].toNat ∧ s[pos].toNat ≤ 126 ∧ s[pos].toNat ≠ 58 := by
          unfold nameB at hb
          simpa [and_assoc] using hb
        have hnx : ∀ ty, (Instr.next (.pointer (some ⟨w.heap.size, 0, none⟩)) true ty).run Tryz.prog (w.iter s pos) = _ := fun ty => run_next_ascii w s pos ty hp (by omega)
        obtain ⟨b1, b2, b3⟩ := hb'
        have HM := Lib.hid (bytes_more hp HA.out hb)
        clear hb
        generalize s[pos].toNat = n at *
        have g1 : decide ((n : Int) ≤ 32) = false := by simp; omega
        have g2 : decide ((126 : Int) < (n : Int)) = false := by simp; omega
        have g3 : ((n : Int) == 58) = false := by rw [beq_eq_false_iff_ne]; omega
        go_wp2
        go_roundw
        case rel => exact ⟨pos + 1, by omega, rfl, HM.out⟩
        case measure => simp only [World.iterPos_iter]; omega
      · have hR : R = false := by
          rw [← HR.out]
          unfold isNameB
          rw [not_all_bytes hp (by simpa using hb)]
          rfl
        subst hR
        have hb' : s[pos].toNat ≤ 32 ∨ 126 < s[pos].toNat ∨ s[pos].toNat = 58 := by
          unfold nameB at hb
          simp at hb
          omega
        have hd : ∃ n p', Utf8.decode s pos = (n, p') ∧ (n ≤ 32 ∨ (32 < n ∧ 126 < n) ∨ n = 58) ∧ n ≤ 2147483647 := by
          by_cases ha : s[pos].toNat < 128
          · exact ⟨_, _, decode_ascii s pos hp ha, by omega, by omega⟩
          · have h1 := decode_high s pos hp (by omega)
            have h2 := decode_le s pos
            exact ⟨(Utf8.decode s pos).1, (Utf8.decode s pos).2, rfl, by omega, h2⟩
        obtain ⟨n, p', hdec, hn, hn2⟩ := hd
        have hnx : ∀ ty, (Instr.next (.pointer (some ⟨w.heap.size, 0, none⟩)) true ty).run Tryz.prog (w.iter s pos) = .ok (.tuple #[.bool true, .int .i64 pos, .int .i32 n]) (w.iter s (pos + p')) := fun ty => by rw [run_next_any w s pos ty hp, hdec]
        clear hdec hb hb'
        rcases hn with hn | ⟨hn, hm⟩ | rfl
        · have g1 : decide ((n : Int) ≤ 32) = true := by simp; omega
          go_wp2
          go_ret
          exact ⟨rfl, HK.out _⟩
        · have g1 : decide ((n : Int) ≤ 32) = false := by simp; omega
          have g2 : decide ((126 : Int) < (n : Int)) = true := by simp; omega
          go_wp2
          go_ret
          exact ⟨rfl, HK.out _⟩
        · go_wp2
          go_ret
          exact ⟨rfl, HK.out _⟩
    · have hnx : ∀ ty, (Instr.next (.pointer (some ⟨w.heap.size, 0, none⟩)) true ty).run Tryz.prog (w.iter s pos) = _ := fun ty => run_next_end w s pos ty hp
      have hR : R = decide (s.size ≠ 0) := by
        rw [← HR.out]
        unfold isNameB
        rw [all_bytes (fun j b hj => HA.out j b (by have := (List.getElem?_eq_some_iff.1 hj).1; simp at this; omega) hj), Bool.true_and]
      have HR2 := Lib.hid hR
      clear hR
      go_wp2
      go_ret
      refine ⟨ret_bool ?_, HK.out _⟩
      rw [HR2.out]
      exact str_some s
set_option maxRecDepth 100000 in
set_option maxHeartbeats 1000000 in
theorem isCmd_any (w : World) (s : ByteArray) :
    Calls Tryz.prog 170 #[.string s] w fun e w' => e = .returned (.bool (isCmdB s)) ∧ Keep noneOf w w' := by
  generalize hR : isCmdB s = R
  have HR := Lib.hid hR
  clear hR
  have HK : Hid (∀ p, Keep noneOf w (w.iter s p)) := fun p => (Keep.refl noneOf w).alloc _
  go_enter Tryz.func170, Tryz.ntmps170
  go_wp2
  go_loopw [] (fun wr => ∃ pos : Nat, pos ≤ s.size ∧ wr = w.iter s pos ∧ ∀ j b, j < pos → s.data.toList[j]? = some b → cmdB b = true) (fun wr => s.size - wr.iterPos w.heap.size)
  case atStart => exact ⟨0, Nat.zero_le _, rfl, fun j _ hj => absurd hj (by omega)⟩
  case round =>
    obtain ⟨pos, hpos, rfl, hall⟩ := hrel
    have HA := Lib.hid hall
    clear hall
    by_cases hp : pos < s.size
    · by_cases hb : cmdB s[pos] = true
      · have hb' : 32 ≤ s[pos].toNat ∧ s[pos].toNat ≤ 126 := by
          unfold cmdB at hb
          simpa using hb
        have hnx : ∀ ty, (Instr.next (.pointer (some ⟨w.heap.size, 0, none⟩)) true ty).run Tryz.prog (w.iter s pos) = _ := fun ty => run_next_ascii w s pos ty hp (by omega)
        obtain ⟨b1, b2⟩ := hb'
        have HM := Lib.hid (bytes_more hp HA.out hb)
        clear hb
        generalize s[pos].toNat = n at *
        have g1 : decide ((n : Int) < 32) = false := by simp; omega
        have g2 : decide ((126 : Int) < (n : Int)) = false := by simp; omega
        go_wp2
        go_roundw
        case rel => exact ⟨pos + 1, by omega, rfl, HM.out⟩
        case measure => simp only [World.iterPos_iter]; omega
      · have hR : R = false := by
          rw [← HR.out]
          unfold isCmdB
          exact not_all_bytes hp (by simpa using hb)
        subst hR
        have hb' : s[pos].toNat < 32 ∨ 126 < s[pos].toNat := by
          unfold cmdB at hb
          simp at hb
          omega
        have hd : ∃ n p', Utf8.decode s pos = (n, p') ∧ (n < 32 ∨ (32 < n ∧ 126 < n)) ∧ n ≤ 2147483647 := by
          by_cases ha : s[pos].toNat < 128
          · exact ⟨_, _, decode_ascii s pos hp ha, by omega, by omega⟩
          · have h1 := decode_high s pos hp (by omega)
            have h2 := decode_le s pos
            exact ⟨(Utf8.decode s pos).1, (Utf8.decode s pos).2, rfl, by omega, h2⟩
        obtain ⟨n, p', hdec, hn, hn2⟩ := hd
        have hnx : ∀ ty, (Instr.next (.pointer (some ⟨w.heap.size, 0, none⟩)) true ty).run Tryz.prog (w.iter s pos) = .ok (.tuple #[.bool true, .int .i64 pos, .int .i32 n]) (w.iter s (pos + p')) := fun ty => by rw [run_next_any w s pos ty hp, hdec]
        clear hdec hb hb'
        rcases hn with hn | ⟨hn, hm⟩
        · have g1 : decide ((n : Int) < 32) = true := by simp; omega
          go_wp2
          go_ret
          exact ⟨rfl, HK.out _⟩
        · have g1 : decide ((n : Int) < 32) = false := by simp; omega
          have g2 : decide ((126 : Int) < (n : Int)) = true := by simp; omega
          go_wp2
          go_ret
          exact ⟨rfl, HK.out _⟩
    · have hnx : ∀ ty, (Instr.next (.pointer (some ⟨w.heap.size, 0, none⟩)) true ty).run Tryz.prog (w.iter s pos) = _ := fun ty => run_next_end w s pos ty hp
      have hR : R = true := by
        rw [← HR.out]
        unfold isCmdB
        exact all_bytes (fun j b hj => HA.out j b (by have := (List.getElem?_eq_some_iff.1 hj).1; simp at this; omega) hj)
      subst hR
      go_wp2
      go_ret
      exact ⟨rfl, HK.out _⟩
end Go.Proofs.YtkoikmdmejhhhaaGreat
