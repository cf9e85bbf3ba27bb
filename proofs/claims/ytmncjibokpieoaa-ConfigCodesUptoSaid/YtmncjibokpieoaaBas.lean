/-
  Words of no seat's types: texts of bytes, rows of one's own.
-/
import Derived.Test.YtmncjibokpieoaaOpn
import Derived.Test.YtmncjibokpieoaaHeld
namespace Go.Proofs.Ytmncjibokpieoaa
open Go.RowKit

theorem str_beq (s t : ByteArray) : (s.toList == t.toList) = decide (s = t) := by
  rw [Bool.eq_iff_iff, beq_iff_eq, decide_eq_true_eq, ByteArray.toList_eq, ByteArray.toList_eq]
  constructor
  · intro h
    obtain ⟨⟨l⟩⟩ := s
    obtain ⟨⟨m⟩⟩ := t
    have h' : l = m := h
    rw [h']
  · rintro rfl
    rfl

theorem ret_bool {a b : Bool} (h : a = b) : Ending.returned (.bool a) = .returned (.bool b) := by rw [h]

theorem info_parts {P : Program} {t : TypeId} {x : Option Value} {s b : Nat} (h : (P.info? t).map (fun i => (i.zero, i.size, i.bytes)) = some (x, s, b)) : ∃ i, P.info? t = some i ∧ i.zero = x ∧ i.size = s ∧ i.bytes = b := by
  cases hi : P.info? t with
  | none => rw [hi] at h; cases h
  | some i =>
    rw [hi] at h
    simp at h
    exact ⟨i, rfl, h.1, h.2.1, h.2.2⟩
theorem Row.of_own {w : World} {base : Nat} {e : TypeId} {size : Nat} {v : Value} {n : Nat} {xs : List Value} (h : w.ownsRow base e size v n xs) : Row w (fun k => base ≤ k) v n size xs := by
  rcases h.2 with ⟨rfl, rfl⟩ | ⟨g, cap, cur, rfl, hb, hg, hle, hmx, hsz, htk⟩
  · exact ⟨none, 0, rfl, Nat.le_refl _, Nat.zero_le _, fun _ => rfl, h.1, fun h0 => absurd h0 (by simp)⟩
  · refine ⟨some ⟨g, 0, none⟩, cap, rfl, hle, hmx, fun e => (by cases e), h.1, fun _ => ⟨⟨g, 0, none⟩, rfl, rfl, (Array.getElem?_eq_some_iff.1 hg).1, hb, fun j b hb => ?_⟩⟩
    rw [← htk, List.getElem?_take] at hb
    split at hb
    · show w.cell? ⟨g, 0 + j, none⟩ = _
      rw [Nat.zero_add, cell_of_row w g j cur e (0, 0) hg]
      simpa using hb
    · cases hb

theorem byte_at {s : ByteArray} {k : Nat} (h : k < s.size) : s.data.toList[k]? = some s[k] := by
  have h2 : k < s.data.toList.length := by simpa using h
  rw [List.getElem?_eq_getElem h2]
  rfl
theorem all_bytes {s : ByteArray} {p : UInt8 → Bool} (h : ∀ (j : Nat) (b : UInt8), s.data.toList[j]? = some b → p b = true) : s.data.toList.all p = true := by
  rw [List.all_eq_true]
  intro b hb
  obtain ⟨j, hj⟩ := List.getElem?_of_mem hb
  exact h j b hj
theorem not_all_bytes {s : ByteArray} {p : UInt8 → Bool} {k : Nat} (hk : k < s.size) (h : p s[k] = false) : s.data.toList.all p = false := by
  rw [List.all_eq_false]
  exact ⟨s[k], List.mem_of_getElem? (byte_at hk), by rw [h]; decide⟩
theorem bytes_more {s : ByteArray} {p : UInt8 → Bool} {k : Nat} (hk : k < s.size) (h : ∀ j b, j < k → s.data.toList[j]? = some b → p b = true) (h1 : p s[k] = true) : ∀ j b, j < k + 1 → s.data.toList[j]? = some b → p b = true := by
  intro j b hj e
  rcases Nat.lt_or_ge j k with h2 | h2
  · exact h j b h2 e
  · have : j = k := by omega
    subst this
    rw [byte_at hk] at e
    injection e with e
    rw [← e]
    exact h1

theorem str_some (s : ByteArray) : (!s.toList.isEmpty) = decide (s.size ≠ 0) := by
  rw [ByteArray.toList_eq, Bool.eq_iff_iff]
  obtain ⟨⟨l⟩⟩ := s
  cases l <;> simp [ByteArray.size]

theorem own_row {w : World} {base : Nat} {e : TypeId} {size : Nat} {v : Value} {n : Nat} {xs : List Value} (h : w.ownsRow base e size v n xs) {k : Nat} (hk : some k = v.ownBlock) : base ≤ k ∧ ∃ cs fz, w.heap[k]? = some (.cells cs e fz) := by
  rcases h.2 with ⟨rfl, _⟩ | ⟨g, cap, cur, rfl, hb, hg, _⟩
  · cases hk
  · have : k = g := by simpa [Value.ownBlock] using hk
    subst this
    exact ⟨hb, _, _, hg⟩

theorem own_base {w : World} {base base' : Nat} {e : TypeId} {size : Nat} {v : Value} {n : Nat} {xs : List Value} (h : w.ownsRow base e size v n xs) (hb : base' ≤ base) : w.ownsRow base' e size v n xs := by
  refine ⟨h.1, ?_⟩
  rcases h.2 with h0 | ⟨g, cap, cur, hv, hg, rest⟩
  · exact .inl h0
  · exact .inr ⟨g, cap, cur, hv, Nat.le_trans hb hg, rest⟩
theorem Bytes.shape' {w : World} {D : Nat → Prop} {v : Value} {bs : List UInt8} (h : Bytes w D v bs) : ∃ A c, v = .slice A bs.length c ∧ bs.length ≤ maxLen := by
  obtain ⟨A, c, hv, h1, h2, _⟩ := h
  exact ⟨A, c, hv, Nat.le_trans h1 h2⟩
end Go.Proofs.Ytmncjibokpieoaa
