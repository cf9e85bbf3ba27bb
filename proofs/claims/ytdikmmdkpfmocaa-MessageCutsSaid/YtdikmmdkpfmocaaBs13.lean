import Derived.Test.YtdikmmdkpfmocaaBs08
import Derived.Test.YtdikmmdkpfmocaaBs10
import Derived.Test.YtdikmmdkpfmocaaBs12
namespace Go.Proofs.Ytdikmmdkpfmocaa
open Go.RowKit
theorem pow4 : 256 ^ 4 = 4294967296 := by decide
theorem unfr_frame (bs : List UInt8) (h : bs.length ≤ 16777216) : unfr (frameOf bs) = (bs, bs.length + 12, 0) := by
  have hl := frame_length bs
  have hS : sumOf (be bs.length 4) < 256 ^ 4 := by rw [pow4]; exact sumOf_lt _
  have hT : sumOf bs < 256 ^ 4 := by rw [pow4]; exact sumOf_lt _
  have t4 : (frameOf bs).take 4 = be bs.length 4 := by
    unfold frameOf
    rw [List.append_assoc, List.append_assoc, List.take_left' (be_length _ _)]
  have d4 : (frameOf bs).drop 4 = be (sumOf (be bs.length 4)) 4 ++ (bs ++ be (sumOf bs) 4) := by
    unfold frameOf
    rw [List.append_assoc, List.append_assoc, List.drop_left' (be_length _ _)]
  have d8 : (frameOf bs).drop 8 = bs ++ be (sumOf bs) 4 := by
    rw [show 8 = 4 + 4 from rfl, ← List.drop_drop, d4, List.drop_left' (be_length _ _)]
  have n4 : num ((frameOf bs).take 4) = bs.length := by rw [t4, num_be _ _ (by rw [pow4]; omega)]
  unfold unfr
  rw [n4, if_neg (by omega), if_neg (by rw [d4, List.take_left' (be_length _ _), t4, num_be _ _ hS]; exact fun h => h rfl), if_neg (by omega), if_neg (by omega)]
  rw [if_neg (by rw [← List.drop_drop, d8, List.drop_left' rfl, List.take_left' rfl, List.take_of_length_le (by rw [be_length]; exact Nat.le_refl _), num_be _ _ hT]; exact fun h => h rfl)]
  rw [d8, List.take_left' rfl]
theorem unfr_was (b : List UInt8) (h0 : (unfr b).2.2 = 0) (h1 : (unfr b).2.1 = b.length) : b = frameOf (unfr b).1 ∧ (unfr b).1.length ≤ 16777216 := by
  unfold unfr at h0 h1 ⊢
  split at h0
  · cases h0
  rename_i g8
  rw [if_neg g8] at h1 ⊢
  split at h0
  · cases h0
  rename_i gs
  rw [if_neg gs] at h1 ⊢
  split at h0
  · cases h0
  rename_i gl
  rw [if_neg gl] at h1 ⊢
  split at h0
  · cases h0
  rename_i gn
  rw [if_neg gn] at h1 ⊢
  split at h0
  · cases h0
  rename_i gt
  rw [if_neg gt] at h1 ⊢
  simp only at h1 ⊢
  have gs' := Decidable.not_not.1 gs
  have gt' := Decidable.not_not.1 gt
  obtain ⟨A, hA⟩ : ∃ A, b.take 4 = A := ⟨_, rfl⟩
  obtain ⟨B, hB⟩ : ∃ B, (b.drop 4).take 4 = B := ⟨_, rfl⟩
  obtain ⟨C, hC⟩ : ∃ C, (b.drop 8).take (num A) = C := ⟨_, rfl⟩
  obtain ⟨E, hE⟩ : ∃ E, (b.drop (8 + num A)).take 4 = E := ⟨_, rfl⟩
  rw [hA] at gs' gt' h1 gl gn ⊢
  rw [hB] at gs'
  rw [hC] at gt' ⊢
  rw [hE] at gt'
  have lA : A.length = 4 := by rw [← hA, List.length_take]; omega
  have lB : B.length = 4 := by rw [← hB, List.length_take, List.length_drop]; omega
  have lC : C.length = num A := by rw [← hC, List.length_take, List.length_drop]; omega
  have lE : E.length = 4 := by rw [← hE, List.length_take, List.length_drop]; omega
  have hb : b = A ++ B ++ C ++ E := by
    have e1 : b = A ++ b.drop 4 := by rw [← hA, List.take_append_drop]
    have e2 : b.drop 4 = B ++ b.drop 8 := by
      conv => lhs; rw [← List.take_append_drop 4 (b.drop 4)]
      rw [hB, List.drop_drop]
    have e3 : b.drop 8 = C ++ b.drop (8 + num A) := by
      conv => lhs; rw [← List.take_append_drop (num A) (b.drop 8)]
      rw [hC, List.drop_drop]
    have e4 : b.drop (8 + num A) = E := by
      rw [← hE, List.take_of_length_le (by rw [List.length_drop]; omega)]
    rw [List.append_assoc, List.append_assoc, ← e4, ← e3, ← e2]
    exact e1
  refine ⟨?_, by omega⟩
  have fA : A = be C.length 4 := by rw [lC, ← lA, be_num]
  have fB : B = be (sumOf (be C.length 4)) 4 := by rw [← fA, ← gs', ← lB, be_num]
  have fE : E = be (sumOf C) 4 := by rw [← gt', ← lE, be_num]
  rw [hb]
  unfold frameOf
  rw [← fA, ← fE, fA, ← fB]
end Go.Proofs.Ytdikmmdkpfmocaa
