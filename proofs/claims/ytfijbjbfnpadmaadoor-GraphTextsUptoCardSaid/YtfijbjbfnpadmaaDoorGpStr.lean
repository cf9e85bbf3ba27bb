/-
  strings.Cut, Split and CutPrefix at one byte: the library's contracts in this seat's words.
-/
import Derived.Test.YtfijbjbfnpadmaaDoorGpCutM
import Derived.Test.YtfijbjbfnpadmaaDoorShelf
namespace Go.Proofs.YtfijbjbfnpadmaaDoor
open Go.RowKit

/-- The cell of internal/bytealg.MaxLen, whatever it holds. -/
def MaxCell (w : World) : Prop := ∃ m : Int, w.cell? ⟨0, 0, none⟩ = some (.int .i64 m)
theorem MaxCell.keep {w w' : World} {S : Nat → Prop} (h : MaxCell w) (k : Keep S w w') (hS : ¬ S 0) : MaxCell w' := by
  obtain ⟨m, hm⟩ := h
  exact ⟨m, (k.cell (p := ⟨0, 0, none⟩) (World.block_lt_of_cell? w _ hm) hS).trans hm⟩

theorem cut_any (w : World) (s : ByteArray) (c : UInt8) (hm : MaxCell w) (hs : s.size ≤ 2097152) :
    Calls Tryd.prog 30 #[.string s, .string ⟨#[c]⟩] w fun e w' => e = .returned (.tuple #[.string (mk (Lib.cut (bl s) [c]).1), .string (mk (Lib.cut (bl s) [c]).2.1), .bool (Lib.cut (bl s) [c]).2.2]) ∧ Keep noneOf w w' := by
  obtain ⟨m, hm⟩ := hm
  refine (Tryd.strings_Cut s ⟨#[c]⟩ m w (by omega) hm).mono ?_
  rintro e w' ⟨he, n, rfl⟩
  exact ⟨he, (Keep.refl noneOf w).drewN n⟩
theorem split_any (w : World) (s : ByteArray) (c : UInt8) (hm : MaxCell w) (hs : s.size ≤ 2097152) :
    Calls Tryd.prog 48 #[.string s, .string ⟨#[c]⟩] w fun e w' => e = .returned (.slice (some ⟨w.heap.size, 0, none⟩) (splitB c (bl s)).length (splitB c (bl s)).length) ∧ w' = w.alloc (.cells ((splitB c (bl s)).map (fun x => Value.string (mk x))).toArray 9) := by
  obtain ⟨m, hm⟩ := hm
  refine (Tryd.strings_Split s ⟨#[c]⟩ m w (by omega) hm (Nat.le_refl 1)).mono ?_
  rintro e w' ⟨he, hw⟩
  obtain ⟨h1, h2⟩ := splits s c
  rw [h1] at he
  rw [h2, List.map_map] at hw
  exact ⟨he, hw⟩
theorem prefix_any (w : World) (s : ByteArray) (c : UInt8) :
    Calls Tryd.prog 42 #[.string s, .string ⟨#[c]⟩] w fun e w' => e = .returned (.tuple #[.string (mk (Lib.trimPrefix (bl s) [c])), .bool (Lib.hasPrefix (bl s) [c])]) ∧ Keep noneOf w w' := by
  refine (Tryd.strings_CutPrefix s ⟨#[c]⟩ w).mono ?_
  rintro e w' ⟨he, rfl⟩
  exact ⟨he, Keep.refl noneOf w'⟩
end Go.Proofs.YtfijbjbfnpadmaaDoor
