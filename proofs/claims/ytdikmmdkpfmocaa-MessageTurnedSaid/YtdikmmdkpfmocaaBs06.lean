import Derived.Test.YtdikmmdkpfmocaaBs02
namespace Go.Proofs.Ytdikmmdkpfmocaa
open Go.RowKit
theorem ret_bool {a b : Bool} (h : a = b) : Ending.returned (.bool a) = .returned (.bool b) := by rw [h]
def entRight (i t : Nat) (k : Int) (n : Nat) : Bool := !(decide (i = 0) || decide (t = 0) || decide (65536 < n)) && ((decide (k = 0) && decide (n = 0)) || decide (k = 1) || decide (k = 2))
theorem entRight_iff (i t : Nat) (k : Int) (n : Nat) : entRight i t k n = true ↔ i ≠ 0 ∧ t ≠ 0 ∧ n ≤ 65536 ∧ ((k = 0 ∧ n = 0) ∨ k = 1 ∨ k = 2) := by
  unfold entRight
  simp only [Bool.and_eq_true, Bool.not_eq_true', Bool.or_eq_false_iff, decide_eq_false_iff_not, Bool.or_eq_true, decide_eq_true_eq]
  constructor
  · rintro ⟨⟨⟨h1, h2⟩, h3⟩, h4⟩
    exact ⟨h1, h2, by omega, by omega⟩
  · rintro ⟨h1, h2, h3, h4⟩
    exact ⟨⟨⟨h1, h2⟩, by omega⟩, by omega⟩
set_option maxRecDepth 100000 in
set_option maxHeartbeats 400000 in
theorem rightEntry_any (w : World) (i t : Nat) (k : Int) (A : Option Addr) (n c : Nat) :
    Calls Try.prog 50 #[.agg #[.int .u64 (i : Int), .int .u64 (t : Int), .int .i64 k, .slice A n c]] w fun e w' => e = .returned (.bool (entRight i t k n)) ∧ Keep noneOf w w' := by
  go_enter Try.func50, Try.ntmps50
  go_wp2
  all_goals
    go_ret
    refine ⟨ret_bool ?_, (Keep.refl _ _).alloc _⟩
    rw [Bool.eq_iff_iff, entRight_iff]
    simp_all
  all_goals omega
def entBytes (i t k : Nat) (cs : List UInt8) : List UInt8 := be i 8 ++ be t 8 ++ [UInt8.ofNat k] ++ textBytes cs
def Encoded (w : World) (i t : Nat) (k : Int) (cs : List UInt8) (e : Ending) (w' : World) : Prop :=
  Keep noneOf w w' ∧
  ((entRight i t k cs.length = false ∧ e = .returned (.tuple #[.slice none 0 0, .int .i64 40])) ∨
   (entRight i t k cs.length = true ∧ ∃ u, e = .returned (.tuple #[u, .int .i64 0]) ∧ w'.ownsRow 0 5 1 u (entBytes i t k.toNat cs).length ((entBytes i t k.toNat cs).map bv) ∧ ∀ b, u.ownBlock = some b → w.heap.size ≤ b))
set_option maxRecDepth 100000 in
set_option maxHeartbeats 400000 in
theorem encode_any (w : World) (D : Nat → Prop) (i t : Nat) (k : Int) (u : Value) (cs : List UInt8) (hi : (i : Int) < 18446744073709551616) (ht : (t : Int) < 18446744073709551616) (hs : Bytes w D u cs) :
    Calls Try.prog 46 #[.agg #[.int .u64 (i : Int), .int .u64 (t : Int), .int .i64 k, u]] w (Encoded w i t k cs) := by
  have HI := Lib.hid hi
  have HT := Lib.hid ht
  have hs' := hs
  obtain ⟨A, c, rfl, _⟩ := hs
  clear hi ht
  go_enter Try.func46, Try.ntmps46
  go_wp2_with fail
  refine (rightEntry_any _ i t k A cs.length c).mono ?_
  rintro e w1 ⟨rfl, hk1⟩
  cases hr : entRight i t k cs.length with
  | false =>
    have HR := Lib.hid hr
    clear hr
    go_wp2
    go_ret2
    exact ⟨((Keep.refl _ _).alloc _).trans hk1 (fun _ _ h => h), .inl ⟨HR.out, rfl⟩⟩
  | true =>
    have HR := Lib.hid hr
    obtain ⟨hi0, ht0, hn, hk0⟩ := (entRight_iff i t k cs.length).1 hr
    have hbox := (Box.new w 81 #[.int .u64 (i : Int), .int .u64 (t : Int), .int .i64 k, .slice A cs.length c]).keep hk1 id
    have hb1 : Bytes w1 (fun j => D j ∧ j < w.heap.size) (.slice A cs.length c) cs := ((hs'.mono (D' := fun j => D j ∧ j < w.heap.size) (fun j hj hd => ⟨hd, hj⟩)).keep ((Keep.refl noneOf w).alloc _) (fun _ _ _ h => h)).keep hk1 (fun _ _ _ h => h)
    have hsz : w.heap.size < w1.heap.size := by have := hk1.size; simp at this; omega
    have hKn := Lib.hid (show by8 k = UInt8.ofNat k.toNat from rfl)
    have hk3 : 0 ≤ k ∧ k < 256 := by omega
    have hlim := Lib.hid lim_is
    clear hr hs' hi0 ht0 hk0
    obtain ⟨hk3, hk4⟩ := hk3
    go_wp2_with fail
    refine (new_any w1).mono ?_
    rintro e w2 ⟨rfl, rfl⟩
    have hb2 := hb1.keep ((Keep.refl noneOf w1).alloc (.cells #[.slice none 0 0] 66)) (fun _ _ _ h => h)
    have hx2 := hbox.alloc (.cells #[.slice none 0 0] 66)
    have g2 := Wr.new w1
    have hk2 : Keep noneOf w (w1.alloc (.cells #[.slice none 0 0] 66)) := (((Keep.refl noneOf w).alloc _).trans hk1 (fun _ _ h => h)).alloc _
    generalize w1.alloc (.cells #[.slice none 0 0] 66) = w2 at *
    generalize w1.heap.size = p at *
    have c2 : w2.cell? ⟨w.heap.size, 0, none⟩ = some (.int .u64 (i : Int)) := hx2.cell 0
    have hp2 := g2.box.lt
    clear hb1 hbox hk1
    go_wp2_with fail
    refine (long_any w2 p _ _ i g2 (by rw [hlim.out]; simp) HI.out).mono ?_
    rintro e w3 ⟨rfl, v3, g3, G3⟩
    have c3 : w3.cell? ⟨w.heap.size, 1, none⟩ = some (.int .u64 (t : Int)) := (G3.box hx2 (by omega)).cell 1
    clear c2 g2
    go_wp2_with fail
    refine (long_any w3 p _ _ t g3 (by rw [hlim.out]; simp [be_length]) HT.out).mono ?_
    rintro e w4 ⟨rfl, v4, g4, G4⟩
    have G4 := G3.trans G4
    have c4 : w4.cell? ⟨w.heap.size, 2, none⟩ = some (.int .i64 k) := (G4.box hx2 (by omega)).cell 2
    clear c3 g3 G3
    go_wp2_with fail
    refine (byte_any w4 p _ _ _ g4 (by rw [hlim.out]; simp [be_length]) (by omega) (by omega)).mono ?_
    rintro e w5 ⟨rfl, v5, g5, G5⟩
    have G5 := G4.trans G5
    have c5 : w5.cell? ⟨w.heap.size, 3, none⟩ = some (.slice A cs.length c) := (G5.box hx2 (by omega)).cell 3
    clear c4 g4 G4
    go_wp2_with fail
    refine (text_any w5 p _ _ _ cs _ g5 (G5.bytes hb2 (by omega)) (by rw [hlim.out]; simp [be_length]; omega) ?hD).mono ?_
    case hD => exact fun j hj => ⟨by omega, G5.row_new (by omega)⟩
    rintro e w6 ⟨rfl, v6, g6, G6⟩
    have G6 := G5.trans G6
    clear c5 g5 G5
    go_wp2_with fail
    refine (bytes_any w6 p _ _ g6).mono ?_
    rintro e w7 ⟨u, rfl, hF⟩
    go_wp2
    go_ret2
    refine ⟨(hk2.trans G6.keep ?_).trans hF.keep (fun _ _ h => h), .inr ⟨HR.out, u, rfl, ?_, ?_⟩⟩
    · rintro j hj (h | h)
      · omega
      · cases h
    · simpa [entBytes, by8] using hF.own
    · intro b hb
      have := hF.new b hb
      have := G6.keep.size
      have := hk2.size
      omega
end Go.Proofs.Ytdikmmdkpfmocaa
