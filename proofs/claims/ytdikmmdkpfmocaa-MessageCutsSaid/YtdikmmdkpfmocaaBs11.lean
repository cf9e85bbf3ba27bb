import Derived.Test.YtdikmmdkpfmocaaBs04
import Derived.Test.YtdikmmdkpfmocaaBs08
namespace Go.Proofs.Ytdikmmdkpfmocaa
open Go.RowKit
theorem Fresh.append {w w1 w2 : World} {v v' : Value} {bs cs : List UInt8} (h : Fresh w w1 v bs) (hg : w1.grownBy w2 v.ownBlock) (hat : v'.ownBlock = v.ownBlock ∨ v'.ownBlock = some w1.heap.size) (ho : w2.ownsRow 0 5 1 v' (bs ++ cs).length ((bs ++ cs).map bv)) : Fresh w w2 v' (bs ++ cs) := by
  refine ⟨h.keep.trans (Keep.of_grown hg) (fun i hi he => ?_), ho, fun k hk => ?_⟩
  · have := h.new i he.symm
    omega
  · rcases hat with e | e
    · exact h.new k (e.symm.trans hk)
    · have := h.keep.size
      rw [e] at hk
      injection hk with hk
      omega
theorem Fresh.later {w w1 w2 : World} {v : Value} {bs : List UInt8} (h : Fresh w w1 v bs) (k : Keep noneOf w1 w2) : Fresh w w2 v bs := ⟨h.keep.trans k (fun _ _ h => h), own_keep h.own k (fun _ _ => id), h.new⟩
theorem Fresh.after {w w1 w2 : World} {v : Value} {bs : List UInt8} (k : Keep noneOf w w1) (h : Fresh w1 w2 v bs) : Fresh w w2 v bs := ⟨k.trans h.keep (fun _ _ h => h), h.own, fun j hj => Nat.le_trans k.size (h.new j hj)⟩
theorem Fresh.any {w w1 : World} {v : Value} {bs : List UInt8} (h : Fresh w w1 v bs) : Bytes w1 (fun _ => True) v bs := h.bytes.mono (fun _ _ _ => trivial)
end Go.Proofs.Ytdikmmdkpfmocaa
namespace Go.Proofs.Ytdikmmdkpfmocaa
open Go.RowKit
noncomputable def frameOf (bs : List UInt8) : List UInt8 := be bs.length 4 ++ be (sumOf (be bs.length 4)) 4 ++ bs ++ be (sumOf bs) 4
theorem frame_length (bs : List UInt8) : (frameOf bs).length = bs.length + 12 := by
  unfold frameOf
  simp only [List.length_append, be_length]
  omega
set_option maxRecDepth 100000 in
set_option maxHeartbeats 400000 in
theorem word_any (w : World) (p : Nat) (v : Value) (bs : List UInt8) (n : Nat) (h : Wr w p v bs) (hb : bs.length + 4 ≤ lim) (hn : n < 4294967296) :
    Calls Try.prog 37 #[.pointer (some ⟨p, 0, none⟩), .int .u32 n] w fun e w' => e = .returned (.tuple #[]) ∧ ∃ v', Wr w' p v' (bs ++ be n 4) ∧ Went w p v w' v' := by
  have HN := Lib.hid hn
  have hn0 : (n : Int) < 4294967296 := by omega
  clear hn
  go_enter Try.func37, Try.ntmps37
  go_wp2_with fail
  refine (number_any w p v bs n 4 h hb (by decide) (by have := HN.out; omega)).mono ?_
  rintro e w1 ⟨rfl, v1, hw1, hwent1⟩
  go_wp2
  go_end0
  exact ⟨rfl, v1, hw1, hwent1⟩
set_option maxRecDepth 100000 in
set_option maxHeartbeats 1000000 in
theorem frame_any (w : World) (D : Nat → Prop) (u : Value) (bs : List UInt8) (h : Bytes w D u bs) (hl : bs.length ≤ 16777216) :
    Calls Try.prog 17 #[u] w fun e w' => ∃ u', e = .returned (.tuple #[u', .int .i64 0]) ∧ Fresh w w' u' (frameOf bs) := by
  obtain ⟨A, c, rfl, _⟩ := h.shape'
  have HU := Lib.hid (h.mono (D' := fun i => i < w.heap.size) (fun _ hi _ => hi))
  have HL := Lib.hid hl
  have HLIM := Lib.hid lim_is
  have hlI : ¬ ((bs.length : Int) > 16777216) := by omega
  have hl2 : (bs.length : Int) < 4294967296 := by omega
  clear h hl
  go_enter Try.func17, Try.ntmps17
  go_wp2_with fail
  refine (new_any w).mono ?_
  rintro e w0 ⟨rfl, rfl⟩
  have K0 := (Keep.refl noneOf w).alloc (.cells #[.slice none 0 0] 66)
  have HU0 := Lib.hid (HU.out.keep K0 (fun _ _ _ => id))
  have HW0 := Lib.hid (Wr.new w)
  have HK0 := Lib.hid K0
  clear K0 HU
  generalize w.alloc (.cells #[.slice none 0 0] 66) = w0 at *
  generalize hp : w.heap.size = p at *
  have HP := Lib.hid hp
  clear hp
  go_wp2_with fail
  refine (word_any w0 p _ [] bs.length HW0.out (by rw [HLIM.out]; simp) (by have := HL.out; omega)).mono ?_
  rintro e w1 ⟨rfl, v1, hw1, G1⟩
  have HW1 := Lib.hid hw1
  have HG1 := Lib.hid G1
  have HC1 := Lib.hid (bytes_any w1 p v1 _ hw1)
  clear hw1 G1 HW0
  go_wp2_with fail
  refine HC1.out.mono ?_
  rintro e w2 ⟨u2, rfl, F2⟩
  have HW2 := Lib.hid ((⟨HW1.out.box.keep F2.keep id, own_keep HW1.out.own F2.keep (fun _ _ => id), HW1.out.few⟩ : Wr w2 p v1 _))
  have HG2 := Lib.hid (HG1.out.trans (w2 := w2) (v2 := v1) ⟨F2.keep.mono (fun _ _ h => h.elim), .inl rfl⟩)
  have HS2 := Lib.hid (sum_any w2 _ u2 _ F2.bytes)
  clear F2 HC1 HW1 HG1
  go_wp2_with fail
  refine HS2.out.mono ?_
  rintro e w2' ⟨rfl, rfl⟩
  rw [List.nil_append] at *
  have HLT2 := Lib.hid (sumOf_lt (be bs.length 4))
  go_wp2_with fail
  refine (word_any w2 p v1 _ (sumOf (be bs.length 4)) HW2.out (by rw [HLIM.out]; simp [be_length]) HLT2.out).mono ?_
  rintro e w3 ⟨rfl, v3, hw3, G3⟩
  have HW3 := Lib.hid hw3
  have HG3 := Lib.hid (HG2.out.trans G3)
  have HU3 := Lib.hid ((HG2.out.trans G3).bytes HU0.out (by omega))
  clear hw3 G3 HS2 HW2 HG2
  go_wp2_with fail
  refine (raw_any w3 p v3 _ _ bs _ HW3.out HU3.out (by rw [HLIM.out]; simp only [List.length_append, be_length]; have := HL.out; omega)).mono ?_
  rintro e w4 ⟨rfl, v4, hw4, G4⟩
  have HW4 := Lib.hid hw4
  have HG4 := Lib.hid (HG3.out.trans G4)
  have HS4 := Lib.hid (sum_any w4 _ _ bs ((HG3.out.trans G4).bytes HU0.out (by omega)))
  clear hw4 G4 HW3 HG3 HU3
  go_wp2_with fail
  refine HS4.out.mono ?_
  rintro e w4' ⟨rfl, rfl⟩
  have HLT4 := Lib.hid (sumOf_lt bs)
  go_wp2_with fail
  refine (word_any w4 p v4 _ (sumOf bs) HW4.out (by rw [HLIM.out]; simp only [List.length_append, be_length]; have := HL.out; omega) HLT4.out).mono ?_
  rintro e w5 ⟨rfl, v5, hw5, G5⟩
  have HG5 := Lib.hid (HG4.out.trans G5)
  have HC5 := Lib.hid (bytes_any w5 p v5 _ hw5)
  clear hw5 G5 HS4 HW4 HG4
  go_wp2_with fail
  refine HC5.out.mono ?_
  rintro e w6 ⟨u6, rfl, F6⟩
  have HF := Lib.hid F6
  clear F6 HC5
  go_wp2
  refine bodyPost_ret (v := .tuple #[u6, .int .i64 0]) (by simp [results, Try.results17, go_sem]) rfl ⟨u6, rfl, ?_⟩
  have kk : Keep noneOf w w6 := (HK0.out.trans HG5.out.keep (fun i hi e => by
    have := HP.out
    rcases e with e | e
    · omega
    · cases e)).trans HF.out.keep (fun _ _ h => h)
  exact ⟨kk, HF.out.own, fun k hk => by have h1 := HF.out.new k hk; have h2 := HK0.out.size; have h3 := HG5.out.keep.size; omega⟩
end Go.Proofs.Ytdikmmdkpfmocaa
