/-
  dockyardlaw04.alive: bytes that the document fixes.
-/
import Derived.Test.YtngbminjbgomgaaReadCommand
namespace Go.Proofs.Ytngbminjbgomgaa
open Go.RowKit

theorem alive_entry : entBytes 1 2 0 [] = [0, 0, 0, 0, 0, 0, 0, 1, 0, 0, 0, 0, 0, 0, 0, 2, 0, 0] := by decide
theorem alive_cmd : cmdBytes ⟨7, 0, 0, .slice none 0 0, [], 0, 0, false, 5⟩ = [7, 0, 0, 0, 0, 0, 0, 0, 5] := by decide

theorem alive_fields (w' : World) (p : Nat) (D' : Nat → Prop) (u : Value) (h : Rd w' p D' u [0, 0, 0, 0, 0, 0, 0, 5] 0) :
    Calls Try.prog 41 #[.pointer (some ⟨p, 0, none⟩), .int .i64 (num [7])] w' (GotFields w' p D' (num [7]) 0 0 [] 0 0 false 5 ⟨[], 0⟩) :=
  readFields_plain w' p D' u (num [7]) ⟨[0, 0, 0, 0, 0, 0, 0, 5], 0⟩ ⟨[0, 0, 0, 0, 0, 0, 0, 5], 0⟩ ⟨[0, 0, 0, 0, 0, 0, 0, 5], 0⟩ ⟨[0, 0, 0, 0, 0, 0, 0, 5], 0⟩ ⟨[0, 0, 0, 0, 0, 0, 0, 5], 0⟩ ⟨[0, 0, 0, 0, 0, 0, 0, 5], 0⟩ ⟨[0, 0, 0, 0, 0, 0, 0, 5], 0⟩ ⟨[], 0⟩
    0 0 0 0 5 false [] h rfl rfl rfl ⟨rfl, rfl⟩ rfl rfl rfl rfl

set_option maxRecDepth 100000 in
set_option maxHeartbeats 1000000 in
theorem alive_any (w : World) : Calls Try.prog 13 #[] w fun e w' => e = .returned (.bool true) ∧ Keep noneOf w w' := by
  have hlim := Lib.hid lim_is
  go_enter Try.func13, Try.ntmps13
  go_wp2_with fail
  refine (encode_any w noneOf 1 2 0 (.slice none 0 0) [] (by decide) (by decide) (Bytes.nil _ _)).mono ?_
  rintro e w1 ⟨k1, (⟨h, _⟩ | ⟨_, u1, rfl, o1, n1⟩)⟩
  · exact absurd h (by decide)
  rw [show entBytes 1 2 (0 : Int).toNat [] = [0, 0, 0, 0, 0, 0, 0, 1, 0, 0, 0, 0, 0, 0, 0, 2, 0, 0] from alive_entry] at o1
  have ob1 := Bytes.of_own o1
  obtain ⟨g1, cap1, hu1, _, hg1⟩ := o1.form (by decide)
  subst hu1
  have b15 : w1.cell? ⟨g1, 15, none⟩ = some (.int .u8 2) := (o1.cellAt 15 (by decide)).trans rfl
  clear o1 n1 ob1
  go_wp2_with fail
  refine (command_any w1 noneOf ⟨7, 0, 0, .slice none 0 0, [], 0, 0, false, 5⟩ ⟨by decide, by decide, by decide, by decide, by decide, Tgs.nil _ _⟩).mono ?_
  rintro e w2 ⟨k2, (⟨h, _⟩ | ⟨_, u2, rfl, o2, n2⟩)⟩
  · exact absurd h (by decide)
  rw [alive_cmd] at o2
  have ob2 := Bytes.of_own o2
  obtain ⟨g2, cap2, hu2, _, hg2⟩ := o2.form (by decide)
  subst hu2
  have K2 := k1.trans k2 (fun _ _ h => h)
  have c15 : w2.cell? ⟨g1, 15, none⟩ = some (.int .u8 2) := (k2.cell (p := ⟨g1, 15, none⟩) hg1 id).trans b15
  clear o2 n2 k1 b15
  go_wp2_with fail
  refine (readCommand_core w2 _ _ [7, 0, 0, 0, 0, 0, 0, 0, 5] [7] ⟨[0, 0, 0, 0, 0, 0, 0, 5], 0⟩ ⟨[], 0⟩ 0 0 0 0 5 false [] 0 ob2 (by rw [hlim.out]; decide) rfl rfl (by decide) alive_fields).mono ?_
  rintro e w3 ⟨k3, (⟨h, _⟩ | ⟨_, gv, ts, rfl, t3, hpt⟩)⟩
  · exact absurd h (by decide)
  have hts : ts = [] := List.map_eq_nil_iff.1 hpt
  subst hts
  obtain ⟨A3, c3, hgv, _⟩ := t3.1
  subst hgv
  rw [show (num [7] : Int) = 7 from rfl]
  have K3 := K2.trans k3 (fun _ _ h => h)
  have d15 : w3.cell? ⟨g1, 15, none⟩ = some (.int .u8 2) := (k3.cell (p := ⟨g1, 15, none⟩) (by have := k2.size; show g1 < _; omega) id).trans c15
  have hg3 : g1 < w3.heap.size := by have := k2.size; have := k3.size; omega
  have ka := (Keep.refl noneOf w3).alloc (.cells #[.int .i64 7, .int .u64 0, .int .u64 0, .slice A3 0 c3, .int .u64 0, .int .u64 0, .bool false, .int .u64 5] 38)
  have HRT := Lib.hid (right_any _ _ ⟨7, 0, 0, .slice A3 0 c3, [], 0, 0, false, 5⟩ (t3.keep ka (fun _ _ _ => id)))
  unfold Cmd.cells at HRT
  simp only at HRT
  have K4 := K3.trans ka (fun _ _ h => h)
  clear k2 k3 K2 K3 ka t3 hpt c15 ob2
  go_wp2_with fail
  refine HRT.out.mono ?_
  rintro e w4 ⟨rfl, k4⟩
  rw [show Cmd.right ⟨7, 0, 0, .slice A3 0 c3, [], 0, 0, false, 5⟩ = true from rfl]
  have K5 := K4.trans k4 (fun _ _ h => h)
  go_wp2
  go_ret
  exact ⟨rfl, K5⟩
end Go.Proofs.Ytngbminjbgomgaa
