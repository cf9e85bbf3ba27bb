/-
  Proved: dockyardlaw04.EntryOnly answers true for every input that can be read, and leaves its arguments as they were. No conditions.
-/
import Derived.Test.YtngbminjbgomgaaAlive
import Derived.Test.YtngbminjbgomgaaOpen
namespace Go.Proofs.Ytngbminjbgomgaa
open Go.ChangeShapes Go.WideShapes Go.ChangeAt Go.RowKit

theorem only_false (c : Cmd) (tok : Nat) (h4 : c.kind ≠ 4) (h5 : c.kind ≠ 5) (ht : tok ≠ 0) : Cmd.right { c with tok := tok } = false := by
  unfold Cmd.right
  have e : fTok c.kind = false := by unfold fTok; simp; omega
  simp [e, ht]

set_option maxRecDepth 100000 in
set_option maxHeartbeats 1000000 in
theorem only_walk (w : World) (k : Int) (ses seq gid tok0 time : Nat) (good : Bool) (A : Option Addr) (cap : Nat) (ts : List Tg) (tok : Nat) (hl : Cmd.lies w (fun _ => True) ⟨k, ses, seq, .slice A ts.length cap, ts, gid, tok0, good, time⟩) (htok : (tok : Int) < 18446744073709551616) :
    Calls Try.prog 8 #[.agg #[.int .i64 k, .int .u64 (ses : Int), .int .u64 (seq : Int), .slice A ts.length cap, .int .u64 (gid : Int), .int .u64 (tok0 : Int), .bool good, .int .u64 (time : Int)], .int .u64 (tok : Int)] w
      fun e w' => e = .returned (.bool true) ∧ Keep noneOf w w' := by
  have x0 := Box.new w 38 #[.int .i64 k, .int .u64 (ses : Int), .int .u64 (seq : Int), .slice A ts.length cap, .int .u64 (gid : Int), .int .u64 (tok0 : Int), .bool good, .int .u64 (time : Int)]
  have k0 := (Keep.refl noneOf w).alloc (.cells #[.int .i64 k, .int .u64 (ses : Int), .int .u64 (seq : Int), .slice A ts.length cap, .int .u64 (gid : Int), .int .u64 (tok0 : Int), .bool good, .int .u64 (time : Int)] 38)
  have HR := Lib.hid (right_any _ _ ⟨k, ses, seq, .slice A ts.length cap, ts, gid, tok0, good, time⟩ (hl.ts.keep k0 (fun _ _ _ => id)))
  unfold Cmd.cells at HR
  simp only at HR
  have HL := Lib.hid hl
  have HTOK := Lib.hid htok
  clear hl htok
  go_enter Try.func8, Try.ntmps8
  go_wp2_with fail
  refine HR.out.mono ?_
  rintro e w1 ⟨rfl, k1⟩
  have x1 := x0.keep k1 id
  have K1 := k0.trans k1 (fun _ _ h => h)
  have c0 : w1.cell? ⟨w.heap.size, 0, none⟩ = some (.int .i64 k) := x1.cell 0
  clear x0 k0 k1 HR
  by_cases hq : Cmd.right ⟨k, ses, seq, .slice A ts.length cap, ts, gid, tok0, good, time⟩ = true ∧ tok ≠ 0 ∧ k ≠ 4 ∧ k ≠ 5
  · obtain ⟨q1, q2, q3, q4⟩ := hq
    rw [q1]
    have g1 : ((tok : Int) == 0) = false := beq_eq_false_iff_ne.2 (by omega)
    have g2 : (k == 4) = false := beq_eq_false_iff_ne.2 q3
    have g3 : (k == 5) = false := beq_eq_false_iff_ne.2 q4
    have HOF := Lib.hid (only_false ⟨k, ses, seq, .slice A ts.length cap, ts, gid, tok0, good, time⟩ tok q3 q4 q2)
    have c1 : w1.cell? ⟨w.heap.size, 1, none⟩ = some (.int .u64 (ses : Int)) := x1.cell 1
    have c2 : w1.cell? ⟨w.heap.size, 2, none⟩ = some (.int .u64 (seq : Int)) := x1.cell 2
    have c3 : w1.cell? ⟨w.heap.size, 3, none⟩ = some (.slice A ts.length cap) := x1.cell 3
    have c4 : w1.cell? ⟨w.heap.size, 4, none⟩ = some (.int .u64 (gid : Int)) := x1.cell 4
    have c5 : w1.cell? ⟨w.heap.size, 5, none⟩ = some (.int .u64 (tok0 : Int)) := x1.cell 5
    have c6 : w1.cell? ⟨w.heap.size, 6, none⟩ = some (.bool good) := x1.cell 6
    have c7 : w1.cell? ⟨w.heap.size, 7, none⟩ = some (.int .u64 (time : Int)) := x1.cell 7
    have ka := (Keep.refl noneOf w1).alloc (.cells #[.int .i64 k, .int .u64 (ses : Int), .int .u64 (seq : Int), .slice A ts.length cap, .int .u64 (gid : Int), .int .u64 (tok : Int), .bool good, .int .u64 (time : Int)] 38)
    have K2 := K1.trans ka (fun _ _ h => h)
    have x2 := Box.new w1 38 #[.int .i64 k, .int .u64 (ses : Int), .int .u64 (seq : Int), .slice A ts.length cap, .int .u64 (gid : Int), .int .u64 (tok : Int), .bool good, .int .u64 (time : Int)]
    have hl2 : Cmd.lies (w1.alloc (.cells #[.int .i64 k, .int .u64 (ses : Int), .int .u64 (seq : Int), .slice A ts.length cap, .int .u64 (gid : Int), .int .u64 (tok : Int), .bool good, .int .u64 (time : Int)] 38)) (fun _ => True) ⟨k, ses, seq, .slice A ts.length cap, ts, gid, tok, good, time⟩ :=
      ⟨HL.out.ses, HL.out.seq, HL.out.id, HTOK.out, HL.out.time, (HL.out.ts.keep K1 (fun _ _ _ => id)).keep ka (fun _ _ _ => id)⟩
    have HC := Lib.hid (command_any _ _ _ hl2)
    unfold Cmd.cells at HC
    simp only at HC HOF
    have HX2 := Lib.hid x2
    have HL2 := Lib.hid hl2
    have hlt := x1.lt
    clear q1 q2 q3 q4 x1 ka hl2 x2
    go_wp2_with fail
    refine HC.out.mono ?_
    rintro e w2 ⟨k2, (⟨_, rfl⟩ | ⟨h, _⟩)⟩
    case inr => exact absurd h (by rw [HOF.out]; decide)
    have x3 := HX2.out.keep k2 id
    have K3 := K2.trans k2 (fun _ _ h => h)
    have HT3 := Lib.hid (HL2.out.ts.keep k2 (fun _ _ _ => id))
    clear HC HX2 HL2 c0 c1 c2 c3 c4 c5 c6 c7 k2
    go_wp2_with fail
    refine (alive_any w2).mono ?_
    rintro e w3 ⟨rfl, k3⟩
    have x4 := x3.keep k3 id
    have K4 := K3.trans k3 (fun _ _ h => h)
    have d0 : w3.cell? ⟨w1.heap.size, 0, none⟩ = some (.int .i64 k) := x4.cell 0
    have d1 : w3.cell? ⟨w1.heap.size, 1, none⟩ = some (.int .u64 (ses : Int)) := x4.cell 1
    have d2 : w3.cell? ⟨w1.heap.size, 2, none⟩ = some (.int .u64 (seq : Int)) := x4.cell 2
    have d3 : w3.cell? ⟨w1.heap.size, 3, none⟩ = some (.slice A ts.length cap) := x4.cell 3
    have d4 : w3.cell? ⟨w1.heap.size, 4, none⟩ = some (.int .u64 (gid : Int)) := x4.cell 4
    have d5 : w3.cell? ⟨w1.heap.size, 5, none⟩ = some (.int .u64 (tok : Int)) := x4.cell 5
    have d6 : w3.cell? ⟨w1.heap.size, 6, none⟩ = some (.bool good) := x4.cell 6
    have d7 : w3.cell? ⟨w1.heap.size, 7, none⟩ = some (.int .u64 (time : Int)) := x4.cell 7
    have HR2 := Lib.hid (right_any w3 _ ⟨k, ses, seq, .slice A ts.length cap, ts, gid, tok, good, time⟩ (HT3.out.keep k3 (fun _ _ _ => id)))
    unfold Cmd.cells at HR2
    simp only at HR2
    clear x3 x4 k3 HT3
    go_wp2_with fail
    refine HR2.out.mono ?_
    rintro e w4 ⟨rfl, k4⟩
    rw [HOF.out]
    have K5 := K4.trans k4 (fun _ _ h => h)
    go_wp2
    go_ret
    exact ⟨rfl, K5⟩
  · have hq' : Cmd.right ⟨k, ses, seq, .slice A ts.length cap, ts, gid, tok0, good, time⟩ = false ∨ (Cmd.right ⟨k, ses, seq, .slice A ts.length cap, ts, gid, tok0, good, time⟩ = true ∧ (tok = 0 ∨ (tok ≠ 0 ∧ (k = 4 ∨ k = 5)))) := by
      cases h1 : Cmd.right ⟨k, ses, seq, .slice A ts.length cap, ts, gid, tok0, good, time⟩ with
      | false => exact .inl rfl
      | true =>
        refine .inr ⟨rfl, ?_⟩
        by_cases h2 : tok = 0
        · exact .inl h2
        · refine .inr ⟨h2, ?_⟩
          by_cases h3 : k = 4
          · exact .inl h3
          · by_cases h4 : k = 5
            · exact .inr h4
            · exact absurd ⟨h1, h2, h3, h4⟩ hq
    clear hq
    rcases hq' with h1 | ⟨h1, h2 | ⟨h2, h3 | h3⟩⟩
    · rw [h1]
      clear h1
      go_wp2_with fail
      refine (alive_any _).mono ?_
      rintro e w2 ⟨rfl, k2⟩
      go_wp2
      go_ret
      exact ⟨rfl, K1.trans k2 (fun _ _ h => h)⟩
    · rw [h1]
      subst h2
      clear h1
      go_wp2_with fail
      refine (alive_any _).mono ?_
      rintro e w2 ⟨rfl, k2⟩
      go_wp2
      go_ret
      exact ⟨rfl, K1.trans k2 (fun _ _ h => h)⟩
    · rw [h1]
      subst h3
      have g1 : ((tok : Int) == 0) = false := beq_eq_false_iff_ne.2 (by omega)
      clear h1 h2
      go_wp2_with fail
      refine (alive_any _).mono ?_
      rintro e w2 ⟨rfl, k2⟩
      go_wp2
      go_ret
      exact ⟨rfl, K1.trans k2 (fun _ _ h => h)⟩
    · rw [h1]
      subst h3
      have g1 : ((tok : Int) == 0) = false := beq_eq_false_iff_ne.2 (by omega)
      clear h1 h2
      go_wp2_with fail
      refine (alive_any _).mono ?_
      rintro e w2 ⟨rfl, k2⟩
      go_wp2
      go_ret
      exact ⟨rfl, K1.trans k2 (fun _ _ h => h)⟩

theorem own : ownKnob Try.prog.godebug = none := by kernel_rfl
theorem laidOut : laidOutB Try.prog = true := by kernel_rfl

namespace EntryOnly
set_option maxRecDepth 100000 in
theorem lifted (os : Os) (started : os.Started) (H : Type) (enc : TypeId × Value → H) :
    ReturnsInHanded {} Try.checked os 8 .any (Rows.entryOnlySpec.pre6 enc Try.prog Try.f8 Rows.entryOnlyRow.domain false) (Rows.entryOnlySpec.post enc Try.prog Try.f8 false true false false) := by
  refine returnsInHanded_of_change (C := Try.checked) own started (by kernel_rfl) Try.func8
    (ChangeSpec.witness6 (enc := enc) (C := Try.checked) false ⟨#[], #[.agg #[.int .i64 0, .int .u64 0, .int .u64 0, .slice none 0 0, .int .u64 0, .int .u64 0, .bool false, .int .u64 0], .int .u64 0], []⟩ 8 (by kernel_rfl) (by kernel_rfl) (by kernel_rfl) (by kernel_rfl)) ?_
  intro W base args ds gs before hval0 hW hcnd _
  have hval : ∀ (j : Nat) t v, Try.f8.params[j]? = some t → args[j]? = some v → Value.okWide Try.prog W .any base t v := hval0
  have hW' := hW
  obtain ⟨p, q, hA0, hV, rfl, hfz, hnd⟩ := hW
  have hA : DataW.TrodAll enc Try.prog W 0 (fun _ => true) true Try.f8.params.toList args.toList ds p := hA0
  rw [Try.params8] at hA hval
  obtain ⟨v0, vs0, d0, ds0, p0, q0, hargs, rfl, rfl, h0, r0⟩ := trodAll_cons hA
  obtain ⟨v1, vs1, d1, ds1, p1, q1, rfl, rfl, rfl, h1, r1⟩ := trodAll_cons r0
  obtain ⟨rfl, rfl, rfl⟩ := trodAll_nil r1
  obtain rfl : args = #[v0, v1] := by cases args; simp_all
  obtain ⟨rfl, rfl⟩ := trodVars_none hV
  have k0 := h0
  have lt0 : ∀ x ∈ p0, x.block < W.heap.size := by obtain ⟨m, hm⟩ := k0; exact DataW.trod_lt m _ _ _ hm
  obtain ⟨c, hc, hlies⟩ := open_cmd (hval 0 38 v0 rfl rfl) h0
  obtain ⟨a1, rfl, rfl, rfl, w1⟩ := open_int Try.underlying22 (hval 1 22 v1 rfl rfl) h1
  obtain ⟨tok, rfl, htok⟩ := u64_of w1
  clear hA0 hval0
  obtain ⟨k, ses, seq, gv, ts, gid, tok0, good, time⟩ := c
  have hl' := hlies
  obtain ⟨A, cap, hgv, _⟩ := hlies.ts.1
  simp only at hgv
  subst hgv
  unfold Cmd.cells at hc
  simp only at hc
  subst hc
  refine (only_walk W k ses seq gid tok0 time good A cap ts tok hl' htok).mono fun e W' ⟨he, bel0⟩ => ?_
  subst he
  have bel := bel0.all
  exact ⟨_, rfl, _, _, _, [], _, [], hW', trodAll_mk1 (shut_bool Try.underlying4 _), (trodAll_cons_mk (Below.trod laidOut (by kernel_rfl) (of_decide_eq_true (by kernel_rfl)) k0 bel lt0) (trodAll_cons_mk (shut_int Try.underlying22 w1) trodAll_mk0)), rfl, bel.frame _, fun h => by cases h⟩

theorem over : Rows.entryOnlyRow.holds Try.pinned (OpenSpec.ofChange Rows.entryOnlySpec) :=
  OpenClaim.holds_of_wide 8 Try.f8 rfl rfl rfl rfl rfl rfl rfl ⟨rfl, rfl, rfl, rfl, rfl⟩ rfl rfl rfl rfl rfl (by kernel_rfl) Try.func8 (by kernel_rfl)
    (of_decide_eq_true (by kernel_rfl)) (by unfold Func.isWrapper; first | (rw [if_pos (by decide +kernel)]; kernel_rfl) | (rw [if_neg (by decide +kernel)]; exact ⟨rfl, rfl⟩))
    (fun os started H enc _ => lifted os started H enc)

theorem proved : Rows.EntryOnlySaid := over
end EntryOnly
end Go.Proofs.Ytngbminjbgomgaa
