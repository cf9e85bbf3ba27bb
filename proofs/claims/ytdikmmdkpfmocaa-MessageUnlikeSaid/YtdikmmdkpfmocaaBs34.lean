import Derived.Test.YtdikmmdkpfmocaaBs15
import Derived.Test.YtdikmmdkpfmocaaBs33
namespace Go.Proofs.Ytdikmmdkpfmocaa
open Go.RowKit Go.Shelf
def chunkP (m : Pm) : Bool := !decide (m.ix = 0) && !decide (m.ix = 18446744073709551615) && !decide (m.lt = 0) && decide (chkP m.c = 0) && !decide (1048576 < m.wh) && !decide (m.wh < m.off) && !decide (4096 < m.da.length) && decide (m.da.length ≤ m.wh - m.off) && (decide (0 < m.da.length) || decide (m.wh - m.off = 0))
set_option maxRecDepth 100000 in
set_option maxHeartbeats 2000000 in
theorem rightChunk_any (w : World) (D : Nat → Prop) (m : Mg) (h : m.lies w D) :
    Calls Try.prog 29 #[.agg m.cells] w fun e w' => e = .returned (.bool (chunkP m.plain)) ∧ Keep noneOf w w' := by
  have KB := (Keep.refl noneOf w).alloc (.cells m.cells 29)
  have HB : Hid (MBox (w.alloc (.cells m.cells 29)) w.heap.size m) := Lib.hid (Box.new w 29 m.cells)
  have HK := Lib.hid KB
  have HCH := Lib.hid (check_any _ D (.agg #[m.va, m.la]) m.c (CfAt.keepN ⟨_, _, rfl, h.vs, h.ls⟩ KB))
  obtain ⟨_, ⟨A10, n10, h10⟩, ⟨A11, n11, h11⟩, ⟨A14, n14, h14⟩⟩ := h.shapes
  have c4 : (w.alloc (.cells m.cells 29)).cell? ⟨w.heap.size, 4, none⟩ = some (.int .u64 (m.ix : Int)) := (HB.out.cell 4).trans m.at4
  have c5 : (w.alloc (.cells m.cells 29)).cell? ⟨w.heap.size, 5, none⟩ = some (.int .u64 (m.lt : Int)) := (HB.out.cell 5).trans m.at5
  have c10 : (w.alloc (.cells m.cells 29)).cell? ⟨w.heap.size, 10, none⟩ = some (.slice A10 m.c.v.length n10) := by rw [← h10]; exact (HB.out.cell 10).trans m.at10
  have c11 : (w.alloc (.cells m.cells 29)).cell? ⟨w.heap.size, 11, none⟩ = some (.slice A11 m.c.l.length n11) := by rw [← h11]; exact (HB.out.cell 11).trans m.at11
  have c12 : (w.alloc (.cells m.cells 29)).cell? ⟨w.heap.size, 12, none⟩ = some (.int .u64 (m.off : Int)) := (HB.out.cell 12).trans m.at12
  have c13 : (w.alloc (.cells m.cells 29)).cell? ⟨w.heap.size, 13, none⟩ = some (.int .u64 (m.wh : Int)) := (HB.out.cell 13).trans m.at13
  have c14 : (w.alloc (.cells m.cells 29)).cell? ⟨w.heap.size, 14, none⟩ = some (.slice A14 m.da.length n14) := by rw [← h14]; exact (HB.out.cell 14).trans m.at14
  rw [h10, h11] at HCH
  have hp : chunkP m.plain = (!((m.ix : Int) == 0) && !((m.ix : Int) == 18446744073709551615) && !((m.lt : Int) == 0) && !((chkP m.c != 0)) && !decide (1048576 < m.wh) && !decide (m.wh < m.off) && !decide (4096 < m.da.length) && decide (m.da.length ≤ m.wh - m.off) && (decide (0 < m.da.length) || decide (m.wh - m.off = 0))) := by
    unfold chunkP
    show (!decide (m.ix = 0) && !decide (m.ix = 18446744073709551615) && !decide (m.lt = 0) && decide (chkP m.c = 0) && _ && _ && _ && _ && _) = _
    have e1 : (!decide (m.ix = 0)) = !((m.ix : Int) == 0) := by rw [Bool.eq_iff_iff]; simp
    have e2 : (!decide (m.ix = 18446744073709551615)) = !((m.ix : Int) == 18446744073709551615) := by rw [Bool.eq_iff_iff]; simp; omega
    have e3 : (!decide (m.lt = 0)) = !((m.lt : Int) == 0) := by rw [Bool.eq_iff_iff]; simp
    have e4 : decide (chkP m.c = 0) = !((chkP m.c != 0)) := by rw [Bool.eq_iff_iff]; simp
    rw [e1, e2, e3, e4]
    rfl
  rw [hp]
  clear hp KB h h10 h11 h14
  generalize m.cells = cs at *
  generalize chkP m.c = ck at *
  generalize m.c.v.length = l10 at *
  generalize m.c.l.length = l11 at *
  generalize m.da.length = n at *
  generalize m.ix = a4 at *
  generalize m.lt = a5 at *
  generalize m.off = a12 at *
  generalize m.wh = a13 at *
  obtain ⟨g0, hg0⟩ : ∃ g, ((a4 : Int) == 0) = g := ⟨_, rfl⟩
  obtain ⟨g1, hg1⟩ : ∃ g, ((a4 : Int) == 18446744073709551615) = g := ⟨_, rfl⟩
  obtain ⟨g2, hg2⟩ : ∃ g, ((a5 : Int) == 0) = g := ⟨_, rfl⟩
  obtain ⟨g3, hg3⟩ : ∃ g, (ck != 0) = g := ⟨_, rfl⟩
  rw [hg0, hg1, hg2, hg3]
  go_enter Try.func29, Try.ntmps29
  cases g0
  · cases g1
    · cases g2
      · go_wp2_with fail
        refine HCH.out.mono ?_
        rintro e w1 ⟨rfl, k1⟩
        have HK1 := Lib.hid (HK.out.trans k1 (fun _ _ h => h))
        have HB1 := Lib.hid (HB.out.keep k1 id)
        have c12 : w1.cell? ⟨w.heap.size, 12, none⟩ = some (.int .u64 (a12 : Int)) := by rw [k1.cell (p := ⟨w.heap.size, 12, none⟩) HB.out.lt id]; assumption
        have c13 : w1.cell? ⟨w.heap.size, 13, none⟩ = some (.int .u64 (a13 : Int)) := by rw [k1.cell (p := ⟨w.heap.size, 13, none⟩) HB.out.lt id]; assumption
        have c14 : w1.cell? ⟨w.heap.size, 14, none⟩ = some (.slice A14 n n14) := by rw [k1.cell (p := ⟨w.heap.size, 14, none⟩) HB.out.lt id]; assumption
        clear k1 HCH HB HK c4 c5 c10 hg0 hg1 hg2
        cases g3
        · by_cases p4 : 1048576 < a13
          · have q4 : (a13 : Int) > 1048576 := by omega
            have hF : Hid (false = (!false && !false && !false && !false && !decide (1048576 < a13) && !decide (a13 < a12) && !decide (4096 < n) && decide (n ≤ a13 - a12) && (decide (0 < n) || decide (a13 - a12 = 0)))) := Lib.hid (by rw [decide_eq_true p4]; simp)
            clear p4
            go_wp2
            go_ret
            exact ⟨ret_bool hF.out, HK1.out⟩
          · have q4 : ¬ (a13 : Int) > 1048576 := by omega
            have HP4 := Lib.hid p4
            clear p4
            by_cases p5 : a13 < a12
            · have hF : Hid (false = (!false && !false && !false && !false && !decide (1048576 < a13) && !decide (a13 < a12) && !decide (4096 < n) && decide (n ≤ a13 - a12) && (decide (0 < n) || decide (a13 - a12 = 0)))) := Lib.hid (by rw [decide_eq_true p5]; simp)
              go_wp2
              go_ret
              exact ⟨ret_bool hF.out, HK1.out⟩
            · have HP5 := Lib.hid p5
              by_cases p6 : 4096 < n
              · have q6 : (n : Int) > 4096 := by omega
                have hF : Hid (false = (!false && !false && !false && !false && !decide (1048576 < a13) && !decide (a13 < a12) && !decide (4096 < n) && decide (n ≤ a13 - a12) && (decide (0 < n) || decide (a13 - a12 = 0)))) := Lib.hid (by rw [decide_eq_true p6]; simp)
                clear p6
                go_wp2
                go_ret
                exact ⟨ret_bool hF.out, HK1.out⟩
              · have q6 : ¬ (n : Int) > 4096 := by omega
                have e1 : IntKind.u64.wrap ((a13 : Int) - (a12 : Int)) = ((a13 - a12 : Nat) : Int) := by
                  rw [show (a13 : Int) - (a12 : Int) = ((a13 - a12 : Nat) : Int) from by omega, wrap64, Nat.mod_eq_of_lt (by have := HP4.out; omega)]
                have e2 : IntKind.u64.wrap (n : Int) = (n : Int) := by rw [wrap64, Nat.mod_eq_of_lt (by omega)]
                have HP6 := Lib.hid p6
                obtain ⟨L, hL⟩ : ∃ L, a13 - a12 = L := ⟨_, rfl⟩
                rw [hL] at e1
                have HF : Hid ((!false && !false && !false && !false && !decide (1048576 < a13) && !decide (a13 < a12) && !decide (4096 < n) && decide (n ≤ a13 - a12) && (decide (0 < n) || decide (a13 - a12 = 0))) = (decide (n ≤ L) && (decide (0 < n) || decide (L = 0)))) := Lib.hid (by rw [decide_eq_false HP4.out, decide_eq_false p5, decide_eq_false p6, hL]; simp)
                clear p6 hL
                by_cases p7 : n ≤ L
                · have HF := Lib.hid (HF.out.trans (by rw [decide_eq_true p7, Bool.true_and] : _ = (decide (0 < n) || decide (L = 0))))
                  by_cases p8 : 0 < n
                  · have q8 : (n : Int) > 0 := by omega
                    have HF := Lib.hid (HF.out.trans (by rw [decide_eq_true p8, Bool.true_or] : _ = true))
                    go_wp2
                    go_ret
                    exact ⟨ret_bool HF.out.symm, HK1.out⟩
                  · have q8 : ¬ (n : Int) > 0 := by omega
                    have HF := Lib.hid (HF.out.trans (by rw [decide_eq_false p8, Bool.false_or] : _ = decide (L = 0)))
                    obtain ⟨g9, hg9⟩ : ∃ g, ((L : Int) == 0) = g := ⟨_, rfl⟩
                    have HF9 : Hid ((!false && !false && !false && !false && !decide (1048576 < a13) && !decide (a13 < a12) && !decide (4096 < n) && decide (n ≤ a13 - a12) && (decide (0 < n) || decide (a13 - a12 = 0))) = g9) := Lib.hid (by rw [HF.out, ← hg9, Bool.eq_iff_iff]; simp)
                    go_wp2
                    go_ret
                    exact ⟨ret_bool HF9.out.symm, HK1.out⟩
                · have HF := Lib.hid (HF.out.trans (by rw [decide_eq_false p7, Bool.false_and] : _ = false))
                  go_wp2
                  go_ret
                  exact ⟨ret_bool HF.out.symm, HK1.out⟩
        · go_wp2
          go_ret
          exact ⟨ret_bool (by simp), HK1.out⟩
      · go_wp2
        go_ret
        exact ⟨ret_bool (by simp), HK.out⟩
    · go_wp2
      go_ret
      exact ⟨ret_bool (by simp), HK.out⟩
  · go_wp2
    go_ret
    exact ⟨ret_bool (by simp), HK.out⟩
end Go.Proofs.Ytdikmmdkpfmocaa
