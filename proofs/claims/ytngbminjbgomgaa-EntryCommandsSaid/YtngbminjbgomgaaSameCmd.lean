/-
  dockyardref04.SameCommand.
-/
import Derived.Test.YtngbminjbgomgaaSame
namespace Go.Proofs.Ytngbminjbgomgaa
open Go.RowKit

/-- Are two commands the same? -/
def Cmd.same (x y : Cmd) : Bool := decide (x.ts.map Tg.plain = y.ts.map Tg.plain) && decide (x.kind = y.kind) && decide (x.ses = y.ses) && decide (x.seq = y.seq) && decide (x.id = y.id) && decide (x.tok = y.tok) && decide (x.good = y.good) && decide (x.time = y.time)

set_option maxRecDepth 100000 in
set_option maxHeartbeats 2000000 in
theorem sameCommand_core (w : World) (D D' : Nat → Prop) (ak : Int) (ases aseq agid atok atime : Nat) (agood : Bool) (aA : Option Addr) (ac : Nat) (ats : List Tg) (bk : Int) (bses bseq bgid btok btime : Nat) (bgood : Bool) (bA : Option Addr) (bc : Nat) (bts : List Tg)
    (h : Tgs w D (.slice aA ats.length ac) ats) (h' : Tgs w D' (.slice bA bts.length bc) bts) :
    Calls Try.prog 21 #[.agg #[.int .i64 ak, .int .u64 (ases : Int), .int .u64 (aseq : Int), .slice aA ats.length ac, .int .u64 (agid : Int), .int .u64 (atok : Int), .bool agood, .int .u64 (atime : Int)], .agg #[.int .i64 bk, .int .u64 (bses : Int), .int .u64 (bseq : Int), .slice bA bts.length bc, .int .u64 (bgid : Int), .int .u64 (btok : Int), .bool bgood, .int .u64 (btime : Int)]] w
      (Told' (decide (ats.map Tg.plain = bts.map Tg.plain) && decide (ak = bk) && decide (ases = bses) && decide (aseq = bseq) && decide (agid = bgid) && decide (atok = btok) && decide (agood = bgood) && decide (atime = btime)) w) := by
  have K0 : Keep noneOf w ((w.alloc (.cells #[.int .i64 ak, .int .u64 (ases : Int), .int .u64 (aseq : Int), .slice aA ats.length ac, .int .u64 (agid : Int), .int .u64 (atok : Int), .bool agood, .int .u64 (atime : Int)] 38)).alloc (.cells #[.int .i64 bk, .int .u64 (bses : Int), .int .u64 (bseq : Int), .slice bA bts.length bc, .int .u64 (bgid : Int), .int .u64 (btok : Int), .bool bgood, .int .u64 (btime : Int)] 38)) := ((Keep.refl noneOf w).alloc _).alloc _
  have x0 := (Box.new w 38 #[.int .i64 ak, .int .u64 (ases : Int), .int .u64 (aseq : Int), .slice aA ats.length ac, .int .u64 (agid : Int), .int .u64 (atok : Int), .bool agood, .int .u64 (atime : Int)]).alloc (.cells #[.int .i64 bk, .int .u64 (bses : Int), .int .u64 (bseq : Int), .slice bA bts.length bc, .int .u64 (bgid : Int), .int .u64 (btok : Int), .bool bgood, .int .u64 (btime : Int)] 38)
  have y0 := Box.new (w.alloc (.cells #[.int .i64 ak, .int .u64 (ases : Int), .int .u64 (aseq : Int), .slice aA ats.length ac, .int .u64 (agid : Int), .int .u64 (atok : Int), .bool agood, .int .u64 (atime : Int)] 38)) 38 #[.int .i64 bk, .int .u64 (bses : Int), .int .u64 (bseq : Int), .slice bA bts.length bc, .int .u64 (bgid : Int), .int .u64 (btok : Int), .bool bgood, .int .u64 (btime : Int)]
  have es : (w.alloc (.cells #[.int .i64 ak, .int .u64 (ases : Int), .int .u64 (aseq : Int), .slice aA ats.length ac, .int .u64 (agid : Int), .int .u64 (atok : Int), .bool agood, .int .u64 (atime : Int)] 38)).heap.size = w.heap.size + 1 := by simp
  rw [es] at y0
  have SG := Lib.hid (sameGraph_any _ D D' _ _ ats bts (h.keep K0 (fun _ _ _ => id)) (h'.keep K0 (fun _ _ _ => id)))
  have HK0 := Lib.hid K0
  have HX0 := Lib.hid x0
  have HY0 := Lib.hid y0
  clear K0 x0 y0 es h h'
  generalize hq : decide (ats.map Tg.plain = bts.map Tg.plain) = q at *
  clear hq
  go_enter Try.func21, Try.ntmps21
  go_wp2_with fail
  refine SG.out.mono ?_
  rintro e w1 ⟨rfl, k1⟩
  have K1 := HK0.out.trans k1 (fun _ _ h => h)
  have X1 := HX0.out.keep k1 id
  have Y1 := HY0.out.keep k1 id
  have a0 : w1.cell? ⟨w.heap.size, 0, none⟩ = some (.int .i64 ak) := X1.cell 0
  have a1 : w1.cell? ⟨w.heap.size, 1, none⟩ = some (.int .u64 (ases : Int)) := X1.cell 1
  have a2 : w1.cell? ⟨w.heap.size, 2, none⟩ = some (.int .u64 (aseq : Int)) := X1.cell 2
  have a3 : w1.cell? ⟨w.heap.size, 3, none⟩ = some (.slice aA ats.length ac) := X1.cell 3
  have a4 : w1.cell? ⟨w.heap.size, 4, none⟩ = some (.int .u64 (agid : Int)) := X1.cell 4
  have a5 : w1.cell? ⟨w.heap.size, 5, none⟩ = some (.int .u64 (atok : Int)) := X1.cell 5
  have a6 : w1.cell? ⟨w.heap.size, 6, none⟩ = some (.bool agood) := X1.cell 6
  have a7 : w1.cell? ⟨w.heap.size, 7, none⟩ = some (.int .u64 (atime : Int)) := X1.cell 7
  have b0 : w1.cell? ⟨w.heap.size + 1, 0, none⟩ = some (.int .i64 bk) := Y1.cell 0
  have b1 : w1.cell? ⟨w.heap.size + 1, 1, none⟩ = some (.int .u64 (bses : Int)) := Y1.cell 1
  have b2 : w1.cell? ⟨w.heap.size + 1, 2, none⟩ = some (.int .u64 (bseq : Int)) := Y1.cell 2
  have b3 : w1.cell? ⟨w.heap.size + 1, 3, none⟩ = some (.slice bA bts.length bc) := Y1.cell 3
  have b4 : w1.cell? ⟨w.heap.size + 1, 4, none⟩ = some (.int .u64 (bgid : Int)) := Y1.cell 4
  have b5 : w1.cell? ⟨w.heap.size + 1, 5, none⟩ = some (.int .u64 (btok : Int)) := Y1.cell 5
  have b6 : w1.cell? ⟨w.heap.size + 1, 6, none⟩ = some (.bool bgood) := Y1.cell 6
  have b7 : w1.cell? ⟨w.heap.size + 1, 7, none⟩ = some (.int .u64 (btime : Int)) := Y1.cell 7
  clear HK0 HX0 HY0 k1 X1 Y1 SG
  cases q with
  | false =>
    go_wp2
    go_ret
    exact ⟨by simp, K1⟩
  | true =>
    by_cases h0 : ak = bk
    · subst h0
      by_cases h1 : ases = bses
      · subst h1
        by_cases h2 : aseq = bseq
        · subst h2
          by_cases h3 : agid = bgid
          · subst h3
            by_cases h4 : atok = btok
            · subst h4
              by_cases h5 : agood = bgood
              · subst h5
                by_cases h6 : atime = btime
                · subst h6
                  go_wp2
                  go_ret
                  exact ⟨by simp, K1⟩
                · have g : ((atime : Int) == (btime : Int)) = false := beq_eq_false_iff_ne.2 (by omega)
                  have G := Lib.hid (decide_eq_false h6)
                  clear h6
                  go_wp2
                  go_ret
                  exact ⟨by rw [G.out]; simp, K1⟩
              · have g : (agood == bgood) = false := beq_eq_false_iff_ne.2 h5
                have G := Lib.hid (decide_eq_false h5)
                clear h5
                go_wp2
                go_ret
                exact ⟨by rw [G.out]; simp, K1⟩
            · have g : ((atok : Int) == (btok : Int)) = false := beq_eq_false_iff_ne.2 (by omega)
              have G := Lib.hid (decide_eq_false h4)
              clear h4
              go_wp2
              go_ret
              exact ⟨by rw [G.out]; simp, K1⟩
          · have g : ((agid : Int) == (bgid : Int)) = false := beq_eq_false_iff_ne.2 (by omega)
            have G := Lib.hid (decide_eq_false h3)
            clear h3
            go_wp2
            go_ret
            exact ⟨by rw [G.out]; simp, K1⟩
        · have g : ((aseq : Int) == (bseq : Int)) = false := beq_eq_false_iff_ne.2 (by omega)
          have G := Lib.hid (decide_eq_false h2)
          clear h2
          go_wp2
          go_ret
          exact ⟨by rw [G.out]; simp, K1⟩
      · have g : ((ases : Int) == (bses : Int)) = false := beq_eq_false_iff_ne.2 (by omega)
        have G := Lib.hid (decide_eq_false h1)
        clear h1
        go_wp2
        go_ret
        exact ⟨by rw [G.out]; simp, K1⟩
    · have g : (ak == bk) = false := beq_eq_false_iff_ne.2 (by omega)
      have G := Lib.hid (decide_eq_false h0)
      clear h0
      go_wp2
      go_ret
      exact ⟨by rw [G.out]; simp, K1⟩

theorem sameCommand_any (w : World) (D D' : Nat → Prop) (x y : Cmd) (h : Tgs w D x.gv x.ts) (h' : Tgs w D' y.gv y.ts) :
    Calls Try.prog 21 #[.agg x.cells, .agg y.cells] w (Told' (x.same y) w) := by
  obtain ⟨k, ses, seq, gv, ts, gid, tok, good, time⟩ := x
  obtain ⟨k', ses', seq', gv', ts', gid', tok', good', time'⟩ := y
  obtain ⟨A, c, hv, _⟩ := h.1
  obtain ⟨A', c', hv', _⟩ := h'.1
  simp only at hv hv' h h'
  subst hv hv'
  exact sameCommand_core w D D' k ses seq gid tok time good A c ts k' ses' seq' gid' tok' time' good' A' c' ts' h h'
end Go.Proofs.Ytngbminjbgomgaa
