/-
  The document's reader (dockyardref01): Raw, Get, GetVar, GetText, End.
-/
import Derived.Test.YtngbminjbgomgaaRef
import Derived.Test.YtngbminjbgomgaaReads
import Derived.Test.YtngbminjbgomgaaHeld
namespace Go.Proofs.Ytngbminjbgomgaa
open Go.RowKit

/-- What is behind Raw: the reader, and what was read. -/
def RefTook (w : World) (v : Value) (bs : List UInt8) (cs : List UInt8) (s : Rs) (e : Ending) (w' : World) : Prop :=
  ∃ (at' : Nat) (u : Value), e = .returned (.tuple #[.agg #[v, .int .i64 at', .int .i64 s.err], u]) ∧ at' ≤ bs.length ∧ bs.drop at' = s.left ∧ Fresh w w' u cs

theorem Keep.putNew {w w' : World} (h : Keep noneOf w w') {p : Addr} (hp : w.heap.size ≤ p.block) (u : Value) : Keep noneOf w (w'.setCell p u) := h.setCell (fun hlt => absurd hlt (by omega)) u
theorem own_nil (w : World) : w.ownsRow 0 5 1 (.slice none 0 0) ([] : List UInt8).length (([] : List UInt8).map bv) := by simpa using World.ownsRow_nil w 0 5 1
theorem fresh_nil {w w' : World} (k : Keep noneOf w w') : Fresh w w' (.slice none 0 0) [] := ⟨k, by simpa using World.ownsRow_nil w' 0 5 1, by intro k hk; cases hk⟩

set_option maxRecDepth 100000 in
set_option maxHeartbeats 1000000 in
theorem refRaw_any (w : World) (D : Nat → Prop) (v : Value) (bs cs : List UInt8) (p n : Nat) (er : Int) (s : Rs) (hs : Bytes w D v bs) (hl : bs.length ≤ lim) (hp : p ≤ bs.length) (hn : (n : Int) ≤ 9223372036854775807) (h : Rs.take ⟨bs.drop p, er⟩ n = (cs, s)) :
    Calls Try.prog 59 #[.agg #[v, .int .i64 p, .int .i64 er], .int .i64 n] w (RefTook w v bs cs s) := by
  obtain ⟨i0, hi0, hz0, hz1, hz2⟩ := info_parts u8info
  have hs' := hs
  obtain ⟨A, c, rfl, hlc, hcm, hnil, hcell⟩ := hs
  unfold maxLen at hcm
  have HCL := Lib.hid hcell
  have hlim := Lib.hid lim_is
  unfold Rs.take at h
  by_cases he : er = 0
  · subst he
    rw [if_neg (fun h => h rfl)] at h
    simp only [List.length_drop] at h
    by_cases hlt : bs.length - p < n
    · rw [if_pos hlt] at h
      obtain ⟨rfl, rfl⟩ := Prod.mk.inj h
      have g : decide ((bs.length : Int) - (p : Int) < (n : Int)) = true := by simp; omega
      have g0 : decide ((n : Int) < 0) = false := by simp
      have R : Hid (∀ w', Keep noneOf w w' → RefTook w (.slice A bs.length c) bs [] ⟨bs.drop p, 10⟩ (.returned (.tuple #[.agg #[.slice A bs.length c, .int .i64 p, .int .i64 10], .slice none 0 0])) w') := fun w' k => ⟨p, _, rfl, hp, rfl, fresh_nil k⟩
      clear h hcell hs' hlt
      go_enter Try.func59, Try.ntmps59
      go_wp2
      refine bodyPost_ret (v := .tuple #[.agg #[.slice A bs.length c, .int .i64 p, .int .i64 10], .slice none 0 0]) (by simp [results, Try.results59, go_sem]) rfl (R.out _ ?_)
      repeat (first | exact Keep.refl _ _ | refine Keep.alloc ?_ _ | refine Keep.putNew ?_ (Nat.le_refl _) _ | refine Keep.putNew ?_ (Nat.le_succ _) _)
    · rw [if_neg hlt] at h
      obtain ⟨rfl, rfl⟩ := Prod.mk.inj h
      have g : decide ((bs.length : Int) - (p : Int) < (n : Int)) = false := by simp; omega
      have g0 : decide ((n : Int) < 0) = false := by simp
      have hpn : p + n ≤ bs.length := by omega
      have HBL := Lib.hid hl
      have R : Hid (∀ w' u, Fresh w w' u ((bs.drop p).take n) → RefTook w (.slice A bs.length c) bs ((bs.drop p).take n) ⟨(bs.drop p).drop n, 0⟩ (.returned (.tuple #[.agg #[.slice A bs.length c, .int .i64 ((p : Int) + n), .int .i64 0], u])) w') := fun w' u k => ⟨p + n, _, rfl, hpn, by rw [List.drop_drop], k⟩
      rw [lim_is] at hl
      by_cases hcn : c = p
      · obtain rfl : n = 0 := by omega
        obtain rfl : p = bs.length := by omega
        obtain rfl : c = bs.length := hcn
        have e0 : (bs.drop bs.length).take 0 = [] := rfl
        rw [e0] at R
        have HB2 : Hid (([] : List UInt8).length + ([] : List UInt8).length ≤ lim) := Nat.zero_le _
        have hb1 : Bytes ((w.alloc (.cells #[.slice A bs.length bs.length, .int .i64 (bs.length : Int), .int .i64 0] 67)).alloc (.cells #[.slice none 0 0, .int .i64 0, .int .i64 0] 67)) D (.slice A 0 0) [] := ⟨A, 0, rfl, Nat.le_refl _, Nat.zero_le _, fun _ => rfl, fun h => absurd h (by simp)⟩
        have hx := (Box.new w 67 #[.slice A bs.length bs.length, .int .i64 (bs.length : Int), .int .i64 0]).alloc (.cells #[.slice none 0 0, .int .i64 0, .int .i64 0] 67)
        have hy := Box.new (w.alloc (.cells #[.slice A bs.length bs.length, .int .i64 (bs.length : Int), .int .i64 0] 67)) 67 #[.slice none 0 0, .int .i64 0, .int .i64 0]
        have K0 := ((Keep.refl noneOf w).alloc (.cells #[.slice A bs.length bs.length, .int .i64 (bs.length : Int), .int .i64 0] 67)).alloc (.cells #[.slice none 0 0, .int .i64 0, .int .i64 0] 67)
        simp only [World.size_alloc] at hy
        have HX := Lib.hid hx
        have HY := Lib.hid hy
        have HK0 := Lib.hid K0
        clear hs' hcell h hx hy K0
        go_enter Try.func59, Try.ntmps59
        go_wp2_with (at_builtin; refine wpList_append_read _ rfl (.tmp 28) (.tmp 37) 23 rfl 5 i0 _ Try.underlying23 hi0 hz0 hz1 hz2 rfl _ _ [] _ _ rfl rfl (own_nil _) hb1 HB2.out ?_)
        intro v2 w2 o2 gr2 at2 hnl
        obtain rfl : v2 = .slice none 0 0 := by simpa using hnl
        clear hnl
        have hne : ∀ k, ¬ (some k = (Value.slice none 0 0).ownBlock) := fun k h => by cases h
        have hx := HX.out.keep (Keep.of_grown gr2) (hne _)
        have hy := HY.out.keep (Keep.of_grown gr2) (hne _)
        have K2 := HK0.out.trans (Keep.of_grown gr2) (fun k _ h => absurd h (hne k))
        have HK2 := Lib.hid K2
        have a0 : w2.cell? ⟨w.heap.size, 0, none⟩ = some (.slice A bs.length bs.length) := hx.cell 0
        have a1 : w2.cell? ⟨w.heap.size, 1, none⟩ = some (.int .i64 (bs.length : Int)) := hx.cell 1
        have a2 : w2.cell? ⟨w.heap.size, 2, none⟩ = some (.int .i64 0) := hx.cell 2
        have b0 : w2.cell? ⟨w.heap.size + 1, 0, none⟩ = some (.slice none 0 0) := hy.cell 0
        have b1 : w2.cell? ⟨w.heap.size + 1, 1, none⟩ = some (.int .i64 0) := hy.cell 1
        have b2 : w2.cell? ⟨w.heap.size + 1, 2, none⟩ = some (.int .i64 0) := hy.cell 2
        have fa := hx.free 1
        have f0 := hy.free 0
        have f1 := hy.free 1
        have f2 := hy.free 2
        clear o2 gr2 at2 hne K2 HX HY HK0 hb1
        go_wp2
        have hB := ((((hy.far (p := ⟨w.heap.size, 1, none⟩) (by simp) (.int .i64 (bs.length : Int))).put 0 (.slice A bs.length bs.length)).put 1 (.int .i64 (bs.length : Int))).put 2 (.int .i64 0))
        have hK := (((HK2.out.putNew (p := ⟨w.heap.size, 1, none⟩) (Nat.le_refl _) (.int .i64 (bs.length : Int))).putNew (p := ⟨w.heap.size + 1, 0, none⟩) (Nat.le_succ _) (.slice A bs.length bs.length)).putNew (p := ⟨w.heap.size + 1, 1, none⟩) (Nat.le_succ _) (.int .i64 (bs.length : Int))).putNew (p := ⟨w.heap.size + 1, 2, none⟩) (Nat.le_succ _) (.int .i64 0)
        generalize (((w2.setCell ⟨w.heap.size, 1, none⟩ (.int .i64 (bs.length : Int))).setCell ⟨w.heap.size + 1, 0, none⟩ (.slice A bs.length bs.length)).setCell ⟨w.heap.size + 1, 1, none⟩ (.int .i64 (bs.length : Int))).setCell ⟨w.heap.size + 1, 2, none⟩ (.int .i64 0) = wf at *
        have r0 : wf.cell? ⟨w.heap.size + 1, 0, none⟩ = some (.slice A bs.length bs.length) := hB.cell 0
        have r1 : wf.cell? ⟨w.heap.size + 1, 1, none⟩ = some (.int .i64 (bs.length : Int)) := hB.cell 1
        have r2 : wf.cell? ⟨w.heap.size + 1, 2, none⟩ = some (.int .i64 0) := hB.cell 2
        refine bodyPost_ret (v := .tuple #[.agg #[.slice A bs.length bs.length, .int .i64 (bs.length : Int), .int .i64 0], .slice none 0 0]) (by simp [results, Try.results59, go_sem, r0, r1, r2]) rfl (R.out _ _ (fresh_nil hK))
      · have HB2 : Hid (([] : List UInt8).length + ((bs.drop p).take n).length ≤ lim) := by
          have := HBL.out
          show ([] : List UInt8).length + ((bs.drop p).take n).length ≤ lim
          simp only [List.length_nil, List.length_take, List.length_drop]
          omega
        have hdr := hs'.drop (n := p) hp
        rw [← List.length_drop] at hdr
        have hbk := Bytes.take (n := n) hdr (by rw [List.length_drop]; omega)
        rw [if_neg hcn] at hbk
        have hb1 := hbk.keep (((Keep.refl noneOf w).alloc (.cells #[.slice A bs.length c, .int .i64 p, .int .i64 0] 67)).alloc (.cells #[.slice none 0 0, .int .i64 0, .int .i64 0] 67)) (fun _ _ _ => id)
        have hx := (Box.new w 67 #[.slice A bs.length c, .int .i64 p, .int .i64 0]).alloc (.cells #[.slice none 0 0, .int .i64 0, .int .i64 0] 67)
        have hy := Box.new (w.alloc (.cells #[.slice A bs.length c, .int .i64 p, .int .i64 0] 67)) 67 #[.slice none 0 0, .int .i64 0, .int .i64 0]
        have K0 := ((Keep.refl noneOf w).alloc (.cells #[.slice A bs.length c, .int .i64 p, .int .i64 0] 67)).alloc (.cells #[.slice none 0 0, .int .i64 0, .int .i64 0] 67)
        simp only [World.size_alloc] at hy
        rw [show Value.slice (Option.map (fun x => x.add p) A) n (c - p) = Value.slice (Option.map (fun x => x.add p) A) (p + n - p) (c - p) by rw [Nat.add_sub_cancel_left]] at hb1
        have HX := Lib.hid hx
        have HY := Lib.hid hy
        have HK0 := Lib.hid K0
        clear hbk hdr hs' hcell h hx hy K0
        go_enter Try.func59, Try.ntmps59
        go_wp2_with (at_builtin; refine wpList_append_read _ rfl (.tmp 28) (.tmp 37) 23 rfl 5 i0 _ Try.underlying23 hi0 hz0 hz1 hz2 rfl _ _ [] _ _ rfl rfl (own_nil _) hb1 HB2.out ?_)
        intro v2 w2 o2 gr2 at2 _
        have hne : ∀ k, ¬ (some k = (Value.slice none 0 0).ownBlock) := fun k h => by cases h
        have hx := HX.out.keep (Keep.of_grown gr2) (hne _)
        have hy := HY.out.keep (Keep.of_grown gr2) (hne _)
        have K2 := HK0.out.trans (Keep.of_grown gr2) (fun k _ h => absurd h (hne k))
        have o2' : w2.ownsRow 0 5 1 v2 ((bs.drop p).take n).length (((bs.drop p).take n).map bv) := by simpa using o2
        obtain ⟨A2, c2, hs2⟩ := own_shape o2'
        subst hs2
        have HF : Hid (∀ k, (Value.slice A2 ((bs.drop p).take n).length c2).ownBlock = some k → w.heap.size + 1 < k) := fun k hk => by
          rcases at2 with e | e
          · rw [e] at hk; cases hk
          · rw [e] at hk; injection hk with hk; (try simp only [World.size_alloc] at hk); omega
        have HO := Lib.hid o2'
        have HK2 := Lib.hid K2
        have a0 : w2.cell? ⟨w.heap.size, 0, none⟩ = some (.slice A bs.length c) := hx.cell 0
        have a1 : w2.cell? ⟨w.heap.size, 1, none⟩ = some (.int .i64 p) := hx.cell 1
        have a2 : w2.cell? ⟨w.heap.size, 2, none⟩ = some (.int .i64 0) := hx.cell 2
        have b0 : w2.cell? ⟨w.heap.size + 1, 0, none⟩ = some (.slice none 0 0) := hy.cell 0
        have b1 : w2.cell? ⟨w.heap.size + 1, 1, none⟩ = some (.int .i64 0) := hy.cell 1
        have b2 : w2.cell? ⟨w.heap.size + 1, 2, none⟩ = some (.int .i64 0) := hy.cell 2
        have fa := hx.free 1
        have f0 := hy.free 0
        have f1 := hy.free 1
        have f2 := hy.free 2
        clear o2 o2' gr2 at2 hne K2 HX HY HK0 hb1
        go_wp2
        have hB := ((((hy.far (p := ⟨w.heap.size, 1, none⟩) (by simp) (.int .i64 ((p : Int) + n))).put 0 (.slice A bs.length c)).put 1 (.int .i64 ((p : Int) + n))).put 2 (.int .i64 0))
        have hK := (((HK2.out.putNew (p := ⟨w.heap.size, 1, none⟩) (Nat.le_refl _) (.int .i64 ((p : Int) + n))).putNew (p := ⟨w.heap.size + 1, 0, none⟩) (Nat.le_succ _) (.slice A bs.length c)).putNew (p := ⟨w.heap.size + 1, 1, none⟩) (Nat.le_succ _) (.int .i64 ((p : Int) + n))).putNew (p := ⟨w.heap.size + 1, 2, none⟩) (Nat.le_succ _) (.int .i64 0)
        have hL := ((((Keep.refl (fun k => k ≤ w.heap.size + 1) w2).setCell (p := ⟨w.heap.size, 1, none⟩) (fun _ => Nat.le_succ _) (.int .i64 ((p : Int) + n))).setCell (p := ⟨w.heap.size + 1, 0, none⟩) (fun _ => Nat.le_refl _) (.slice A bs.length c)).setCell (p := ⟨w.heap.size + 1, 1, none⟩) (fun _ => Nat.le_refl _) (.int .i64 ((p : Int) + n))).setCell (p := ⟨w.heap.size + 1, 2, none⟩) (fun _ => Nat.le_refl _) (.int .i64 0)
        generalize (((w2.setCell ⟨w.heap.size, 1, none⟩ (.int .i64 ((p : Int) + n))).setCell ⟨w.heap.size + 1, 0, none⟩ (.slice A bs.length c)).setCell ⟨w.heap.size + 1, 1, none⟩ (.int .i64 ((p : Int) + n))).setCell ⟨w.heap.size + 1, 2, none⟩ (.int .i64 0) = wf at *
        have r0 : wf.cell? ⟨w.heap.size + 1, 0, none⟩ = some (.slice A bs.length c) := hB.cell 0
        have r1 : wf.cell? ⟨w.heap.size + 1, 1, none⟩ = some (.int .i64 ((p : Int) + n)) := hB.cell 1
        have r2 : wf.cell? ⟨w.heap.size + 1, 2, none⟩ = some (.int .i64 0) := hB.cell 2
        refine bodyPost_ret (v := .tuple #[.agg #[.slice A bs.length c, .int .i64 ((p : Int) + n), .int .i64 0], .slice A2 ((bs.drop p).take n).length c2]) (by simp [results, Try.results59, go_sem, r0, r1, r2]) rfl (R.out _ _ ⟨hK, own_keep HO.out hL (fun k hk => by have := HF.out k hk; omega), fun k hk => by have := HF.out k hk; omega⟩)
  · rw [if_pos he] at h
    obtain ⟨rfl, rfl⟩ := Prod.mk.inj h
    have g : (er == 0) = false := beq_eq_false_iff_ne.2 he
    have g' : (er != 0) = true := bne_iff_ne.2 he
    have R : Hid (∀ w', Keep noneOf w w' → RefTook w (.slice A bs.length c) bs [] ⟨bs.drop p, er⟩ (.returned (.tuple #[.agg #[.slice A bs.length c, .int .i64 p, .int .i64 er], .slice none 0 0])) w') := fun w' k => ⟨p, _, rfl, hp, rfl, fresh_nil k⟩
    clear h hcell hs' he
    go_enter Try.func59, Try.ntmps59
    go_wp2
    refine bodyPost_ret (v := .tuple #[.agg #[.slice A bs.length c, .int .i64 p, .int .i64 er], .slice none 0 0]) (by simp [results, Try.results59, go_sem]) rfl (R.out _ ?_)
    repeat (first | exact Keep.refl _ _ | refine Keep.alloc ?_ _ | refine Keep.putNew ?_ (Nat.le_refl _) _ | refine Keep.putNew ?_ (Nat.le_succ _) _)
end Go.Proofs.Ytngbminjbgomgaa
