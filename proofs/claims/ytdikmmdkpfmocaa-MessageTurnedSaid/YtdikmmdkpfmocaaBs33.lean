import Derived.Test.YtdikmmdkpfmocaaBs31
namespace Go.Proofs.Ytdikmmdkpfmocaa
open Go.RowKit
def entsFrom (ix te : Nat) : Nat → List Pe → Bool
  | _, [] => true
  | i, x :: r => decide (x.ix = (ix + 1 + i) % 18446744073709551616) && decide (x.te ≤ te) && entRight x.ix x.te x.k x.da.length && entsFrom ix te (i + 1) r
def entsP (m : Pm) : Bool := decide (m.es.length ≤ 8) && entsFrom m.ix m.te 0 m.es
theorem ents_at (ix te k : Nat) (l : List Pe) (x : Pe) (h : l[k]? = some x) : entsFrom ix te k (l.drop k) = (decide (x.ix = (ix + 1 + k) % 18446744073709551616) && decide (x.te ≤ te) && entRight x.ix x.te x.k x.da.length && entsFrom ix te (k + 1) (l.drop (k + 1))) := by
  obtain ⟨hk, rfl⟩ := List.getElem?_eq_some_iff.1 h
  rw [List.drop_eq_getElem_cons hk]
  rfl
theorem en_cells {w : World} {b o k : Nat} {x : En} (h : ∀ j, j < 4 → w.cell? ⟨b, o + (k * 4 + j), none⟩ = x.cells[j]?) :
    w.cell? ⟨b, o + k * 4, none⟩ = some (.int .u64 (x.ix : Int)) ∧ w.cell? ⟨b, o + k * 4 + 1, none⟩ = some (.int .u64 (x.te : Int)) ∧ w.cell? ⟨b, o + k * 4 + 2, none⟩ = some (.int .i64 x.k) ∧ w.cell? ⟨b, o + k * 4 + 3, none⟩ = some x.dv :=
  ⟨h 0 (by decide), h 1 (by decide), h 2 (by decide), h 3 (by decide)⟩
theorem wrap64 (n : Nat) : IntKind.u64.wrap (n : Int) = ((n % 18446744073709551616 : Nat) : Int) := by
  simp only [IntKind.wrap, IntKind.signed, IntKind.bits]
  simp
theorem follows_at (ix k : Nat) (hk : k < 18446744073709551616) : ∃ N1 N2 : Nat, IntKind.u64.wrap ((ix : Int) + 1) = (N1 : Int) ∧ IntKind.u64.wrap (k : Int) = (k : Int) ∧ IntKind.u64.wrap ((N1 : Int) + (k : Int)) = (N2 : Int) ∧ N2 = (ix + 1 + k) % 18446744073709551616 := by
  refine ⟨(ix + 1) % 18446744073709551616, ((ix + 1) % 18446744073709551616 + k) % 18446744073709551616, ?_, ?_, ?_, ?_⟩
  · exact wrap64 (ix + 1)
  · rw [wrap64, Nat.mod_eq_of_lt hk]
  · exact wrap64 ((ix + 1) % 18446744073709551616 + k)
  · omega
set_option maxRecDepth 100000 in
set_option maxHeartbeats 2000000 in
theorem rightEntries_any (w : World) (D : Nat → Prop) (m : Mg) (h : m.lies w D) :
    Calls Try.prog 28 #[.agg m.cells] w fun e w' => e = .returned (.bool (entsP m.plain)) ∧ Keep noneOf w w' := by
  have HL := Lib.hid h.low
  obtain ⟨⟨A, c, hev⟩, _⟩ := h.shapes
  obtain ⟨A', c', hv', hle', hmax', -⟩ := h.es.1
  have hmx : (m.es.length : Int) ≤ 9223372036854775807 := by unfold maxLen at hmax'; omega
  have KB := (Keep.refl noneOf w).alloc (.cells m.cells 29)
  have HB : Hid (MBox (w.alloc (.cells m.cells 29)) w.heap.size m) := Lib.hid (Box.new w 29 m.cells)
  have HK := Lib.hid KB
  have hep : entsP m.plain = (decide (m.es.length ≤ 8) && entsFrom m.ix m.te 0 (m.es.map En.plain)) := by
    unfold entsP
    show (decide ((m.es.map En.plain).length ≤ 8) && _) = _
    rw [List.length_map]
    rfl
  have c9 : (w.alloc (.cells m.cells 29)).cell? ⟨w.heap.size, 9, none⟩ = some (.slice A m.es.length c) := by rw [← hev]; exact (HB.out.cell 9).trans m.at9
  have HEV := Lib.hid hev
  clear h hv' hle' hmax' KB hev A' c'
  by_cases h8 : m.es.length ≤ 8
  · rw [hep, decide_eq_true h8, Bool.true_and]
    have g8 : ¬ ((m.es.length : Int) > 8) := by omega
    clear hep
    have HEI := Lib.hid (fun x (hx : x ∈ m.es) => HL.out.es.2 x hx)
    go_enter Try.func28, Try.ntmps28
    go_wp2
    go_loopw [14] (fun i wr => ∃ (k : Nat), k ≤ m.es.length ∧ i = .int .i64 k ∧ Keep noneOf (w.alloc (.cells m.cells 29)) wr ∧ entsFrom m.ix m.te k ((m.es.map En.plain).drop k) = entsFrom m.ix m.te 0 (m.es.map En.plain)) (fun i _ => m.es.length - (intOf i).toNat)
    case atStart => exact ⟨0, Nat.zero_le _, rfl, Keep.refl _ _, rfl⟩
    case round =>
      obtain ⟨k, hk, rfl, hkeep, hfr⟩ := hrel
      have hkp := Lib.hid hkeep
      have HFR := Lib.hid hfr
      clear hfr
      by_cases hlt : k < m.es.length
      · have hx : m.es[k]? = some m.es[k] := List.getElem?_eq_getElem hlt
        have hes := (HL.out.es.keep (HK.out.trans hkeep (fun _ _ h => h)) (fun _ _ _ => id))
        rw [HEV.out] at hes
        obtain ⟨b, o, rfl, hblk, hbl, hcell⟩ := hes.1.cell (fun _ => rfl) hx
        have hxl := hes.2 _ (List.getElem_mem hlt)
        have HAT := Lib.hid (ents_at m.ix m.te k (m.es.map En.plain) m.es[k].plain (by rw [List.getElem?_map, hx]; rfl))
        rw [HFR.out] at HAT
        generalize m.es[k] = x at *
        obtain ⟨c0, c1, c2, c3⟩ := en_cells hcell
        obtain ⟨xi, xt, xk, xd, xs⟩ := x
        simp only at c0 c1 c2 c3
        have hbx : Hid (MBox wr w.heap.size m) := Lib.hid (HB.out.keep hkeep id)
        have b3 : wr.cell? ⟨w.heap.size, 3, none⟩ = some (.int .u64 (m.te : Int)) := (hbx.out.cell 3).trans m.at3
        have b4 : wr.cell? ⟨w.heap.size, 4, none⟩ = some (.int .u64 (m.ix : Int)) := (hbx.out.cell 4).trans m.at4
        have q0 : (0 : Int) ≤ (k : Int) := by omega
        have q1 : (k : Int) < (m.es.length : Int) := by omega
        have HXL := Lib.hid hxl
        obtain ⟨N1, N2, e1, e2, e3, e4⟩ := follows_at m.ix k (by have := hmx; omega)
        have HE4 := Lib.hid e4
        clear e4
        obtain ⟨g1, hg1⟩ : ∃ g, ((xi : Int) != (N2 : Int)) = g := ⟨_, rfl⟩
        obtain ⟨g2, hg2⟩ : ∃ g, decide (m.te < xt) = g := ⟨_, rfl⟩
        obtain ⟨Ax, cx, hxd, -⟩ := hxl.da
        simp only at hxd
        subst hxd
        have hwz : w.heap.size < wr.heap.size := hbx.out.lt
        clear hx hcell hes hxl hkeep
        have hr : entsFrom m.ix m.te 0 (m.es.map En.plain) = (!g1 && !g2 && entRight xi xt xk xs.length && entsFrom m.ix m.te (k + 1) ((m.es.map En.plain).drop (k + 1))) := by
          rw [HAT.out, ← hg1, ← hg2]
          show (decide (xi = _) && decide (xt ≤ m.te) && _ && _) = _
          rw [← HE4.out]
          have z1 : decide (xi = N2) = !((xi : Int) != (N2 : Int)) := by rw [Bool.eq_iff_iff]; simp; omega
          have z2 : decide (xt ≤ m.te) = !decide (m.te < xt) := by rw [Bool.eq_iff_iff]; simp
          rw [z1, z2]
          rfl
        have HR := Lib.hid hr
        clear hr
        have HWA := Lib.hid ((HK.out.trans hkp.out (fun _ _ h => h)).alloc (.cells #[.int .u64 (xi : Int), .int .u64 (xt : Int), .int .i64 xk, .slice Ax xs.length cx] 81))
        have HEC := Lib.hid (encode_any (wr.alloc (.cells #[.int .u64 (xi : Int), .int .u64 (xt : Int), .int .i64 xk, .slice Ax xs.length cx] 81)) _ xi xt xk _ xs HXL.out.ix HXL.out.te (HXL.out.da.keep ((Keep.refl noneOf wr).alloc _) (fun _ _ _ => id)))
        clear HXL HAT HE4
        cases g1
        · cases g2
          · go_wp2_with fail
            refine HEC.out.mono ?_
            rintro e w2 ⟨k2, ⟨he, rfl⟩ | ⟨he, u2, rfl, -, -⟩⟩
            · have HK2 := Lib.hid (HWA.out.trans k2 (fun _ _ h => h))
              have HF : Hid (entsFrom m.ix m.te 0 (m.es.map En.plain) = false) := Lib.hid (by rw [HR.out, he]; simp)
              clear k2 he HEC HWA
              go_wp2
              go_ret
              exact ⟨ret_bool HF.out.symm, HK2.out⟩
            · have HK2 : Hid (Keep noneOf (w.alloc (.cells m.cells 29)) w2) := Lib.hid ((hkp.out.alloc _).trans k2 (fun _ _ h => h))
              have HF : Hid (entsFrom m.ix m.te (k + 1) ((m.es.map En.plain).drop (k + 1)) = entsFrom m.ix m.te 0 (m.es.map En.plain)) := Lib.hid (by rw [HR.out, he]; simp)
              clear k2 he HEC HWA
              go_wp2
              go_roundw
              case rel => exact ⟨k + 1, by omega, by go_num, HK2.out, HF.out⟩
              case measure => simp [intOf]; omega
          · have HF : Hid (entsFrom m.ix m.te 0 (m.es.map En.plain) = false) := Lib.hid (by rw [HR.out]; simp)
            go_wp2
            go_ret
            exact ⟨ret_bool HF.out.symm, HWA.out⟩
        · have HF : Hid (entsFrom m.ix m.te 0 (m.es.map En.plain) = false) := Lib.hid (by rw [HR.out]; simp)
          go_wp2
          go_ret
          exact ⟨ret_bool HF.out.symm, HWA.out⟩
      · have HF : Hid (true = entsFrom m.ix m.te 0 (m.es.map En.plain)) := Lib.hid (by
          have := HFR.out
          rw [List.drop_eq_nil_of_le (by rw [List.length_map]; omega)] at this
          exact this)
        obtain rfl : k = m.es.length := by omega
        go_wp2
        go_ret
        exact ⟨ret_bool HF.out, (HK.out.trans hkp.out (fun _ _ h => h))⟩
  · rw [hep, decide_eq_false h8, Bool.false_and]
    have g8 : ((m.es.length : Int) > 8) := by omega
    clear hep
    go_enter Try.func28, Try.ntmps28
    go_wp2
    go_ret
    exact ⟨rfl, HK.out⟩
end Go.Proofs.Ytdikmmdkpfmocaa
