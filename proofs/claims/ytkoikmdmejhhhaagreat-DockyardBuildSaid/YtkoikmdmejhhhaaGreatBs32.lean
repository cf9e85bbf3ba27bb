import Derived.Test.YtkoikmdmejhhhaaGreatBs23
import Derived.Test.YtkoikmdmejhhhaaGreatBs31
namespace Go.Proofs.YtkoikmdmejhhhaaGreat
open Go.RowKit
def HeldTold (q : Qm) (tok : Int) (w : World) (e : Ending) (w' : World) : Prop := Keep noneOf w w' ∧
  ((heldAt q.plain tok = none ∧ e = .returned (.tuple #[.pointer none, .int .i64 0, .bool false])) ∨
   ∃ (i n g0 cap : Nat), heldAt q.plain tok = some (i, n) ∧ q.gv = .slice (some ⟨g0, 0, none⟩) q.gs.length cap ∧ e = .returned (.tuple #[.pointer (some ⟨g0, i * 3, none⟩), .int .i64 (n : Int), .bool true]))
theorem held_none_at {tok now : Int} {g : Gm} (h : ∀ j x, j < g.st.length → g.st[j]? = some x → holdsB x tok now = false) : heldIn tok now g.plain = none := by
  unfold heldIn
  rw [List.findIdx?_eq_none_iff]
  intro x hx
  obtain ⟨j, hj⟩ := List.getElem?_of_mem hx
  exact h j x (List.getElem?_eq_some_iff.1 hj).1 hj
theorem held_some_at {tok now : Int} {g : Gm} {k : Nat} {x : Pst} (hx : g.st[k]? = some x) (hb : holdsB x tok now = true) (h : ∀ j y, j < k → g.st[j]? = some y → holdsB y tok now = false) : heldIn tok now g.plain = some k := by
  unfold heldIn
  rw [List.findIdx?_eq_some_iff_getElem]
  obtain ⟨h1, h2⟩ := List.getElem?_eq_some_iff.1 hx
  refine ⟨h1, by show holdsB (g.st[k]) tok now = true; rw [h2]; exact hb, fun j hj => ?_⟩
  have hjl : j < g.st.length := by omega
  have := h j _ hj (List.getElem?_eq_getElem hjl)
  show ¬ holdsB (g.st[j]) tok now = true
  rw [this]
  simp
set_option maxRecDepth 100000 in
set_option maxHeartbeats 4000000 in
set_option linter.unusedSimpArgs false in
theorem qheld_any (w : World) (D : Nat → Prop) (q : Qm) (h : QAt w D q) (tok : Int) (h0 : 0 ≤ tok) :
    Calls Tryz.prog 116 #[.pointer (some ⟨q.p, 0, none⟩), .int .u64 tok] w (HeldTold q tok w) := by
  have HQ := Lib.hid h
  have H0 := Lib.hid h0
  obtain ⟨A, cap, hgv⟩ := h.shape
  have hn := h.few
  unfold maxLen at hn
  have p4 : w.cell? ⟨q.p, 4, none⟩ = some (.slice A q.gs.length cap) := by rw [← hgv]; exact h.box.cell 4
  have HGV := Lib.hid hgv
  clear h h0 hgv
  go_enter Tryz.func116, Tryz.ntmps116
  go_wp2
  clear p4
  go_loopw [16] (fun i wr => ∃ k : Nat, k ≤ q.gs.length ∧ i = .int .i64 k ∧ Keep noneOf w wr ∧ ∀ j g, j < k → q.gs[j]? = some g → heldIn tok q.now g.plain = none) (fun i _ => q.gs.length - (intOf i).toNat)
  case atStart => exact ⟨0, Nat.zero_le _, rfl, Keep.refl _ _, fun j _ hj => absurd hj (by omega)⟩
  case round =>
    obtain ⟨k, hk, rfl, hkeep, hall⟩ := hrel
    have HA := Lib.hid hall
    have HKP := Lib.hid hkeep
    clear hall
    have hQ := HQ.out.stay hkeep
    by_cases hlt : k < q.gs.length
    · have hx : q.gs[k]? = some q.gs[k] := List.getElem?_eq_getElem hlt
      generalize q.gs[k] = g at *
      obtain ⟨g0, cap', hgv', hg0D, hg0lt, hg0p, d0, d1, d2, fr2⟩ := hQ.rows hx
      have hgv := HGV.out
      rw [hgv] at hgv'
      obtain ⟨rfl, rfl⟩ : A = some ⟨g0, 0, none⟩ ∧ cap = cap' := by simpa using hgv'
      have p4 : wr.cell? ⟨q.p, 4, none⟩ = some (.slice (some ⟨g0, 0, none⟩) q.gs.length cap) := by rw [← hgv]; exact hQ.box.cell 4
      have HS := Lib.hid (hQ.states (List.mem_of_getElem? hx))
      obtain ⟨As, cs, hsv⟩ := HS.out.shape
      have HSV := Lib.hid hsv
      rw [hsv] at d2
      have HX := Lib.hid hx
      have hsf := HS.out.few
      unfold maxLen at hsf
      have q0 : (0 : Int) ≤ (k : Int) := by omega
      have q1 : (k : Int) < (q.gs.length : Int) := by omega
      clear hQ hgv' hgv hsv hx d0 d1 fr2 hkeep hg0lt hg0D hg0p
      go_wp2
      clear d2 p4
      go_loopw [30] (fun i wx => ∃ m : Nat, m ≤ g.st.length ∧ i = .int .i64 m ∧ Keep noneOf wr wx ∧ ∀ j x, j < m → g.st[j]? = some x → holdsB x tok q.now = false) (fun i _ => g.st.length - (intOf i).toNat)
      case atStart => exact ⟨0, Nat.zero_le _, rfl, Keep.refl _ _, fun j _ hj => absurd hj (by omega)⟩
      case round =>
        obtain ⟨m, hm, rfl, hkm, hallm⟩ := hrel
        have HAM := Lib.hid hallm
        have HKM := Lib.hid (HKP.out.trans hkm (fun _ _ h => h))
        have HKX := Lib.hid hkm
        clear hallm
        by_cases hlm : m < g.st.length
        · have hy : g.st[m]? = some g.st[m] := List.getElem?_eq_getElem hlm
          have hmany : Many Pst.cells 3 wr q.O (.slice As g.st.length cs) g.st := by
            have := HS.out.keep hkm (fun _ _ _ => id)
            rw [HSV.out] at this
            exact this
          obtain ⟨b1, o1, rfl, hb1, _, hcell⟩ := hmany.cell (fun _ => rfl) hy
          have HY := Lib.hid hy
          generalize g.st[m] = x at *
          have e0 : wr.cell? ⟨b1, o1 + m * 3, none⟩ = some (.int .i64 x.s) := hcell 0 (by decide)
          have e1 : wr.cell? ⟨b1, o1 + m * 3 + 1, none⟩ = some (.int .u64 x.t) := hcell 1 (by decide)
          have e2 : wr.cell? ⟨b1, o1 + m * 3 + 2, none⟩ = some (.int .u64 x.u) := hcell 2 (by decide)
          have m0 : (0 : Int) ≤ (m : Int) := by omega
          have m1 : (m : Int) < (g.st.length : Int) := by omega
          have KA := (Keep.refl noneOf wr).alloc (.cells #[.int .i64 x.s, .int .u64 x.t, .int .u64 x.u] 64)
          have HBX := Lib.hid (Box.new wr 64 #[.int .i64 x.s, .int .u64 x.t, .int .u64 x.u])
          have HKA := Lib.hid (HKM.out.trans KA (fun _ _ h => h))
          have HKXA := Lib.hid (HKX.out.trans KA (fun _ _ h => h))
          clear hmany hcell hy hkm KA
          go_wp2
          generalize wr.alloc (.cells #[.int .i64 x.s, .int .u64 x.t, .int .u64 x.u] 64) = w2 at *
          generalize hxb : wr.heap.size = xb at *
          clear e0 e1 e2 hxb
          have MC : Hid (∀ w', Keep noneOf w2 w' → w'.cell? ⟨q.p, 0, none⟩ = some (.int .u64 q.now) ∧ w'.cell? ⟨xb, 0, none⟩ = some (.int .i64 x.s) ∧ w'.cell? ⟨xb, 1, none⟩ = some (.int .u64 x.t) ∧ w'.cell? ⟨xb, 2, none⟩ = some (.int .u64 x.u)) := Lib.hid fun w' k' =>
            ⟨(HQ.out.stay (HKA.out.trans k' (fun _ _ h => h))).box.cell 0, (HBX.out.keep k' id).three⟩
          have HH := Lib.hid (fun w' => holds_any w' x tok q.now H0.out)
          have K2 := Keep.refl noneOf w2
          refine wp_region_held_drew (S := fun w' => Keep noneOf w2 w') (by kernel_rfl) (K2.drew) (fun hHeld => ?_)
          refine' wpAnyH_take (i := 0) (v := _) rfl (by kernel_rfl) (by kernel_rfl) (by kernel_rfl) (fun _ _ _ h => h) (Or.inl ⟨by kernel_rfl, ?hy0⟩) (by assumption) ?_
          case hy0 => intro w' hSw; obtain ⟨_, _, _, _⟩ := MC.out w' hSw; go_simp; try with_reducible rfl
          simp only [Act.put, List.getElem_toArray, List.getElem_cons_zero, List.getElem_cons_succ, List.setIfInBounds_toArray, List.set_cons_zero, List.set_cons_succ]
          refine' wpAnyH_take (i := 1) (v := _) rfl (by kernel_rfl) (by kernel_rfl) (by kernel_rfl) (fun _ _ _ h => h) (Or.inl ⟨by kernel_rfl, ?hy1⟩) (by assumption) ?_
          case hy1 => intro w' hSw; obtain ⟨_, _, _, _⟩ := MC.out w' hSw; go_simp; try with_reducible rfl
          simp only [Act.put, List.getElem_toArray, List.getElem_cons_zero, List.getElem_cons_succ, List.setIfInBounds_toArray, List.set_cons_zero, List.set_cons_succ]
          refine' wpAnyH_take (i := 2) (v := _) rfl (by kernel_rfl) (by kernel_rfl) (by kernel_rfl) (fun _ _ _ h => h) (Or.inl ⟨by kernel_rfl, ?hy2⟩) (by assumption) ?_
          case hy2 => intro w' hSw; obtain ⟨_, _, _, _⟩ := MC.out w' hSw; go_simp; try with_reducible rfl
          simp only [Act.put, List.getElem_toArray, List.getElem_cons_zero, List.getElem_cons_succ, List.setIfInBounds_toArray, List.set_cons_zero, List.set_cons_succ]
          refine' wpAnyH_take (i := 3) (v := _) rfl (by kernel_rfl) (by kernel_rfl) (by kernel_rfl) (fun _ _ _ h => h) (Or.inl ⟨by kernel_rfl, ?hy3⟩) (by assumption) ?_
          case hy3 => intro w' hSw; obtain ⟨_, _, _, _⟩ := MC.out w' hSw; go_simp; try with_reducible rfl
          simp only [Act.put, List.getElem_toArray, List.getElem_cons_zero, List.getElem_cons_succ, List.setIfInBounds_toArray, List.set_cons_zero, List.set_cons_succ]
          refine' wpAnyH_take (i := 4) (v := _) rfl (by kernel_rfl) (by kernel_rfl) (by kernel_rfl) (fun _ _ _ h => h) (Or.inl ⟨by kernel_rfl, ?hy4⟩) (by assumption) ?_
          case hy4 => intro w' hSw; obtain ⟨_, _, _, _⟩ := MC.out w' hSw; go_simp; try with_reducible rfl
          simp only [Act.put, List.getElem_toArray, List.getElem_cons_zero, List.getElem_cons_succ, List.setIfInBounds_toArray, List.set_cons_zero, List.set_cons_succ]
          refine' wpAnyH_take (i := 5) (v := _) rfl (by kernel_rfl) (by kernel_rfl) (by kernel_rfl) (fun _ _ _ h => h) (Or.inl ⟨by kernel_rfl, ?hy5⟩) (by assumption) ?_
          case hy5 => intro w' hSw; obtain ⟨_, _, _, _⟩ := MC.out w' hSw; go_simp; try with_reducible rfl
          simp only [Act.put, List.getElem_toArray, List.getElem_cons_zero, List.getElem_cons_succ, List.setIfInBounds_toArray, List.set_cons_zero, List.set_cons_succ]
          refine wpAnyH_ready (rs := [6]) (by kernel_rfl) (by simp) (AllReadyH.cons rfl (fun K hK => ?_) AllReadyH.nil)
          go_simp
          go_at_call 133
          refine (HH.out _).mono ?_
          rintro e w3 ⟨rfl, k3⟩
          go_wp2_with fail
          refine hK.out _ _ (K2.drew.trans k3 (fun _ _ h => h)) (fun hHeld => ?_)
          clear hK K
          try simp only [Act.put, List.getElem_toArray, List.getElem_cons_zero, List.getElem_cons_succ, List.setIfInBounds_toArray, List.set_cons_zero, List.set_cons_succ]
          refine wpAnyH_done (by kernel_rfl) ?_ _
          have HK3 := Lib.hid (HKA.out.trans (K2.drew.trans k3 (fun _ _ h => h)) (fun _ _ h => h))
          have HKX3 := Lib.hid (HKXA.out.trans (K2.drew.trans k3 (fun _ _ h => h)) (fun _ _ h => h))
          clear HH MC K2 k3 HKA HKXA
          cases hb : holdsB x tok q.now with
          | true =>
            have HF := Lib.hid (firstG_some (f := heldIn tok q.now) (i := 0) (gm_at HX.out) (held_some_at HY.out hb HAM.out) (fun j b hj hb' => by
              obtain ⟨gj, hgj, rfl⟩ := gm_of hb'
              exact HA.out j gj hj hgj))
            clear hb
            go_wp2
            go_ret3
            refine ⟨HK3.out, .inr ⟨k, m, g0, cap, ?_, HGV.out, rfl⟩⟩
            have := HF.out
            rw [Nat.zero_add] at this
            exact this
          | false =>
            have HBF := Lib.hid hb
            clear hb
            go_wp2
            go_roundw
            case rel =>
              refine ⟨m + 1, by omega, by go_num, HKX3.out, fun j y hj e => ?_⟩
              rcases Nat.lt_or_ge j m with h | h
              · exact HAM.out j y h e
              · have : j = m := by omega
                subst this
                rw [HY.out] at e
                injection e with e
                rw [← e]
                exact HBF.out
            case measure => simp only [intOf]; omega
        · have hmn : ¬ ((m : Int) < (g.st.length : Int)) := by omega
          have HN := Lib.hid (held_none_at (tok := tok) (now := q.now) (g := g) (fun j x hj hx => HAM.out j x (by omega) hx))
          clear hkm
          go_wp2
          go_roundw
          case rel =>
            refine ⟨k + 1, by omega, by go_num, HKM.out, fun j t hj e => ?_⟩
            rcases Nat.lt_or_ge j k with h | h
            · exact HA.out j t h e
            · have : j = k := by omega
              subst this
              rw [HX.out] at e
              injection e with e
              rw [← e]
              exact HN.out
          case measure => simp only [intOf]; omega
    · have hkn : ¬ ((k : Int) < (q.gs.length : Int)) := by omega
      have HF : Hid (heldAt q.plain tok = none) := Lib.hid (firstG_none (fun j b hb => by
        obtain ⟨gj, hgj, rfl⟩ := gm_of hb
        exact HA.out j gj (by have := (List.getElem?_eq_some_iff.1 hgj).1; omega) hgj))
      clear hkeep hQ
      go_wp2
      go_ret3
      exact ⟨HKP.out, .inl ⟨HF.out, rfl⟩⟩
end Go.Proofs.YtkoikmdmejhhhaaGreat
