import Derived.Test.YtkoikmdmejhhhaaGreatBs34
namespace Go.Proofs.YtkoikmdmejhhhaaGreat
open Go.RowKit
def Small (g : Gm) : Prop := g.ts.length * 56 ≤ reachBytes ∧ (∀ t ∈ g.ts, t.needs.length * 16 ≤ reachBytes) ∧ g.st.length * 24 ≤ reachBytes
def HalfG (gs us : List Gm) (w : World) (D : Nat → Prop) (k : Nat) : Prop := us.length = gs.length ∧ ∀ (j : Nat) (u : Gm), us[j]? = some u → (k ≤ j → gs[j]? = some u) ∧ (j < k → ∃ g, gs[j]? = some g ∧ u.plain = g.plain ∧ u.lies w D)
theorem HalfG.keep {gs us : List Gm} {w w' : World} {D S : Nat → Prop} {k : Nat} (h : HalfG gs us w D k) (kk : Keep S w w') (hs : ∀ i, D i → ¬ S i) : HalfG gs us w' D k :=
  ⟨h.1, fun j u hu => ⟨(h.2 j u hu).1, fun hj => by
    obtain ⟨t, h1, h2, h3⟩ := (h.2 j u hu).2 hj
    exact ⟨t, h1, h2, h3.keep kk (fun i _ hi => hs i hi)⟩⟩⟩
theorem HalfG.next {gs us : List Gm} {w : World} {D : Nat → Prop} {k : Nat} (h : HalfG gs us w D k) {g u0 : Gm} (hg : gs[k]? = some g) (hp : u0.plain = g.plain) (hv : u0.lies w D) : HalfG gs (us.set k u0) w D (k + 1) := by
  refine ⟨by rw [List.length_set]; exact h.1, fun j u hu => ?_⟩
  have hk : k < us.length := by rw [h.1]; exact (List.getElem?_eq_some_iff.1 hg).1
  by_cases hj : k = j
  · subst hj
    rw [List.getElem?_set_self hk] at hu
    injection hu with hu
    subst hu
    exact ⟨fun h => by omega, fun _ => ⟨g, hg, hp, hv⟩⟩
  · rw [List.getElem?_set_ne hj] at hu
    exact ⟨fun h1 => (h.2 j u hu).1 (by omega), fun h1 => (h.2 j u hu).2 (by omega)⟩
theorem HalfG.plain {gs us : List Gm} {w : World} {D : Nat → Prop} (h : HalfG gs us w D gs.length) : us.map Gm.plain = gs.map Gm.plain := by
  refine List.ext_getElem? fun j => ?_
  rw [List.getElem?_map, List.getElem?_map]
  by_cases hj : j < gs.length
  · have hju : j < us.length := by rw [h.1]; exact hj
    obtain ⟨t, h1, h2, _⟩ := (h.2 j us[j] (List.getElem?_eq_getElem hju)).2 hj
    rw [List.getElem?_eq_getElem hju, h1]
    show some us[j].plain = some t.plain
    rw [h2]
  · rw [List.getElem?_eq_none (by rw [h.1]; omega), List.getElem?_eq_none (by omega)]
def CopiesR (gs : List Gm) (w : World) (e : Ending) (w' : World) : Prop := ∃ v us, e = .returned v ∧ us.map Gm.plain = gs.map Gm.plain ∧ Gms w' (fun i => w.heap.size ≤ i) v us ∧ Keep noneOf w w'
set_option maxRecDepth 100000 in
set_option maxHeartbeats 8000000 in
set_option linter.unusedSimpArgs false in
theorem copiedRows_any (w : World) (D : Nat → Prop) (v : Value) (gs : List Gm) (h : Gms w D v gs) (hb : gs.length * 56 ≤ reachBytes) (hsm : ∀ g ∈ gs, Small g) :
    Calls Tryz.prog 56 #[v] w (CopiesR gs w) := by
  obtain ⟨A, c, hv⟩ := h.1.shape
  subst hv
  have hfew := h.1.few
  unfold maxLen at hfew
  have hone : ∀ g ∈ gs, ∀ u ∈ g.cells, u.oneCell' = true := fun g hg u hu => by
    obtain ⟨Ag, cg, h1, _⟩ := (h.2 g hg).1.1
    obtain ⟨As, cs, h2⟩ := (h.2 g hg).2.shape
    simp [Gm.cells] at hu
    rcases hu with rfl | rfl | rfl
    · rfl
    · rw [h1]; rfl
    · rw [h2]; rfl
  have CT := Lib.hid (cloneG_any w _ _ gs h.1 hb hone)
  have HH := Lib.hid h
  have HSM := Lib.hid hsm
  clear h hb hsm hone
  go_enter Tryz.func56, Tryz.ntmps56
  go_wp2_with fail
  refine CT.out.mono ?_
  rintro e w1 ⟨v1, rfl, hown, k1⟩
  obtain ⟨A1, c1, hv1⟩ := own_shape hown
  subst hv1
  have HK1 := Lib.hid k1
  have HO1 := Lib.hid hown
  have HB1 : Hid (∀ i, (Value.slice A1 gs.length c1).ownBlock = some i → w.heap.size ≤ i) := Lib.hid fun i hi => by
    rcases hown.2 with ⟨e, _⟩ | ⟨g, cap, cur, e, hb, _⟩
    · rw [e] at hi; cases hi
    · rw [e] at hi
      have : g = i := by simpa [Value.ownBlock] using hi
      omega
  clear CT hown k1
  go_wp2
  go_loopw [9] (fun i wr => ∃ (k : Nat) (us : List Gm), k ≤ gs.length ∧ i = .int .i64 k ∧ Keep noneOf w wr ∧ wr.ownsRow 0 59 3 (.slice A1 gs.length c1) gs.length (us.flatMap Gm.cells) ∧ HalfG gs us wr (fun i => w.heap.size ≤ i ∧ (Value.slice A1 gs.length c1).ownBlock ≠ some i) k) (fun i _ => gs.length - (intOf i).toNat)
  case atStart =>
    refine ⟨0, gs, Nat.zero_le _, rfl, HK1.out, ?_, rfl, fun j u hu => ⟨fun _ => hu, fun h => by omega⟩⟩
    obtain ⟨h1, h2⟩ := HO1.out
    exact ⟨h1, h2.imp_right (fun ⟨g, cap, cur, a1, a2, a3⟩ => ⟨g, cap, cur, a1, Nat.zero_le _, a3⟩)⟩
  case round =>
    obtain ⟨k, us, hk, rfl, hkeep, hown, hhalf⟩ := hrel
    have HKP := Lib.hid hkeep
    have HOR := Lib.hid hown
    have HHF := Lib.hid hhalf
    have hul := hhalf.1
    have HUL := Lib.hid hul
    by_cases hlt : k < gs.length
    · have hx : gs[k]? = some gs[k] := List.getElem?_eq_getElem hlt
      have hG := HH.out.keep hkeep (fun _ _ _ => id)
      generalize gs[k] = g at *
      have hm := List.mem_of_getElem? hx
      obtain ⟨tb, o, rfl, hblk, _, hcell⟩ := hG.1.cell (fun _ => rfl) hx
      have d1 : wr.cell? ⟨tb, o + k * 3 + 1, none⟩ = some g.gv := hcell 1 (by decide)
      have d2 : wr.cell? ⟨tb, o + k * 3 + 2, none⟩ = some g.sv := hcell 2 (by decide)
      obtain ⟨Ag, cg, hgv, _⟩ := (hG.2 g hm).1.1
      obtain ⟨As, cs, hsv⟩ := (hG.2 g hm).2.shape
      have hTg := (hG.2 g hm).1
      have hSt := (hG.2 g hm).2
      rw [hgv] at d1 hTg
      rw [hsv] at d2 hSt
      have hux : us[k]? = some us[k] := List.getElem?_eq_getElem (by omega)
      have huk : us[k] = g := by
        have := (hhalf.2 k us[k] hux).1 (Nat.le_refl _)
        rw [hx] at this
        injection this with this
        exact this.symm
      rw [huk] at hux
      obtain ⟨g1, cap1, tl, hv1, _, _, _, _⟩ := own_mt (ec := Gm.cells) (l := us) (by rw [hul]; exact hown) (by rintro e; rw [e] at hul; simp at hul; omega)
      rw [hul] at hv1
      obtain ⟨rfl, rfl⟩ : A1 = some ⟨g1, 0, none⟩ ∧ c1 = cap1 := by simpa using hv1
      have CG : Hid (∀ w', Keep noneOf wr w' → Calls Tryz.prog 97 #[.agg #[.slice Ag g.ts.length cg]] w' (CopiesG g.ts w')) := Lib.hid fun w' k' => copiedGraph_any w' _ _ g.ts (hTg.keep k' (fun _ _ _ => id)) (HSM.out g hm).1 (HSM.out g hm).2.1
      have CS : Hid (∀ w', Keep (fun i => i = g1) wr w' → Calls Tryz.prog 51 #[.slice As g.st.length cs] w' (Copies Pst.cells 3 64 g.st w')) := Lib.hid fun w' k' => by
        have hS0 : Sts w D g.sv g.st := (HH.out.2 g hm).2
        rw [hsv] at hS0
        have kw : Keep noneOf w w' := HKP.out.trans k' (fun i hi e => by have := HB1.out g1 rfl; omega)
        exact cloneS_any w' D _ g.st (hS0.keep kw (fun _ _ _ => id)) (HSM.out g hm).2.2
      have hg1 := HB1.out g1 rfl
      have HX := Lib.hid hx
      have HUX := Lib.hid hux
      have q0 : (0 : Int) ≤ (k : Int) := by omega
      have q1 : (k : Int) < (gs.length : Int) := by omega
      have htbw : tb ≠ g1 := by
        obtain ⟨b9, o9, e9, hlt9, _⟩ := HH.out.1.cell (fun _ => rfl) hx
        have : tb = b9 := by
          injection e9 with e9
          injection e9
        omega
      have P1 : Hid (∀ w2 v1 ts1, Tgs w2 (fun i => wr.heap.size ≤ i) v1 ts1 → ts1.map Tg.plain = g.ts.map Tg.plain → Keep noneOf wr w2 → (∃ u, w2.cell? ⟨g1, k * 3 + 1, none⟩ = some u) ∧ w2.frozen? ⟨g1, k * 3 + 1, none⟩ = false ∧ Keep (fun i => i = g1) wr (w2.setCell ⟨g1, k * 3 + 1, none⟩ v1) ∧ (w2.setCell ⟨g1, k * 3 + 1, none⟩ v1).cell? ⟨tb, o + k * 3 + 2, none⟩ = some (.slice As g.st.length cs) ∧
          (∀ w4 v2, w4.ownsRow (w2.setCell ⟨g1, k * 3 + 1, none⟩ v1).heap.size 64 3 v2 g.st.length (g.st.flatMap Pst.cells) → Keep noneOf (w2.setCell ⟨g1, k * 3 + 1, none⟩ v1) w4 → (∃ u, w4.cell? ⟨g1, k * 3 + 2, none⟩ = some u) ∧ w4.frozen? ⟨g1, k * 3 + 2, none⟩ = false ∧ Keep noneOf w (w4.setCell ⟨g1, k * 3 + 2, none⟩ v2) ∧ ∃ us', (w4.setCell ⟨g1, k * 3 + 2, none⟩ v2).ownsRow 0 59 3 (.slice (some ⟨g1, 0, none⟩) gs.length c1) gs.length (us'.flatMap Gm.cells) ∧ HalfG gs us' (w4.setCell ⟨g1, k * 3 + 2, none⟩ v2) (fun i => w.heap.size ≤ i ∧ (Value.slice (some ⟨g1, 0, none⟩) gs.length c1).ownBlock ≠ some i) (k + 1))) := Lib.hid fun w2 v1 ts1 ht1 hp1 k2 => by
        have hown2 : w2.ownsRow 0 59 3 (.slice (some ⟨g1, 0, none⟩) us.length c1) us.length (us.flatMap Gm.cells) := by
          rw [hul]
          exact own_keep HOR.out k2 (fun _ _ => id)
        have hat := own_at (ec := Gm.cells) (fun _ => rfl) hown2 HUX.out (j := 1) (by decide)
        have kp := (Keep.refl (fun i => i = g1) w2).setCell (p := ⟨g1, k * 3 + 1, none⟩) (fun _ => rfl) v1
        have hput := own_put (ec := Gm.cells) (fun _ => rfl) hown2 HUX.out (j := 1) (x' := { g with gv := v1, ts := ts1 }) (u := v1) (by decide) rfl
        have k23 := (Keep.wide k2).trans kp (fun _ _ e => e)
        have hg1lt : g1 < wr.heap.size := own_lt HOR.out rfl
        have ht3 := ht1.keep kp (fun i _ hi e => by omega)
        refine ⟨⟨_, hat.1⟩, hat.2, k23, (k23.cell (p := ⟨tb, o + k * 3 + 2, none⟩) hblk htbw).trans d2, fun w4 v2 ho2 k4 => ?_⟩
        have hown4 := own_keep hput k4 (fun _ _ => id)
        have hgx : (us.set k { g with gv := v1, ts := ts1 })[k]? = some { g with gv := v1, ts := ts1 } := by rw [List.getElem?_set_self (List.getElem?_eq_some_iff.1 HUX.out).1]
        have hat4 := own_at (ec := Gm.cells) (fun _ => rfl) hown4 hgx (j := 2) (by decide)
        have kp4 := (Keep.refl (fun i => i = g1) w4).setCell (p := ⟨g1, k * 3 + 2, none⟩) (fun _ => rfl) v2
        have hput4 := own_put (ec := Gm.cells) (fun _ => rfl) hown4 hgx (j := 2) (x' := { g with gv := v1, ts := ts1, sv := v2 }) (u := v2) (by decide) rfl
        rw [List.set_set, List.length_set, hul] at hput4
        have k24 := (k23.andNone k4).trans kp4 (fun _ _ e => e)
        refine ⟨⟨_, hat4.1⟩, hat4.2, HKP.out.trans k24 (fun i hi e => by omega), us.set k { g with gv := v1, ts := ts1, sv := v2 }, hput4, ?_⟩
        have h3 := HHF.out.keep k24 (fun i hi e => hi.2 (by rw [e]; rfl))
        refine h3.next HX.out (by show Gq.mk g.id (ts1.map Tg.plain) g.st = _; rw [hp1]; rfl) ⟨?_, ?_⟩
        · have h5 := (ht3.keep k4 (fun _ _ _ => id)).keep kp4 (fun i _ hi e => by omega)
          refine h5.monoQ (fun i _ hi => ⟨Nat.le_trans HKP.out.size hi, fun e => ?_⟩)
          have e2 : g1 = i := by simpa [Value.ownBlock] using e
          omega
        · refine own_row_in (own_keep ho2 kp4 (fun j hj e => own_own ho2 hown4 (by decide) j hj (by rw [e]; rfl))) (fun b hb => ⟨?_, fun e => own_own ho2 hown4 (by decide) b hb e⟩)
          rcases ho2.2 with ⟨e, _⟩ | ⟨gg, cap, cur, e, hbb, _⟩
          · rw [e] at hb; cases hb
          · rw [e] at hb
            have : gg = b := by simpa [Value.ownBlock] using hb
            have h7 := HKP.out.size
            have h8 := k23.size
            omega
      have K0 := Keep.refl noneOf wr
      clear hx hG hcell hTg hSt hux huk hv1 hm hkeep hown hhalf hul hblk hgv hsv hg1 htbw d2
      go_wp2_with fail
      refine (CG.out _ K0).mono ?_
      rintro e w2 ⟨v1, ts1, rfl, hp1, ht1, k2⟩
      obtain ⟨A3, c3, hv3, _⟩ := ht1.1
      obtain ⟨⟨u0, y2⟩, z2, k3, d3, P2⟩ := P1.out w2 v1 ts1 ht1 hp1 k2
      subst hv3
      have HP2 := Lib.hid P2
      have HK3 := Lib.hid k3
      clear P1 CG K0 hp1 ht1 k2 P2 d1
      go_wp2_with fail
      refine (CS.out _ HK3.out).mono ?_
      rintro e w4 ⟨v2, rfl, ho2, k4⟩
      obtain ⟨⟨u4, y4⟩, z4, kf, us', of, hf⟩ := HP2.out w4 v2 ho2 k4
      obtain ⟨A4, c4, rfl⟩ := own_shape ho2
      have HKF := Lib.hid kf
      have HOF := Lib.hid of
      have HHF2 := Lib.hid hf
      clear HP2 CS ho2 k4 kf of hf y2 z2 k3 d3 HK3
      go_wp2
      go_roundw
      case rel => exact ⟨k + 1, us', by omega, by go_num, HKF.out, HOF.out, HHF2.out⟩
      case measure => simp only [intOf]; omega
    · have hke : k = gs.length := by omega
      subst hke
      have hkn : ¬ ((gs.length : Int) < (gs.length : Int)) := by omega
      have HF : Hid (CopiesR gs w (.returned (.slice A1 gs.length c1)) wr) := Lib.hid ⟨_, us, rfl, hhalf.plain, ⟨by
          unfold Many
          rw [hul]
          exact own_row_in hown (fun b hb => HB1.out b hb), fun u hu => by
          obtain ⟨j, hj⟩ := List.getElem?_of_mem hu
          have hjl := (List.getElem?_eq_some_iff.1 hj).1
          obtain ⟨t, h1, h2, h3⟩ := (hhalf.2 j u hj).2 (by omega)
          exact h3.mono (fun i _ hi => hi.1)⟩, HKP.out⟩
      clear hkeep hown hhalf hul
      go_wp2
      go_ret
      exact HF.out
end Go.Proofs.YtkoikmdmejhhhaaGreat
