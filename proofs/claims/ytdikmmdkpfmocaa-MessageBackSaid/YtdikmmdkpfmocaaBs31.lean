import Derived.Test.YtdikmmdkpfmocaaBs25
import Derived.Test.YtdikmmdkpfmocaaBs30
namespace Go.Proofs.Ytdikmmdkpfmocaa
open Go.RowKit Go.Shelf
def clrP (m : Pm) : Pm := if m.k = 1 ∨ m.k = 3 then { m with ix := 0, lt := 0 } else if m.k = 2 ∨ m.k = 4 then { m with gd := false } else if m.k = 5 then { m with ix := 0, lt := 0, cm := 0, rd := 0, es := [] }
  else if m.k = 6 then { m with gd := false, ix := 0, rd := 0 } else if m.k = 7 then { m with ix := 0, lt := 0, c := ⟨[], []⟩, off := 0, wh := 0, da := [] } else if m.k = 8 then { m with ix := 0, off := 0 } else m
def clrG (m : Mg) : Mg := if m.k = 1 ∨ m.k = 3 then { m with ix := 0, lt := 0 } else if m.k = 2 ∨ m.k = 4 then { m with gd := false } else if m.k = 5 then { m with ix := 0, lt := 0, cm := 0, rd := 0, ev := .slice none 0 0, es := [] }
  else if m.k = 6 then { m with gd := false, ix := 0, rd := 0 } else if m.k = 7 then { m with ix := 0, lt := 0, va := .slice none 0 0, la := .slice none 0 0, c := ⟨[], []⟩, off := 0, wh := 0, dv := .slice none 0 0, da := [] } else if m.k = 8 then { m with ix := 0, off := 0 } else m
def restP (m : Pm) : Bool := ((m.ix : Int) == 0) && ((m.lt : Int) == 0) && ((m.cm : Int) == 0) && ((m.rd : Int) == 0) && !m.gd && ((m.es.length : Int) == 0) && ((m.c.v.length : Int) == 0) && ((m.c.l.length : Int) == 0) && ((m.off : Int) == 0) && ((m.wh : Int) == 0) && ((m.da.length : Int) == 0)
def bareP (m : Pm) : Bool := isKind m.k && restP (clrP m)
def Mg.shp (m : Mg) : Prop := (∃ A c, m.ev = .slice A m.es.length c) ∧ (∃ A c, m.va = .slice A m.c.v.length c) ∧ (∃ A c, m.la = .slice A m.c.l.length c) ∧ ∃ A c, m.dv = .slice A m.da.length c
theorem clrG_plain (m : Mg) : (clrG m).plain = clrP m.plain := by
  unfold clrG clrP
  simp only [show m.plain.k = m.k from rfl]
  split
  · rfl
  split
  · rfl
  split
  · rfl
  split
  · rfl
  split
  · rfl
  split
  · rfl
  rfl
theorem clrG_shp (m : Mg) (h : m.shp) : (clrG m).shp := by
  unfold clrG
  split
  · exact h
  split
  · exact h
  split
  · exact ⟨⟨_, _, rfl⟩, h.2⟩
  split
  · exact h
  split
  · exact ⟨h.1, ⟨_, _, rfl⟩, ⟨_, _, rfl⟩, ⟨_, _, rfl⟩⟩
  split
  · exact h
  exact h
theorem visit_c (m : Mg) (hk : isKind m.k = true) : ∃ n, fieldsF m.k = .func (.func n) #[] #[] ∧ CanCall n ∧ ∀ (w : World) (b : Nat), MBox w b m →
    Calls Try.prog n #[.iface 84 (.agg #[]), .pointer (some ⟨b, 0, none⟩)] w fun e w' => e = .returned (.tuple #[]) ∧ MBox w' b (clrG m) ∧ Keep (fun k => k = b) w w' := by
  rcases kind_of hk with h | h | h | h | h | h | h | h
  · refine ⟨31, by rw [h]; rfl, enters_of Try.func31 (by kernel_rfl) rfl, fun w b hb => ?_⟩
    have hx := endOfLog_c w b m hb
    unfold clrG; rw [if_pos (by omega)]
    exact hx
  · refine ⟨32, by rw [h]; rfl, enters_of Try.func32 (by kernel_rfl) rfl, fun w b hb => ?_⟩
    have hx := consent_c w b m hb
    unfold clrG; rw [if_neg (by omega)]; rw [if_pos (by omega)]
    exact hx
  · refine ⟨31, by rw [h]; rfl, enters_of Try.func31 (by kernel_rfl) rfl, fun w b hb => ?_⟩
    have hx := endOfLog_c w b m hb
    unfold clrG; rw [if_pos (by omega)]
    exact hx
  · refine ⟨32, by rw [h]; rfl, enters_of Try.func32 (by kernel_rfl) rfl, fun w b hb => ?_⟩
    have hx := consent_c w b m hb
    unfold clrG; rw [if_neg (by omega)]; rw [if_pos (by omega)]
    exact hx
  · refine ⟨33, by rw [h]; rfl, enters_of Try.func33 (by kernel_rfl) rfl, fun w b hb => ?_⟩
    have hx := entriesSent_c w b m hb
    unfold clrG; rw [if_neg (by omega)]; rw [if_neg (by omega)]; rw [if_pos (by omega)]
    exact hx
  · refine ⟨34, by rw [h]; rfl, enters_of Try.func34 (by kernel_rfl) rfl, fun w b hb => ?_⟩
    have hx := entriesTaken_c w b m hb
    unfold clrG; rw [if_neg (by omega)]; rw [if_neg (by omega)]; rw [if_neg (by omega)]; rw [if_pos (by omega)]
    exact hx
  · refine ⟨35, by rw [h]; rfl, enters_of Try.func35 (by kernel_rfl) rfl, fun w b hb => ?_⟩
    have hx := chunkSent_c w b m hb
    unfold clrG; rw [if_neg (by omega)]; rw [if_neg (by omega)]; rw [if_neg (by omega)]; rw [if_neg (by omega)]; rw [if_pos (by omega)]
    exact hx
  · refine ⟨36, by rw [h]; rfl, enters_of Try.func36 (by kernel_rfl) rfl, fun w b hb => ?_⟩
    have hx := chunkTaken_c w b m hb
    unfold clrG; rw [if_neg (by omega)]; rw [if_neg (by omega)]; rw [if_neg (by omega)]; rw [if_neg (by omega)]; rw [if_neg (by omega)]; rw [if_pos (by omega)]
    exact hx
set_option maxRecDepth 100000 in
set_option maxHeartbeats 2000000 in
theorem bare_any (w : World) (m : Mg) (h : m.shp) :
    Calls Try.prog 27 #[.agg m.cells] w fun e w' => e = .returned (.bool (bareP m.plain)) ∧ Keep noneOf w w' := by
  have KB := (Keep.refl noneOf w).alloc (.cells m.cells 29)
  have HB : Hid (MBox (w.alloc (.cells m.cells 29)) w.heap.size m) := Lib.hid (Box.new w 29 m.cells)
  have HK := Lib.hid KB
  have HS := Lib.hid (clrG_shp m h)
  have HF := Lib.hid (fieldsOf_any (w.alloc (.cells m.cells 29)) m.k)
  have HP := Lib.hid (clrG_plain m)
  have c0 : (w.alloc (.cells m.cells 29)).cell? ⟨w.heap.size, 0, none⟩ = some (.int .i64 m.k) := (HB.out.cell 0).trans m.at0
  clear h KB
  have e0 : (Value.agg m.cells).cells = m.cells := rfl
  cases hk : isKind m.k with
  | false =>
    have eb : bareP m.plain = false := by unfold bareP; rw [show m.plain.k = m.k from rfl, hk]; rfl
    rw [eb]
    rw [hk] at HF
    clear hk eb HS HP
    generalize fieldsF m.k = F at *
    generalize m.k = k at *
    generalize m.cells = cs at *
    go_enter Try.func27, Try.ntmps27
    go_wp2_with fail
    refine HF.out.mono ?_
    rintro e w1 ⟨rfl, hk1⟩
    have HK1 := Lib.hid (HK.out.trans hk1 (fun _ _ h => h))
    clear hk1
    go_wp2
    go_ret
    exact ⟨rfl, HK1.out⟩
  | true =>
    have eb : bareP m.plain = restP (clrP m.plain) := by unfold bareP; rw [show m.plain.k = m.k from rfl, hk]; rfl
    rw [eb, ← HP.out]
    rw [hk] at HF
    obtain ⟨n, hn, hc, hv⟩ := visit_c m hk
    rw [hn] at HF
    have HV := Lib.hid hv
    have HC := Lib.hid hc
    clear hk eb HP hn hv hc
    obtain ⟨m', hm'⟩ : ∃ m', clrG m = m' := ⟨_, rfl⟩
    rw [hm'] at HS ⊢
    have HM' := Lib.hid hm'
    clear hm'
    have hr : restP m'.plain = (((m'.ix : Int) == 0) && ((m'.lt : Int) == 0) && ((m'.cm : Int) == 0) && ((m'.rd : Int) == 0) && !m'.gd && ((m'.es.length : Int) == 0) && ((m'.c.v.length : Int) == 0) && ((m'.c.l.length : Int) == 0) && ((m'.off : Int) == 0) && ((m'.wh : Int) == 0) && ((m'.da.length : Int) == 0)) := by
      unfold restP
      show (_ && _ && _ && _ && _ && (((m'.es.map En.plain).length : Int) == 0) && _ && _ && _ && _ && _) = _
      rw [List.length_map]
      rfl
    rw [hr]
    clear hr
    obtain ⟨⟨A9, n9, h9⟩, ⟨A10, n10, h10⟩, ⟨A11, n11, h11⟩, ⟨A14, n14, h14⟩⟩ := HS.out
    clear HS
    obtain ⟨k', fr', to', te', a4, a5, a6, a7, gd, ev', es', va', la', c', a12, a13, dv', da'⟩ := m'
    simp only at h9 h10 h11 h14
    subst h9 h10 h11 h14
    simp only
    obtain ⟨l9, hl9⟩ : ∃ l, es'.length = l := ⟨_, rfl⟩
    obtain ⟨l10, hl10⟩ : ∃ l, c'.v.length = l := ⟨_, rfl⟩
    obtain ⟨l11, hl11⟩ : ∃ l, c'.l.length = l := ⟨_, rfl⟩
    obtain ⟨l14, hl14⟩ : ∃ l, da'.length = l := ⟨_, rfl⟩
    rw [hl9, hl10, hl11, hl14]
    rw [hl9, hl10, hl11, hl14] at HM'
    clear hl9 hl10 hl11 hl14
    obtain ⟨g0, hg0⟩ : ∃ g, ((a4 : Int) == 0) = g := ⟨_, rfl⟩
    obtain ⟨g1, hg1⟩ : ∃ g, ((a5 : Int) == 0) = g := ⟨_, rfl⟩
    obtain ⟨g2, hg2⟩ : ∃ g, ((a6 : Int) == 0) = g := ⟨_, rfl⟩
    obtain ⟨g3, hg3⟩ : ∃ g, ((a7 : Int) == 0) = g := ⟨_, rfl⟩
    obtain ⟨g5, hg5⟩ : ∃ g, ((l9 : Int) == 0) = g := ⟨_, rfl⟩
    obtain ⟨g6, hg6⟩ : ∃ g, ((l10 : Int) == 0) = g := ⟨_, rfl⟩
    obtain ⟨g7, hg7⟩ : ∃ g, ((l11 : Int) == 0) = g := ⟨_, rfl⟩
    obtain ⟨g8, hg8⟩ : ∃ g, ((a12 : Int) == 0) = g := ⟨_, rfl⟩
    obtain ⟨g9, hg9⟩ : ∃ g, ((a13 : Int) == 0) = g := ⟨_, rfl⟩
    obtain ⟨g10, hg10⟩ : ∃ g, ((l14 : Int) == 0) = g := ⟨_, rfl⟩
    rw [hg0, hg1, hg2, hg3, hg5, hg6, hg7, hg8, hg9, hg10]
    go_enter Try.func27, Try.ntmps27
    go_wp2_with fail
    refine HF.out.mono ?_
    rintro e w1 ⟨rfl, hk1⟩
    have HB1 : Hid (MBox w1 w.heap.size m) := Lib.hid (HB.out.keep hk1 id)
    have HK1 := Lib.hid (HK.out.trans hk1 (fun _ _ h => h))
    have HVC := Lib.hid (HV.out w1 w.heap.size HB1.out)
    have eg : ∀ (args : Array Value) (w : World), (callFunc n args).run Try.prog w = .ok (.enter n args) w := HC.out
    clear hk1 HF c0
    go_wp2_with fail
    refine HVC.out.mono ?_
    rintro e w2 ⟨rfl, hb2, hk2⟩
    rw [HM'.out] at hb2
    have HK2 : Hid (Keep noneOf w w2) := Lib.hid (HK1.out.trans hk2 (fun i hi e => by omega))
    clear HM' HVC HV HC eg HK1 HB1 HB HK hk2
    have c4 : w2.cell? ⟨w.heap.size, 4, none⟩ = some (.int .u64 (a4 : Int)) := hb2.cell 4
    have c5 : w2.cell? ⟨w.heap.size, 5, none⟩ = some (.int .u64 (a5 : Int)) := hb2.cell 5
    have c6 : w2.cell? ⟨w.heap.size, 6, none⟩ = some (.int .u64 (a6 : Int)) := hb2.cell 6
    have c7 : w2.cell? ⟨w.heap.size, 7, none⟩ = some (.int .u64 (a7 : Int)) := hb2.cell 7
    have c8 : w2.cell? ⟨w.heap.size, 8, none⟩ = some (.bool gd) := hb2.cell 8
    have c9 : w2.cell? ⟨w.heap.size, 9, none⟩ = some (.slice A9 l9 n9) := hb2.cell 9
    have c10 : w2.cell? ⟨w.heap.size, 10, none⟩ = some (.slice A10 l10 n10) := hb2.cell 10
    have c11 : w2.cell? ⟨w.heap.size, 11, none⟩ = some (.slice A11 l11 n11) := hb2.cell 11
    have c12 : w2.cell? ⟨w.heap.size, 12, none⟩ = some (.int .u64 (a12 : Int)) := hb2.cell 12
    have c13 : w2.cell? ⟨w.heap.size, 13, none⟩ = some (.int .u64 (a13 : Int)) := hb2.cell 13
    have c14 : w2.cell? ⟨w.heap.size, 14, none⟩ = some (.slice A14 l14 n14) := hb2.cell 14
    clear hb2
    generalize w.heap.size = b at *
    cases g0
    · go_wp2
      go_ret
      exact ⟨ret_bool (by simp), HK2.out⟩
    · cases g1
      · go_wp2
        go_ret
        exact ⟨ret_bool (by simp), HK2.out⟩
      · cases g2
        · go_wp2
          go_ret
          exact ⟨ret_bool (by simp), HK2.out⟩
        · cases g3
          · go_wp2
            go_ret
            exact ⟨ret_bool (by simp), HK2.out⟩
          · cases gd
            · cases g5
              · go_wp2
                go_ret
                exact ⟨ret_bool (by simp), HK2.out⟩
              · cases g6
                · go_wp2
                  go_ret
                  exact ⟨ret_bool (by simp), HK2.out⟩
                · cases g7
                  · go_wp2
                    go_ret
                    exact ⟨ret_bool (by simp), HK2.out⟩
                  · cases g8
                    · go_wp2
                      go_ret
                      exact ⟨ret_bool (by simp), HK2.out⟩
                    · cases g9
                      · go_wp2
                        go_ret
                        exact ⟨ret_bool (by simp), HK2.out⟩
                      · cases g10
                        · go_wp2
                          go_ret
                          exact ⟨ret_bool (by simp), HK2.out⟩
                        · go_wp2
                          go_ret
                          exact ⟨ret_bool (by simp), HK2.out⟩
            · go_wp2
              go_ret
              exact ⟨ret_bool (by simp), HK2.out⟩
end Go.Proofs.Ytdikmmdkpfmocaa
