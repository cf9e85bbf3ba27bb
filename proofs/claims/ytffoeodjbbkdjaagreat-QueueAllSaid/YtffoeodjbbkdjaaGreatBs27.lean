import Derived.Lib.MinMax
import Derived.Shelf.Abstract
import Derived.Test.YtffoeodjbbkdjaaGreatBs01
import Derived.Test.YtffoeodjbbkdjaaGreatBs22
import Derived.Test.YtffoeodjbbkdjaaGreatBs26
namespace Go.Proofs.YtffoeodjbbkdjaaGreat
open Go.RowKit
theorem ints_eq (a b : Nat) : (((a : Int) == (b : Int)) : Bool) = decide (a = b) := by
 by_cases h : a = b
 ·
  subst h; simp
 ·
  rw [decide_eq_false h, beq_eq_false_iff_ne]; omega
def Indexed64 (ks : List Nat) (x : Nat) (w : World) (e : Ending) (w' : World) : Prop := ∃ r : Int, e = .returned (.int .i64 r) ∧ (0 ≤ r ↔ x ∈ ks) ∧ w = w'
set_option maxRecDepth 100000 in
set_option maxHeartbeats 1000000 in
theorem index64_any (w : World) (D : Nat → Prop) (v : Value) (ks : List Nat) (x : Nat) (h : Row w D v ks.length 1 (ks.map kv)) :
  Calls Tryz.prog 162 #[v, .int .u64 (x : Int)] w (Indexed64 ks x w) := by
 obtain ⟨A, c, rfl, hlc, hcm, hn, hxl, hc⟩ := h
 unfold maxLen at hcm
 have HC := Lib.hid hc
 clear hc hxl
 go_enter Tryz.func162, Tryz.ntmps162
 go_wp2
 go_loop [8] (fun i => ∃ k : Nat, k ≤ ks.length ∧ i = .int .i64 k ∧ ∀ j y, j < k → ks[j]? = some y → y ≠ x) (fun i => ks.length - (intOf i).toNat)
 case atStart => exact ⟨0, Nat.zero_le _, rfl, fun j _ hj => absurd hj (by omega)⟩
 case round =>
  obtain ⟨k, hk, rfl, hall⟩ := hrel
  have HA := Lib.hid hall
  clear hall
  by_cases hlt : k < ks.length
  ·
   obtain ⟨ad, rfl, hsp, hblk, hD, hcell⟩ := HC.out (by omega)
   obtain ⟨b, o, sp⟩ := ad
   simp only at hsp hblk hD hcell
   subst hsp
   have HS := Lib.hid (List.getElem?_eq_getElem hlt)
   have c0 : w.cell? ⟨b, o + k, none⟩ = some (.int .u64 (ks[k] : Int)) := hcell k _ (by rw [List.getElem?_map, List.getElem?_eq_getElem hlt]; rfl)
   generalize ks[k] = m at *
   clear hcell
   by_cases hs : x = m
   ·
    subst hs
    have HM := Lib.hid (List.mem_of_getElem? HS.out)
    go_wp2
    go_ret
    exact ⟨_, rfl, ⟨fun _ => HM.out, fun _ => by omega⟩, rfl⟩
   ·
    have g : (((x : Int) == (m : Int)) : Bool) = false := by rw [ints_eq]; simp [hs]
    have HS2 := Lib.hid hs
    clear hs
    go_wp2
    go_round
    case rel =>
     refine ⟨k + 1, by omega, by go_num, fun j t hj e => ?_⟩
     rcases Nat.lt_or_ge j k with h | h
     ·
      exact HA.out j t h e
     ·
      have : j = k := by omega
      subst this
      rw [HS.out] at e
      injection e with e
      rw [← e]
      exact fun h => HS2.out h.symm
    case measure => simp [intOf]; omega
  ·
   have HM := Lib.hid (show x ∉ ks from fun hm => by
    obtain ⟨j, hj⟩ := List.getElem?_of_mem hm
    exact HA.out j x (by have := (List.getElem?_eq_some_iff.1 hj).1; omega) hj rfl)
   go_wp2
   go_ret
   exact ⟨_, rfl, ⟨fun h => absurd h (by decide), fun h => absurd h HM.out⟩, rfl⟩
set_option maxRecDepth 100000 in
set_option maxHeartbeats 1000000 in
theorem contains64_any (w : World) (D : Nat → Prop) (v : Value) (ks : List Nat) (x : Nat) (h : Row w D v ks.length 1 (ks.map kv)) :
  Calls Tryz.prog 134 #[v, .int .u64 (x : Int)] w fun e w' => e = .returned (.bool (ks.contains x)) ∧ w = w' := by
 have HI := Lib.hid (index64_any w D v ks x h)
 obtain ⟨A, c, rfl, _⟩ := h
 generalize hR : ks.contains x = R
 have HR := Lib.hid hR
 clear hR
 go_enter Tryz.func134, Tryz.ntmps134
 go_wp2_with fail
 refine HI.out.mono ?_
 rintro e w1 ⟨r, rfl, hr, rfl⟩
 have HRR := Lib.hid hr
 clear hr
 go_wp2
 go_ret
 refine ⟨ret_bool ?_, rfl⟩
 rw [← HR.out]
 rw [Bool.eq_iff_iff, decide_eq_true_eq, List.contains_iff_mem]
 exact HRR.out
theorem QAt.keys {w : World} {D : Nat → Prop} {q : Qm} (h : QAt w D q) : Row w q.O q.bv q.built.length 1 (q.built.map kv) := own_row_in h.bl (fun _ e => .inr (.inr (.inr (.inr (.inl e)))))
set_option maxRecDepth 100000 in
theorem isBuilt_any (w : World) (D : Nat → Prop) (q : Qm) (h : QAt w D q) (x : Nat) :
  Calls Tryz.prog 101 #[.pointer (some ⟨q.p, 0, none⟩), .int .u64 (x : Int)] w fun e w' => e = .returned (.bool (q.built.contains x)) ∧ w = w' := by
 have HC := Lib.hid (contains64_any w _ _ q.built x h.keys)
 have p5 : w.cell? ⟨q.p, 5, none⟩ = some q.bv := h.box.cell 5
 obtain ⟨A, c, hv⟩ := own_shape h.bl
 rw [hv] at p5 HC
 clear h
 go_enter Tryz.func101, Tryz.ntmps101
 go_wp2_with fail
 refine HC.out.mono ?_
 rintro e w1 ⟨rfl, rfl⟩
 go_wp2
 go_ret
 exact ⟨ret_bool (List.elem_eq_mem ..).symm, rfl⟩
theorem can_call_find : CanCall 78 := enters_of Tryz.func78 (by kernel_rfl) rfl
set_option maxRecDepth 100000 in
theorem find1_any (w : World) (g : Gm) (b : Nat) (id : Int) (hb : Box w b 23 #[.int .u64 id]) :
  Calls Tryz.prog 78 (#[.agg #[.int .u64 g.id, g.gv, g.sv]] ++ #[.pointer (some ⟨b, 0, none⟩)]) w (TellsB (decide (g.id = id)) w) := by
 obtain ⟨gid, gv, sv, ts, st⟩ := g
 dsimp only
 obtain ⟨c0, c1, c2⟩ := box3 w 59 (.int .u64 gid) gv sv
 have hb2 := hb.alloc (.cells #[.int .u64 gid, gv, sv] 59)
 have cb := hb2.cell 0
 have HK := Lib.hid ((Keep.refl noneOf w).alloc (.cells #[.int .u64 gid, gv, sv] 59))
 generalize hR : decide (gid = id) = R
 have HR := Lib.hid hR
 clear hb hb2 hR
 show Calls Tryz.prog 78 #[.agg #[.int .u64 gid, gv, sv], .pointer (some ⟨b, 0, none⟩)] w _
 go_enter Tryz.func78, Tryz.ntmps78
 go_wp2
 go_ret
 refine ⟨ret_bool ?_, HK.out⟩
 rw [← HR.out]
 by_cases e : gid = id
 ·
  subst e; simp
 ·
  rw [decide_eq_false e]; simpa using e
def FirstAt (r : Option Nat) (w : World) (e : Ending) (w' : World) : Prop := e = .returned (.int .i64 (match r with | some k => (k : Int) | none => -1)) ∧ Keep noneOf w w'
set_option maxRecDepth 100000 in
set_option maxHeartbeats 2000000 in
theorem indexFunc_any (w : World) (D : Nat → Prop) (v : Value) (gs : List Gm) (idn : Int) (h : Many Gm.cells 3 w D v gs) (b : Nat) (hb : Box w b 23 #[.int .u64 idn]) :
  Calls Tryz.prog 77 #[v, .func (.func 78) #[] #[.pointer (some ⟨b, 0, none⟩)]] w (FirstAt (gs.findIdx? (fun g => decide (g.id = idn))) w) := by
 obtain ⟨A, c, rfl⟩ := h.shape
 have hfew := h.few
 unfold maxLen at hfew
 have HH := Lib.hid h
 have HBB := Lib.hid hb
 have eg := can_call_find
 unfold CanCall at eg
 have HEG := Lib.hid eg
 generalize hR : gs.findIdx? (fun g => decide (g.id = idn)) = R
 have HR := Lib.hid hR
 clear h hb eg hR
 go_enter Tryz.func77, Tryz.ntmps77
 go_wp2
 go_loopw [8] (fun i wr => ∃ k : Nat, k ≤ gs.length ∧ i = .int .i64 k ∧ Keep noneOf w wr ∧ ∀ j g, j < k → gs[j]? = some g → g.id ≠ idn) (fun i _ => gs.length - (intOf i).toNat)
 case atStart => exact ⟨0, Nat.zero_le _, rfl, Keep.refl _ _, fun j _ hj => absurd hj (by omega)⟩
 case round =>
  obtain ⟨k, hk, rfl, hkeep, hall⟩ := hrel
  have HA := Lib.hid hall
  have HKP := Lib.hid hkeep
  clear hall
  by_cases hlt : k < gs.length
  ·
   have hx : gs[k]? = some gs[k] := List.getElem?_eq_getElem hlt
   obtain ⟨b0, o, rfl, hblk, _, hcell⟩ := (HH.out.keep hkeep (fun _ _ _ => id)).cell (fun _ => rfl) hx
   have HX := Lib.hid hx
   generalize gs[k] = g at *
   have d0 : wr.cell? ⟨b0, o + k * 3, none⟩ = some (.int .u64 g.id) := hcell 0 (by decide)
   have d1 : wr.cell? ⟨b0, o + k * 3 + 1, none⟩ = some g.gv := hcell 1 (by decide)
   have d2 : wr.cell? ⟨b0, o + k * 3 + 2, none⟩ = some g.sv := hcell 2 (by decide)
   have HF := Lib.hid (find1_any wr g b idn (HBB.out.keep hkeep id))
   have q0 : (0 : Int) ≤ (k : Int) := by omega
   have q1 : (k : Int) < (gs.length : Int) := by omega
   have eg := HEG.out
   clear hx hcell hkeep
   cases hg : decide (g.id = idn) with
   | true =>
    rw [hg] at HF
    go_wp2_with fail
    refine HF.out.mono ?_
    rintro e w2 ⟨rfl, k2⟩
    have HK2 := Lib.hid (HKP.out.trans k2 (fun _ _ h => h))
    have HRF : Hid (R = some k) := Lib.hid (by
     rw [← HR.out, List.findIdx?_eq_some_iff_getElem]
     obtain ⟨h1, h2⟩ := List.getElem?_eq_some_iff.1 HX.out
     refine ⟨h1, by rw [h2]; exact hg, fun j hj => ?_⟩
     have hjl : j < gs.length := by omega
     have := HA.out j _ hj (List.getElem?_eq_getElem hjl)
     simpa using this)
    clear HF k2 d0 d1 d2 eg
    go_wp2
    go_ret
    exact ⟨by rw [HRF.out]; rfl, HK2.out⟩
   | false =>
    rw [hg] at HF
    have HG := Lib.hid (of_decide_eq_false hg)
    clear hg
    go_wp2_with fail
    refine HF.out.mono ?_
    rintro e w2 ⟨rfl, k2⟩
    have HK2 := Lib.hid (HKP.out.trans k2 (fun _ _ h => h))
    clear HF k2 d0 d1 d2 eg
    go_wp2
    go_roundw
    case rel =>
     refine ⟨k + 1, by omega, by go_num, HK2.out, fun j t hj e => ?_⟩
     rcases Nat.lt_or_ge j k with h | h
     ·
      exact HA.out j t h e
     ·
      have : j = k := by omega
      subst this
      rw [HX.out] at e
      injection e with e
      rw [← e]
      exact HG.out
    case measure => simp only [intOf]; omega
  ·
   have HRF : Hid (R = none) := Lib.hid (by
    rw [← HR.out, List.findIdx?_eq_none_iff]
    intro g hg
    obtain ⟨j, hj⟩ := List.getElem?_of_mem hg
    have := HA.out j g (by have := (List.getElem?_eq_some_iff.1 hj).1; omega) hj
    simpa using this)
   clear hkeep
   go_wp2
   go_ret
   exact ⟨by rw [HRF.out]; rfl, HKP.out⟩
theorem find_plain (q : Qm) (id : Int) : findG q.plain id = q.gs.findIdx? (fun g => decide (g.id = id)) := by
 unfold findG
 show (q.gs.map Gm.plain).findIdx? _ = _
 rw [List.findIdx?_map]
 rfl
set_option maxRecDepth 100000 in
set_option maxHeartbeats 2000000 in
theorem qfind_any (w : World) (D : Nat → Prop) (q : Qm) (h : QAt w D q) (id : Int) :
  Calls Tryz.prog 37 #[.pointer (some ⟨q.p, 0, none⟩), .int .u64 id] w (TellsAt (findG q.plain id) w) := by
 rw [find_plain]
 have ka := (Keep.refl noneOf w).alloc (.cells #[.int .u64 id] 23)
 have HK := Lib.hid ka
 have hm : Many Gm.cells 3 (w.alloc (.cells #[.int .u64 id] 23)) q.O q.gv q.gs := own_row_in (h.stay ka).gr (fun _ e => .inr (.inr (.inr (.inl e))))
 have HI := Lib.hid (indexFunc_any _ _ _ q.gs id hm w.heap.size (Box.new w _ _))
 have p4 : (w.alloc (.cells #[.int .u64 id] 23)).cell? ⟨q.p, 4, none⟩ = some q.gv := (h.stay ka).box.cell 4
 obtain ⟨A, c, hv⟩ := h.shape
 rw [hv] at p4 HI
 generalize q.gs.findIdx? (fun g => decide (g.id = id)) = R at *
 clear h hm ka
 go_enter Tryz.func37, Tryz.ntmps37
 go_wp2_with fail
 refine HI.out.mono ?_
 rintro e w1 ⟨rfl, k1⟩
 have HK1 := Lib.hid (HK.out.trans k1 (fun _ _ h => h))
 clear HI k1 p4
 cases R with
 | none =>
  dsimp only
  go_wp2
  go_ret2
  exact ⟨rfl, HK1.out⟩
 | some k =>
  have hmax : max (k : Int) 0 = (k : Int) := by omega
  have hge : (0 : Int) ≤ (k : Int) := by omega
  dsimp only
  go_wp2
  go_ret2
  exact ⟨by simp, HK1.out⟩
end Go.Proofs.YtffoeodjbbkdjaaGreat
namespace Go.Proofs.YtffoeodjbbkdjaaGreat
open Go.RowKit
def HeldTold (q : Qm) (tok : Int) (w : World) (e : Ending) (w' : World) : Prop := Keep noneOf w w' ∧
 ((heldAt q.plain tok = none ∧ e = .returned (.tuple #[.pointer none, .int .i64 0, .bool false])) ∨
  ∃ (i n g0 cap : Nat), heldAt q.plain tok = some (i, n) ∧ q.gv = .slice (some ⟨g0, 0, none⟩) q.gs.length cap ∧ e = .returned (.tuple #[.pointer (some ⟨g0, i * 3, none⟩), .int .i64 (n : Int), .bool true]))
theorem held_none_at {tok now : Int} {g : Gm} (h : ∀ j x, j < g.st.length → g.st[j]? = some x → holdsB x tok now = false) : heldIn tok now g.plain = none := by
 unfold heldIn
 rw [List.findIdx?_eq_none_iff]
 intro x hx
 obtain ⟨j, hj⟩ := List.getElem?_of_mem hx
 exact h j x (List.getElem?_eq_some_iff.1 hj).1 hj
theorem held_some_at {tok now : Int} {g : Gm} {k : Nat} {x : Pst} (hx : g.st[k]? = some x) (hb : holdsB x tok now = true) (h : ∀ j y, j < k → g.st[j]? = some y → holdsB y tok now = false) : heldIn tok now g.plain = some k := by
 unfold heldIn
 rw [List.findIdx?_eq_some_iff_getElem]
 obtain ⟨h1, h2⟩ := List.getElem?_eq_some_iff.1 hx
 refine ⟨h1, by show holdsB (g.st[k]) tok now = true; rw [h2]; exact hb, fun j hj => ?_⟩
 have hjl : j < g.st.length := by omega
 have := h j _ hj (List.getElem?_eq_getElem hjl)
 show ¬ holdsB (g.st[j]) tok now = true
 rw [this]
 simp
set_option maxRecDepth 100000 in
set_option maxHeartbeats 4000000 in
set_option linter.unusedSimpArgs false in
theorem qheld_any (w : World) (D : Nat → Prop) (q : Qm) (h : QAt w D q) (tok : Int) (h0 : 0 ≤ tok) :
  Calls Tryz.prog 104 #[.pointer (some ⟨q.p, 0, none⟩), .int .u64 tok] w (HeldTold q tok w) := by
 have HQ := Lib.hid h
 have H0 := Lib.hid h0
 obtain ⟨A, cap, hgv⟩ := h.shape
 have hn := h.few
 unfold maxLen at hn
 have p4 : w.cell? ⟨q.p, 4, none⟩ = some (.slice A q.gs.length cap) := by rw [← hgv]; exact h.box.cell 4
 have HGV := Lib.hid hgv
 clear h h0 hgv
 go_enter Tryz.func104, Tryz.ntmps104
 go_wp2
 clear p4
 go_loopw [16] (fun i wr => ∃ k : Nat, k ≤ q.gs.length ∧ i = .int .i64 k ∧ Keep noneOf w wr ∧ ∀ j g, j < k → q.gs[j]? = some g → heldIn tok q.now g.plain = none) (fun i _ => q.gs.length - (intOf i).toNat)
 case atStart => exact ⟨0, Nat.zero_le _, rfl, Keep.refl _ _, fun j _ hj => absurd hj (by omega)⟩
 case round =>
  obtain ⟨k, hk, rfl, hkeep, hall⟩ := hrel
  have HA := Lib.hid hall
  have HKP := Lib.hid hkeep
  clear hall
  have hQ := HQ.out.stay hkeep
  by_cases hlt : k < q.gs.length
  ·
   have hx : q.gs[k]? = some q.gs[k] := List.getElem?_eq_getElem hlt
   generalize q.gs[k] = g at *
   obtain ⟨g0, cap', hgv', hg0D, hg0lt, hg0p, d0, d1, d2, fr2⟩ := hQ.rows hx
   have hgv := HGV.out
   rw [hgv] at hgv'
   obtain ⟨rfl, rfl⟩ : A = some ⟨g0, 0, none⟩ ∧ cap = cap' := by simpa using hgv'
   have p4 : wr.cell? ⟨q.p, 4, none⟩ = some (.slice (some ⟨g0, 0, none⟩) q.gs.length cap) := by rw [← hgv]; exact hQ.box.cell 4
   have HS := Lib.hid (hQ.states (List.mem_of_getElem? hx))
   obtain ⟨As, cs, hsv⟩ := HS.out.shape
   have HSV := Lib.hid hsv
   rw [hsv] at d2
   have HX := Lib.hid hx
   have hsf := HS.out.few
   unfold maxLen at hsf
   have q0 : (0 : Int) ≤ (k : Int) := by omega
   have q1 : (k : Int) < (q.gs.length : Int) := by omega
   clear hQ hgv' hgv hsv hx d0 d1 fr2 hkeep hg0lt hg0D hg0p
   go_wp2
   clear d2 p4
   go_loopw [30] (fun i wx => ∃ m : Nat, m ≤ g.st.length ∧ i = .int .i64 m ∧ Keep noneOf wr wx ∧ ∀ j x, j < m → g.st[j]? = some x → holdsB x tok q.now = false) (fun i _ => g.st.length - (intOf i).toNat)
   case atStart => exact ⟨0, Nat.zero_le _, rfl, Keep.refl _ _, fun j _ hj => absurd hj (by omega)⟩
   case round =>
    obtain ⟨m, hm, rfl, hkm, hallm⟩ := hrel
    have HAM := Lib.hid hallm
    have HKM := Lib.hid (HKP.out.trans hkm (fun _ _ h => h))
    have HKX := Lib.hid hkm
    clear hallm
    by_cases hlm : m < g.st.length
    ·
     have hy : g.st[m]? = some g.st[m] := List.getElem?_eq_getElem hlm
     have hmany : Many Pst.cells 3 wr q.O (.slice As g.st.length cs) g.st := by
      have := HS.out.keep hkm (fun _ _ _ => id)
      rw [HSV.out] at this
      exact this
     obtain ⟨b1, o1, rfl, hb1, _, hcell⟩ := hmany.cell (fun _ => rfl) hy
     have HY := Lib.hid hy
     generalize g.st[m] = x at *
     have e0 : wr.cell? ⟨b1, o1 + m * 3, none⟩ = some (.int .i64 x.s) := hcell 0 (by decide)
     have e1 : wr.cell? ⟨b1, o1 + m * 3 + 1, none⟩ = some (.int .u64 x.t) := hcell 1 (by decide)
     have e2 : wr.cell? ⟨b1, o1 + m * 3 + 2, none⟩ = some (.int .u64 x.u) := hcell 2 (by decide)
     have m0 : (0 : Int) ≤ (m : Int) := by omega
     have m1 : (m : Int) < (g.st.length : Int) := by omega
     have KA := (Keep.refl noneOf wr).alloc (.cells #[.int .i64 x.s, .int .u64 x.t, .int .u64 x.u] 61)
     have HBX := Lib.hid (Box.new wr 61 #[.int .i64 x.s, .int .u64 x.t, .int .u64 x.u])
     have HKA := Lib.hid (HKM.out.trans KA (fun _ _ h => h))
     have HKXA := Lib.hid (HKX.out.trans KA (fun _ _ h => h))
     clear hmany hcell hy hkm KA
     go_wp2
     generalize wr.alloc (.cells #[.int .i64 x.s, .int .u64 x.t, .int .u64 x.u] 61) = w2 at *
     generalize hxb : wr.heap.size = xb at *
     clear e0 e1 e2 hxb
     have MC : Hid (∀ w', Keep noneOf w2 w' → w'.cell? ⟨q.p, 0, none⟩ = some (.int .u64 q.now) ∧ w'.cell? ⟨xb, 0, none⟩ = some (.int .i64 x.s) ∧ w'.cell? ⟨xb, 1, none⟩ = some (.int .u64 x.t) ∧ w'.cell? ⟨xb, 2, none⟩ = some (.int .u64 x.u)) := Lib.hid fun w' k' =>
      ⟨(HQ.out.stay (HKA.out.trans k' (fun _ _ h => h))).box.cell 0, (HBX.out.keep k' id).three⟩
     have HH := Lib.hid (fun w' => holds_any w' x tok q.now H0.out)
     have K2 := Keep.refl noneOf w2
     refine wp_region_held_drew (S := fun w' => Keep noneOf w2 w') (by kernel_rfl) (K2.drew) (fun hHeld => ?_)
     refine' ztk 0 _ rfl (.inl ⟨by kernel_rfl, ?hy0⟩) ?_
     case hy0 => intro w' hSw; obtain ⟨_, _, _, _⟩ := MC.out w' hSw; go_simp; try with_reducible rfl
     simp only [Act.put, zga, zgb, zgc, zgd, zge, zgf]
     refine' ztk 1 _ rfl (.inl ⟨by kernel_rfl, ?hy1⟩) ?_
     case hy1 => intro w' hSw; obtain ⟨_, _, _, _⟩ := MC.out w' hSw; go_simp; try with_reducible rfl
     simp only [Act.put, zga, zgb, zgc, zgd, zge, zgf]
     refine' ztk 2 _ rfl (.inl ⟨by kernel_rfl, ?hy2⟩) ?_
     case hy2 => intro w' hSw; obtain ⟨_, _, _, _⟩ := MC.out w' hSw; go_simp; try with_reducible rfl
     simp only [Act.put, zga, zgb, zgc, zgd, zge, zgf]
     refine' ztk 3 _ rfl (.inl ⟨by kernel_rfl, ?hy3⟩) ?_
     case hy3 => intro w' hSw; obtain ⟨_, _, _, _⟩ := MC.out w' hSw; go_simp; try with_reducible rfl
     simp only [Act.put, zga, zgb, zgc, zgd, zge, zgf]
     refine' ztk 4 _ rfl (.inl ⟨by kernel_rfl, ?hy4⟩) ?_
     case hy4 => intro w' hSw; obtain ⟨_, _, _, _⟩ := MC.out w' hSw; go_simp; try with_reducible rfl
     simp only [Act.put, zga, zgb, zgc, zgd, zge, zgf]
     refine' ztk 5 _ rfl (.inl ⟨by kernel_rfl, ?hy5⟩) ?_
     case hy5 => intro w' hSw; obtain ⟨_, _, _, _⟩ := MC.out w' hSw; go_simp; try with_reducible rfl
     simp only [Act.put, zga, zgb, zgc, zgd, zge, zgf]
     refine wpAnyH_ready (rs := [6]) (by kernel_rfl) (by simp) (AllReadyH.cons rfl (fun K hK => ?_) AllReadyH.nil)
     go_simp
     go_at_call 122
     refine (HH.out _).mono ?_
     rintro e w3 ⟨rfl, k3⟩
     go_wp2_with fail
     refine hK.out _ _ (K2.drew.trans k3 (fun _ _ h => h)) (fun hHeld => ?_)
     clear hK K
     try simp only [Act.put, zga, zgb, zgc, zgd, zge, zgf]
     refine wpAnyH_done (by kernel_rfl) ?_ _
     have HK3 := Lib.hid (HKA.out.trans (K2.drew.trans k3 (fun _ _ h => h)) (fun _ _ h => h))
     have HKX3 := Lib.hid (HKXA.out.trans (K2.drew.trans k3 (fun _ _ h => h)) (fun _ _ h => h))
     clear HH MC K2 k3 HKA HKXA
     cases hb : holdsB x tok q.now with
     | true =>
      have HF := Lib.hid (firstG_some (f := heldIn tok q.now) (i := 0) (gm_at HX.out) (held_some_at HY.out hb HAM.out) (fun j b hj hb' => by
       obtain ⟨gj, hgj, rfl⟩ := gm_of hb'
       exact HA.out j gj hj hgj))
      clear hb
      go_wp2
      go_ret3
      refine ⟨HK3.out, .inr ⟨k, m, g0, cap, ?_, HGV.out, rfl⟩⟩
      have := HF.out
      rw [Nat.zero_add] at this
      exact this
     | false =>
      have HBF := Lib.hid hb
      clear hb
      go_wp2
      go_roundw
      case rel =>
       refine ⟨m + 1, by omega, by go_num, HKX3.out, fun j y hj e => ?_⟩
       rcases Nat.lt_or_ge j m with h | h
       ·
        exact HAM.out j y h e
       ·
        have : j = m := by omega
        subst this
        rw [HY.out] at e
        injection e with e
        rw [← e]
        exact HBF.out
      case measure => simp only [intOf]; omega
    ·
     have hmn : ¬ ((m : Int) < (g.st.length : Int)) := by omega
     have HN := Lib.hid (held_none_at (tok := tok) (now := q.now) (g := g) (fun j x hj hx => HAM.out j x (by omega) hx))
     clear hkm
     go_wp2
     go_roundw
     case rel =>
      refine ⟨k + 1, by omega, by go_num, HKM.out, fun j t hj e => ?_⟩
      rcases Nat.lt_or_ge j k with h | h
      ·
       exact HA.out j t h e
      ·
       have : j = k := by omega
       subst this
       rw [HX.out] at e
       injection e with e
       rw [← e]
       exact HN.out
     case measure => simp only [intOf]; omega
  ·
   have hkn : ¬ ((k : Int) < (q.gs.length : Int)) := by omega
   have HF : Hid (heldAt q.plain tok = none) := Lib.hid (firstG_none (fun j b hb => by
    obtain ⟨gj, hgj, rfl⟩ := gm_of hb
    exact HA.out j gj (by have := (List.getElem?_eq_some_iff.1 hgj).1; omega) hgj))
   clear hkeep hQ
   go_wp2
   go_ret3
   exact ⟨HKP.out, .inl ⟨HF.out, rfl⟩⟩
end Go.Proofs.YtffoeodjbbkdjaaGreat
