import Derived.BigQuiet
import Derived.Deep.QuietTactic
import Derived.Shelf.RegionOpen
import Derived.Test.YtffoeodjbbkdjaaGreatBs01
import Derived.Test.YtffoeodjbbkdjaaGreatBs07
import Derived.Test.YtffoeodjbbkdjaaGreatBs09
import Derived.Test.YtffoeodjbbkdjaaGreatBs41
namespace Go.Proofs.YtffoeodjbbkdjaaGreat
open Go.RowKit
def RefIm (M : Nat → Prop) (Q : Qp) (w : World) (e : Ending) (w' : World) : Prop := ∃ im : Im, e = .returned im.agg ∧ im.plain = Q ∧ im.lies w' M ∧ Keep noneOf w w'
theorem gm_one {w : World} {D : Nat → Prop} {gs : List Gm} (h : ∀ g ∈ gs, g.lies w D) : ∀ x ∈ gs, ∀ u ∈ x.cells, u.oneCell' = true := fun x hx u hu => by
 obtain ⟨A, c, e1, _⟩ := (h x hx).1.1
 obtain ⟨B, d, e2⟩ := Sts.shape (h x hx).2
 simp [Gm.cells] at hu
 rcases hu with rfl | rfl | rfl
 ·
  rfl
 ·
  rw [e1]; rfl
 ·
  rw [e2]; rfl
set_option maxRecDepth 100000 in
set_option maxHeartbeats 4000000 in
set_option linter.unusedSimpArgs false in
theorem rset_any (w : World) (D : Nat → Prop) (v : Value) (l : List Pst) (n : Nat) (y : Pst) (h : Sts w D v l) (hn : n < l.length) (hb : l.length * 24 ≤ reachBytes) :
  Calls Tryz.prog 71 #[v, .int .i64 n, .agg #[.int .i64 y.s, .int .u64 y.t, .int .u64 y.u]] w (TellsSts (l.set n y) w) := by
 obtain ⟨ys, yt, yu⟩ := y
 dsimp only
 rw [reach_is] at hb
 obtain ⟨A, c, rfl⟩ := h.shape
 have hfew := Many.few (enc := Pst.cells) (k := 3) h
 unfold maxLen at hfew
 have KA := (Keep.refl noneOf w).alloc (.cells #[.int .i64 ys, .int .u64 yt, .int .u64 yu] 61)
 have HBX := Lib.hid (Box.new w 61 #[.int .i64 ys, .int .u64 yt, .int .u64 yu])
 have HM : Hid (Many Pst.cells 3 (w.alloc (.cells #[.int .i64 ys, .int .u64 yt, .int .u64 yu] 61)) D (.slice A l.length c) l) := Lib.hid (h.keep KA (fun _ _ _ id => id))
 have HE := Lib.hid (empty_own (ec := Pst.cells) (k := 3) (w.alloc (.cells #[.int .i64 ys, .int .u64 yt, .int .u64 yu] 61)) 61)
 have HKA := Lib.hid KA
 have HSZ : Hid (w.heap.size < (w.alloc (.cells #[.int .i64 ys, .int .u64 yt, .int .u64 yu] 61)).heap.size) := Lib.hid (by simp)
 have q0 : (0 : Int) ≤ (n : Int) := by omega
 have q1 : (n : Int) < (l.length : Int) := by omega
 clear h KA
 go_enter Tryz.func71, Tryz.ntmps71
 go_upto_region 1 with fail
 generalize w.alloc (.cells #[.int .i64 ys, .int .u64 yt, .int .u64 yu] 61) = w1 at *
 generalize hp : w.heap.size = p at *
 have HPS := Lib.hid hp
 clear hp
 go_wp2_with (at_builtin; refine wpList_append_many elems_st (fun _ => rfl) (ec := Pst.cells) (fun x u hu => by simp [Pst.cells] at hu; rcases hu with rfl | rfl | rfl <;> rfl) (by decide) _ rfl _ _ rfl w1.heap.size _ _ ([] : List Pst) l D rfl rfl HE.out (HM.out.keep ((Keep.refl noneOf w1).alloc _) (fun _ _ _ => id)) ?qc1 ?qc2 ?qc3 ?_)
 case qc1 => rw [List.length_nil, Nat.zero_add]; unfold maxLen; omega
 case qc2 => rw [List.length_nil, Nat.zero_add]; omega
 case qc3 => simp
 intro v' w2 hown hg hat
 have HK := Lib.hid (empty_grown hg)
 replace hown : w2.ownsRow w1.heap.size 61 3 v' l.length (l.flatMap Pst.cells) := hown
 obtain ⟨g, cap, tl, rfl, hge, hbox, hlc, hcm⟩ := own_mt (ec := Pst.cells) hown (by rintro rfl; simp at q1; omega)
 obtain ⟨x, hx⟩ : ∃ x, l[n]? = some x := ⟨_, List.getElem?_eq_getElem hn⟩
 have HB2 := Lib.hid (HBX.out.keep HK.out (fun h => h))
 have b1 := mt_put (ec := Pst.cells) (k := 3) (fun _ => rfl) hbox hx (j := 0) (by decide) (x' := ⟨ys, x.t, x.u⟩) (u := .int .i64 ys) rfl
 have hx1 : (l.set n ⟨ys, x.t, x.u⟩)[n]? = some ⟨ys, x.t, x.u⟩ := List.getElem?_set_self hn
 have b2 := mt_put (ec := Pst.cells) (k := 3) (fun _ => rfl) b1 hx1 (j := 1) (by decide) (x' := ⟨ys, yt, x.u⟩) (u := .int .u64 yt) rfl
 rw [List.set_set] at b2
 have hx2 : (l.set n ⟨ys, yt, x.u⟩)[n]? = some ⟨ys, yt, x.u⟩ := List.getElem?_set_self hn
 have b3 := mt_put (ec := Pst.cells) (k := 3) (fun _ => rfl) b2 hx2 (j := 2) (by decide) (x' := ⟨ys, yt, yu⟩) (u := .int .u64 yu) rfl
 rw [List.set_set, Nat.add_zero] at b3
 have HB3 := Lib.hid b3
 have ks := (((Keep.refl (fun i => i = g) w2).setCell (p := ⟨g, n * 3, none⟩) (fun _ => rfl) (.int .i64 ys)).setCell (p := ⟨g, n * 3 + 1, none⟩) (fun _ => rfl) (.int .u64 yt)).setCell (p := ⟨g, n * 3 + 2, none⟩) (fun _ => rfl) (.int .u64 yu)
 have HKS := Lib.hid ((HKA.out.trans HK.out (fun _ _ h => h)).trans ks (fun i hi e => by have := HSZ.out; have := HPS.out; omega))
 have HGE := Lib.hid hge
 have HLC := Lib.hid (And.intro hlc hcm)
 have d0 := HB2.out.cell 0
 have d1 := HB2.out.cell 1
 have d2 := HB2.out.cell 2
 have e0 := hbox.free (n * 3)
 have e1 := hbox.free (n * 3 + 1)
 have e2 := hbox.free (n * 3 + 2)
 have f0 : w2.cell? ⟨g, n * 3 + 0, none⟩ = some (.int .i64 x.s) := mt_cell (ec := Pst.cells) (k := 3) (fun _ => rfl) hbox hx (j := 0) (by decide)
 have f1 : w2.cell? ⟨g, n * 3 + 1, none⟩ = some (.int .u64 x.t) := mt_cell (ec := Pst.cells) (k := 3) (fun _ => rfl) hbox hx (j := 1) (by decide)
 have f2 : w2.cell? ⟨g, n * 3 + 2, none⟩ = some (.int .u64 x.u) := mt_cell (ec := Pst.cells) (k := 3) (fun _ => rfl) hbox hx (j := 2) (by decide)
 rw [Nat.add_zero] at f0
 clear hown hg hat b1 b2 b3 hx hx1 hx2 ks hge hlc hcm hbox HE HM HBX HB2
 go_wp2
 go_ret
 refine ⟨some ⟨g, 0, none⟩, cap, ?_, ?_, HKS.out⟩
 ·
  rw [List.length_set]; rfl
 ·
  exact mt_many (ec := Pst.cells) (k := 3) (fun _ => rfl) HB3.out (by rw [List.length_set]; exact HLC.out.1) HLC.out.2 (by have := HGE.out; have := HSZ.out; have := HPS.out; omega)
set_option maxRecDepth 100000 in
set_option maxHeartbeats 4000000 in
set_option linter.unusedSimpArgs false in
theorem rwith_any (w : World) (M : Nat → Prop) (hM : ∀ i, w.heap.size ≤ i → M i) (im : Im) (h : im.lies w M) (i : Nat) (g0 : Gm) (hg0 : im.gs[i]? = some g0) (sv : Value) (st : List Pst) (hs : Sts w M sv st) (h16 : im.gs.length ≤ 16) :
  Calls Tryz.prog 26 #[im.agg, .int .i64 i, sv] w (RefIm M (withG im.plain i st) w) := by
 obtain ⟨A1, a1, A2, a2, A3, a3, e1, e2, e3⟩ := h.shapes
 obtain ⟨B, bc, rfl⟩ := hs.shape
 have hi := (List.getElem?_eq_some_iff.1 hg0).1
 have KA := ((Keep.refl noneOf w).alloc (.cells #[.int .u64 im.now, .int .u64 im.ng, .int .u64 im.nt, .slice A1 im.ses.length a1, .slice A2 im.gs.length a2, .slice A3 im.built.length a3] 30)).alloc (.cells #[.int .u64 0, .int .u64 0, .int .u64 0, .slice none 0 0, .slice none 0 0, .slice none 0 0] 30)
 have HBX := Lib.hid ((Box.new w 30 #[.int .u64 im.now, .int .u64 im.ng, .int .u64 im.nt, .slice A1 im.ses.length a1, .slice A2 im.gs.length a2, .slice A3 im.built.length a3]).alloc (.cells #[.int .u64 0, .int .u64 0, .int .u64 0, .slice none 0 0, .slice none 0 0, .slice none 0 0] 30))
 have HBY := Lib.hid (Box.new (w.alloc (.cells #[.int .u64 im.now, .int .u64 im.ng, .int .u64 im.nt, .slice A1 im.ses.length a1, .slice A2 im.gs.length a2, .slice A3 im.built.length a3] 30)) 30 #[.int .u64 0, .int .u64 0, .int .u64 0, .slice none 0 0, .slice none 0 0, .slice none 0 0])
 simp only [World.size_alloc] at HBY
 have HMN := Lib.hid hM
 have HH := Lib.hid h
 have HSS := Lib.hid hs
 have HKA := Lib.hid KA
 have HSZ : Hid (w.heap.size + 2 ≤ ((w.alloc (.cells #[.int .u64 im.now, .int .u64 im.ng, .int .u64 im.nt, .slice A1 im.ses.length a1, .slice A2 im.gs.length a2, .slice A3 im.built.length a3] 30)).alloc (.cells #[.int .u64 0, .int .u64 0, .int .u64 0, .slice none 0 0, .slice none 0 0, .slice none 0 0] 30)).heap.size) := Lib.hid (by simp)
 have HM : Hid (Many (fx Gm.cells) 3 ((w.alloc (.cells #[.int .u64 im.now, .int .u64 im.ng, .int .u64 im.nt, .slice A1 im.ses.length a1, .slice A2 im.gs.length a2, .slice A3 im.built.length a3] 30)).alloc (.cells #[.int .u64 0, .int .u64 0, .int .u64 0, .slice none 0 0, .slice none 0 0, .slice none 0 0] 30)) (fun _ => True) (.slice A2 im.gs.length a2) im.gs) := Lib.hid (by
  have h1 := ((h.gs.mono (D' := fun _ => True) (fun _ _ _ => trivial)).keep KA (fun _ _ _ h => h)).1
  unfold Many at h1 ⊢
  rw [e2] at h1
  rw [fx_eq (gm_one h.gs.2)]
  exact h1)
 have HFX := Lib.hid (fx_eq (gm_one h.gs.2))
 have HGL := Lib.hid h.gs.2
 have HE3 := Lib.hid (And.intro e1 (And.intro e2 e3))
 unfold Im.agg
 rw [e1, e2, e3]
 have q0 : (0 : Int) ≤ (i : Int) := by omega
 have q1 : (i : Int) < (im.gs.length : Int) := by omega
 clear h hs KA e1 e2 e3
 go_enter Tryz.func26, Tryz.ntmps26
 go_upto_region 1 with fail
 generalize (w.alloc (.cells #[.int .u64 im.now, .int .u64 im.ng, .int .u64 im.nt, .slice A1 im.ses.length a1, .slice A2 im.gs.length a2, .slice A3 im.built.length a3] 30)).alloc (.cells #[.int .u64 0, .int .u64 0, .int .u64 0, .slice none 0 0, .slice none 0 0, .slice none 0 0] 30) = w1 at *
 generalize hp : w.heap.size = p at *
 have HPS := Lib.hid hp
 clear hp
 have HE := Lib.hid (empty_own (ec := fx Gm.cells) (k := 3) w1 59)
 have x4 := HBX.out.cell 4
 have hp1 := HBX.out.lt
 have hp2 := HBY.out.lt
 go_wp2_with (at_builtin; refine wpList_append_many elems_gr (ec := fx Gm.cells) (fun x => by unfold fx; rw [List.length_map]; rfl) (fx_one Gm.cells) (by decide) _ rfl _ _ rfl w1.heap.size _ _ ([] : List Gm) im.gs (fun _ => True) rfl rfl HE.out (HM.out.keep ((Keep.refl noneOf w1).alloc _) (fun _ _ _ h => h)) ?qc1 ?qc2 ?qc3 ?_)
 case qc1 => rw [List.length_nil, Nat.zero_add]; unfold maxLen; omega
 case qc2 => rw [List.length_nil, Nat.zero_add]; omega
 case qc3 => simp
 intro v' w2 hown hg hat
 have HK := Lib.hid (empty_grown hg)
 replace hown : w2.ownsRow w1.heap.size 59 3 v' im.gs.length (im.gs.flatMap (fx Gm.cells)) := hown
 rw [HFX.out] at hown
 obtain ⟨g, cap, tl, rfl, hge, hbox, hlc, hcm⟩ := own_mt (ec := Gm.cells) hown (by rintro e; rw [e] at hi; simp at hi)
 have HB2 := Lib.hid (HBX.out.keep HK.out (fun h => h))
 have HY2 := Lib.hid (HBY.out.keep HK.out (fun h => h))
 have HBG := Lib.hid hbox
 have HGE := Lib.hid hge
 have HLC := Lib.hid (And.intro hlc hcm)
 have e0 := hbox.free (i * 3 + 2)
 have f0 : w2.cell? ⟨g, i * 3 + 2, none⟩ = some g0.sv := mt_cell (ec := Gm.cells) (k := 3) (fun _ => rfl) hbox hg0 (j := 2) (by decide)
 have b1 := mt_put (ec := Gm.cells) (k := 3) (fun _ => rfl) hbox hg0 (j := 2) (by decide) (x' := { g0 with sv := .slice B st.length bc, st := st }) (u := .slice B st.length bc) rfl
 have k1 := (Keep.refl (fun j => j = g) w2).setCell (p := ⟨g, i * 3 + 2, none⟩) (fun _ => rfl) (.slice B st.length bc)
 have HB3 := Lib.hid (HB2.out.keep k1 (fun e => by omega))
 have HY3 := Lib.hid (HY2.out.keep k1 (fun e => by omega))
 have HK3 := Lib.hid (HK.out.trans k1 (fun j hj e => by omega))
 have HBG3 := Lib.hid b1
 clear hown hg hat b1 k1 hge hlc hcm hbox HE HM HBX HBY x4 HB2 HY2
 go_upto_region 3 with fail
 generalize w2.setCell ⟨g, i * 3 + 2, none⟩ (.slice B st.length bc) = w3 at *
 have x4 := HB3.out.cell 4
 have z4 := HB3.out.free 4
 have HB4 := Lib.hid (HB3.out.put 4 (.slice (some ⟨g, 0, none⟩) im.gs.length cap))
 have k4 := (Keep.refl (fun j => j = p) w3).setCell (p := ⟨p, 4, none⟩) (fun _ => rfl) (.slice (some ⟨g, 0, none⟩) im.gs.length cap)
 have HY4 := Lib.hid (HY3.out.keep k4 (fun e => by omega))
 have HBG4 := Lib.hid (HBG3.out.keep k4 (fun e => by have := HGE.out; omega))
 have HK4 := Lib.hid ((HKA.out.trans HK3.out (fun _ _ h => h)).trans k4 (fun j hj e => by have := HPS.out; omega))
 have HS4 := Lib.hid (((HSS.out.keep HKA.out (fun _ _ _ h => h)).keep HK3.out (fun _ _ _ h => h)))
 go_upto_region 4 with fail
 generalize hw4 : w3.setCell ⟨p, 4, none⟩ (.slice (some ⟨g, 0, none⟩) im.gs.length cap) = w4 at *
 clear hw4 x4 z4
 obtain ⟨x0, x1, x2, x3, x4, x5⟩ := HB4.out.six
 obtain ⟨y0, y1, y2, y3, y4, y5⟩ := HY4.out.six
 obtain ⟨z0, z1, z2, z3, z4, z5⟩ := HY4.out.free6
 have HY5 := Lib.hid (HY4.out.put6 (.int .u64 im.now) (.int .u64 im.ng) (.int .u64 im.nt) (.slice A1 im.ses.length a1) (.slice (some ⟨g, 0, none⟩) im.gs.length cap) (.slice A3 im.built.length a3))
 have k5 := (Keep.refl (fun b => b = p + 1) w4).put6 (b := p + 1) (fun _ => rfl) (.int .u64 im.now) (.int .u64 im.ng) (.int .u64 im.nt) (.slice A1 im.ses.length a1) (.slice (some ⟨g, 0, none⟩) im.gs.length cap) (.slice A3 im.built.length a3)
 have HFIN : Hid (RefIm M (withG im.plain i st) w (.returned (.agg #[.int .u64 im.now, .int .u64 im.ng, .int .u64 im.nt, .slice A1 im.ses.length a1, .slice (some ⟨g, 0, none⟩) im.gs.length cap, .slice A3 im.built.length a3])) (sixPut w4 (p + 1) (.int .u64 im.now) (.int .u64 im.ng) (.int .u64 im.nt) (.slice A1 im.ses.length a1) (.slice (some ⟨g, 0, none⟩) im.gs.length cap) (.slice A3 im.built.length a3))) := Lib.hid (by
  have kk := HK4.out.trans k5 (fun j hj e => by have := HPS.out; omega)
  have hbg := HBG4.out.keep k5 (fun e => by have := HGE.out; omega)
  refine ⟨{ im with gv := .slice (some ⟨g, 0, none⟩) im.gs.length cap, gs := im.gs.set i { g0 with sv := .slice B st.length bc, st := st } }, ?_, ?_, ⟨(HH.out.keep kk (fun _ _ _ h => h)).ses, ?_, (HH.out.keep kk (fun _ _ _ h => h)).built⟩, kk⟩
  ·
   unfold Im.agg
   dsimp only
   rw [HE3.out.1, HE3.out.2.2]
  ·
   unfold Im.plain withG
   dsimp only
   rw [gm_set hg0]
  ·
   refine gms_set (fun a ha => (HH.out.keep kk (fun _ _ _ h => h)).gs.2 a ha) hg0 (HSS.out.keep kk (fun _ _ _ h => h)) ?_
   have := mt_many (ec := Gm.cells) (k := 3) (D := M) (cap := cap) (fun _ => rfl) hbg (by rw [List.length_set]; exact HLC.out.1) HLC.out.2 (HMN.out g (by have := HGE.out; have := HSZ.out; have := HPS.out; omega))
   rw [List.length_set] at this
   exact this)
 dsimp only [sixPut] at HY5 HFIN
 clear HB3 HY3 HB4 HY4 HBG3 HBG4 HK4 k4 k5 HS4 HSS HK3 HBG
 go_wp2
 obtain ⟨r0, r1, r2, r3, r4, r5⟩ := HY5.out.six
 exact bodyPost_ret (by simp [results, Tryz.results26, go_sem, r0, r1, r2, r3, r4, r5]) rfl HFIN.out
end Go.Proofs.YtffoeodjbbkdjaaGreat
namespace Go.Proofs.YtffoeodjbbkdjaaGreat
open Go.RowKit
def HeldT (r : Option (Nat × Nat)) (w : World) (e : Ending) (w' : World) : Prop := Keep noneOf w w' ∧
 ((r = none ∧ e = .returned (.tuple #[.int .i64 0, .int .i64 0, .bool false])) ∨ ∃ (i n : Nat), r = some (i, n) ∧ e = .returned (.tuple #[.int .i64 (i : Int), .int .i64 (n : Int), .bool true]))
set_option maxRecDepth 100000 in
set_option maxHeartbeats 4000000 in
set_option linter.unusedSimpArgs false in
theorem rheld_any (w : World) (D : Nat → Prop) (im : Im) (h : im.lies w D) (tok : Int) (h0 : 0 ≤ tok) :
  Calls Tryz.prog 72 #[im.agg, .int .u64 tok] w (HeldT (heldAt im.plain tok) w) := by
 obtain ⟨A1, a1, A2, a2, A3, a3, e1, e2, e3⟩ := h.shapes
 have hfew := h.gs.1.few
 unfold maxLen at hfew
 have KA := (Keep.refl noneOf w).alloc (.cells #[.int .u64 im.now, .int .u64 im.ng, .int .u64 im.nt, .slice A1 im.ses.length a1, .slice A2 im.gs.length a2, .slice A3 im.built.length a3] 30)
 have HX := Lib.hid (Box.new w 30 #[.int .u64 im.now, .int .u64 im.ng, .int .u64 im.nt, .slice A1 im.ses.length a1, .slice A2 im.gs.length a2, .slice A3 im.built.length a3])
 have hg := h.gs
 rw [e2] at hg
 have HG := Lib.hid (hg.keep KA (fun _ _ _ h => h))
 have HKA := Lib.hid KA
 have H0 := Lib.hid h0
 unfold Im.agg
 rw [e1, e2, e3]
 clear h KA hg e1 e2 e3 h0
 go_enter Tryz.func72, Tryz.ntmps72
 go_upto_region 1 with fail
 generalize w.alloc (.cells #[.int .u64 im.now, .int .u64 im.ng, .int .u64 im.nt, .slice A1 im.ses.length a1, .slice A2 im.gs.length a2, .slice A3 im.built.length a3] 30) = w1 at *
 generalize w.heap.size = p at *
 go_wp2
 go_loopw [7] (fun i wr => ∃ (k : Nat), k ≤ im.gs.length ∧ i = .int .i64 k ∧ Keep noneOf w1 wr ∧ ∀ (j : Nat) (g : Gm), j < k → im.gs[j]? = some g → heldIn tok im.now g.plain = none) (fun i _ => im.gs.length - (intOf i).toNat)
 case atStart => exact ⟨0, Nat.zero_le _, rfl, Keep.refl _ _, fun j _ hj => absurd hj (Nat.not_lt_zero _)⟩
 case round =>
  obtain ⟨k, hk, rfl, hkeep, hall⟩ := hrel
  obtain ⟨wk, rfl⟩ : ∃ wk, wk = wr := ⟨_, rfl⟩
  have HA := Lib.hid hall
  have HKP := Lib.hid hkeep
  have x4 := (HX.out.keep hkeep (fun h => h)).cell 4
  clear hall
  by_cases hlt : k < im.gs.length
  ·
   have hx : im.gs[k]? = some im.gs[k] := List.getElem?_eq_getElem hlt
   have hG := HG.out.keep hkeep (fun _ _ _ h => h)
   generalize im.gs[k] = g at *
   obtain ⟨tb, o, eA, hblk, _, hcell⟩ := hG.1.cell (fun _ => rfl) hx
   have hgl := hG.2 g (List.mem_of_getElem? hx)
   obtain ⟨B2, b2, f2⟩ := Sts.shape hgl.2
   have hst := hgl.2
   rw [f2] at hst
   have hsf := Many.few (enc := Pst.cells) (k := 3) hst
   unfold maxLen at hsf
   have HDC : Hid (∀ w', Keep noneOf wk w' → w'.cell? ⟨tb, o + k * 3 + 2, none⟩ = some (.slice B2 g.st.length b2)) := Lib.hid fun w' k' => by
    have := (k'.cell (p := ⟨tb, o + (k * 3 + 2), none⟩) hblk (fun h => h)).trans (hcell 2 (by decide))
    rw [← f2]
    exact this
   have HST := Lib.hid hst
   have HEA := Lib.hid eA
   have HX1 := Lib.hid hx
   have q0 : (0 : Int) ≤ (k : Int) := by omega
   have q1 : (k : Int) < (im.gs.length : Int) := by omega
   clear hG hx hcell hblk hgl hst f2 eA hkeep
   go_wp2
   clear x4
   go_loopw [8] (fun i wr => ∃ (m : Nat), m ≤ g.st.length ∧ i = .int .i64 m ∧ Keep noneOf wk wr ∧ ∀ (j : Nat) (x : Pst), j < m → g.st[j]? = some x → holdsB x tok im.now = false) (fun i _ => g.st.length - (intOf i).toNat)
   case atStart => exact ⟨0, Nat.zero_le _, rfl, Keep.refl _ _, fun j _ hj => absurd hj (by omega)⟩
   case round =>
    obtain ⟨m, hm, rfl, hkm, hallm⟩ := hrel
    have HAM := Lib.hid hallm
    have HKM := Lib.hid (HKP.out.trans hkm (fun _ _ h => h))
    have HKX := Lib.hid hkm
    have x4 := (HX.out.keep HKM.out (fun h => h)).cell 4
    rw [HEA.out] at x4
    have d2 := HDC.out wr hkm
    clear hallm
    by_cases hlm : m < g.st.length
    ·
     have hy : g.st[m]? = some g.st[m] := List.getElem?_eq_getElem hlm
     have hmany : Many Pst.cells 3 wr _ (.slice B2 g.st.length b2) g.st := HST.out.keep hkm (fun _ _ _ h => h)
     obtain ⟨b1, o1, eB, hb1, _, hcell⟩ := hmany.cell (fun _ => rfl) hy
     have HY := Lib.hid hy
     generalize g.st[m] = x at *
     have m0 : (0 : Int) ≤ (m : Int) := by omega
     have m1 : (m : Int) < (g.st.length : Int) := by omega
     have MC : Hid (∀ w', Keep noneOf wr w' → w'.cell? ⟨p, 0, none⟩ = some (.int .u64 im.now) ∧ w'.cell? ⟨p, 4, none⟩ = some (.slice (some ⟨tb, o, none⟩) im.gs.length a2) ∧ w'.cell? ⟨tb, o + k * 3 + 2, none⟩ = some (.slice (some ⟨b1, o1, none⟩) g.st.length b2) ∧ w'.cell? ⟨b1, o1 + m * 3, none⟩ = some (.int .i64 x.s) ∧ w'.cell? ⟨b1, o1 + m * 3 + 1, none⟩ = some (.int .u64 x.t) ∧ w'.cell? ⟨b1, o1 + m * 3 + 2, none⟩ = some (.int .u64 x.u)) := Lib.hid fun w' k' => by
      have h1 := (HX.out.keep (HKM.out.trans k' (fun _ _ h => h)) (fun h => h)).cell 0
      have h2 := (HX.out.keep (HKM.out.trans k' (fun _ _ h => h)) (fun h => h)).cell 4
      have h3 := HDC.out w' (HKX.out.trans k' (fun _ _ h => h))
      have ks := fun j hj => (k'.cell (p := ⟨b1, o1 + (m * 3 + j), none⟩) hb1 (fun h => h)).trans (hcell j hj)
      rw [HEA.out] at h2
      rw [eB] at h3
      exact ⟨h1, h2, h3, ks 0 (by decide), ks 1 (by decide), ks 2 (by decide)⟩
     rw [eB] at d2
     have HH := Lib.hid (fun w' => refHolds_any w' x tok im.now H0.out)
     have K0 := (Keep.refl noneOf wr).drew
     clear hmany hcell hb1 hy hkm eB
     go_upto_region 7 with fail
     clear x4 d2
     refine wp_region_held_drew (S := fun w' => Keep noneOf wr w') (by kernel_rfl) (K0) (fun hHeld => ?_)
     refine' ztk 0 _ rfl (.inl ⟨by kernel_rfl, ?hy0⟩) ?_
     case hy0 => intro w' hSw; obtain ⟨_, _, _, _, _, _⟩ := MC.out w' hSw; go_simp; try with_reducible rfl
     simp only [Act.put, zga, zgb, zgc, zgd, zge, zgf]
     refine' ztk 1 _ rfl (.inl ⟨by kernel_rfl, ?hy1⟩) ?_
     case hy1 => intro w' hSw; obtain ⟨_, _, _, _, _, _⟩ := MC.out w' hSw; go_simp; try with_reducible rfl
     simp only [Act.put, zga, zgb, zgc, zgd, zge, zgf]
     refine' ztk 2 _ rfl (.inl ⟨by kernel_rfl, ?hy2⟩) ?_
     case hy2 => intro w' hSw; obtain ⟨_, _, _, _, _, _⟩ := MC.out w' hSw; go_simp; try with_reducible rfl
     simp only [Act.put, zga, zgb, zgc, zgd, zge, zgf]
     refine' ztk 3 _ rfl (.inl ⟨by kernel_rfl, ?hy3⟩) ?_
     case hy3 => intro w' hSw; obtain ⟨_, _, _, _, _, _⟩ := MC.out w' hSw; go_simp; try with_reducible rfl
     simp only [Act.put, zga, zgb, zgc, zgd, zge, zgf]
     refine' ztk 4 _ rfl (.inl ⟨by kernel_rfl, ?hy4⟩) ?_
     case hy4 => intro w' hSw; obtain ⟨_, _, _, _, _, _⟩ := MC.out w' hSw; go_simp; try with_reducible rfl
     simp only [Act.put, zga, zgb, zgc, zgd, zge, zgf]
     refine' ztk 5 _ rfl (.inl ⟨by kernel_rfl, ?hy5⟩) ?_
     case hy5 => intro w' hSw; obtain ⟨_, _, _, _, _, _⟩ := MC.out w' hSw; go_simp; try with_reducible rfl
     simp only [Act.put, zga, zgb, zgc, zgd, zge, zgf]
     refine' ztk 6 _ rfl (.inl ⟨by kernel_rfl, ?hy6⟩) ?_
     case hy6 => intro w' hSw; obtain ⟨_, _, _, _, _, _⟩ := MC.out w' hSw; go_simp; try with_reducible rfl
     simp only [Act.put, zga, zgb, zgc, zgd, zge, zgf]
     refine' ztk 7 _ rfl (.inl ⟨by kernel_rfl, ?hy7⟩) ?_
     case hy7 => intro w' hSw; obtain ⟨_, _, _, _, _, _⟩ := MC.out w' hSw; go_simp; try with_reducible rfl
     simp only [Act.put, zga, zgb, zgc, zgd, zge, zgf]
     refine' ztk 8 _ rfl (.inl ⟨by kernel_rfl, ?hy8⟩) ?_
     case hy8 => intro w' hSw; obtain ⟨_, _, _, _, _, _⟩ := MC.out w' hSw; go_simp; try with_reducible rfl
     simp only [Act.put, zga, zgb, zgc, zgd, zge, zgf]
     refine' ztk 9 _ rfl (.inl ⟨by kernel_rfl, ?hy9⟩) ?_
     case hy9 => intro w' hSw; obtain ⟨_, _, _, _, _, _⟩ := MC.out w' hSw; go_simp; try with_reducible rfl
     simp only [Act.put, zga, zgb, zgc, zgd, zge, zgf]
     refine' ztk 10 _ rfl (.inl ⟨by kernel_rfl, ?hy10⟩) ?_
     case hy10 => intro w' hSw; obtain ⟨_, _, _, _, _, _⟩ := MC.out w' hSw; go_simp; try with_reducible rfl
     simp only [Act.put, zga, zgb, zgc, zgd, zge, zgf]
     refine' ztk 11 _ rfl (.inl ⟨by kernel_rfl, ?hy11⟩) ?_
     case hy11 => intro w' hSw; obtain ⟨_, _, _, _, _, _⟩ := MC.out w' hSw; go_simp; try with_reducible rfl
     simp only [Act.put, zga, zgb, zgc, zgd, zge, zgf]
     refine wpAnyH_ready (rs := [12]) (by kernel_rfl) (by simp) (AllReadyH.cons rfl (fun K hK => ?_) AllReadyH.nil)
     go_simp
     go_at_call 114
     refine (HH.out _).mono ?_
     rintro e w3 ⟨rfl, k3⟩
     have K3 : Keep noneOf wr w3 := K0.trans k3 (fun _ _ h => h)
     go_wp2_with fail
     refine hK.out _ _ (K3) (fun hHeld => ?_)
     clear hK K
     try simp only [Act.put, zga, zgb, zgc, zgd, zge, zgf]
     refine' ztk 13 (.bool (holdsB x tok im.now)) rfl (.inl ⟨by kernel_rfl, ?hy13⟩) ?_
     case hy13 => intro w' hSw; obtain ⟨_, _, _, _, _, _⟩ := MC.out w' hSw; first | rfl | (go_simp; try simp only [List.getElem?_cons_zero, Option.getD_some]; try go_simp)
     simp only [Act.put, zga, zgb, zgc, zgd, zge, zgf]
     refine wpAnyH_done (by kernel_rfl) ?_ _
     have HK3 := Lib.hid (HKX.out.trans K3 (fun _ _ h => h))
     have HK4 := Lib.hid ((HKA.out.trans HKM.out (fun _ _ h => h)).trans K3 (fun _ _ h => h))
     clear HH MC K0 K3 k3 hHeld
     cases hb : holdsB x tok im.now with
     | true =>
      have HF := Lib.hid (firstG_some (f := heldIn tok im.now) (i := 0) (gm_at HX1.out) (held_some_at HY.out hb HAM.out) (fun j b hj hb' => by
       obtain ⟨gj, hgj, rfl⟩ := gm_of hb'
       exact HA.out j gj hj hgj))
      clear hb
      go_wp2
      go_ret3
      refine ⟨HK4.out, .inr ⟨k, m, ?_, rfl⟩⟩
      have := HF.out
      rw [Nat.zero_add] at this
      exact this
     | false =>
      have HBF := Lib.hid hb
      clear hb
      go_wp2
      go_roundw
      case rel =>
       refine ⟨m + 1, by omega, by go_num, HK3.out, fun j y hj e => ?_⟩
       rcases Nat.lt_or_ge j m with h | h
       ·
        exact HAM.out j y h e
       ·
        obtain rfl : j = m := by omega
        rw [HY.out] at e
        injection e with e
        rw [← e]
        exact HBF.out
      case measure => simp only [intOf]; omega
    ·
     have hme : m = g.st.length := by omega
     have hkn2 : ¬ ((m : Int) < (g.st.length : Int)) := by omega
     have HN : Hid (heldIn tok im.now g.plain = none) := Lib.hid (held_none_at (fun j x hj hx => HAM.out j x (by omega) hx))
     clear hlm hkm
     go_wp2
     go_roundw
     case rel =>
      refine ⟨k + 1, by omega, by go_num, HKM.out, fun j y hj e => ?_⟩
      rcases Nat.lt_or_ge j k with h | h
      ·
       exact HA.out j y h e
      ·
       obtain rfl : j = k := by omega
       rw [HX1.out] at e
       injection e with e
       rw [← e]
       exact HN.out
     case measure => simp only [intOf]; omega
  ·
   have hkn : ¬ ((k : Int) < (im.gs.length : Int)) := by omega
   have HF : Hid (heldAt im.plain tok = none) := Lib.hid (firstG_none (fun m b hb => by
    obtain ⟨gj, hgj, rfl⟩ := gm_of hb
    exact HA.out m gj (by have := (List.getElem?_eq_some_iff.1 hgj).1; omega) hgj))
   have HK := Lib.hid (HKA.out.trans hkeep (fun _ _ h => h))
   clear hlt hkeep
   go_wp2
   go_ret3
   exact ⟨HK.out, .inl ⟨HF.out, rfl⟩⟩
end Go.Proofs.YtffoeodjbbkdjaaGreat
namespace Go.Proofs.YtffoeodjbbkdjaaGreat
open Go.RowKit
set_option maxRecDepth 100000 in
set_option maxHeartbeats 1000000 in
theorem refKeys_any (w : World) (D : Nat → Prop) (v : Value) (ts : List Tg) (h : Tgs w D v ts) :
  Calls Tryz.prog 74 #[.agg #[v]] w (ToldKeys (grKeys (ts.map Tg.plain)) w) := by
 have HH := Lib.hid h
 obtain ⟨A, c, rfl, hlc, hcm, hn, hxl, hc⟩ := h.1
 unfold maxLen at hcm
 have ka := (Keep.refl noneOf w).alloc (.cells #[.slice A ts.length c] 35)
 have HK0 := Lib.hid ka
 have HX0 := Lib.hid (Box.new w 35 #[.slice A ts.length c])
 have HCK := Lib.hid (refCheck_any _ D _ ts (HH.out.keep ka (fun _ _ _ => id)))
 clear hc h hxl hn ka
 by_cases hq : grCheck (ts.map Tg.plain) = 0
 ·
  rw [hq] at HCK
  have HQ := Lib.hid hq
  generalize hR : grKeys (ts.map Tg.plain) = R at *
  have HR := Lib.hid hR
  clear hq hR
  go_enter Tryz.func74, Tryz.ntmps74
  go_wp2_with fail
  refine HCK.out.mono ?_
  rintro e w1 ⟨rfl, k1⟩
  have K1 := HK0.out.trans k1 (fun _ _ h => h)
  have X1 := HX0.out.keep k1 id
  have x1 : w1.cell? ⟨w.heap.size, 0, none⟩ = some (.slice A ts.length c) := X1.cell 0
  have AR := refkeys_any w1 D _ ts (HH.out.keep K1 (fun _ _ _ => id)) HQ.out
  rw [HR.out] at AR
  have HAR := Lib.hid AR
  have HK1 := Lib.hid K1
  clear HCK HK0 HX0 k1 X1 AR K1
  go_wp2_with fail
  refine HAR.out.mono ?_
  rintro e w2 ⟨A2, c2, rfl, o2, k2⟩
  have HO := Lib.hid o2
  have HK2 := Lib.hid k2
  have hs := HK1.out.size
  clear o2 k2 HAR
  go_wp2
  go_ret
  exact ⟨A2, c2, rfl, HO.out.mono (fun _ _ h => Nat.le_trans hs h), HK1.out.trans HK2.out (fun _ _ h => h)⟩
 ·
  have e0 : grKeys (ts.map Tg.plain) = [] := by
   have := grKeys_length (ts.map Tg.plain)
   rw [order_none hq] at this
   exact List.eq_nil_of_length_eq_zero this
  rw [e0]
  generalize grCheck (ts.map Tg.plain) = q at *
  have g : (q != 0) = true := by rw [bne_iff_ne]; exact hq
  have g' : (q == 0) = false := by rw [beq_eq_false_iff_ne]; exact hq
  clear e0 hq
  go_enter Tryz.func74, Tryz.ntmps74
  go_wp2_with fail
  refine HCK.out.mono ?_
  rintro e w1 ⟨rfl, k1⟩
  have HK1 := Lib.hid (HK0.out.trans k1 (fun _ _ h => h))
  clear HCK HK0 k1
  go_wp2
  go_ret
  exact ⟨none, 0, rfl, ⟨⟨none, 0, rfl, Nat.le_refl _, Nat.zero_le _, fun _ => rfl, rfl, fun h => absurd h (by simp)⟩, fun k hk => by cases hk⟩, HK1.out⟩
end Go.Proofs.YtffoeodjbbkdjaaGreat
