import Derived.BigQuiet
import Derived.Deep.QuietTactic
import Derived.Shelf.RegionOpen
import Derived.Test.YtffoeodjbbkdjaaGreatBs01
import Derived.Test.YtffoeodjbbkdjaaGreatBs11
import Derived.Test.YtffoeodjbbkdjaaGreatBs20
import Derived.Test.YtffoeodjbbkdjaaGreatBs22
import Derived.Test.YtffoeodjbbkdjaaGreatBs23
import Derived.Test.YtffoeodjbbkdjaaGreatBs39
namespace Go.Proofs.YtffoeodjbbkdjaaGreat
open Go.RowKit
def SameTold (a b : Im) (w : World) (e : Ending) (w' : World) : Prop := ∃ r : Bool, e = .returned (.bool r) ∧ (r = true ↔ a.plain = b.plain) ∧ Keep noneOf w w'
theorem same_no {a b : Im} {w w' : World} (h : a.plain ≠ b.plain) (k : Keep noneOf w w') : SameTold a b w (.returned (.bool false)) w' := ⟨false, rfl, ⟨fun e => (by cases e), fun e => absurd e h⟩, k⟩
theorem same_yes {a b : Im} {w w' : World} (h : a.plain = b.plain) (k : Keep noneOf w w') : SameTold a b w (.returned (.bool true)) w' := ⟨true, rfl, ⟨fun _ => h, fun _ => rfl⟩, k⟩
set_option maxRecDepth 100000 in
set_option maxHeartbeats 8000000 in
set_option linter.unusedSimpArgs false in
theorem qsame_any (w : World) (D D' : Nat → Prop) (a b : Im) (ha : a.lies w D) (hb : b.lies w D') :
  Calls Tryz.prog 14 #[a.agg, b.agg] w (SameTold a b w) := by
 obtain ⟨A1, c1, e1⟩ := ha.ses.shape
 obtain ⟨A2, c2, e2⟩ := hb.ses.shape
 obtain ⟨A3, c3, e3⟩ := ha.gs.1.shape
 obtain ⟨A4, c4, e4⟩ := hb.gs.1.shape
 obtain ⟨A5, c5, e5, hl5, hm5, _, _, hc5⟩ := ha.built.1
 obtain ⟨A6, c6, e6, hl6, hm6, _, _, hc6⟩ := hb.built.1
 have hf3 := ha.gs.1.few
 have hf4 := hb.gs.1.few
 have hs1 := ha.ses
 have hs2 := hb.ses
 have hg1 := ha.gs
 have hg2 := hb.gs
 rw [e1] at hs1
 rw [e2] at hs2
 rw [e3] at hg1
 rw [e4] at hg2
 unfold maxLen at hf3 hf4 hm5 hm6
 unfold Im.agg
 rw [e1, e2, e3, e4, e5, e6]
 clear ha hb e1 e2 e3 e4 e5 e6
 have HKA := Lib.hid (((Keep.refl noneOf w).alloc (.cells #[.int .u64 a.now, .int .u64 a.ng, .int .u64 a.nt, .slice A1 a.ses.length c1, .slice A3 a.gs.length c3, .slice A5 a.built.length c5] 30)).alloc (.cells #[.int .u64 b.now, .int .u64 b.ng, .int .u64 b.nt, .slice A2 b.ses.length c2, .slice A4 b.gs.length c4, .slice A6 b.built.length c6] 30))
 have HX := Lib.hid ((Box.new w 30 #[.int .u64 a.now, .int .u64 a.ng, .int .u64 a.nt, .slice A1 a.ses.length c1, .slice A3 a.gs.length c3, .slice A5 a.built.length c5]).alloc (.cells #[.int .u64 b.now, .int .u64 b.ng, .int .u64 b.nt, .slice A2 b.ses.length c2, .slice A4 b.gs.length c4, .slice A6 b.built.length c6] 30))
 have HY : Hid (Box ((w.alloc (.cells #[.int .u64 a.now, .int .u64 a.ng, .int .u64 a.nt, .slice A1 a.ses.length c1, .slice A3 a.gs.length c3, .slice A5 a.built.length c5] 30)).alloc (.cells #[.int .u64 b.now, .int .u64 b.ng, .int .u64 b.nt, .slice A2 b.ses.length c2, .slice A4 b.gs.length c4, .slice A6 b.built.length c6] 30)) (w.heap.size + 1) 30 #[.int .u64 b.now, .int .u64 b.ng, .int .u64 b.nt, .slice A2 b.ses.length c2, .slice A4 b.gs.length c4, .slice A6 b.built.length c6]) := Lib.hid (by
  have := Box.new (w.alloc (.cells #[.int .u64 a.now, .int .u64 a.ng, .int .u64 a.nt, .slice A1 a.ses.length c1, .slice A3 a.gs.length c3, .slice A5 a.built.length c5] 30)) 30 #[.int .u64 b.now, .int .u64 b.ng, .int .u64 b.nt, .slice A2 b.ses.length c2, .slice A4 b.gs.length c4, .slice A6 b.built.length c6]
  rw [show (w.alloc (.cells #[.int .u64 a.now, .int .u64 a.ng, .int .u64 a.nt, .slice A1 a.ses.length c1, .slice A3 a.gs.length c3, .slice A5 a.built.length c5] 30)).heap.size = w.heap.size + 1 from by simp] at this
  exact this)
 have HG1 := Lib.hid hg1
 have HG2 := Lib.hid hg2
 have HS1 := Lib.hid hs1
 have HS2 := Lib.hid hs2
 have HC5 := Lib.hid hc5
 have HC6 := Lib.hid hc6
 clear hg1 hg2 hs1 hs2 hc5 hc6
 go_enter Tryz.func14, Tryz.ntmps14
 go_upto_region 1 with fail
 generalize (w.alloc (.cells #[.int .u64 a.now, .int .u64 a.ng, .int .u64 a.nt, .slice A1 a.ses.length c1, .slice A3 a.gs.length c3, .slice A5 a.built.length c5] 30)).alloc (.cells #[.int .u64 b.now, .int .u64 b.ng, .int .u64 b.nt, .slice A2 b.ses.length c2, .slice A4 b.gs.length c4, .slice A6 b.built.length c6] 30) = w1 at *
 generalize hpa : w.heap.size = pa at *
 generalize hpb : pa + 1 = pb at *
 have HPA := Lib.hid hpa
 clear hpa hpb
 have x3 := HX.out.cell 3
 have y3 := HY.out.cell 3
 obtain ⟨rs, hrs⟩ : ∃ r, decide (a.ses = b.ses) = r := ⟨_, rfl⟩
 have SA : Hid (Calls Tryz.prog 40 #[.slice A1 a.ses.length c1, .slice A2 b.ses.length c2] w1 (TellsB rs w1)) := Lib.hid (by
  rw [← hrs]
  exact same_any_S w1 _ _ _ _ a.ses b.ses (HS1.out.keep HKA.out (fun _ _ _ => id)) (HS2.out.keep HKA.out (fun _ _ _ => id)))
 have HRS := Lib.hid hrs
 clear hrs
 go_wp2_with fail
 refine SA.out.mono ?_
 rintro e w2 ⟨rfl, k2⟩
 have x0 := (HX.out.keep k2 id).cell 0
 have x1 := (HX.out.keep k2 id).cell 1
 have x2 := (HX.out.keep k2 id).cell 2
 have x4 := (HX.out.keep k2 id).cell 4
 have x5 := (HX.out.keep k2 id).cell 5
 have y0 := (HY.out.keep k2 id).cell 0
 have y1 := (HY.out.keep k2 id).cell 1
 have y2 := (HY.out.keep k2 id).cell 2
 have y4 := (HY.out.keep k2 id).cell 4
 have y5 := (HY.out.keep k2 id).cell 5
 have HX2 := Lib.hid (HX.out.keep k2 id)
 have HY2 := Lib.hid (HY.out.keep k2 id)
 have HK2 := Lib.hid (HKA.out.trans k2 (fun _ _ h => h))
 clear SA x3 y3 k2 HX HY HKA
 cases rs with
 | false =>
  have HF := Lib.hid (same_no (a := a) (b := b) (fun e => of_decide_eq_false HRS.out (plain_ses e)) HK2.out)
  go_wp2
  go_ret
  exact HF.out
 | true =>
 rcases hn0 : (a.now != b.now) with _ | _
 case true =>
  have HF := Lib.hid (same_no (a := a) (b := b) (fun e => bne_iff_ne.1 hn0 (plain_now e)) HK2.out)
  go_wp2
  go_ret
  exact HF.out
 case false =>
 rcases hn1 : (a.ng != b.ng) with _ | _
 case true =>
  have HF := Lib.hid (same_no (a := a) (b := b) (fun e => bne_iff_ne.1 hn1 (plain_ng e)) HK2.out)
  go_wp2
  go_ret
  exact HF.out
 case false =>
 rcases hn2 : (a.nt != b.nt) with _ | _
 case true =>
  have HF := Lib.hid (same_no (a := a) (b := b) (fun e => bne_iff_ne.1 hn2 (plain_nt e)) HK2.out)
  go_wp2
  go_ret
  exact HF.out
 case false =>
 rcases hn3 : ((a.gs.length : Int) != (b.gs.length : Int)) with _ | _
 case true =>
  have HF := Lib.hid (same_no (a := a) (b := b) (fun e => bne_iff_ne.1 hn3 (by rw [plain_length e])) HK2.out)
  go_wp2
  go_ret
  exact HF.out
 case false =>
 rcases hn4 : ((a.built.length : Int) != (b.built.length : Int)) with _ | _
 case true =>
  have HF := Lib.hid (same_no (a := a) (b := b) (fun e => bne_iff_ne.1 hn4 (by rw [plain_built e])) HK2.out)
  go_wp2
  go_ret
  exact HF.out
 case false =>
 have HLG : Hid (a.gs.length = b.gs.length) := Lib.hid (by have := bne_eq_false_iff_eq.1 hn3; omega)
 have HLB : Hid (a.built.length = b.built.length) := Lib.hid (by have := bne_eq_false_iff_eq.1 hn4; omega)
 have HP : Hid (a.now = b.now ∧ a.ng = b.ng ∧ a.nt = b.nt ∧ a.ses = b.ses) := Lib.hid ⟨bne_eq_false_iff_eq.1 hn0, bne_eq_false_iff_eq.1 hn1, bne_eq_false_iff_eq.1 hn2, of_decide_eq_true HRS.out⟩
 go_wp2
 clear x0 x1 x2 x4 x5 y0 y1 y2 y4 y5 hn0 hn1 hn2 hn3 hn4 HRS
 go_loopw [6] (fun i wr => ∃ (k : Nat), k ≤ a.gs.length ∧ i = .int .i64 k ∧ Keep noneOf w2 wr ∧ ∀ (j : Nat) (g h : Gm), j < k → a.gs[j]? = some g → b.gs[j]? = some h → g.plain = h.plain) (fun i _ => a.gs.length - (intOf i).toNat)
 case atStart => exact ⟨0, Nat.zero_le _, rfl, Keep.refl _ _, fun j _ _ hj => absurd hj (Nat.not_lt_zero _)⟩
 case round =>
  obtain ⟨k, hk, rfl, hkeep, hall⟩ := hrel
  have HA := Lib.hid hall
  have HKP := Lib.hid hkeep
  have x4 := (HX2.out.keep hkeep id).cell 4
  have y4 := (HY2.out.keep hkeep id).cell 4
  clear hall
  by_cases hlt : k < a.gs.length
  ·
   have hlt' : k < b.gs.length := by rw [← HLG.out]; exact hlt
   have hx : a.gs[k]? = some a.gs[k] := List.getElem?_eq_getElem hlt
   have hy : b.gs[k]? = some b.gs[k] := List.getElem?_eq_getElem hlt'
   have hG := HG1.out.keep (HK2.out.trans hkeep (fun _ _ h => h)) (fun _ _ _ => id)
   have hH := HG2.out.keep (HK2.out.trans hkeep (fun _ _ h => h)) (fun _ _ _ => id)
   generalize a.gs[k] = g at *
   generalize b.gs[k] = h at *
   obtain ⟨tb, o, rfl, hblk, _, hcell⟩ := hG.1.cell (fun _ => rfl) hx
   obtain ⟨tb', o', rfl, hblk', _, hcell'⟩ := hH.1.cell (fun _ => rfl) hy
   have d0 : wr.cell? ⟨tb, o + k * 3, none⟩ = some (.int .u64 g.id) := hcell 0 (by decide)
   have d1 : wr.cell? ⟨tb, o + k * 3 + 1, none⟩ = some g.gv := hcell 1 (by decide)
   have d2 : wr.cell? ⟨tb, o + k * 3 + 2, none⟩ = some g.sv := hcell 2 (by decide)
   have f0 : wr.cell? ⟨tb', o' + k * 3, none⟩ = some (.int .u64 h.id) := hcell' 0 (by decide)
   have f1 : wr.cell? ⟨tb', o' + k * 3 + 1, none⟩ = some h.gv := hcell' 1 (by decide)
   have f2 : wr.cell? ⟨tb', o' + k * 3 + 2, none⟩ = some h.sv := hcell' 2 (by decide)
   have hgl := hG.2 g (List.mem_of_getElem? hx)
   have hhl := hH.2 h (List.mem_of_getElem? hy)
   obtain ⟨rg, hrg⟩ : ∃ r, decide (g.ts.map Tg.plain = h.ts.map Tg.plain) = r := ⟨_, rfl⟩
   obtain ⟨rt, hrt⟩ : ∃ r, decide (g.st = h.st) = r := ⟨_, rfl⟩
   have SG : Hid (∀ w', Keep noneOf wr w' → Calls Tryz.prog 41 #[.agg #[g.gv], .agg #[h.gv]] w' (Told' rg w')) := Lib.hid fun w' k' => by
    rw [← hrg]
    exact sameGraph_any w' _ _ _ _ g.ts h.ts (hgl.keep k' (fun _ _ _ => id)).1 (hhl.keep k' (fun _ _ _ => id)).1
   have SS : Hid (∀ w', Keep noneOf wr w' → Calls Tryz.prog 36 #[g.sv, h.sv] w' (TellsB rt w')) := Lib.hid fun w' k' => by
    rw [← hrt]
    exact same_any w' _ _ _ _ g.st h.st (hgl.keep k' (fun _ _ _ => id)).2 (hhl.keep k' (fun _ _ _ => id)).2
   have MC : Hid (∀ w', Keep noneOf wr w' → w'.cell? ⟨pa, 4, none⟩ = some (.slice (some ⟨tb, o, none⟩) a.gs.length c3) ∧ w'.cell? ⟨pb, 4, none⟩ = some (.slice (some ⟨tb', o', none⟩) b.gs.length c4) ∧ w'.cell? ⟨tb, o + k * 3, none⟩ = some (.int .u64 g.id) ∧ w'.cell? ⟨tb, o + k * 3 + 1, none⟩ = some g.gv ∧ w'.cell? ⟨tb, o + k * 3 + 2, none⟩ = some g.sv ∧ w'.cell? ⟨tb', o' + k * 3, none⟩ = some (.int .u64 h.id) ∧ w'.cell? ⟨tb', o' + k * 3 + 1, none⟩ = some h.gv ∧ w'.cell? ⟨tb', o' + k * 3 + 2, none⟩ = some h.sv) := Lib.hid fun w' k' =>
    ⟨(HX2.out.keep (HKP.out.trans k' (fun _ _ h => h)) id).cell 4, (HY2.out.keep (HKP.out.trans k' (fun _ _ h => h)) id).cell 4, (k'.cell (p := ⟨tb, o + k * 3, none⟩) hblk id).trans d0, (k'.cell (p := ⟨tb, o + k * 3 + 1, none⟩) hblk id).trans d1, (k'.cell (p := ⟨tb, o + k * 3 + 2, none⟩) hblk id).trans d2, (k'.cell (p := ⟨tb', o' + k * 3, none⟩) hblk' id).trans f0, (k'.cell (p := ⟨tb', o' + k * 3 + 1, none⟩) hblk' id).trans f1, (k'.cell (p := ⟨tb', o' + k * 3 + 2, none⟩) hblk' id).trans f2⟩
   have q0 : (0 : Int) ≤ (k : Int) := by omega
   have q1 : (k : Int) < (a.gs.length : Int) := by omega
   have q2 : (k : Int) < (b.gs.length : Int) := by omega
   have HXY := Lib.hid (And.intro hx hy)
   have HRG := Lib.hid hrg
   have HRT := Lib.hid hrt
   have K0 := (Keep.refl noneOf wr).drew
   obtain ⟨gi, gv, gw, gt, gst⟩ := g
   obtain ⟨hi, hv, hw, ht, hst⟩ := h
   dsimp only at SG SS MC
   clear hG hH hx hy hgl hhl hcell hcell' d0 d1 d2 f0 f1 f2 hrg hrt hkeep hblk hblk'
   go_upto_region 7 with fail
   refine wp_region_held_drew (S := fun w' => Keep noneOf wr w') (by kernel_rfl) (K0) (fun hHeld => ?_)
   refine' ztk 0 _ rfl (.inl ⟨by kernel_rfl, ?hy0⟩) ?_
   case hy0 => intro w' hSw; obtain ⟨_, _, _, _, _, _, _, _⟩ := MC.out w' hSw; go_simp; try with_reducible rfl
   simp only [Act.put, zga, zgb, zgc, zgd, zge, zgf]
   refine' ztk 1 _ rfl (.inl ⟨by kernel_rfl, ?hy1⟩) ?_
   case hy1 => intro w' hSw; obtain ⟨_, _, _, _, _, _, _, _⟩ := MC.out w' hSw; go_simp; try with_reducible rfl
   simp only [Act.put, zga, zgb, zgc, zgd, zge, zgf]
   refine' ztk 2 _ rfl (.inl ⟨by kernel_rfl, ?hy2⟩) ?_
   case hy2 => intro w' hSw; obtain ⟨_, _, _, _, _, _, _, _⟩ := MC.out w' hSw; go_simp; try with_reducible rfl
   simp only [Act.put, zga, zgb, zgc, zgd, zge, zgf]
   refine' ztk 3 _ rfl (.inl ⟨by kernel_rfl, ?hy3⟩) ?_
   case hy3 => intro w' hSw; obtain ⟨_, _, _, _, _, _, _, _⟩ := MC.out w' hSw; go_simp; try with_reducible rfl
   simp only [Act.put, zga, zgb, zgc, zgd, zge, zgf]
   refine' ztk 4 _ rfl (.inl ⟨by kernel_rfl, ?hy4⟩) ?_
   case hy4 => intro w' hSw; obtain ⟨_, _, _, _, _, _, _, _⟩ := MC.out w' hSw; go_simp; try with_reducible rfl
   simp only [Act.put, zga, zgb, zgc, zgd, zge, zgf]
   refine' ztk 5 _ rfl (.inl ⟨by kernel_rfl, ?hy5⟩) ?_
   case hy5 => intro w' hSw; obtain ⟨_, _, _, _, _, _, _, _⟩ := MC.out w' hSw; go_simp; try with_reducible rfl
   simp only [Act.put, zga, zgb, zgc, zgd, zge, zgf]
   refine' ztk 6 _ rfl (.inl ⟨by kernel_rfl, ?hy6⟩) ?_
   case hy6 => intro w' hSw; obtain ⟨_, _, _, _, _, _, _, _⟩ := MC.out w' hSw; go_simp; try with_reducible rfl
   simp only [Act.put, zga, zgb, zgc, zgd, zge, zgf]
   refine' ztk 7 _ rfl (.inl ⟨by kernel_rfl, ?hy7⟩) ?_
   case hy7 => intro w' hSw; obtain ⟨_, _, _, _, _, _, _, _⟩ := MC.out w' hSw; go_simp; try with_reducible rfl
   simp only [Act.put, zga, zgb, zgc, zgd, zge, zgf]
   refine' ztk 8 _ rfl (.inl ⟨by kernel_rfl, ?hy8⟩) ?_
   case hy8 => intro w' hSw; obtain ⟨_, _, _, _, _, _, _, _⟩ := MC.out w' hSw; go_simp; try with_reducible rfl
   simp only [Act.put, zga, zgb, zgc, zgd, zge, zgf]
   refine' ztk 9 _ rfl (.inl ⟨by kernel_rfl, ?hy9⟩) ?_
   case hy9 => intro w' hSw; obtain ⟨_, _, _, _, _, _, _, _⟩ := MC.out w' hSw; go_simp; try with_reducible rfl
   simp only [Act.put, zga, zgb, zgc, zgd, zge, zgf]
   refine' ztk 10 _ rfl (.inl ⟨by kernel_rfl, ?hy10⟩) ?_
   case hy10 => intro w' hSw; obtain ⟨_, _, _, _, _, _, _, _⟩ := MC.out w' hSw; go_simp; try with_reducible rfl
   simp only [Act.put, zga, zgb, zgc, zgd, zge, zgf]
   refine' ztk 11 _ rfl (.inl ⟨by kernel_rfl, ?hy11⟩) ?_
   case hy11 => intro w' hSw; obtain ⟨_, _, _, _, _, _, _, _⟩ := MC.out w' hSw; go_simp; try with_reducible rfl
   simp only [Act.put, zga, zgb, zgc, zgd, zge, zgf]
   refine wpAnyH_ready (rs := [12]) (by kernel_rfl) (by simp) (AllReadyH.cons rfl (fun K hK => ?_) AllReadyH.nil)
   go_simp
   go_at_call 41
   refine (SG.out _ K0).mono ?_
   rintro e w3 ⟨rfl, k3⟩
   go_wp2_with fail
   refine hK.out _ _ (K0.trans k3 (fun _ _ h => h)) (fun hHeld => ?_)
   clear hK K
   try simp only [Act.put, zga, zgb, zgc, zgd, zge, zgf]
   refine' ztk 13 _ rfl (.inl ⟨by kernel_rfl, ?hy13⟩) ?_
   case hy13 => intro w' hSw; obtain ⟨_, _, _, _, _, _, _, _⟩ := MC.out w' hSw; go_simp; try with_reducible rfl
   simp only [Act.put, zga, zgb, zgc, zgd, zge, zgf]
   refine wpAnyH_done (by kernel_rfl) ?_ _
   have K3 : Keep noneOf wr w3 := K0.trans k3 (fun _ _ h => h)
   have K4 := Keep.drew K3
   clear SG k3 hHeld
   go_upto_region 8 with fail
   refine wp_region_held_drew (S := fun w' => Keep noneOf wr w') (by kernel_rfl) (K4) (fun hHeld => ?_)
   refine' ztk 0 _ rfl (.inl ⟨by kernel_rfl, ?hy0⟩) ?_
   case hy0 => intro w' hSw; obtain ⟨_, _, _, _, _, _, _, _⟩ := MC.out w' hSw; go_simp; try with_reducible rfl
   simp only [Act.put, zga, zgb, zgc, zgd, zge, zgf]
   refine' ztk 1 _ rfl (.inl ⟨by kernel_rfl, ?hy1⟩) ?_
   case hy1 => intro w' hSw; obtain ⟨_, _, _, _, _, _, _, _⟩ := MC.out w' hSw; go_simp; try with_reducible rfl
   simp only [Act.put, zga, zgb, zgc, zgd, zge, zgf]
   refine' ztk 2 _ rfl (.inl ⟨by kernel_rfl, ?hy2⟩) ?_
   case hy2 => intro w' hSw; obtain ⟨_, _, _, _, _, _, _, _⟩ := MC.out w' hSw; go_simp; try with_reducible rfl
   simp only [Act.put, zga, zgb, zgc, zgd, zge, zgf]
   refine' ztk 3 _ rfl (.inl ⟨by kernel_rfl, ?hy3⟩) ?_
   case hy3 => intro w' hSw; obtain ⟨_, _, _, _, _, _, _, _⟩ := MC.out w' hSw; go_simp; try with_reducible rfl
   simp only [Act.put, zga, zgb, zgc, zgd, zge, zgf]
   refine' ztk 4 _ rfl (.inl ⟨by kernel_rfl, ?hy4⟩) ?_
   case hy4 => intro w' hSw; obtain ⟨_, _, _, _, _, _, _, _⟩ := MC.out w' hSw; go_simp; try with_reducible rfl
   simp only [Act.put, zga, zgb, zgc, zgd, zge, zgf]
   refine' ztk 5 _ rfl (.inl ⟨by kernel_rfl, ?hy5⟩) ?_
   case hy5 => intro w' hSw; obtain ⟨_, _, _, _, _, _, _, _⟩ := MC.out w' hSw; go_simp; try with_reducible rfl
   simp only [Act.put, zga, zgb, zgc, zgd, zge, zgf]
   refine' ztk 6 _ rfl (.inl ⟨by kernel_rfl, ?hy6⟩) ?_
   case hy6 => intro w' hSw; obtain ⟨_, _, _, _, _, _, _, _⟩ := MC.out w' hSw; go_simp; try with_reducible rfl
   simp only [Act.put, zga, zgb, zgc, zgd, zge, zgf]
   refine' ztk 7 _ rfl (.inl ⟨by kernel_rfl, ?hy7⟩) ?_
   case hy7 => intro w' hSw; obtain ⟨_, _, _, _, _, _, _, _⟩ := MC.out w' hSw; go_simp; try with_reducible rfl
   simp only [Act.put, zga, zgb, zgc, zgd, zge, zgf]
   refine' ztk 8 _ rfl (.inl ⟨by kernel_rfl, ?hy8⟩) ?_
   case hy8 => intro w' hSw; obtain ⟨_, _, _, _, _, _, _, _⟩ := MC.out w' hSw; go_simp; try with_reducible rfl
   simp only [Act.put, zga, zgb, zgc, zgd, zge, zgf]
   refine' ztk 9 _ rfl (.inl ⟨by kernel_rfl, ?hy9⟩) ?_
   case hy9 => intro w' hSw; obtain ⟨_, _, _, _, _, _, _, _⟩ := MC.out w' hSw; go_simp; try with_reducible rfl
   simp only [Act.put, zga, zgb, zgc, zgd, zge, zgf]
   refine' ztk 10 _ rfl (.inl ⟨by kernel_rfl, ?hy10⟩) ?_
   case hy10 => intro w' hSw; obtain ⟨_, _, _, _, _, _, _, _⟩ := MC.out w' hSw; go_simp; try with_reducible rfl
   simp only [Act.put, zga, zgb, zgc, zgd, zge, zgf]
   refine' ztk 11 _ rfl (.inl ⟨by kernel_rfl, ?hy11⟩) ?_
   case hy11 => intro w' hSw; obtain ⟨_, _, _, _, _, _, _, _⟩ := MC.out w' hSw; go_simp; try with_reducible rfl
   simp only [Act.put, zga, zgb, zgc, zgd, zge, zgf]
   refine wpAnyH_ready (rs := [12]) (by kernel_rfl) (by simp) (AllReadyH.cons rfl (fun K hK => ?_) AllReadyH.nil)
   go_simp
   go_at_call 36
   refine (SS.out _ K4).mono ?_
   rintro e w5 ⟨rfl, k5⟩
   go_wp2_with fail
   refine hK.out _ _ (K4.trans k5 (fun _ _ h => h)) (fun hHeld => ?_)
   clear hK K
   try simp only [Act.put, zga, zgb, zgc, zgd, zge, zgf]
   refine' ztk 13 _ rfl (.inl ⟨by kernel_rfl, ?hy13⟩) ?_
   case hy13 => intro w' hSw; obtain ⟨_, _, _, _, _, _, _, _⟩ := MC.out w' hSw; go_simp; try with_reducible rfl
   simp only [Act.put, zga, zgb, zgc, zgd, zge, zgf]
   refine wpAnyH_done (by kernel_rfl) ?_ _
   have K5 : Keep noneOf wr w5 := K4.trans k5 (fun _ _ h => h)
   have HK5 := Lib.hid (HKP.out.trans K5 (fun _ _ h => h))
   obtain ⟨x4, y4, d0, _, _, f0, _, _⟩ := MC.out w5 K5
   clear SS MC K0 K3 K4 K5 k5 hHeld
   cases rg with
   | false =>
    have HF := Lib.hid (fun n => same_no (a := a) (b := b) (fun e => of_decide_eq_false HRG.out (gm_eq.1 (plain_gs e HXY.out.1 HXY.out.2)).2.1) (HK2.out.trans (HK5.out.drewN n) (fun _ _ h => h)))
    go_wp2
    go_quiet (fail)
    go_wp2
    go_ret
    exact HF.out _
   | true =>
   cases rt with
   | false =>
    have HF := Lib.hid (fun n => same_no (a := a) (b := b) (fun e => of_decide_eq_false HRT.out (gm_eq.1 (plain_gs e HXY.out.1 HXY.out.2)).2.2) (HK2.out.trans (HK5.out.drewN n) (fun _ _ h => h)))
    go_wp2
    go_quiet (fail)
    go_wp2
    go_ret
    exact HF.out _
   | true =>
   rcases hni : (gi != hi) with _ | _
   case true =>
    have HF := Lib.hid (fun n => same_no (a := a) (b := b) (fun e => bne_iff_ne.1 hni (gm_eq.1 (plain_gs e HXY.out.1 HXY.out.2)).1) (HK2.out.trans (HK5.out.drewN n) (fun _ _ h => h)))
    go_wp2
    go_quiet (fail)
    go_wp2
    go_ret
    exact HF.out _
   case false =>
    have HE : Hid (Gm.plain ⟨gi, gv, gw, gt, gst⟩ = Gm.plain ⟨hi, hv, hw, ht, hst⟩) := Lib.hid (gm_eq.2 ⟨bne_eq_false_iff_eq.1 hni, of_decide_eq_true HRG.out, of_decide_eq_true HRT.out⟩)
    go_wp2
    go_quiet (fail)
    go_wp2
    go_roundw
    case rel =>
     refine ⟨k + 1, by omega, by go_num, HK5.out.drewN _, fun j g h hj h1 h2 => ?_⟩
     rcases Nat.lt_or_ge j k with h3 | h3
     ·
      exact HA.out j g h h3 h1 h2
     ·
      obtain rfl : j = k := by omega
      rw [HXY.out.1] at h1
      rw [HXY.out.2] at h2
      injection h1 with h1
      injection h2 with h2
      rw [← h1, ← h2]
      exact HE.out
    case measure => simp only [intOf]; omega
  ·
   have hke : k = a.gs.length := by omega
   subst hke
   have HALL : Hid (∀ (j : Nat) (g h : Gm), a.gs[j]? = some g → b.gs[j]? = some h → g.plain = h.plain) := Lib.hid (fun j g h h1 h2 => HA.out j g h (List.getElem?_eq_some_iff.1 h1).1 h1 h2)
   have hkn : ¬ ((a.gs.length : Int) < (a.gs.length : Int)) := by omega
   have HKW := Lib.hid (HK2.out.trans HKP.out (fun _ _ h => h))
   have HX3 := Lib.hid (HX2.out.keep HKP.out id)
   have HY3 := Lib.hid (HY2.out.keep HKP.out id)
   clear HA HKP HX2 HY2 HK2 hkeep hlt
   go_wp2
   clear x4 y4 hkn
   generalize wr = w9 at *
   go_loopw [9] (fun i wr => ∃ (k : Nat), k ≤ a.built.length ∧ i = .int .i64 k ∧ Keep noneOf w9 wr ∧ ∀ (j : Nat), j < k → a.built[j]? = b.built[j]?) (fun i _ => a.built.length - (intOf i).toNat)
   case atStart => exact ⟨0, Nat.zero_le _, rfl, Keep.refl _ _, fun j hj => absurd hj (Nat.not_lt_zero _)⟩
   case round =>
    obtain ⟨k, hk, rfl, hkeep, hall⟩ := hrel
    have HA := Lib.hid hall
    have HKP := Lib.hid hkeep
    have x5 := (HX3.out.keep hkeep id).cell 5
    have y5 := (HY3.out.keep hkeep id).cell 5
    clear hall
    by_cases hlt : k < a.built.length
    ·
     have hlt' : k < b.built.length := by rw [← HLB.out]; exact hlt
     obtain ⟨ad, rfl, hsp, hblk, _, hcell⟩ := HC5.out (by omega)
     obtain ⟨tb, o, sp⟩ := ad
     simp only at hsp hblk
     subst hsp
     obtain ⟨ad2, rfl, hsp2, hblk2, _, hcell2⟩ := HC6.out (by omega)
     obtain ⟨tb', o', sp2⟩ := ad2
     simp only at hsp2 hblk2
     subst hsp2
     have kw := HKW.out.trans hkeep (fun _ _ h => h)
     have d0 : wr.cell? ⟨tb, o + k, none⟩ = some (.int .u64 (a.built[k] : Int)) := (kw.cell (p := ⟨tb, o + k, none⟩) (by show tb < w.heap.size; rw [HPA.out]; exact hblk) id).trans (hcell k _ (by rw [List.getElem?_map, List.getElem?_eq_getElem hlt]; rfl))
     have f0 : wr.cell? ⟨tb', o' + k, none⟩ = some (.int .u64 (b.built[k] : Int)) := (kw.cell (p := ⟨tb', o' + k, none⟩) (by show tb' < w.heap.size; rw [HPA.out]; exact hblk2) id).trans (hcell2 k _ (by rw [List.getElem?_map, List.getElem?_eq_getElem hlt']; rfl))
     have HXY := Lib.hid (And.intro (List.getElem?_eq_getElem hlt) (List.getElem?_eq_getElem hlt'))
     generalize a.built[k] = x at *
     generalize b.built[k] = y at *
     have q0 : (0 : Int) ≤ (k : Int) := by omega
     have q1 : (k : Int) < (a.built.length : Int) := by omega
     have q2 : (k : Int) < (b.built.length : Int) := by omega
     clear hcell hcell2 kw hkeep hblk hblk2
     rcases hni : ((x : Int) != (y : Int)) with _ | _
     case true =>
      have HF := Lib.hid (fun n => same_no (a := a) (b := b) (fun e => by
       have h1 := HXY.out
       rw [plain_built e, h1.2] at h1
       have h2 := h1.1
       injection h2 with h2
       exact bne_iff_ne.1 hni (by rw [h2])) (HKW.out.trans (HKP.out.drewN n) (fun _ _ h => h)))
      go_wp2
      go_quiet (fail)
      go_wp2
      go_ret
      exact HF.out _
     case false =>
      have HE : Hid (x = y) := Lib.hid (by have := bne_eq_false_iff_eq.1 hni; omega)
      go_wp2
      go_quiet (fail)
      go_wp2
      go_roundw
      case rel =>
       refine ⟨k + 1, by omega, by go_num, HKP.out.drewN _, fun j hj => ?_⟩
       rcases Nat.lt_or_ge j k with h3 | h3
       ·
        exact HA.out j h3
       ·
        obtain rfl : j = k := by omega
        rw [HXY.out.1, HXY.out.2, HE.out]
      case measure => simp only [intOf]; omega
    ·
     have hke : k = a.built.length := by omega
     subst hke
     have hkn : ¬ ((a.built.length : Int) < (a.built.length : Int)) := by omega
     have HF := Lib.hid (same_yes (a := a) (b := b) (plain_eq HP.out.1 HP.out.2.1 HP.out.2.2.1 HP.out.2.2.2 HLG.out HALL.out (List.ext_getElem? fun j => by
      rcases Nat.lt_or_ge j a.built.length with h | h
      ·
       exact HA.out j h
      ·
       rw [List.getElem?_eq_none h, List.getElem?_eq_none (by rw [← HLB.out]; exact h)])) (HKW.out.trans HKP.out (fun _ _ h => h)))
     clear hlt hkeep
     go_wp2
     go_ret
     exact HF.out
end Go.Proofs.YtffoeodjbbkdjaaGreat
namespace Go.Proofs.YtffoeodjbbkdjaaGreat
open Go.RowKit
def foundI (r : Option Nat) : Int := match r with
 | none => -1
 | some i => (i : Int)
def TellsI (n : Int) (w : World) (e : Ending) (w' : World) : Prop := e = .returned (.int .i64 n) ∧ Keep noneOf w w'
theorem tells_i {n m : Int} {w w' : World} (h : m = n) (k : Keep noneOf w w') : TellsI n w (.returned (.int .i64 m)) w' := ⟨by rw [h], k⟩
set_option maxRecDepth 100000 in
set_option maxHeartbeats 8000000 in
set_option linter.unusedSimpArgs false in
theorem rfind_any (w : World) (D : Nat → Prop) (a : Im) (ha : a.lies w D) (id : Int) :
  Calls Tryz.prog 39 #[a.agg, .int .u64 id] w (TellsI (foundI (findG a.plain id)) w) := by
 obtain ⟨A1, c1, e1⟩ := ha.ses.shape
 obtain ⟨A3, c3, e3⟩ := ha.gs.1.shape
 obtain ⟨A5, c5, e5, _⟩ := ha.built.1
 have hf3 := ha.gs.1.few
 have hg1 := ha.gs
 rw [e3] at hg1
 unfold maxLen at hf3
 unfold Im.agg
 rw [e1, e3, e5]
 clear ha e1 e3 e5
 have HKA := Lib.hid ((Keep.refl noneOf w).alloc (.cells #[.int .u64 a.now, .int .u64 a.ng, .int .u64 a.nt, .slice A1 a.ses.length c1, .slice A3 a.gs.length c3, .slice A5 a.built.length c5] 30))
 have HX := Lib.hid (Box.new w 30 #[.int .u64 a.now, .int .u64 a.ng, .int .u64 a.nt, .slice A1 a.ses.length c1, .slice A3 a.gs.length c3, .slice A5 a.built.length c5])
 have HG1 := Lib.hid hg1
 clear hg1
 go_enter Tryz.func39, Tryz.ntmps39
 go_upto_region 1 with fail
 generalize w.alloc (.cells #[.int .u64 a.now, .int .u64 a.ng, .int .u64 a.nt, .slice A1 a.ses.length c1, .slice A3 a.gs.length c3, .slice A5 a.built.length c5] 30) = w1 at *
 generalize hpa : w.heap.size = pa at *
 clear hpa
 go_wp2
 go_loopw [5] (fun i wr => ∃ (k : Nat), k ≤ a.gs.length ∧ i = .int .i64 k ∧ Keep noneOf w1 wr ∧ ∀ (j : Nat) (g : Gm), j < k → a.gs[j]? = some g → g.id ≠ id) (fun i _ => a.gs.length - (intOf i).toNat)
 case atStart => exact ⟨0, Nat.zero_le _, rfl, Keep.refl _ _, fun j _ hj => absurd hj (Nat.not_lt_zero _)⟩
 case round =>
  obtain ⟨k, hk, rfl, hkeep, hall⟩ := hrel
  have HA := Lib.hid hall
  have HKP := Lib.hid hkeep
  have x4 := (HX.out.keep hkeep (fun h => h)).cell 4
  clear hall
  by_cases hlt : k < a.gs.length
  ·
   have hx : a.gs[k]? = some a.gs[k] := List.getElem?_eq_getElem hlt
   have hG := HG1.out.keep (HKA.out.trans hkeep (fun _ _ h => h)) (fun _ _ _ h => h)
   generalize a.gs[k] = g at *
   obtain ⟨tb, o, rfl, hblk, _, hcell⟩ := hG.1.cell (fun _ => rfl) hx
   have d0 : wr.cell? ⟨tb, o + k * 3, none⟩ = some (.int .u64 g.id) := hcell 0 (by decide)
   have q0 : (0 : Int) ≤ (k : Int) := by omega
   have q1 : (k : Int) < (a.gs.length : Int) := by omega
   have HX1 := Lib.hid hx
   clear hG hx hcell hkeep hblk
   rcases hni : (g.id == id) with _ | _
   case true =>
    have HF : Hid (TellsI (foundI (findG a.plain id)) w (.returned (.int .i64 k)) wr) := Lib.hid (tells_i (by
     have h1 := findG_some (q := a.plain) (gm_at HX1.out) (beq_iff_eq.1 hni) (fun j b hj hb e => by
      obtain ⟨gj, hgj, rfl⟩ := gm_of hb
      exact HA.out j gj hj hgj e)
     rw [h1]
     rfl) (HKA.out.trans HKP.out (fun _ _ h => h)))
    go_wp2
    go_ret
    exact HF.out
   case false =>
    have HE : Hid (g.id ≠ id) := Lib.hid (beq_eq_false_iff_ne.1 hni)
    go_wp2
    go_roundw
    case rel =>
     refine ⟨k + 1, by omega, by go_num, HKP.out, fun j b hj h1 => ?_⟩
     rcases Nat.lt_or_ge j k with h3 | h3
     ·
      exact HA.out j b h3 h1
     ·
      obtain rfl : j = k := by omega
      rw [HX1.out] at h1
      injection h1 with h1
      rw [← h1]
      exact HE.out
    case measure => simp only [intOf]; omega
  ·
   have hke : k = a.gs.length := by omega
   subst hke
   have hkn : ¬ ((a.gs.length : Int) < (a.gs.length : Int)) := by omega
   have HF : Hid (TellsI (foundI (findG a.plain id)) w (.returned (.int .i64 (-1))) wr) := Lib.hid (tells_i (by
    have h1 := findG_none (q := a.plain) (id := id) (fun j b hb e => by
     obtain ⟨gj, hgj, rfl⟩ := gm_of hb
     exact HA.out j gj (List.getElem?_eq_some_iff.1 hgj).1 hgj e)
    rw [h1]
    rfl) (HKA.out.trans HKP.out (fun _ _ h => h)))
   clear HA hlt hkeep
   go_wp2
   go_ret
   exact HF.out
end Go.Proofs.YtffoeodjbbkdjaaGreat
