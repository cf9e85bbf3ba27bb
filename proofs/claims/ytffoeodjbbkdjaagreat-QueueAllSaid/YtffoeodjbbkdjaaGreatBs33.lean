import Derived.Test.YtffoeodjbbkdjaaGreatBs01
import Derived.Test.YtffoeodjbbkdjaaGreatBs32
namespace Go.Proofs.YtffoeodjbbkdjaaGreat
open Go.RowKit
def leasedP (q : Qp) (i n : Nat) (g : Gq) : Qp × An :=
 if (granted q.nt q.now).2.2 ≠ 0 then (q, .err (granted q.nt q.now).2.2)
 else ({ withG q i (g.st.set n (granted q.nt q.now).2.1) with nt := (granted q.nt q.now).1 }, ⟨0, g.id, (granted q.nt q.now).2.1.t, (granted q.nt q.now).2.1.u, g.name n, g.cmd n⟩)
set_option maxRecDepth 100000 in
set_option maxHeartbeats 8000000 in
set_option linter.unusedSimpArgs false in
theorem qlease_any (w : World) (D : Nat → Prop) (q : Qm) (h : QAt w D q) (hi : Inv q.plain) {i n g0 cap : Nat} {g : Gm} {x : Pst} (hg : q.gs[i]? = some g) (hx : g.st[n]? = some x) (hgv : q.gv = .slice (some ⟨g0, 0, none⟩) q.gs.length cap) :
  Calls Tryz.prog 103 #[.pointer (some ⟨q.p, 0, none⟩), .pointer (some ⟨g0, i * 3, none⟩), .int .i64 (n : Int)] w (Does q D (leasedP q.plain i n g.plain) w) := by
 have HB := Lib.hid (busy_one h)
 have HI := Lib.hid hi
 have HG := Lib.hid hg
 have HX := Lib.hid hx
 have HGV := Lib.hid hgv
 generalize hR : leasedP q.plain i n g.plain = R
 unfold leasedP at hR
 rw [show q.plain.nt = q.nt from rfl, show q.plain.now = q.now from rfl] at hR
 have HGR := Lib.hid (fun w' => grant_any w' q.nt q.now hi.nt.1 hi.nt.2 hi.now0.1)
 generalize hrn : granted q.nt q.now = rn at *
 obtain ⟨o, ⟨ys, yt, yu⟩, E⟩ := rn
 dsimp only at hR HGR
 unfold Pst.agg at HGR
 dsimp only at HGR
 have HR := Lib.hid hR
 clear h hi hg hx hgv hR hrn
 go_enter Tryz.func103, Tryz.ntmps103
 go_upto_region 1 with fail
 generalize hw1 : w.alloc (.cells #[.int .i64 0, .int .u64 0, .int .u64 0, .int .u64 0, .string ⟨#[]⟩, .string ⟨#[]⟩] 40) = w1 at *
 generalize ha : w.heap.size = a at *
 clear hw1
 have HA := Lib.hid ha
 clear ha
 have MC : Hid (∀ w', Keep noneOf w1 w' → w'.cell? ⟨q.p, 0, none⟩ = some (.int .u64 q.now) ∧ w'.cell? ⟨q.p, 2, none⟩ = some (.int .u64 q.nt)) := Lib.hid fun w' k' =>
  ⟨(HB.out.stay k').at_.box.cell 0, (HB.out.stay k').at_.box.cell 2⟩
 go_cut [7, 8, 9] (fun p s e wx => ∃ ob sb, p = .pointer (some ⟨ob, 0, none⟩) ∧ s = .pointer (some ⟨sb, 0, none⟩) ∧ e = .int .i64 E ∧ Keep noneOf w1 wx ∧ w1.heap.size ≤ ob ∧ w1.heap.size ≤ sb ∧ ob ≠ sb ∧ Box wx ob 67 #[.int .u64 o] ∧ Box wx sb 61 #[.int .i64 ys, .int .u64 yt, .int .u64 yu])
 case first =>
  have KZ := (Keep.refl noneOf w1).drew
  refine wp_region_held_drew (S := fun w' => Keep noneOf w1 w') (by kernel_rfl) (KZ) (fun hHeld => ?_)
  refine' ztk 0 _ rfl (.inl ⟨by kernel_rfl, ?hy0⟩) ?_
  case hy0 => intro w' hSw; obtain ⟨_, _⟩ := MC.out w' hSw; go_simp; try with_reducible rfl
  simp only [Act.put, zga, zgb, zgc, zgd, zge, zgf]
  refine' ztk 1 _ rfl (.inl ⟨by kernel_rfl, ?hy1⟩) ?_
  case hy1 => intro w' hSw; obtain ⟨_, _⟩ := MC.out w' hSw; go_simp; try with_reducible rfl
  simp only [Act.put, zga, zgb, zgc, zgd, zge, zgf]
  refine' ztk 2 _ rfl (.inl ⟨by kernel_rfl, ?hy2⟩) ?_
  case hy2 => intro w' hSw; obtain ⟨_, _⟩ := MC.out w' hSw; go_simp; try with_reducible rfl
  simp only [Act.put, zga, zgb, zgc, zgd, zge, zgf]
  refine' ztk 3 _ rfl (.inl ⟨by kernel_rfl, ?hy3⟩) ?_
  case hy3 => intro w' hSw; obtain ⟨_, _⟩ := MC.out w' hSw; go_simp; try with_reducible rfl
  simp only [Act.put, zga, zgb, zgc, zgd, zge, zgf]
  refine' ztk 4 _ rfl (.inl ⟨by kernel_rfl, ?hy4⟩) ?_
  case hy4 => intro w' hSw; obtain ⟨_, _⟩ := MC.out w' hSw; go_simp; try with_reducible rfl
  simp only [Act.put, zga, zgb, zgc, zgd, zge, zgf]
  refine' ztk 5 _ rfl (.inl ⟨by kernel_rfl, ?hy5⟩) ?_
  case hy5 => intro w' hSw; obtain ⟨_, _⟩ := MC.out w' hSw; go_simp; try with_reducible rfl
  simp only [Act.put, zga, zgb, zgc, zgd, zge, zgf]
  refine' ztk 6 _ rfl (.inl ⟨by kernel_rfl, ?hy6⟩) ?_
  case hy6 => intro w' hSw; obtain ⟨_, _⟩ := MC.out w' hSw; go_simp; try with_reducible rfl
  simp only [Act.put, zga, zgb, zgc, zgd, zge, zgf]
  refine' ztk 7 _ rfl (.inl ⟨by kernel_rfl, ?hy7⟩) ?_
  case hy7 => intro w' hSw; obtain ⟨_, _⟩ := MC.out w' hSw; go_simp; try with_reducible rfl
  simp only [Act.put, zga, zgb, zgc, zgd, zge, zgf]
  generalize w1.drew = wz at *
  refine wpAnyH_ready (rs := [8, 13, 14]) (by kernel_rfl) (by simp) (AllReadyH.cons rfl (fun K hK => ?_) (AllReadyH.cons rfl (fun K hK => ?_) (AllReadyH.cons rfl (fun K hK => ?_) AllReadyH.nil)))
  ·
   skip
   go_simp
   go_at_call 135
   refine (HGR.out _).mono ?_
   rintro e wc1 ⟨rfl, k1⟩
   go_wp2_with fail
   have kk1 : Keep noneOf w1 wc1 := KZ.trans k1 (fun _ _ h => h)
   have hs1 := k1.size
   clear k1
   refine hK.out _ _ (kk1) (fun hHeld => ?_)
   clear hK K
   try simp only [Act.put, zga, zgb, zgc, zgd, zge, zgf]
   refine' ztk 9 _ rfl (.inl ⟨by kernel_rfl, ?hy9⟩) ?_
   case hy9 => intro w' hSw; obtain ⟨_, _⟩ := MC.out w' hSw; go_simp; try with_reducible rfl
   simp only [Act.put, zga, zgb, zgc, zgd, zge, zgf]
   refine' ztk 10 _ rfl (.inl ⟨by kernel_rfl, ?hy10⟩) ?_
   case hy10 => intro w' hSw; obtain ⟨_, _⟩ := MC.out w' hSw; go_simp; try with_reducible rfl
   simp only [Act.put, zga, zgb, zgc, zgd, zge, zgf]
   refine' ztk 11 _ rfl (.inl ⟨by kernel_rfl, ?hy11⟩) ?_
   case hy11 => intro w' hSw; obtain ⟨_, _⟩ := MC.out w' hSw; go_simp; try with_reducible rfl
   simp only [Act.put, zga, zgb, zgc, zgd, zge, zgf]
   refine' ztk 12 _ rfl (.inl ⟨by kernel_rfl, ?hy12⟩) ?_
   case hy12 => intro w' hSw; obtain ⟨_, _⟩ := MC.out w' hSw; go_simp; try with_reducible rfl
   simp only [Act.put, zga, zgb, zgc, zgd, zge, zgf]
   refine wpAnyH_ready (rs := [13, 14]) (by kernel_rfl) (by simp) (AllReadyH.cons rfl (fun K hK => ?_) (AllReadyH.cons rfl (fun K hK => ?_) AllReadyH.nil))
   ·
    skip
    go_simp
    have kk2 : Keep noneOf w1 (wc1.alloc (.cells #[.int .u64 0] 67)) := kk1.alloc _
    have n0 : w1.heap.size ≤ wc1.heap.size := kk1.size
    have bb2_0 := Box.new wc1 67 #[.int .u64 0]
    refine hK.out _ _ (kk2) (fun hHeld => ?_)
    clear hK K
    try simp only [Act.put, zga, zgb, zgc, zgd, zge, zgf]
    generalize hq2 : wc1.heap.size = q2 at *
    generalize wc1.alloc (.cells #[.int .u64 0] 67) = wa2 at *
    refine wpAnyH_ready (rs := [14]) (by kernel_rfl) (by simp) (AllReadyH.cons rfl (fun K hK => ?_) AllReadyH.nil)
    go_simp
    have kk3 : Keep noneOf w1 (wa2.alloc (.cells #[.int .i64 0, .int .u64 0, .int .u64 0] 61)) := kk2.alloc _
    have n1 : w1.heap.size ≤ wa2.heap.size := kk2.size
    have bb3_1 := Box.new wa2 61 #[.int .i64 0, .int .u64 0, .int .u64 0]
    have bb3_0 := bb2_0.alloc (.cells #[.int .i64 0, .int .u64 0, .int .u64 0] 61)
    have lt3_0 := bb2_0.lt
    refine hK.out _ _ (kk3) (fun hHeld => ?_)
    clear hK K
    try simp only [Act.put, zga, zgb, zgc, zgd, zge, zgf]
    generalize hq3 : wa2.heap.size = q3 at *
    generalize wa2.alloc (.cells #[.int .i64 0, .int .u64 0, .int .u64 0] 61) = wa3 at *
    have y4_0 := bb3_0.cell 0
    have z4_0 := bb3_0.free 0
    refine wpAnyH_ready (rs := [15]) (by kernel_rfl) (by simp) (AllReadyH.cons rfl (fun K hK => ?_) AllReadyH.nil)
    go_simp
    have nn4 := n0
    have kk4 : Keep noneOf w1 (wa3.setCell ⟨q2, 0, none⟩ (.int .u64 o)) := (kk3.setCell (p := ⟨q2, 0, none⟩) (fun hh => absurd hh (by show ¬ q2 < w1.heap.size; omega)) (.int .u64 o))
    have bb4_0 : Box (wa3.setCell ⟨q2, 0, none⟩ (.int .u64 o)) q2 67 #[.int .u64 o] := (bb3_0.put 0 (.int .u64 o))
    have bb4_1 := (bb3_1.far (p := ⟨q2, 0, none⟩) (by show q3 ≠ q2; omega) (.int .u64 o))
    refine hK.out _ _ (kk4) (fun hHeld => ?_)
    clear hK K
    try simp only [Act.put, zga, zgb, zgc, zgd, zge, zgf]
    generalize (wa3.setCell ⟨q2, 0, none⟩ (.int .u64 o)) = ws4 at *
    have y5_0 := bb4_1.cell 0
    have z5_0 := bb4_1.free 0
    have y5_1 := bb4_1.cell 1
    have z5_1 := bb4_1.free 1
    have y5_2 := bb4_1.cell 2
    have z5_2 := bb4_1.free 2
    refine wpAnyH_ready (rs := [16]) (by kernel_rfl) (by simp) (AllReadyH.cons rfl (fun K hK => ?_) AllReadyH.nil)
    go_simp
    have nn5 := n1
    have kk5 : Keep noneOf w1 (((ws4.setCell ⟨q3, 0, none⟩ (.int .i64 ys)).setCell ⟨q3, 1, none⟩ (.int .u64 yt)).setCell ⟨q3, 2, none⟩ (.int .u64 yu)) := (((kk4.setCell (p := ⟨q3, 0, none⟩) (fun hh => absurd hh (by show ¬ q3 < w1.heap.size; omega)) (.int .i64 ys)).setCell (p := ⟨q3, 1, none⟩) (fun hh => absurd hh (by show ¬ q3 < w1.heap.size; omega)) (.int .u64 yt)).setCell (p := ⟨q3, 2, none⟩) (fun hh => absurd hh (by show ¬ q3 < w1.heap.size; omega)) (.int .u64 yu))
    have bb5_0 := (((bb4_0.far (p := ⟨q3, 0, none⟩) (by show q2 ≠ q3; omega) (.int .i64 ys)).far (p := ⟨q3, 1, none⟩) (by show q2 ≠ q3; omega) (.int .u64 yt)).far (p := ⟨q3, 2, none⟩) (by show q2 ≠ q3; omega) (.int .u64 yu))
    have bb5_1 : Box (((ws4.setCell ⟨q3, 0, none⟩ (.int .i64 ys)).setCell ⟨q3, 1, none⟩ (.int .u64 yt)).setCell ⟨q3, 2, none⟩ (.int .u64 yu)) q3 61 #[.int .i64 ys, .int .u64 yt, .int .u64 yu] := (((bb4_1.put 0 (.int .i64 ys)).put 1 (.int .u64 yt)).put 2 (.int .u64 yu))
    refine hK.out _ _ (kk5) (fun hHeld => ?_)
    clear hK K
    try simp only [Act.put, zga, zgb, zgc, zgd, zge, zgf]
    generalize (((ws4.setCell ⟨q3, 0, none⟩ (.int .i64 ys)).setCell ⟨q3, 1, none⟩ (.int .u64 yt)).setCell ⟨q3, 2, none⟩ (.int .u64 yu)) = ws5 at *
    refine' ztk 17 _ rfl (.inl ⟨by kernel_rfl, ?hy17⟩) ?_
    case hy17 => intro w' hSw; obtain ⟨_, _⟩ := MC.out w' hSw; go_simp; try with_reducible rfl
    simp only [Act.put, zga, zgb, zgc, zgd, zge, zgf]
    refine wpAnyH_done (by kernel_rfl) ?_ _
    have b0 := bb5_0
    have b1 := bb5_1
    have KF := kk5
    go_wp2_with fail
    go_meet
    exact ⟨_, _, rfl, rfl, rfl, KF, n0, n1, by omega, b0, b1⟩
   ·
    skip
    go_simp
    have kk6 : Keep noneOf w1 (wc1.alloc (.cells #[.int .i64 0, .int .u64 0, .int .u64 0] 61)) := kk1.alloc _
    have n1 : w1.heap.size ≤ wc1.heap.size := kk1.size
    have bb6_1 := Box.new wc1 61 #[.int .i64 0, .int .u64 0, .int .u64 0]
    refine hK.out _ _ (kk6) (fun hHeld => ?_)
    clear hK K
    try simp only [Act.put, zga, zgb, zgc, zgd, zge, zgf]
    generalize hq6 : wc1.heap.size = q6 at *
    generalize wc1.alloc (.cells #[.int .i64 0, .int .u64 0, .int .u64 0] 61) = wa6 at *
    refine wpAnyH_ready (rs := [13]) (by kernel_rfl) (by simp) (AllReadyH.cons rfl (fun K hK => ?_) AllReadyH.nil)
    go_simp
    have kk7 : Keep noneOf w1 (wa6.alloc (.cells #[.int .u64 0] 67)) := kk6.alloc _
    have n0 : w1.heap.size ≤ wa6.heap.size := kk6.size
    have bb7_0 := Box.new wa6 67 #[.int .u64 0]
    have bb7_1 := bb6_1.alloc (.cells #[.int .u64 0] 67)
    have lt7_1 := bb6_1.lt
    refine hK.out _ _ (kk7) (fun hHeld => ?_)
    clear hK K
    try simp only [Act.put, zga, zgb, zgc, zgd, zge, zgf]
    generalize hq7 : wa6.heap.size = q7 at *
    generalize wa6.alloc (.cells #[.int .u64 0] 67) = wa7 at *
    have y8_0 := bb7_0.cell 0
    have z8_0 := bb7_0.free 0
    refine wpAnyH_ready (rs := [15]) (by kernel_rfl) (by simp) (AllReadyH.cons rfl (fun K hK => ?_) AllReadyH.nil)
    go_simp
    have nn8 := n0
    have kk8 : Keep noneOf w1 (wa7.setCell ⟨q7, 0, none⟩ (.int .u64 o)) := (kk7.setCell (p := ⟨q7, 0, none⟩) (fun hh => absurd hh (by show ¬ q7 < w1.heap.size; omega)) (.int .u64 o))
    have bb8_1 := (bb7_1.far (p := ⟨q7, 0, none⟩) (by show q6 ≠ q7; omega) (.int .u64 o))
    have bb8_0 : Box (wa7.setCell ⟨q7, 0, none⟩ (.int .u64 o)) q7 67 #[.int .u64 o] := (bb7_0.put 0 (.int .u64 o))
    refine hK.out _ _ (kk8) (fun hHeld => ?_)
    clear hK K
    try simp only [Act.put, zga, zgb, zgc, zgd, zge, zgf]
    generalize (wa7.setCell ⟨q7, 0, none⟩ (.int .u64 o)) = ws8 at *
    have y9_0 := bb8_1.cell 0
    have z9_0 := bb8_1.free 0
    have y9_1 := bb8_1.cell 1
    have z9_1 := bb8_1.free 1
    have y9_2 := bb8_1.cell 2
    have z9_2 := bb8_1.free 2
    refine wpAnyH_ready (rs := [16]) (by kernel_rfl) (by simp) (AllReadyH.cons rfl (fun K hK => ?_) AllReadyH.nil)
    go_simp
    have nn9 := n1
    have kk9 : Keep noneOf w1 (((ws8.setCell ⟨q6, 0, none⟩ (.int .i64 ys)).setCell ⟨q6, 1, none⟩ (.int .u64 yt)).setCell ⟨q6, 2, none⟩ (.int .u64 yu)) := (((kk8.setCell (p := ⟨q6, 0, none⟩) (fun hh => absurd hh (by show ¬ q6 < w1.heap.size; omega)) (.int .i64 ys)).setCell (p := ⟨q6, 1, none⟩) (fun hh => absurd hh (by show ¬ q6 < w1.heap.size; omega)) (.int .u64 yt)).setCell (p := ⟨q6, 2, none⟩) (fun hh => absurd hh (by show ¬ q6 < w1.heap.size; omega)) (.int .u64 yu))
    have bb9_1 : Box (((ws8.setCell ⟨q6, 0, none⟩ (.int .i64 ys)).setCell ⟨q6, 1, none⟩ (.int .u64 yt)).setCell ⟨q6, 2, none⟩ (.int .u64 yu)) q6 61 #[.int .i64 ys, .int .u64 yt, .int .u64 yu] := (((bb8_1.put 0 (.int .i64 ys)).put 1 (.int .u64 yt)).put 2 (.int .u64 yu))
    have bb9_0 := (((bb8_0.far (p := ⟨q6, 0, none⟩) (by show q7 ≠ q6; omega) (.int .i64 ys)).far (p := ⟨q6, 1, none⟩) (by show q7 ≠ q6; omega) (.int .u64 yt)).far (p := ⟨q6, 2, none⟩) (by show q7 ≠ q6; omega) (.int .u64 yu))
    refine hK.out _ _ (kk9) (fun hHeld => ?_)
    clear hK K
    try simp only [Act.put, zga, zgb, zgc, zgd, zge, zgf]
    generalize (((ws8.setCell ⟨q6, 0, none⟩ (.int .i64 ys)).setCell ⟨q6, 1, none⟩ (.int .u64 yt)).setCell ⟨q6, 2, none⟩ (.int .u64 yu)) = ws9 at *
    refine' ztk 17 _ rfl (.inl ⟨by kernel_rfl, ?hy17⟩) ?_
    case hy17 => intro w' hSw; obtain ⟨_, _⟩ := MC.out w' hSw; go_simp; try with_reducible rfl
    simp only [Act.put, zga, zgb, zgc, zgd, zge, zgf]
    refine wpAnyH_done (by kernel_rfl) ?_ _
    have b1 := bb9_1
    have b0 := bb9_0
    have KF := kk9
    go_wp2_with fail
    go_meet
    exact ⟨_, _, rfl, rfl, rfl, KF, n0, n1, by omega, b0, b1⟩
  ·
   skip
   go_simp
   have kk10 : Keep noneOf w1 (wz.alloc (.cells #[.int .u64 0] 67)) := KZ.alloc _
   have n0 : w1.heap.size ≤ wz.heap.size := KZ.size
   have bb10_0 := Box.new wz 67 #[.int .u64 0]
   refine hK.out _ _ (kk10) (fun hHeld => ?_)
   clear hK K
   try simp only [Act.put, zga, zgb, zgc, zgd, zge, zgf]
   generalize hq10 : wz.heap.size = q10 at *
   generalize wz.alloc (.cells #[.int .u64 0] 67) = wa10 at *
   refine wpAnyH_ready (rs := [8, 14]) (by kernel_rfl) (by simp) (AllReadyH.cons rfl (fun K hK => ?_) (AllReadyH.cons rfl (fun K hK => ?_) AllReadyH.nil))
   ·
    skip
    go_simp
    go_at_call 135
    refine (HGR.out _).mono ?_
    rintro e wc11 ⟨rfl, k11⟩
    go_wp2_with fail
    have kk11 : Keep noneOf w1 wc11 := kk10.trans k11 (fun _ _ h => h)
    have bb11_0 := bb10_0.keep k11 id
    have hs11 := k11.size
    clear k11
    refine hK.out _ _ (kk11) (fun hHeld => ?_)
    clear hK K
    try simp only [Act.put, zga, zgb, zgc, zgd, zge, zgf]
    refine' ztk 9 _ rfl (.inl ⟨by kernel_rfl, ?hy9⟩) ?_
    case hy9 => intro w' hSw; obtain ⟨_, _⟩ := MC.out w' hSw; go_simp; try with_reducible rfl
    simp only [Act.put, zga, zgb, zgc, zgd, zge, zgf]
    refine' ztk 10 _ rfl (.inl ⟨by kernel_rfl, ?hy10⟩) ?_
    case hy10 => intro w' hSw; obtain ⟨_, _⟩ := MC.out w' hSw; go_simp; try with_reducible rfl
    simp only [Act.put, zga, zgb, zgc, zgd, zge, zgf]
    refine' ztk 11 _ rfl (.inl ⟨by kernel_rfl, ?hy11⟩) ?_
    case hy11 => intro w' hSw; obtain ⟨_, _⟩ := MC.out w' hSw; go_simp; try with_reducible rfl
    simp only [Act.put, zga, zgb, zgc, zgd, zge, zgf]
    refine' ztk 12 _ rfl (.inl ⟨by kernel_rfl, ?hy12⟩) ?_
    case hy12 => intro w' hSw; obtain ⟨_, _⟩ := MC.out w' hSw; go_simp; try with_reducible rfl
    simp only [Act.put, zga, zgb, zgc, zgd, zge, zgf]
    refine wpAnyH_ready (rs := [14]) (by kernel_rfl) (by simp) (AllReadyH.cons rfl (fun K hK => ?_) AllReadyH.nil)
    go_simp
    have kk12 : Keep noneOf w1 (wc11.alloc (.cells #[.int .i64 0, .int .u64 0, .int .u64 0] 61)) := kk11.alloc _
    have n1 : w1.heap.size ≤ wc11.heap.size := kk11.size
    have bb12_1 := Box.new wc11 61 #[.int .i64 0, .int .u64 0, .int .u64 0]
    have bb12_0 := bb11_0.alloc (.cells #[.int .i64 0, .int .u64 0, .int .u64 0] 61)
    have lt12_0 := bb11_0.lt
    refine hK.out _ _ (kk12) (fun hHeld => ?_)
    clear hK K
    try simp only [Act.put, zga, zgb, zgc, zgd, zge, zgf]
    generalize hq12 : wc11.heap.size = q12 at *
    generalize wc11.alloc (.cells #[.int .i64 0, .int .u64 0, .int .u64 0] 61) = wa12 at *
    have y13_0 := bb12_0.cell 0
    have z13_0 := bb12_0.free 0
    refine wpAnyH_ready (rs := [15]) (by kernel_rfl) (by simp) (AllReadyH.cons rfl (fun K hK => ?_) AllReadyH.nil)
    go_simp
    have nn13 := n0
    have kk13 : Keep noneOf w1 (wa12.setCell ⟨q10, 0, none⟩ (.int .u64 o)) := (kk12.setCell (p := ⟨q10, 0, none⟩) (fun hh => absurd hh (by show ¬ q10 < w1.heap.size; omega)) (.int .u64 o))
    have bb13_0 : Box (wa12.setCell ⟨q10, 0, none⟩ (.int .u64 o)) q10 67 #[.int .u64 o] := (bb12_0.put 0 (.int .u64 o))
    have bb13_1 := (bb12_1.far (p := ⟨q10, 0, none⟩) (by show q12 ≠ q10; omega) (.int .u64 o))
    refine hK.out _ _ (kk13) (fun hHeld => ?_)
    clear hK K
    try simp only [Act.put, zga, zgb, zgc, zgd, zge, zgf]
    generalize (wa12.setCell ⟨q10, 0, none⟩ (.int .u64 o)) = ws13 at *
    have y14_0 := bb13_1.cell 0
    have z14_0 := bb13_1.free 0
    have y14_1 := bb13_1.cell 1
    have z14_1 := bb13_1.free 1
    have y14_2 := bb13_1.cell 2
    have z14_2 := bb13_1.free 2
    refine wpAnyH_ready (rs := [16]) (by kernel_rfl) (by simp) (AllReadyH.cons rfl (fun K hK => ?_) AllReadyH.nil)
    go_simp
    have nn14 := n1
    have kk14 : Keep noneOf w1 (((ws13.setCell ⟨q12, 0, none⟩ (.int .i64 ys)).setCell ⟨q12, 1, none⟩ (.int .u64 yt)).setCell ⟨q12, 2, none⟩ (.int .u64 yu)) := (((kk13.setCell (p := ⟨q12, 0, none⟩) (fun hh => absurd hh (by show ¬ q12 < w1.heap.size; omega)) (.int .i64 ys)).setCell (p := ⟨q12, 1, none⟩) (fun hh => absurd hh (by show ¬ q12 < w1.heap.size; omega)) (.int .u64 yt)).setCell (p := ⟨q12, 2, none⟩) (fun hh => absurd hh (by show ¬ q12 < w1.heap.size; omega)) (.int .u64 yu))
    have bb14_0 := (((bb13_0.far (p := ⟨q12, 0, none⟩) (by show q10 ≠ q12; omega) (.int .i64 ys)).far (p := ⟨q12, 1, none⟩) (by show q10 ≠ q12; omega) (.int .u64 yt)).far (p := ⟨q12, 2, none⟩) (by show q10 ≠ q12; omega) (.int .u64 yu))
    have bb14_1 : Box (((ws13.setCell ⟨q12, 0, none⟩ (.int .i64 ys)).setCell ⟨q12, 1, none⟩ (.int .u64 yt)).setCell ⟨q12, 2, none⟩ (.int .u64 yu)) q12 61 #[.int .i64 ys, .int .u64 yt, .int .u64 yu] := (((bb13_1.put 0 (.int .i64 ys)).put 1 (.int .u64 yt)).put 2 (.int .u64 yu))
    refine hK.out _ _ (kk14) (fun hHeld => ?_)
    clear hK K
    try simp only [Act.put, zga, zgb, zgc, zgd, zge, zgf]
    generalize (((ws13.setCell ⟨q12, 0, none⟩ (.int .i64 ys)).setCell ⟨q12, 1, none⟩ (.int .u64 yt)).setCell ⟨q12, 2, none⟩ (.int .u64 yu)) = ws14 at *
    refine' ztk 17 _ rfl (.inl ⟨by kernel_rfl, ?hy17⟩) ?_
    case hy17 => intro w' hSw; obtain ⟨_, _⟩ := MC.out w' hSw; go_simp; try with_reducible rfl
    simp only [Act.put, zga, zgb, zgc, zgd, zge, zgf]
    refine wpAnyH_done (by kernel_rfl) ?_ _
    have b0 := bb14_0
    have b1 := bb14_1
    have KF := kk14
    go_wp2_with fail
    go_meet
    exact ⟨_, _, rfl, rfl, rfl, KF, n0, n1, by omega, b0, b1⟩
   ·
    skip
    go_simp
    have kk15 : Keep noneOf w1 (wa10.alloc (.cells #[.int .i64 0, .int .u64 0, .int .u64 0] 61)) := kk10.alloc _
    have n1 : w1.heap.size ≤ wa10.heap.size := kk10.size
    have bb15_1 := Box.new wa10 61 #[.int .i64 0, .int .u64 0, .int .u64 0]
    have bb15_0 := bb10_0.alloc (.cells #[.int .i64 0, .int .u64 0, .int .u64 0] 61)
    have lt15_0 := bb10_0.lt
    refine hK.out _ _ (kk15) (fun hHeld => ?_)
    clear hK K
    try simp only [Act.put, zga, zgb, zgc, zgd, zge, zgf]
    generalize hq15 : wa10.heap.size = q15 at *
    generalize wa10.alloc (.cells #[.int .i64 0, .int .u64 0, .int .u64 0] 61) = wa15 at *
    refine wpAnyH_ready (rs := [8]) (by kernel_rfl) (by simp) (AllReadyH.cons rfl (fun K hK => ?_) AllReadyH.nil)
    go_simp
    go_at_call 135
    refine (HGR.out _).mono ?_
    rintro e wc16 ⟨rfl, k16⟩
    go_wp2_with fail
    have kk16 : Keep noneOf w1 wc16 := kk15.trans k16 (fun _ _ h => h)
    have bb16_0 := bb15_0.keep k16 id
    have bb16_1 := bb15_1.keep k16 id
    have hs16 := k16.size
    clear k16
    refine hK.out _ _ (kk16) (fun hHeld => ?_)
    clear hK K
    try simp only [Act.put, zga, zgb, zgc, zgd, zge, zgf]
    refine' ztk 9 _ rfl (.inl ⟨by kernel_rfl, ?hy9⟩) ?_
    case hy9 => intro w' hSw; obtain ⟨_, _⟩ := MC.out w' hSw; go_simp; try with_reducible rfl
    simp only [Act.put, zga, zgb, zgc, zgd, zge, zgf]
    refine' ztk 10 _ rfl (.inl ⟨by kernel_rfl, ?hy10⟩) ?_
    case hy10 => intro w' hSw; obtain ⟨_, _⟩ := MC.out w' hSw; go_simp; try with_reducible rfl
    simp only [Act.put, zga, zgb, zgc, zgd, zge, zgf]
    refine' ztk 11 _ rfl (.inl ⟨by kernel_rfl, ?hy11⟩) ?_
    case hy11 => intro w' hSw; obtain ⟨_, _⟩ := MC.out w' hSw; go_simp; try with_reducible rfl
    simp only [Act.put, zga, zgb, zgc, zgd, zge, zgf]
    refine' ztk 12 _ rfl (.inl ⟨by kernel_rfl, ?hy12⟩) ?_
    case hy12 => intro w' hSw; obtain ⟨_, _⟩ := MC.out w' hSw; go_simp; try with_reducible rfl
    simp only [Act.put, zga, zgb, zgc, zgd, zge, zgf]
    have y17_0 := bb16_0.cell 0
    have z17_0 := bb16_0.free 0
    refine wpAnyH_ready (rs := [15]) (by kernel_rfl) (by simp) (AllReadyH.cons rfl (fun K hK => ?_) AllReadyH.nil)
    go_simp
    have nn17 := n0
    have kk17 : Keep noneOf w1 (wc16.setCell ⟨q10, 0, none⟩ (.int .u64 o)) := (kk16.setCell (p := ⟨q10, 0, none⟩) (fun hh => absurd hh (by show ¬ q10 < w1.heap.size; omega)) (.int .u64 o))
    have bb17_0 : Box (wc16.setCell ⟨q10, 0, none⟩ (.int .u64 o)) q10 67 #[.int .u64 o] := (bb16_0.put 0 (.int .u64 o))
    have bb17_1 := (bb16_1.far (p := ⟨q10, 0, none⟩) (by show q15 ≠ q10; omega) (.int .u64 o))
    refine hK.out _ _ (kk17) (fun hHeld => ?_)
    clear hK K
    try simp only [Act.put, zga, zgb, zgc, zgd, zge, zgf]
    generalize (wc16.setCell ⟨q10, 0, none⟩ (.int .u64 o)) = ws17 at *
    have y18_0 := bb17_1.cell 0
    have z18_0 := bb17_1.free 0
    have y18_1 := bb17_1.cell 1
    have z18_1 := bb17_1.free 1
    have y18_2 := bb17_1.cell 2
    have z18_2 := bb17_1.free 2
    refine wpAnyH_ready (rs := [16]) (by kernel_rfl) (by simp) (AllReadyH.cons rfl (fun K hK => ?_) AllReadyH.nil)
    go_simp
    have nn18 := n1
    have kk18 : Keep noneOf w1 (((ws17.setCell ⟨q15, 0, none⟩ (.int .i64 ys)).setCell ⟨q15, 1, none⟩ (.int .u64 yt)).setCell ⟨q15, 2, none⟩ (.int .u64 yu)) := (((kk17.setCell (p := ⟨q15, 0, none⟩) (fun hh => absurd hh (by show ¬ q15 < w1.heap.size; omega)) (.int .i64 ys)).setCell (p := ⟨q15, 1, none⟩) (fun hh => absurd hh (by show ¬ q15 < w1.heap.size; omega)) (.int .u64 yt)).setCell (p := ⟨q15, 2, none⟩) (fun hh => absurd hh (by show ¬ q15 < w1.heap.size; omega)) (.int .u64 yu))
    have bb18_0 := (((bb17_0.far (p := ⟨q15, 0, none⟩) (by show q10 ≠ q15; omega) (.int .i64 ys)).far (p := ⟨q15, 1, none⟩) (by show q10 ≠ q15; omega) (.int .u64 yt)).far (p := ⟨q15, 2, none⟩) (by show q10 ≠ q15; omega) (.int .u64 yu))
    have bb18_1 : Box (((ws17.setCell ⟨q15, 0, none⟩ (.int .i64 ys)).setCell ⟨q15, 1, none⟩ (.int .u64 yt)).setCell ⟨q15, 2, none⟩ (.int .u64 yu)) q15 61 #[.int .i64 ys, .int .u64 yt, .int .u64 yu] := (((bb17_1.put 0 (.int .i64 ys)).put 1 (.int .u64 yt)).put 2 (.int .u64 yu))
    refine hK.out _ _ (kk18) (fun hHeld => ?_)
    clear hK K
    try simp only [Act.put, zga, zgb, zgc, zgd, zge, zgf]
    generalize (((ws17.setCell ⟨q15, 0, none⟩ (.int .i64 ys)).setCell ⟨q15, 1, none⟩ (.int .u64 yt)).setCell ⟨q15, 2, none⟩ (.int .u64 yu)) = ws18 at *
    refine' ztk 17 _ rfl (.inl ⟨by kernel_rfl, ?hy17⟩) ?_
    case hy17 => intro w' hSw; obtain ⟨_, _⟩ := MC.out w' hSw; go_simp; try with_reducible rfl
    simp only [Act.put, zga, zgb, zgc, zgd, zge, zgf]
    refine wpAnyH_done (by kernel_rfl) ?_ _
    have b0 := bb18_0
    have b1 := bb18_1
    have KF := kk18
    go_wp2_with fail
    go_meet
    exact ⟨_, _, rfl, rfl, rfl, KF, n0, n1, by omega, b0, b1⟩
  ·
   skip
   go_simp
   have kk19 : Keep noneOf w1 (wz.alloc (.cells #[.int .i64 0, .int .u64 0, .int .u64 0] 61)) := KZ.alloc _
   have n1 : w1.heap.size ≤ wz.heap.size := KZ.size
   have bb19_1 := Box.new wz 61 #[.int .i64 0, .int .u64 0, .int .u64 0]
   refine hK.out _ _ (kk19) (fun hHeld => ?_)
   clear hK K
   try simp only [Act.put, zga, zgb, zgc, zgd, zge, zgf]
   generalize hq19 : wz.heap.size = q19 at *
   generalize wz.alloc (.cells #[.int .i64 0, .int .u64 0, .int .u64 0] 61) = wa19 at *
   refine wpAnyH_ready (rs := [8, 13]) (by kernel_rfl) (by simp) (AllReadyH.cons rfl (fun K hK => ?_) (AllReadyH.cons rfl (fun K hK => ?_) AllReadyH.nil))
   ·
    skip
    go_simp
    go_at_call 135
    refine (HGR.out _).mono ?_
    rintro e wc20 ⟨rfl, k20⟩
    go_wp2_with fail
    have kk20 : Keep noneOf w1 wc20 := kk19.trans k20 (fun _ _ h => h)
    have bb20_1 := bb19_1.keep k20 id
    have hs20 := k20.size
    clear k20
    refine hK.out _ _ (kk20) (fun hHeld => ?_)
    clear hK K
    try simp only [Act.put, zga, zgb, zgc, zgd, zge, zgf]
    refine' ztk 9 _ rfl (.inl ⟨by kernel_rfl, ?hy9⟩) ?_
    case hy9 => intro w' hSw; obtain ⟨_, _⟩ := MC.out w' hSw; go_simp; try with_reducible rfl
    simp only [Act.put, zga, zgb, zgc, zgd, zge, zgf]
    refine' ztk 10 _ rfl (.inl ⟨by kernel_rfl, ?hy10⟩) ?_
    case hy10 => intro w' hSw; obtain ⟨_, _⟩ := MC.out w' hSw; go_simp; try with_reducible rfl
    simp only [Act.put, zga, zgb, zgc, zgd, zge, zgf]
    refine' ztk 11 _ rfl (.inl ⟨by kernel_rfl, ?hy11⟩) ?_
    case hy11 => intro w' hSw; obtain ⟨_, _⟩ := MC.out w' hSw; go_simp; try with_reducible rfl
    simp only [Act.put, zga, zgb, zgc, zgd, zge, zgf]
    refine' ztk 12 _ rfl (.inl ⟨by kernel_rfl, ?hy12⟩) ?_
    case hy12 => intro w' hSw; obtain ⟨_, _⟩ := MC.out w' hSw; go_simp; try with_reducible rfl
    simp only [Act.put, zga, zgb, zgc, zgd, zge, zgf]
    refine wpAnyH_ready (rs := [13]) (by kernel_rfl) (by simp) (AllReadyH.cons rfl (fun K hK => ?_) AllReadyH.nil)
    go_simp
    have kk21 : Keep noneOf w1 (wc20.alloc (.cells #[.int .u64 0] 67)) := kk20.alloc _
    have n0 : w1.heap.size ≤ wc20.heap.size := kk20.size
    have bb21_0 := Box.new wc20 67 #[.int .u64 0]
    have bb21_1 := bb20_1.alloc (.cells #[.int .u64 0] 67)
    have lt21_1 := bb20_1.lt
    refine hK.out _ _ (kk21) (fun hHeld => ?_)
    clear hK K
    try simp only [Act.put, zga, zgb, zgc, zgd, zge, zgf]
    generalize hq21 : wc20.heap.size = q21 at *
    generalize wc20.alloc (.cells #[.int .u64 0] 67) = wa21 at *
    have y22_0 := bb21_0.cell 0
    have z22_0 := bb21_0.free 0
    refine wpAnyH_ready (rs := [15]) (by kernel_rfl) (by simp) (AllReadyH.cons rfl (fun K hK => ?_) AllReadyH.nil)
    go_simp
    have nn22 := n0
    have kk22 : Keep noneOf w1 (wa21.setCell ⟨q21, 0, none⟩ (.int .u64 o)) := (kk21.setCell (p := ⟨q21, 0, none⟩) (fun hh => absurd hh (by show ¬ q21 < w1.heap.size; omega)) (.int .u64 o))
    have bb22_1 := (bb21_1.far (p := ⟨q21, 0, none⟩) (by show q19 ≠ q21; omega) (.int .u64 o))
    have bb22_0 : Box (wa21.setCell ⟨q21, 0, none⟩ (.int .u64 o)) q21 67 #[.int .u64 o] := (bb21_0.put 0 (.int .u64 o))
    refine hK.out _ _ (kk22) (fun hHeld => ?_)
    clear hK K
    try simp only [Act.put, zga, zgb, zgc, zgd, zge, zgf]
    generalize (wa21.setCell ⟨q21, 0, none⟩ (.int .u64 o)) = ws22 at *
    have y23_0 := bb22_1.cell 0
    have z23_0 := bb22_1.free 0
    have y23_1 := bb22_1.cell 1
    have z23_1 := bb22_1.free 1
    have y23_2 := bb22_1.cell 2
    have z23_2 := bb22_1.free 2
    refine wpAnyH_ready (rs := [16]) (by kernel_rfl) (by simp) (AllReadyH.cons rfl (fun K hK => ?_) AllReadyH.nil)
    go_simp
    have nn23 := n1
    have kk23 : Keep noneOf w1 (((ws22.setCell ⟨q19, 0, none⟩ (.int .i64 ys)).setCell ⟨q19, 1, none⟩ (.int .u64 yt)).setCell ⟨q19, 2, none⟩ (.int .u64 yu)) := (((kk22.setCell (p := ⟨q19, 0, none⟩) (fun hh => absurd hh (by show ¬ q19 < w1.heap.size; omega)) (.int .i64 ys)).setCell (p := ⟨q19, 1, none⟩) (fun hh => absurd hh (by show ¬ q19 < w1.heap.size; omega)) (.int .u64 yt)).setCell (p := ⟨q19, 2, none⟩) (fun hh => absurd hh (by show ¬ q19 < w1.heap.size; omega)) (.int .u64 yu))
    have bb23_1 : Box (((ws22.setCell ⟨q19, 0, none⟩ (.int .i64 ys)).setCell ⟨q19, 1, none⟩ (.int .u64 yt)).setCell ⟨q19, 2, none⟩ (.int .u64 yu)) q19 61 #[.int .i64 ys, .int .u64 yt, .int .u64 yu] := (((bb22_1.put 0 (.int .i64 ys)).put 1 (.int .u64 yt)).put 2 (.int .u64 yu))
    have bb23_0 := (((bb22_0.far (p := ⟨q19, 0, none⟩) (by show q21 ≠ q19; omega) (.int .i64 ys)).far (p := ⟨q19, 1, none⟩) (by show q21 ≠ q19; omega) (.int .u64 yt)).far (p := ⟨q19, 2, none⟩) (by show q21 ≠ q19; omega) (.int .u64 yu))
    refine hK.out _ _ (kk23) (fun hHeld => ?_)
    clear hK K
    try simp only [Act.put, zga, zgb, zgc, zgd, zge, zgf]
    generalize (((ws22.setCell ⟨q19, 0, none⟩ (.int .i64 ys)).setCell ⟨q19, 1, none⟩ (.int .u64 yt)).setCell ⟨q19, 2, none⟩ (.int .u64 yu)) = ws23 at *
    refine' ztk 17 _ rfl (.inl ⟨by kernel_rfl, ?hy17⟩) ?_
    case hy17 => intro w' hSw; obtain ⟨_, _⟩ := MC.out w' hSw; go_simp; try with_reducible rfl
    simp only [Act.put, zga, zgb, zgc, zgd, zge, zgf]
    refine wpAnyH_done (by kernel_rfl) ?_ _
    have b1 := bb23_1
    have b0 := bb23_0
    have KF := kk23
    go_wp2_with fail
    go_meet
    exact ⟨_, _, rfl, rfl, rfl, KF, n0, n1, by omega, b0, b1⟩
   ·
    skip
    go_simp
    have kk24 : Keep noneOf w1 (wa19.alloc (.cells #[.int .u64 0] 67)) := kk19.alloc _
    have n0 : w1.heap.size ≤ wa19.heap.size := kk19.size
    have bb24_0 := Box.new wa19 67 #[.int .u64 0]
    have bb24_1 := bb19_1.alloc (.cells #[.int .u64 0] 67)
    have lt24_1 := bb19_1.lt
    refine hK.out _ _ (kk24) (fun hHeld => ?_)
    clear hK K
    try simp only [Act.put, zga, zgb, zgc, zgd, zge, zgf]
    generalize hq24 : wa19.heap.size = q24 at *
    generalize wa19.alloc (.cells #[.int .u64 0] 67) = wa24 at *
    refine wpAnyH_ready (rs := [8]) (by kernel_rfl) (by simp) (AllReadyH.cons rfl (fun K hK => ?_) AllReadyH.nil)
    go_simp
    go_at_call 135
    refine (HGR.out _).mono ?_
    rintro e wc25 ⟨rfl, k25⟩
    go_wp2_with fail
    have kk25 : Keep noneOf w1 wc25 := kk24.trans k25 (fun _ _ h => h)
    have bb25_1 := bb24_1.keep k25 id
    have bb25_0 := bb24_0.keep k25 id
    have hs25 := k25.size
    clear k25
    refine hK.out _ _ (kk25) (fun hHeld => ?_)
    clear hK K
    try simp only [Act.put, zga, zgb, zgc, zgd, zge, zgf]
    refine' ztk 9 _ rfl (.inl ⟨by kernel_rfl, ?hy9⟩) ?_
    case hy9 => intro w' hSw; obtain ⟨_, _⟩ := MC.out w' hSw; go_simp; try with_reducible rfl
    simp only [Act.put, zga, zgb, zgc, zgd, zge, zgf]
    refine' ztk 10 _ rfl (.inl ⟨by kernel_rfl, ?hy10⟩) ?_
    case hy10 => intro w' hSw; obtain ⟨_, _⟩ := MC.out w' hSw; go_simp; try with_reducible rfl
    simp only [Act.put, zga, zgb, zgc, zgd, zge, zgf]
    refine' ztk 11 _ rfl (.inl ⟨by kernel_rfl, ?hy11⟩) ?_
    case hy11 => intro w' hSw; obtain ⟨_, _⟩ := MC.out w' hSw; go_simp; try with_reducible rfl
    simp only [Act.put, zga, zgb, zgc, zgd, zge, zgf]
    refine' ztk 12 _ rfl (.inl ⟨by kernel_rfl, ?hy12⟩) ?_
    case hy12 => intro w' hSw; obtain ⟨_, _⟩ := MC.out w' hSw; go_simp; try with_reducible rfl
    simp only [Act.put, zga, zgb, zgc, zgd, zge, zgf]
    have y26_0 := bb25_0.cell 0
    have z26_0 := bb25_0.free 0
    refine wpAnyH_ready (rs := [15]) (by kernel_rfl) (by simp) (AllReadyH.cons rfl (fun K hK => ?_) AllReadyH.nil)
    go_simp
    have nn26 := n0
    have kk26 : Keep noneOf w1 (wc25.setCell ⟨q24, 0, none⟩ (.int .u64 o)) := (kk25.setCell (p := ⟨q24, 0, none⟩) (fun hh => absurd hh (by show ¬ q24 < w1.heap.size; omega)) (.int .u64 o))
    have bb26_1 := (bb25_1.far (p := ⟨q24, 0, none⟩) (by show q19 ≠ q24; omega) (.int .u64 o))
    have bb26_0 : Box (wc25.setCell ⟨q24, 0, none⟩ (.int .u64 o)) q24 67 #[.int .u64 o] := (bb25_0.put 0 (.int .u64 o))
    refine hK.out _ _ (kk26) (fun hHeld => ?_)
    clear hK K
    try simp only [Act.put, zga, zgb, zgc, zgd, zge, zgf]
    generalize (wc25.setCell ⟨q24, 0, none⟩ (.int .u64 o)) = ws26 at *
    have y27_0 := bb26_1.cell 0
    have z27_0 := bb26_1.free 0
    have y27_1 := bb26_1.cell 1
    have z27_1 := bb26_1.free 1
    have y27_2 := bb26_1.cell 2
    have z27_2 := bb26_1.free 2
    refine wpAnyH_ready (rs := [16]) (by kernel_rfl) (by simp) (AllReadyH.cons rfl (fun K hK => ?_) AllReadyH.nil)
    go_simp
    have nn27 := n1
    have kk27 : Keep noneOf w1 (((ws26.setCell ⟨q19, 0, none⟩ (.int .i64 ys)).setCell ⟨q19, 1, none⟩ (.int .u64 yt)).setCell ⟨q19, 2, none⟩ (.int .u64 yu)) := (((kk26.setCell (p := ⟨q19, 0, none⟩) (fun hh => absurd hh (by show ¬ q19 < w1.heap.size; omega)) (.int .i64 ys)).setCell (p := ⟨q19, 1, none⟩) (fun hh => absurd hh (by show ¬ q19 < w1.heap.size; omega)) (.int .u64 yt)).setCell (p := ⟨q19, 2, none⟩) (fun hh => absurd hh (by show ¬ q19 < w1.heap.size; omega)) (.int .u64 yu))
    have bb27_1 : Box (((ws26.setCell ⟨q19, 0, none⟩ (.int .i64 ys)).setCell ⟨q19, 1, none⟩ (.int .u64 yt)).setCell ⟨q19, 2, none⟩ (.int .u64 yu)) q19 61 #[.int .i64 ys, .int .u64 yt, .int .u64 yu] := (((bb26_1.put 0 (.int .i64 ys)).put 1 (.int .u64 yt)).put 2 (.int .u64 yu))
    have bb27_0 := (((bb26_0.far (p := ⟨q19, 0, none⟩) (by show q24 ≠ q19; omega) (.int .i64 ys)).far (p := ⟨q19, 1, none⟩) (by show q24 ≠ q19; omega) (.int .u64 yt)).far (p := ⟨q19, 2, none⟩) (by show q24 ≠ q19; omega) (.int .u64 yu))
    refine hK.out _ _ (kk27) (fun hHeld => ?_)
    clear hK K
    try simp only [Act.put, zga, zgb, zgc, zgd, zge, zgf]
    generalize (((ws26.setCell ⟨q19, 0, none⟩ (.int .i64 ys)).setCell ⟨q19, 1, none⟩ (.int .u64 yt)).setCell ⟨q19, 2, none⟩ (.int .u64 yu)) = ws27 at *
    refine' ztk 17 _ rfl (.inl ⟨by kernel_rfl, ?hy17⟩) ?_
    case hy17 => intro w' hSw; obtain ⟨_, _⟩ := MC.out w' hSw; go_simp; try with_reducible rfl
    simp only [Act.put, zga, zgb, zgc, zgd, zge, zgf]
    refine wpAnyH_done (by kernel_rfl) ?_ _
    have b1 := bb27_1
    have b0 := bb27_0
    have KF := kk27
    go_wp2_with fail
    go_meet
    exact ⟨_, _, rfl, rfl, rfl, KF, n0, n1, by omega, b0, b1⟩
 case rest =>
  obtain ⟨ob, sb, rfl, rfl, rfl, kc, hob, hsb, hne, hbo, hbs⟩ := hcut
  have HBC := Lib.hid (HB.out.stay kc)
  have HBO := Lib.hid hbo
  have HBS := Lib.hid hbs
  have hal := HB.out.an.lt
  have HNB : Hid (sb ≠ a ∧ ¬ D sb ∧ w.heap.size ≤ sb ∧ ob ≠ a ∧ ¬ D ob) := Lib.hid (by
   have h3 := HB.out.keep.size
   exact ⟨by omega, fun e => by have := HB.out.at_.lt _ e; omega, by omega, by omega, fun e => by have := HB.out.at_.lt _ e; omega⟩)
  clear kc hob hsb hbo hbs MC HGR hal HB
  by_cases hE : E = 0
  ·
   subst hE
   have HRQ : Hid (R = ({ withG q.plain i (g.st.set n ⟨ys, yt, yu⟩) with nt := o }, ⟨0, g.id, yt, yu, g.plain.name n, g.plain.cmd n⟩)) := Lib.hid (by
    have := HR.out
    rw [if_neg (by decide)] at this
    exact this.symm)
   have B := HBC.out
   have p2 : wc.cell? ⟨q.p, 2, none⟩ = some (.int .u64 q.nt) := B.at_.box.cell 2
   have f2 := B.at_.box.free 2
   have o0 := HBO.out.cell 0
   have hpD : D q.p := B.at_.inD _ (.inl rfl)
   have hpo : ob ≠ q.p := fun e => HNB.out.2.2.2.2 (e ▸ hpD)
   have hps : sb ≠ q.p := fun e => HNB.out.2.1 (e ▸ hpD)
   have K4 := (Keep.refl (fun b => b = q.p) wc).setCell (p := ⟨q.p, 2, none⟩) (fun _ => rfl) (.int .u64 o)
   have HB4 : Hid (Busy w (wc.setCell ⟨q.p, 2, none⟩ (.int .u64 o)) D D q { q with nt := o } a) := Lib.hid (B.turn K4 (fun j e => e ▸ hpD) (B.at_.head (B.at_.box.put 2 _) K4) rfl (fun _ h => h) (fun _ h => .inl h))
   have HBS4 : Hid (Box (wc.setCell ⟨q.p, 2, none⟩ (.int .u64 o)) sb 61 #[.int .i64 ys, .int .u64 yt, .int .u64 yu]) := Lib.hid (HBS.out.keep K4 hps)
   clear B K4
   go_upto_region 5 with fail
   generalize wc.setCell ⟨q.p, 2, none⟩ (.int .u64 o) = w4 at *
   clear p2 f2 o0 HBC HBS HBO HR
   have hB := HB4.out
   have hm : g ∈ q.gs := List.mem_of_getElem? HG.out
   obtain ⟨sx, cs, hsv, hsxD, ⟨y0, y1, y2⟩, z0, z1, z2⟩ := hB.at_.state (g := g) hm HX.out
   have HSV := Lib.hid hsv
   have hsxg : sx ≠ g0 := fun e => hB.at_.s_ne_g (g := g) hm sx (by rw [HSV.out]; rfl) (by show q.gv.ownBlock = _; rw [HGV.out, e]; rfl)
   have MC : Hid (∀ w', Keep (fun b => b = sx) w4 w' → w'.cell? ⟨g0, i * 3 + 2, none⟩ = some (.slice (some ⟨sx, 0, none⟩) g.st.length cs) ∧ w'.cell? ⟨sb, 0, none⟩ = some (.int .i64 ys) ∧ w'.cell? ⟨sb, 1, none⟩ = some (.int .u64 yt) ∧ w'.cell? ⟨sb, 2, none⟩ = some (.int .u64 yu)) := Lib.hid fun w' k' => by
    obtain ⟨g9, cap9, e9, _, hlt, _, _, _, x2, _⟩ := hB.at_.rows (i := i) (g := g) HG.out
    have e10 : q.gv = .slice (some ⟨g9, 0, none⟩) q.gs.length cap9 := e9
    rw [HGV.out] at e10
    obtain ⟨rfl, rfl⟩ : g0 = g9 ∧ cap = cap9 := by simpa using e10
    rw [HSV.out] at x2
    exact ⟨(k'.cell (p := ⟨g0, i * 3 + 2, none⟩) hlt (fun e => hsxg e.symm)).trans x2, (HBS4.out.keep k' (fun e => HNB.out.2.1 (e ▸ hsxD))).three⟩
   have hn3 := (List.getElem?_eq_some_iff.1 HX.out).1
   have KP := keep_three w4 sx (n * 3) (.int .i64 ys) (.int .u64 yt) (.int .u64 yu)
   have FIN : Hid (Busy w (threePut w4 sx (n * 3) (.int .i64 ys) (.int .u64 yt) (.int .u64 yu)).drew D D q { q with nt := o, gs := q.gs.set i { g with st := g.st.set n ⟨ys, yt, yu⟩ } } a ∧ Box (threePut w4 sx (n * 3) (.int .i64 ys) (.int .u64 yt) (.int .u64 yu)).drew sb 61 #[.int .i64 ys, .int .u64 yt, .int .u64 yu]) := Lib.hid (by
    have hs : ∀ j, j = sx → D j := fun j e => e ▸ hsxD
    exact ⟨hB.turn KP.drew hs ((hB.at_.putState (i := i) (g := g) HG.out HSV.out hn3 ⟨ys, yt, yu⟩).stay ((Keep.refl noneOf _).drew)) rfl (fun _ h => h) (fun _ h => .inl h), HBS4.out.keep KP.drew (fun e => HNB.out.2.1 (e ▸ hsxD))⟩)
   have KR := (Keep.refl (fun b => b = sx) w4).drew
   have q1 : (0 : Int) ≤ (n : Int) := by omega
   have q2 : (n : Int) < (g.st.length : Int) := by omega
   clear hB hsv
   refine wp_region_held_drew (S := fun w' => Keep (fun b => b = sx) w4 w') (by kernel_rfl) (KR) (fun hHeld => ?_)
   refine' ztk 0 _ rfl (.inl ⟨by kernel_rfl, ?hy0⟩) ?_
   case hy0 => intro w' hSw; obtain ⟨_, _, _, _⟩ := MC.out w' hSw; go_simp; try with_reducible rfl
   simp only [Act.put, zga, zgb, zgc, zgd, zge, zgf]
   refine' ztk 1 _ rfl (.inl ⟨by kernel_rfl, ?hy1⟩) ?_
   case hy1 => intro w' hSw; obtain ⟨_, _, _, _⟩ := MC.out w' hSw; go_simp; try with_reducible rfl
   simp only [Act.put, zga, zgb, zgc, zgd, zge, zgf]
   refine' ztk 2 _ rfl (.inl ⟨by kernel_rfl, ?hy2⟩) ?_
   case hy2 => intro w' hSw; obtain ⟨_, _, _, _⟩ := MC.out w' hSw; go_simp; try with_reducible rfl
   simp only [Act.put, zga, zgb, zgc, zgd, zge, zgf]
   refine' ztk 3 _ rfl (.inl ⟨by kernel_rfl, ?hy3⟩) ?_
   case hy3 => intro w' hSw; obtain ⟨_, _, _, _⟩ := MC.out w' hSw; go_simp; try with_reducible rfl
   simp only [Act.put, zga, zgb, zgc, zgd, zge, zgf]
   refine' ztk 4 _ rfl (.inl ⟨by kernel_rfl, ?hy4⟩) ?_
   case hy4 => intro w' hSw; obtain ⟨_, _, _, _⟩ := MC.out w' hSw; go_simp; try with_reducible rfl
   simp only [Act.put, zga, zgb, zgc, zgd, zge, zgf]
   refine' ztk 5 _ rfl (.inl ⟨by kernel_rfl, ?hy5⟩) ?_
   case hy5 => intro w' hSw; obtain ⟨_, _, _, _⟩ := MC.out w' hSw; go_simp; try with_reducible rfl
   simp only [Act.put, zga, zgb, zgc, zgd, zge, zgf]
   refine' ztk 6 _ rfl (.inl ⟨by kernel_rfl, ?hy6⟩) ?_
   case hy6 => intro w' hSw; obtain ⟨_, _, _, _⟩ := MC.out w' hSw; go_simp; try with_reducible rfl
   simp only [Act.put, zga, zgb, zgc, zgd, zge, zgf]
   refine wpAnyH_ready (rs := [7]) (by kernel_rfl) (by simp) (AllReadyH.cons rfl (fun K hK => ?_) AllReadyH.nil)
   go_simp
   refine hK.out _ _ (KP.drew) (fun hHeld => ?_)
   clear hK K
   try simp only [Act.put, zga, zgb, zgc, zgd, zge, zgf]
   refine wpAnyH_done (by kernel_rfl) ?_ _
   have FO := FIN.out
   unfold threePut at FO
   generalize (((w4.setCell ⟨sx, n * 3, none⟩ (.int .i64 ys)).setCell ⟨sx, n * 3 + 1, none⟩ (.int .u64 yt)).setCell ⟨sx, n * 3 + 2, none⟩ (.int .u64 yu)).drew = wd at *
   obtain ⟨hBd, hXd⟩ := FO
   have hg' : ({ q with nt := o, gs := q.gs.set i { g with st := g.st.set n ⟨ys, yt, yu⟩ } } : Qm).gs[i]? = some { g with st := g.st.set n ⟨ys, yt, yu⟩ } := by
    show (q.gs.set i _)[i]? = _
    rw [List.getElem?_set_self (List.getElem?_eq_some_iff.1 HG.out).1]
   have htn : n < g.ts.length := by have := (inv_few HI.out (List.mem_of_getElem? HG.out)).2.2.2; omega
   obtain ⟨g9, cap9, e9, hgD, hglt, _, x0, x1, _, _⟩ := hBd.at_.rows hg'
   have e10 : q.gv = .slice (some ⟨g9, 0, none⟩) (q.gs.set i { g with st := g.st.set n ⟨ys, yt, yu⟩ }).length cap9 := e9
   rw [HGV.out, List.length_set] at e10
   obtain ⟨rfl, rfl⟩ : g0 = g9 ∧ cap = cap9 := by simpa using e10
   obtain ⟨t, tb, o2, tc, ht, htv, htD, _, t0, t1, t2⟩ := hBd.at_.target (List.mem_of_getElem? hg') (n := n) htn
   have htv' : g.gv = .slice (some ⟨tb, o2, none⟩) g.ts.length tc := htv
   have x1' : wd.cell? ⟨g0, i * 3 + 1, none⟩ = some g.gv := x1
   rw [htv'] at x1'
   have x0' : wd.cell? ⟨g0, i * 3, none⟩ = some (.int .u64 g.id) := x0
   obtain ⟨Aq, cq, hnv⟩ : ∃ Aq cq, t.nv = .slice Aq t.needs.length cq := by
    obtain ⟨Aq, cq, h1, _⟩ := ((hBd.at_.tg _ (List.mem_of_getElem? hg')).2 t (List.mem_of_getElem? ht)).2.2.1
    exact ⟨Aq, cq, h1⟩
   rw [hnv] at t2
   have HNM := Lib.hid (name_at (show g.ts[n]? = some t from ht))
   have HCM := Lib.hid (cmd_at (show g.ts[n]? = some t from ht))
   have q3 : (n : Int) < (g.ts.length : Int) := by omega
   have KA := (Keep.refl noneOf wd).alloc (.cells #[.string t.name, .string t.cmd, .slice Aq t.needs.length cq] 64)
   have HTB := Lib.hid (Box.new wd 64 #[.string t.name, .string t.cmd, .slice Aq t.needs.length cq])
   have HBE := Lib.hid (hBd.stay KA)
   have HXE := Lib.hid (hXd.alloc (.cells #[.string t.name, .string t.cmd, .slice Aq t.needs.length cq] 64))
   have HXG := Lib.hid ((KA.cell (p := ⟨g0, i * 3, none⟩) hglt id).trans x0')
   have htba : wd.heap.size ≠ a := by have := hBd.an.lt; omega
   clear x0 x0' hBd hXd e9 e10 ht htv x1 KP KR FIN KA hglt hnv
   go_upto_region 7 with fail
   generalize wd.alloc (.cells #[.string t.name, .string t.cmd, .slice Aq t.needs.length cq] 64) = we at *
   generalize wd.heap.size = tq at *
   have hglt := block_of_cell HXG.out
   have hna := HBE.out.na.2
   have MC : Hid (∀ w', Keep (fun b => b = a) we w' → w'.cell? ⟨g0, i * 3, none⟩ = some (.int .u64 g.id) ∧ w'.cell? ⟨sb, 1, none⟩ = some (.int .u64 yt) ∧ w'.cell? ⟨sb, 2, none⟩ = some (.int .u64 yu) ∧ w'.cell? ⟨tq, 0, none⟩ = some (.string t.name) ∧ w'.cell? ⟨tq, 1, none⟩ = some (.string t.cmd)) := Lib.hid fun w' k' =>
    ⟨(k'.cell (p := ⟨g0, i * 3, none⟩) hglt (fun e => hna (e ▸ hgD))).trans HXG.out, ((HXE.out.keep k' HNB.out.1).three).2.1, ((HXE.out.keep k' HNB.out.1).three).2.2, (HTB.out.keep k' htba).cell 0, (HTB.out.keep k' htba).cell 1⟩
   have KR2 := (Keep.refl (fun b => b = a) we).drew
   obtain ⟨c0, c1, c2, c3, c4, c5⟩ := HBE.out.an.six
   obtain ⟨f0, f1, f2, f3, f4, f5⟩ := HBE.out.an.free6
   have KF := ((Keep.refl (fun b => b = a) we).put6 (b := a) (fun _ => rfl) (.int .i64 0) (.int .u64 g.id) (.int .u64 yt) (.int .u64 yu) (.string t.name) (.string t.cmd)).drew
   clear hglt hna
   refine wp_region_held_drew (S := fun w' => Keep (fun b => b = a) we w') (by kernel_rfl) (KR2) (fun hHeld => ?_)
   refine' ztk 0 _ rfl (.inl ⟨by kernel_rfl, ?hy0⟩) ?_
   case hy0 => intro w' hSw; obtain ⟨_, _, _, _, _⟩ := MC.out w' hSw; go_simp; try with_reducible rfl
   simp only [Act.put, zga, zgb, zgc, zgd, zge, zgf]
   refine' ztk 1 _ rfl (.inl ⟨by kernel_rfl, ?hy1⟩) ?_
   case hy1 => intro w' hSw; obtain ⟨_, _, _, _, _⟩ := MC.out w' hSw; go_simp; try with_reducible rfl
   simp only [Act.put, zga, zgb, zgc, zgd, zge, zgf]
   refine' ztk 2 _ rfl (.inl ⟨by kernel_rfl, ?hy2⟩) ?_
   case hy2 => intro w' hSw; obtain ⟨_, _, _, _, _⟩ := MC.out w' hSw; go_simp; try with_reducible rfl
   simp only [Act.put, zga, zgb, zgc, zgd, zge, zgf]
   refine' ztk 3 _ rfl (.inl ⟨by kernel_rfl, ?hy3⟩) ?_
   case hy3 => intro w' hSw; obtain ⟨_, _, _, _, _⟩ := MC.out w' hSw; go_simp; try with_reducible rfl
   simp only [Act.put, zga, zgb, zgc, zgd, zge, zgf]
   refine' ztk 4 _ rfl (.inl ⟨by kernel_rfl, ?hy4⟩) ?_
   case hy4 => intro w' hSw; obtain ⟨_, _, _, _, _⟩ := MC.out w' hSw; go_simp; try with_reducible rfl
   simp only [Act.put, zga, zgb, zgc, zgd, zge, zgf]
   refine' ztk 5 _ rfl (.inl ⟨by kernel_rfl, ?hy5⟩) ?_
   case hy5 => intro w' hSw; obtain ⟨_, _, _, _, _⟩ := MC.out w' hSw; go_simp; try with_reducible rfl
   simp only [Act.put, zga, zgb, zgc, zgd, zge, zgf]
   refine' ztk 6 _ rfl (.inl ⟨by kernel_rfl, ?hy6⟩) ?_
   case hy6 => intro w' hSw; obtain ⟨_, _, _, _, _⟩ := MC.out w' hSw; go_simp; try with_reducible rfl
   simp only [Act.put, zga, zgb, zgc, zgd, zge, zgf]
   refine' ztk 7 _ rfl (.inl ⟨by kernel_rfl, ?hy7⟩) ?_
   case hy7 => intro w' hSw; obtain ⟨_, _, _, _, _⟩ := MC.out w' hSw; go_simp; try with_reducible rfl
   simp only [Act.put, zga, zgb, zgc, zgd, zge, zgf]
   refine' ztk 8 _ rfl (.inl ⟨by kernel_rfl, ?hy8⟩) ?_
   case hy8 => intro w' hSw; obtain ⟨_, _, _, _, _⟩ := MC.out w' hSw; go_simp; try with_reducible rfl
   simp only [Act.put, zga, zgb, zgc, zgd, zge, zgf]
   refine' ztk 9 _ rfl (.inl ⟨by kernel_rfl, ?hy9⟩) ?_
   case hy9 => intro w' hSw; obtain ⟨_, _, _, _, _⟩ := MC.out w' hSw; go_simp; try with_reducible rfl
   simp only [Act.put, zga, zgb, zgc, zgd, zge, zgf]
   refine' ztk 10 _ rfl (.inl ⟨by kernel_rfl, ?hy10⟩) ?_
   case hy10 => intro w' hSw; obtain ⟨_, _, _, _, _⟩ := MC.out w' hSw; go_simp; try with_reducible rfl
   simp only [Act.put, zga, zgb, zgc, zgd, zge, zgf]
   refine' ztk 11 _ rfl (.inl ⟨by kernel_rfl, ?hy11⟩) ?_
   case hy11 => intro w' hSw; obtain ⟨_, _, _, _, _⟩ := MC.out w' hSw; go_simp; try with_reducible rfl
   simp only [Act.put, zga, zgb, zgc, zgd, zge, zgf]
   refine' ztk 12 _ rfl (.inl ⟨by kernel_rfl, ?hy12⟩) ?_
   case hy12 => intro w' hSw; obtain ⟨_, _, _, _, _⟩ := MC.out w' hSw; go_simp; try with_reducible rfl
   simp only [Act.put, zga, zgb, zgc, zgd, zge, zgf]
   refine wpAnyH_ready (rs := [13]) (by kernel_rfl) (by simp) (AllReadyH.cons rfl (fun K hK => ?_) AllReadyH.nil)
   go_simp
   refine hK.out _ _ (KF) (fun hHeld => ?_)
   clear hK K
   try simp only [Act.put, zga, zgb, zgc, zgd, zge, zgf]
   refine wpAnyH_done (by kernel_rfl) ?_ _
   clear KF KR2 MC c0 c1 c2 c3 c4 c5 f0 f1 f2 f3 f4 f5
   have hbx := (HBE.out.box ⟨0, g.id, yt, yu, t.name, t.cmd⟩).drew
   have hd := (HBE.out.does ⟨0, g.id, yt, yu, t.name, t.cmd⟩).drew
   dsimp only [sixPut] at hbx hd
   generalize ((((((we.setCell ⟨a, 0, none⟩ (.int .i64 (0))).setCell ⟨a, 1, none⟩ (.int .u64 (g.id))).setCell ⟨a, 2, none⟩ (.int .u64 (yt))).setCell ⟨a, 3, none⟩ (.int .u64 (yu))).setCell ⟨a, 4, none⟩ (.string t.name)).setCell ⟨a, 5, none⟩ (.string t.cmd)).drew = wf at hbx hd ⊢
   obtain ⟨r0, r1, r2, r3, r4, r5⟩ := hbx.six
   have hpl : ({ q with nt := o, gs := q.gs.set i { g with st := g.st.set n ⟨ys, yt, yu⟩ } } : Qm).plain = { withG q.plain i (g.st.set n ⟨ys, yt, yu⟩) with nt := o } := by
    show Qp.mk q.now q.ng o q.ses ((q.gs.set i _).map Gm.plain) q.built = _
    rw [show ({ g with st := g.st.set n ⟨ys, yt, yu⟩ } : Gm) = { g with sv := g.sv, st := g.st.set n ⟨ys, yt, yu⟩ } from rfl, gm_set HG.out]
    rfl
   rw [hpl] at hd
   go_wp2
   rw [HRQ.out, HNM.out, HCM.out]
   exact bodyPost_ret (v := An.agg ⟨0, g.id, yt, yu, t.name, t.cmd⟩) (by simp [results, Tryz.results103, go_sem, An.agg, r0, r1, r2, r3, r4, r5]) rfl hd
  ·
   have hEn : (E == 0) = false := beq_eq_false_iff_ne.2 hE
   have HRQ : R = (q.plain, An.err E) := by
    have := HR.out
    rw [if_pos hE] at this
    exact this.symm
   subst HRQ
   clear HR hE
   have RF := Lib.hid (refusal_lit wc E)
   go_wp2_with fail
   refine RF.out.mono ?_
   rintro e w8 ⟨rfl, k8⟩
   have HB8 := Lib.hid (HBC.out.stay k8)
   obtain ⟨c0, c1, c2, c3, c4, c5⟩ := HB8.out.an.six
   obtain ⟨f0, f1, f2, f3, f4, f5⟩ := HB8.out.an.free6
   clear RF k8
   go_wp2
   have hbx := (HB8.out.box ⟨E, 0, 0, 0, ⟨#[]⟩, ⟨#[]⟩⟩)
   have hd := (HB8.out.does ⟨E, 0, 0, 0, ⟨#[]⟩, ⟨#[]⟩⟩)
   dsimp only [sixPut] at hbx hd
   generalize ((((((w8.setCell ⟨a, 0, none⟩ (.int .i64 (E))).setCell ⟨a, 1, none⟩ (.int .u64 (0))).setCell ⟨a, 2, none⟩ (.int .u64 (0))).setCell ⟨a, 3, none⟩ (.int .u64 (0))).setCell ⟨a, 4, none⟩ (.string ⟨#[]⟩)).setCell ⟨a, 5, none⟩ (.string ⟨#[]⟩)) = wf at hbx hd ⊢
   obtain ⟨r0, r1, r2, r3, r4, r5⟩ := hbx.six
   exact bodyPost_ret (v := An.agg ⟨E, 0, 0, 0, ⟨#[]⟩, ⟨#[]⟩⟩) (by simp [results, Tryz.results103, go_sem, An.agg, r0, r1, r2, r3, r4, r5]) rfl hd
end Go.Proofs.YtffoeodjbbkdjaaGreat
