/-
  The document's reader, on: GetVar.
-/
import Derived.Test.YtngbminjbgomgaaRefGet
import Derived.Deep.RegionHeld3
namespace Go.Proofs.Ytngbminjbgomgaa
open Go.RowKit

set_option maxRecDepth 100000 in
set_option maxHeartbeats 1000000 in
/-- The first byte is not there, or the reader has failed before. -/
theorem refGetVar_fail (w : World) (D : Nat → Prop) (A : Option Addr) (c : Nat) (bs : List UInt8) (p most : Nat) (er : Int) (e1 : Int) (cs : List UInt8) (h1 : Rs.take ⟨bs.drop p, er⟩ 1 = (cs, ⟨bs.drop p, e1⟩)) (he1 : e1 ≠ 0) (hs : Bytes w D (.slice A bs.length c) bs) (hl : bs.length ≤ lim) (hp : p ≤ bs.length) :
    Calls Try.prog 58 #[.agg #[.slice A bs.length c, .int .i64 p, .int .i64 er], .int .u64 most, .bool false] w (RefGot w (.slice A bs.length c) bs 0 ⟨bs.drop p, e1⟩) := by
  obtain ⟨K0, X0, Y0⟩ := two_boxes w #[.slice A bs.length c, .int .i64 p, .int .i64 er] #[.slice none 0 0, .int .i64 0, .int .i64 0] 67
  have G1 := Lib.hid (refGet_any _ D A c bs cs p 1 er _ (hs.keep K0 (fun _ _ _ => id)) hl hp (by decide) h1)
  have g : (e1 == 0) = false := beq_eq_false_iff_ne.2 he1
  have g' : (e1 != 0) = true := bne_iff_ne.2 he1
  have HK := Lib.hid K0
  have HX := Lib.hid X0
  have HY := Lib.hid Y0
  have HP := Lib.hid hp
  clear K0 X0 Y0 h1 he1
  go_enter Try.func58, Try.ntmps58
  go_wp2_with fail
  refine G1.out.mono ?_
  rintro e w1 ⟨p1, rfl, hp1, hd1, k1⟩
  have K1 := HK.out.trans k1 (fun _ _ h => h)
  have X1 := HX.out.keep k1 id
  have Y1 := HY.out.keep k1 id
  clear hd1
  have a0 : w1.cell? ⟨w.heap.size, 0, none⟩ = some (.slice A bs.length c) := X1.cell 0
  have a1 : w1.cell? ⟨w.heap.size, 1, none⟩ = some (.int .i64 p) := X1.cell 1
  have a2 : w1.cell? ⟨w.heap.size, 2, none⟩ = some (.int .i64 er) := X1.cell 2
  have b0 : w1.cell? ⟨w.heap.size + 1, 0, none⟩ = some (.slice none 0 0) := Y1.cell 0
  have b1 : w1.cell? ⟨w.heap.size + 1, 1, none⟩ = some (.int .i64 0) := Y1.cell 1
  have b2 : w1.cell? ⟨w.heap.size + 1, 2, none⟩ = some (.int .i64 0) := Y1.cell 2
  have fa0 := X1.free 0
  have fa1 := X1.free 1
  have fa2 := X1.free 2
  have fb0 := Y1.free 0
  have fb1 := Y1.free 1
  have fb2 := Y1.free 2
  have hz0 : w.heap.size < w1.heap.size := X1.lt
  have hz : w.heap.size + 1 < w1.heap.size := Y1.lt
  have KS := (Keep.refl (fun k => k = w.heap.size) (w1)).setCell (p := ⟨w.heap.size, 2, none⟩) (fun _ => rfl) (.int .i64 e1)
  have YS := ((Y1.keep KS (by omega)).put3 (.slice A bs.length c) (.int .i64 p) (.int .i64 e1)).alloc (.cells #[.slice A bs.length c, .int .i64 p1, .int .i64 e1] 67)
  have KF := ((K1.newer KS (Nat.le_refl _)).newer (Keep.put3 (w.heap.size + 1) (.slice A bs.length c) (.int .i64 p) (.int .i64 e1)) (Nat.le_succ _)).alloc (.cells #[.slice A bs.length c, .int .i64 p1, .int .i64 e1] 67)
  have HYS := Lib.hid YS
  have HKF := Lib.hid KF
  clear KS YS KF
  clear X1 Y1 K1 k1 HK HX HY G1
  go_wp2
  generalize (((((w1).setCell ⟨w.heap.size, 2, none⟩ (.int .i64 e1)).setCell ⟨w.heap.size + 1, 0, none⟩ (.slice A bs.length c)).setCell ⟨w.heap.size + 1, 1, none⟩ (.int .i64 p)).setCell ⟨w.heap.size + 1, 2, none⟩ (.int .i64 e1)).alloc (.cells #[.slice A bs.length c, .int .i64 p1, .int .i64 e1] 67) = wf at *
  have r0 : wf.cell? ⟨w.heap.size + 1, 0, none⟩ = some (.slice A bs.length c) := HYS.out.cell 0
  have r1 : wf.cell? ⟨w.heap.size + 1, 1, none⟩ = some (.int .i64 p) := HYS.out.cell 1
  have r2 : wf.cell? ⟨w.heap.size + 1, 2, none⟩ = some (.int .i64 e1) := HYS.out.cell 2
  exact bodyPost_ret (v := .tuple #[.agg #[.slice A bs.length c, .int .i64 p, .int .i64 e1], .int .u64 0]) (by simp [results, Try.results58, go_sem, r0, r1, r2]) rfl ⟨p, rfl, HP.out, rfl, HKF.out⟩

set_option maxRecDepth 100000 in
set_option maxHeartbeats 1000000 in
/-- A first byte below 253. -/
theorem refGetVar_one (w : World) (D : Nat → Prop) (A : Option Addr) (c : Nat) (bs : List UInt8) (p most : Nat) (er : Int) (f : UInt8) (rest : List UInt8) (n' : Nat) (s' : Rs) (hd : bs.drop p = f :: rest) (hf : f.toNat < 253) (he : er = 0) (hr : (most < f.toNat ∧ n' = 0 ∧ s' = ⟨bs.drop p, 12⟩) ∨ (f.toNat ≤ most ∧ n' = f.toNat ∧ s' = ⟨rest, 0⟩)) (hs : Bytes w D (.slice A bs.length c) bs) (hl : bs.length ≤ lim) (hp : p ≤ bs.length) :
    Calls Try.prog 58 #[.agg #[.slice A bs.length c, .int .i64 p, .int .i64 er], .int .u64 most, .bool false] w (RefGot w (.slice A bs.length c) bs n' s') := by
  obtain ⟨K0, X0, Y0⟩ := two_boxes w #[.slice A bs.length c, .int .i64 p, .int .i64 er] #[.slice none 0 0, .int .i64 0, .int .i64 0] 67
  subst he
  have h1 : Rs.take ⟨bs.drop p, 0⟩ 1 = ([f], ⟨rest, 0⟩) := by unfold Rs.take; rw [hd]; rw [if_neg (fun h => h rfl), if_neg (by simp)]; rfl
  have G1 := Lib.hid (refGet_any _ D A c bs [f] p 1 0 _ (hs.keep K0 (fun _ _ _ => id)) hl hp (by decide) h1)
  have hnum : num [f] = f.toNat := by simp [num]
  rw [hnum] at G1
  have hlen : bs.length - p = rest.length + 1 := by have := congrArg List.length hd; simpa using this
  generalize f.toNat = n at *
  have g1 : decide ((253 : Int) ≤ (n : Int)) = false := by simp; omega
  have HN : Hid ((n : Int) < 18446744073709551616) := by show (n : Int) < _; omega
  have HV : Hid ((varBytes n).length = 1) := by
    have ef : varFirst n = n := by unfold varFirst; rw [if_pos hf]
    have em : varMore n = 0 := by unfold varMore; rw [if_neg (by omega), if_neg (by omega), if_neg (by omega)]
    show (varBytes n).length = 1
    rw [varBytes_length, ef, em]
  have HK := Lib.hid K0
  have HX := Lib.hid X0
  have HY := Lib.hid Y0
  have HP := Lib.hid hp
  have HD := Lib.hid hd
  have HLN := Lib.hid hlen
  have HR := Lib.hid hr
  clear K0 X0 Y0 h1 hnum hd hlen hr
  go_enter Try.func58, Try.ntmps58
  go_wp2_with fail
  refine G1.out.mono ?_
  rintro e w1 ⟨p1, rfl, hp1, hd1, k1⟩
  have K1 := HK.out.trans k1 (fun _ _ h => h)
  have X1 := HX.out.keep k1 id
  have Y1 := HY.out.keep k1 id
  have hp2 : p1 = p + 1 := by
    have h9 := HLN.out
    have := congrArg List.length hd1
    simp only [List.length_drop] at this
    omega
  have HP1 := Lib.hid hp2
  have HD1 := Lib.hid hd1
  clear hd1 hp2
  have a0 : w1.cell? ⟨w.heap.size, 0, none⟩ = some (.slice A bs.length c) := X1.cell 0
  have a1 : w1.cell? ⟨w.heap.size, 1, none⟩ = some (.int .i64 p) := X1.cell 1
  have a2 : w1.cell? ⟨w.heap.size, 2, none⟩ = some (.int .i64 0) := X1.cell 2
  have b0 : w1.cell? ⟨w.heap.size + 1, 0, none⟩ = some (.slice none 0 0) := Y1.cell 0
  have b1 : w1.cell? ⟨w.heap.size + 1, 1, none⟩ = some (.int .i64 0) := Y1.cell 1
  have b2 : w1.cell? ⟨w.heap.size + 1, 2, none⟩ = some (.int .i64 0) := Y1.cell 2
  have fa0 := X1.free 0
  have fa1 := X1.free 1
  have fa2 := X1.free 2
  have fb0 := Y1.free 0
  have fb1 := Y1.free 1
  have fb2 := Y1.free 2
  have hz0 : w.heap.size < w1.heap.size := X1.lt
  have hz : w.heap.size + 1 < w1.heap.size := Y1.lt
  have Z3 := Box.new w1 67 #[.slice A bs.length c, .int .i64 p1, .int .i64 0]
  have ka := (Keep.refl noneOf w1).alloc (.cells #[.slice A bs.length c, .int .i64 p1, .int .i64 0] 67)
  have X3 := X1.keep ka id
  have Y3 := Y1.keep ka id
  have K3 := K1.trans ka (fun _ _ h => h)
  clear X1 Y1 K1 k1 HK HX HY G1 ka
  go_wp2
  generalize w1.alloc (.cells #[.slice A bs.length c, .int .i64 p1, .int .i64 0] 67) = w3 at *
  have MK : Hid (∀ w', Keep noneOf w3 w' → w'.cell? ⟨w1.heap.size, 1, none⟩ = some (.int .i64 p1) ∧ w'.cell? ⟨w.heap.size, 1, none⟩ = some (.int .i64 p)) := fun w' k => ⟨(Z3.keep k id).cell 1, (X3.keep k id).cell 1⟩
  have K33 := Keep.refl noneOf w3
  have HX3 := Lib.hid X3
  have HY3 := Lib.hid Y3
  have HZ3 := Lib.hid Z3
  clear X3 Y3 Z3
  go_region_held3 (fun w' => Keep noneOf w3 w' ∧ w'.cell? ⟨w1.heap.size, 1, none⟩ = some (.int .i64 p1) ∧ w'.cell? ⟨w.heap.size, 1, none⟩ = some (.int .i64 p)) (first | exact ⟨K33.drew, MK.out _ K33.drew⟩ | (refine (fun k => ⟨k, MK.out _ k⟩) ?_; exact Keep.trans (And.left (by assumption)) (Fresh.keep (by assumption)) (fun _ _ h => h)))
    (first | (go_at_call 53; refine (refVar_any _ n HN.out).mono ?_; rintro e w' ⟨A', c', rfl, F'⟩))
  have k4 : Keep noneOf w3 w' := K33.drew.trans F'.keep (fun _ _ h => h)
  have X4 := HX3.out.keep k4 id
  have Y4 := HY3.out.keep k4 id
  have Z4 := HZ3.out.keep k4 id
  have K4 := K3.trans k4 (fun _ _ h => h)
  have x0 : w'.cell? ⟨w.heap.size, 0, none⟩ = some (.slice A bs.length c) := X4.cell 0
  have x1 : w'.cell? ⟨w.heap.size, 1, none⟩ = some (.int .i64 p) := X4.cell 1
  have x2 : w'.cell? ⟨w.heap.size, 2, none⟩ = some (.int .i64 0) := X4.cell 2
  have y0 : w'.cell? ⟨w.heap.size + 1, 0, none⟩ = some (.slice none 0 0) := Y4.cell 0
  have y1 : w'.cell? ⟨w.heap.size + 1, 1, none⟩ = some (.int .i64 0) := Y4.cell 1
  have y2 : w'.cell? ⟨w.heap.size + 1, 2, none⟩ = some (.int .i64 0) := Y4.cell 2
  have z0 : w'.cell? ⟨w1.heap.size, 0, none⟩ = some (.slice A bs.length c) := Z4.cell 0
  have z1 : w'.cell? ⟨w1.heap.size, 1, none⟩ = some (.int .i64 p1) := Z4.cell 1
  have z2 : w'.cell? ⟨w1.heap.size, 2, none⟩ = some (.int .i64 0) := Z4.cell 2
  have gx0 := X4.free 0
  have gx1 := X4.free 1
  have gx2 := X4.free 2
  have gy0 := Y4.free 0
  have gy1 := Y4.free 1
  have gy2 := Y4.free 2
  clear MK K33 HX3 HY3 HZ3 F' k4 K3
  generalize (varBytes n).length = L at *
  have hwr : IntKind.i64.wrap ((p1 : Int) - (p : Int)) = 1 := by have h2 := HP1.out; rw [IntWalk.i64_in _ (by omega)]; omega
  have hbl : ((L : Int) != 1) = false := by have h1 := HV.out; rw [bne_eq_false_iff_eq]; omega
  rw [hwr, hbl]
  clear hwr hbl
  rcases HR.out with ⟨hm, rfl, rfl⟩ | ⟨hm, hn', rfl⟩
  · have g2 : decide (most < n) = true := decide_eq_true hm
    clear HN HV a0 a1 a2 b0 b1 b2 fa0 fa1 fa2 fb0 fb1 fb2 hl hs hf g1 HLN HD
    have KS := (Keep.refl (fun k => k = w.heap.size) (w')).setCell (p := ⟨w.heap.size, 2, none⟩) (fun _ => rfl) (.int .i64 12)
    have YS := ((Y4.keep KS (by omega)).put3 (.slice A bs.length c) (.int .i64 p) (.int .i64 12))
    have KF := ((K4.newer KS (Nat.le_refl _)).newer (Keep.put3 (w.heap.size + 1) (.slice A bs.length c) (.int .i64 p) (.int .i64 12)) (Nat.le_succ _))
    have HYS := Lib.hid YS
    have HKF := Lib.hid KF
    clear KS YS KF
    clear hm X4 Y4 Z4 K4 HR
    go_wp2
    generalize ((((w').setCell ⟨w.heap.size, 2, none⟩ (.int .i64 12)).setCell ⟨w.heap.size + 1, 0, none⟩ (.slice A bs.length c)).setCell ⟨w.heap.size + 1, 1, none⟩ (.int .i64 p)).setCell ⟨w.heap.size + 1, 2, none⟩ (.int .i64 12) = wf at *
    have r0 : wf.cell? ⟨w.heap.size + 1, 0, none⟩ = some (.slice A bs.length c) := HYS.out.cell 0
    have r1 : wf.cell? ⟨w.heap.size + 1, 1, none⟩ = some (.int .i64 p) := HYS.out.cell 1
    have r2 : wf.cell? ⟨w.heap.size + 1, 2, none⟩ = some (.int .i64 12) := HYS.out.cell 2
    exact bodyPost_ret (v := .tuple #[.agg #[.slice A bs.length c, .int .i64 p, .int .i64 12], .int .u64 0]) (by simp [results, Try.results58, go_sem, r0, r1, r2]) rfl ⟨p, rfl, HP.out, rfl, HKF.out⟩
  · obtain rfl : n' = n := hn'
    have g2 : decide (most < n') = false := decide_eq_false (by omega)
    clear HN HV a0 a1 a2 b0 b1 b2 fa0 fa1 fa2 fb0 fb1 fb2 hl hs hf g1 HLN HD
    have YS := Y4.put3 (.slice A bs.length c) (.int .i64 p1) (.int .i64 0)
    have KF := K4.newer (Keep.put3 (w.heap.size + 1) (.slice A bs.length c) (.int .i64 p1) (.int .i64 0)) (Nat.le_succ _)
    have HYS := Lib.hid YS
    have HKF := Lib.hid KF
    clear YS KF
    clear hm X4 Y4 Z4 K4 HR
    go_wp2
    generalize (((w').setCell ⟨w.heap.size + 1, 0, none⟩ (.slice A bs.length c)).setCell ⟨w.heap.size + 1, 1, none⟩ (.int .i64 p1)).setCell ⟨w.heap.size + 1, 2, none⟩ (.int .i64 0) = wf at *
    have r0 : wf.cell? ⟨w.heap.size + 1, 0, none⟩ = some (.slice A bs.length c) := HYS.out.cell 0
    have r1 : wf.cell? ⟨w.heap.size + 1, 1, none⟩ = some (.int .i64 p1) := HYS.out.cell 1
    have r2 : wf.cell? ⟨w.heap.size + 1, 2, none⟩ = some (.int .i64 0) := HYS.out.cell 2
    exact bodyPost_ret (v := .tuple #[.agg #[.slice A bs.length c, .int .i64 p1, .int .i64 0], .int .u64 n']) (by simp [results, Try.results58, go_sem, r0, r1, r2]) rfl ⟨p1, rfl, hp1, HD1.out, HKF.out⟩
set_option maxRecDepth 100000 in
set_option maxHeartbeats 1000000 in
/-- What follows the first byte is not there. -/
theorem refGetVar_short (w : World) (D : Nat → Prop) (A : Option Addr) (c : Nat) (bs : List UInt8) (p most : Nat) (er : Int) (f : UInt8) (rest : List UInt8) (x m : Nat) (hd : bs.drop p = f :: rest) (hfx : f.toNat = x) (hx : (x = 253 ∧ m = 2) ∨ (x = 254 ∧ m = 4) ∨ (x = 255 ∧ m = 8)) (hlt : rest.length < m) (he : er = 0) (hs : Bytes w D (.slice A bs.length c) bs) (hl : bs.length ≤ lim) (hp : p ≤ bs.length) :
    Calls Try.prog 58 #[.agg #[.slice A bs.length c, .int .i64 p, .int .i64 er], .int .u64 most, .bool false] w (RefGot w (.slice A bs.length c) bs 0 ⟨bs.drop p, 10⟩) := by
  obtain ⟨K0, X0, Y0⟩ := two_boxes w #[.slice A bs.length c, .int .i64 p, .int .i64 er] #[.slice none 0 0, .int .i64 0, .int .i64 0] 67
  subst he
  have h1 : Rs.take ⟨bs.drop p, 0⟩ 1 = ([f], ⟨rest, 0⟩) := by unfold Rs.take; rw [hd]; rw [if_neg (fun h => h rfl), if_neg (by simp)]; rfl
  have G1 := Lib.hid (refGet_any _ D A c bs [f] p 1 0 _ (hs.keep K0 (fun _ _ _ => id)) hl hp (by decide) h1)
  have hnum : num [f] = x := by rw [← hfx]; simp [num]
  rw [hnum] at G1
  have hlen : bs.length - p = rest.length + 1 := by have := congrArg List.length hd; simpa using this
  have h2 : Rs.take ⟨rest, 0⟩ m = ([], ⟨rest, 10⟩) := by unfold Rs.take; rw [if_neg (fun h => h rfl), if_pos hlt]
  have H2 := Lib.hid h2
  clear h2 hlt
  have HK := Lib.hid K0
  have HX := Lib.hid X0
  have HY := Lib.hid Y0
  have HP := Lib.hid hp
  have HLN := Lib.hid hlen
  have HS := Lib.hid hs
  have HL := Lib.hid hl
  clear K0 X0 Y0 h1 hnum hlen hfx hd hs hl
  rcases hx with ⟨rfl, rfl⟩ | ⟨rfl, rfl⟩ | ⟨rfl, rfl⟩
  all_goals
    go_enter Try.func58, Try.ntmps58
    go_wp2_with fail
    refine G1.out.mono ?_
    rintro e w1 ⟨p1, rfl, hp1, hd1, k1⟩
    have K1 := HK.out.trans k1 (fun _ _ h => h)
    have X1 := HX.out.keep k1 id
    have Y1 := HY.out.keep k1 id
    have hp2 : p1 = p + 1 := by
      have h9 := HLN.out
      have := congrArg List.length hd1
      simp only [List.length_drop] at this
      omega
    have HP1 := Lib.hid hp2
    have ka := (Keep.refl noneOf w1).alloc (.cells #[.slice A bs.length c, .int .i64 p1, .int .i64 0] 67)
    have Z2 := Box.new w1 67 #[.slice A bs.length c, .int .i64 p1, .int .i64 0]
    have X2 := X1.keep ka id
    have Y2 := Y1.keep ka id
    have K2 := K1.trans ka (fun _ _ h => h)
    have G2 := Lib.hid (refGet_any _ D A c bs _ p1 _ 0 _ (HS.out.keep K2 (fun _ _ _ => id)) HL.out hp1 (by decide) ((congrArg (fun l => Rs.take ⟨l, 0⟩ _) hd1).trans H2.out))
    have a0 : w1.cell? ⟨w.heap.size, 0, none⟩ = some (.slice A bs.length c) := X1.cell 0
    have a1 : w1.cell? ⟨w.heap.size, 1, none⟩ = some (.int .i64 p) := X1.cell 1
    have a2 : w1.cell? ⟨w.heap.size, 2, none⟩ = some (.int .i64 0) := X1.cell 2
    have b0 : w1.cell? ⟨w.heap.size + 1, 0, none⟩ = some (.slice none 0 0) := Y1.cell 0
    have b1 : w1.cell? ⟨w.heap.size + 1, 1, none⟩ = some (.int .i64 0) := Y1.cell 1
    have b2 : w1.cell? ⟨w.heap.size + 1, 2, none⟩ = some (.int .i64 0) := Y1.cell 2
    have fa0 := X1.free 0
    have fa1 := X1.free 1
    have fa2 := X1.free 2
    have fb0 := Y1.free 0
    have fb1 := Y1.free 1
    have fb2 := Y1.free 2
    have hz0 : w.heap.size < w1.heap.size := X1.lt
    have hz : w.heap.size + 1 < w1.heap.size := Y1.lt
    have hzz : w1.heap.size < (w1.alloc (.cells #[.slice A bs.length c, .int .i64 p1, .int .i64 0] 67)).heap.size := Z2.lt
    clear X1 Y1 K1 k1 hd1 ka hp2 G1
    go_wp2_with fail
    refine G2.out.mono ?_
    rintro e w3 ⟨p2, rfl, hp2, hd2, k3⟩
    have X3 := X2.keep k3 id
    have Y3 := Y2.keep k3 id
    have Z3 := Z2.keep k3 id
    have K3 := K2.trans k3 (fun _ _ h => h)
    have KZ := Keep.put3 (w := w3) w1.heap.size (.slice A bs.length c) (.int .i64 p2) (.int .i64 10)
    have X4 := X3.keep KZ (by omega)
    have Y4 := Y3.keep KZ (by omega)
    have Z4 := Z3.put3 (.slice A bs.length c) (.int .i64 p2) (.int .i64 10)
    have K4 := K3.newer KZ (by omega)
    have d0 : w3.cell? ⟨w1.heap.size, 0, none⟩ = some (.slice A bs.length c) := Z3.cell 0
    have d1 : w3.cell? ⟨w1.heap.size, 1, none⟩ = some (.int .i64 p1) := Z3.cell 1
    have d2 : w3.cell? ⟨w1.heap.size, 2, none⟩ = some (.int .i64 0) := Z3.cell 2
    have fd0 := Z3.free 0
    have fd1 := Z3.free 1
    have fd2 := Z3.free 2
    have a0 : w3.cell? ⟨w.heap.size, 0, none⟩ = some (.slice A bs.length c) := X3.cell 0
    have a1 : w3.cell? ⟨w.heap.size, 1, none⟩ = some (.int .i64 p) := X3.cell 1
    have a2 : w3.cell? ⟨w.heap.size, 2, none⟩ = some (.int .i64 0) := X3.cell 2
    have b0 : w3.cell? ⟨w.heap.size + 1, 0, none⟩ = some (.slice none 0 0) := Y3.cell 0
    have b1 : w3.cell? ⟨w.heap.size + 1, 1, none⟩ = some (.int .i64 0) := Y3.cell 1
    have b2 : w3.cell? ⟨w.heap.size + 1, 2, none⟩ = some (.int .i64 0) := Y3.cell 2
    have fa0 := X3.free 0
    have fa1 := X3.free 1
    have fa2 := X3.free 2
    have fb0 := Y3.free 0
    have fb1 := Y3.free 1
    have fb2 := Y3.free 2
    have hd2' := Lib.hid hd2
    clear X2 Y2 Z2 K2 k3 X3 Y3 Z3 K3 KZ G2 H2 hzz hd2
    have KS := (Keep.refl (fun k => k = w.heap.size) (((w3.setCell ⟨w1.heap.size, 0, none⟩ (.slice A bs.length c)).setCell ⟨w1.heap.size, 1, none⟩ (.int .i64 p2)).setCell ⟨w1.heap.size, 2, none⟩ (.int .i64 10))).setCell (p := ⟨w.heap.size, 2, none⟩) (fun _ => rfl) (.int .i64 10)
    have YS := ((Y4.keep KS (by omega)).put3 (.slice A bs.length c) (.int .i64 p) (.int .i64 10))
    have KF := ((K4.newer KS (Nat.le_refl _)).newer (Keep.put3 (w.heap.size + 1) (.slice A bs.length c) (.int .i64 p) (.int .i64 10)) (Nat.le_succ _))
    have HYS := Lib.hid YS
    have HKF := Lib.hid KF
    clear KS YS KF
    clear X4 Y4 Z4 K4 HS HL HLN HP1 hp1 hp2 hd2' hp HK HX HY
    go_wp2
    generalize ((((((w3.setCell ⟨w1.heap.size, 0, none⟩ (.slice A bs.length c)).setCell ⟨w1.heap.size, 1, none⟩ (.int .i64 p2)).setCell ⟨w1.heap.size, 2, none⟩ (.int .i64 10)).setCell ⟨w.heap.size, 2, none⟩ (.int .i64 10)).setCell ⟨w.heap.size + 1, 0, none⟩ (.slice A bs.length c)).setCell ⟨w.heap.size + 1, 1, none⟩ (.int .i64 p)).setCell ⟨w.heap.size + 1, 2, none⟩ (.int .i64 10) = wf at *
    have r0 : wf.cell? ⟨w.heap.size + 1, 0, none⟩ = some (.slice A bs.length c) := HYS.out.cell 0
    have r1 : wf.cell? ⟨w.heap.size + 1, 1, none⟩ = some (.int .i64 p) := HYS.out.cell 1
    have r2 : wf.cell? ⟨w.heap.size + 1, 2, none⟩ = some (.int .i64 10) := HYS.out.cell 2
    exact bodyPost_ret (v := .tuple #[.agg #[.slice A bs.length c, .int .i64 p, .int .i64 10], .int .u64 0]) (by simp [results, Try.results58, go_sem, r0, r1, r2]) rfl ⟨p, rfl, HP.out, rfl, HKF.out⟩
set_option maxRecDepth 100000 in
set_option maxHeartbeats 1000000 in
/-- What follows the first byte is there. -/
theorem refGetVar_more (w : World) (D : Nat → Prop) (A : Option Addr) (c : Nat) (bs : List UInt8) (p most : Nat) (er : Int) (f : UInt8) (rest : List UInt8) (x m : Nat) (cs2 r2 : List UInt8) (n n' : Nat) (s' : Rs) (hd : bs.drop p = f :: rest) (hfx : f.toNat = x) (hx : (x = 253 ∧ m = 2) ∨ (x = 254 ∧ m = 4) ∨ (x = 255 ∧ m = 8)) (h2 : Rs.take ⟨rest, 0⟩ m = (cs2, ⟨r2, 0⟩)) (hr2 : rest.length = m + r2.length) (hnn : num cs2 = n) (hn64 : (n : Int) < 18446744073709551616) (he : er = 0) (hr : ((varBytes n).length ≠ 1 + m ∧ n' = 0 ∧ s' = ⟨bs.drop p, 11⟩) ∨ ((varBytes n).length = 1 + m ∧ most < n ∧ n' = 0 ∧ s' = ⟨bs.drop p, 12⟩) ∨ ((varBytes n).length = 1 + m ∧ n ≤ most ∧ n' = n ∧ s' = ⟨r2, 0⟩)) (hs : Bytes w D (.slice A bs.length c) bs) (hl : bs.length ≤ lim) (hp : p ≤ bs.length) :
    Calls Try.prog 58 #[.agg #[.slice A bs.length c, .int .i64 p, .int .i64 er], .int .u64 most, .bool false] w (RefGot w (.slice A bs.length c) bs n' s') := by
  obtain ⟨K0, X0, Y0⟩ := two_boxes w #[.slice A bs.length c, .int .i64 p, .int .i64 er] #[.slice none 0 0, .int .i64 0, .int .i64 0] 67
  subst he
  have h1 : Rs.take ⟨bs.drop p, 0⟩ 1 = ([f], ⟨rest, 0⟩) := by unfold Rs.take; rw [hd]; rw [if_neg (fun h => h rfl), if_neg (by simp)]; rfl
  have G1 := Lib.hid (refGet_any _ D A c bs [f] p 1 0 _ (hs.keep K0 (fun _ _ _ => id)) hl hp (by decide) h1)
  have hnum : num [f] = x := by rw [← hfx]; simp [num]
  rw [hnum] at G1
  have hlen : bs.length - p = rest.length + 1 := by have := congrArg List.length hd; simpa using this
  have H2 := Lib.hid h2
  have HR2 := Lib.hid hr2
  have HNN := Lib.hid hnn
  have HN := Lib.hid hn64
  have HR := Lib.hid hr
  clear h2 hr2 hnn hn64 hr
  have HK := Lib.hid K0
  have HX := Lib.hid X0
  have HY := Lib.hid Y0
  have HP := Lib.hid hp
  have HLN := Lib.hid hlen
  have HS := Lib.hid hs
  have HL := Lib.hid hl
  clear K0 X0 Y0 h1 hnum hlen hfx hd hs hl
  rcases hx with ⟨rfl, rfl⟩ | ⟨rfl, rfl⟩ | ⟨rfl, rfl⟩
  · go_enter Try.func58, Try.ntmps58
    go_wp2_with fail
    refine G1.out.mono ?_
    rintro e w1 ⟨p1, rfl, hp1, hd1, k1⟩
    have K1 := HK.out.trans k1 (fun _ _ h => h)
    have X1 := HX.out.keep k1 id
    have Y1 := HY.out.keep k1 id
    have hp2 : p1 = p + 1 := by
      have h9 := HLN.out
      have := congrArg List.length hd1
      simp only [List.length_drop] at this
      omega
    have HP1 := Lib.hid hp2
    have ka := (Keep.refl noneOf w1).alloc (.cells #[.slice A bs.length c, .int .i64 p1, .int .i64 0] 67)
    have Z2 := Box.new w1 67 #[.slice A bs.length c, .int .i64 p1, .int .i64 0]
    have X2 := X1.keep ka id
    have Y2 := Y1.keep ka id
    have K2 := K1.trans ka (fun _ _ h => h)
    have G2 := Lib.hid (refGet_any _ D A c bs _ p1 _ 0 _ (HS.out.keep K2 (fun _ _ _ => id)) HL.out hp1 (by decide) ((congrArg (fun l => Rs.take ⟨l, 0⟩ _) hd1).trans H2.out))
    have a0 : w1.cell? ⟨w.heap.size, 0, none⟩ = some (.slice A bs.length c) := X1.cell 0
    have a1 : w1.cell? ⟨w.heap.size, 1, none⟩ = some (.int .i64 p) := X1.cell 1
    have a2 : w1.cell? ⟨w.heap.size, 2, none⟩ = some (.int .i64 0) := X1.cell 2
    have b0 : w1.cell? ⟨w.heap.size + 1, 0, none⟩ = some (.slice none 0 0) := Y1.cell 0
    have b1 : w1.cell? ⟨w.heap.size + 1, 1, none⟩ = some (.int .i64 0) := Y1.cell 1
    have b2 : w1.cell? ⟨w.heap.size + 1, 2, none⟩ = some (.int .i64 0) := Y1.cell 2
    have fa0 := X1.free 0
    have fa1 := X1.free 1
    have fa2 := X1.free 2
    have fb0 := Y1.free 0
    have fb1 := Y1.free 1
    have fb2 := Y1.free 2
    have hz0 : w.heap.size < w1.heap.size := X1.lt
    have hz : w.heap.size + 1 < w1.heap.size := Y1.lt
    have hzz : w1.heap.size < (w1.alloc (.cells #[.slice A bs.length c, .int .i64 p1, .int .i64 0] 67)).heap.size := Z2.lt
    rw [HNN.out] at G2
    clear X1 Y1 K1 k1 hd1 ka hp2 G1 HNN
    go_wp2_with fail
    refine G2.out.mono ?_
    rintro e w3 ⟨p2, rfl, hp2, hd2, k3⟩
    have X3 := X2.keep k3 id
    have Y3 := Y2.keep k3 id
    have Z3 := Z2.keep k3 id
    have K3 := K2.trans k3 (fun _ _ h => h)
    have KZ := Keep.put3 (w := w3) w1.heap.size (.slice A bs.length c) (.int .i64 p2) (.int .i64 0)
    have X4 := X3.keep KZ (by omega)
    have Y4 := Y3.keep KZ (by omega)
    have Z4 := Z3.put3 (.slice A bs.length c) (.int .i64 p2) (.int .i64 0)
    have K4 := K3.newer KZ (by omega)
    have d0 : w3.cell? ⟨w1.heap.size, 0, none⟩ = some (.slice A bs.length c) := Z3.cell 0
    have d1 : w3.cell? ⟨w1.heap.size, 1, none⟩ = some (.int .i64 p1) := Z3.cell 1
    have d2 : w3.cell? ⟨w1.heap.size, 2, none⟩ = some (.int .i64 0) := Z3.cell 2
    have fd0 := Z3.free 0
    have fd1 := Z3.free 1
    have fd2 := Z3.free 2
    have a0 : w3.cell? ⟨w.heap.size, 0, none⟩ = some (.slice A bs.length c) := X3.cell 0
    have a1 : w3.cell? ⟨w.heap.size, 1, none⟩ = some (.int .i64 p) := X3.cell 1
    have a2 : w3.cell? ⟨w.heap.size, 2, none⟩ = some (.int .i64 0) := X3.cell 2
    have b0 : w3.cell? ⟨w.heap.size + 1, 0, none⟩ = some (.slice none 0 0) := Y3.cell 0
    have b1 : w3.cell? ⟨w.heap.size + 1, 1, none⟩ = some (.int .i64 0) := Y3.cell 1
    have b2 : w3.cell? ⟨w.heap.size + 1, 2, none⟩ = some (.int .i64 0) := Y3.cell 2
    have fa0 := X3.free 0
    have fa1 := X3.free 1
    have fa2 := X3.free 2
    have fb0 := Y3.free 0
    have fb1 := Y3.free 1
    have fb2 := Y3.free 2
    have hd2' := Lib.hid hd2
    clear X2 Y2 Z2 K2 k3 X3 Y3 Z3 K3 KZ G2 H2 hzz hd2
    have hpp : p2 = p + 1 + 2 := by
      have h7 := congrArg List.length hd2'.out
      simp only [List.length_drop] at h7
      have h8 := HR2.out
      have h9 := HLN.out
      omega
    have HPP := Lib.hid hpp
    clear hpp
    go_wp2
    generalize ((w3.setCell ⟨w1.heap.size, 0, none⟩ (.slice A bs.length c)).setCell ⟨w1.heap.size, 1, none⟩ (.int .i64 p2)).setCell ⟨w1.heap.size, 2, none⟩ (.int .i64 0) = w5 at *
    have X5 := X4
    have Y5 := Y4
    have Z5 := Z4
    have K5 := K4
    clear X4 Y4 Z4 K4
    have MK : Hid (∀ w', Keep noneOf w5 w' → w'.cell? ⟨w1.heap.size, 1, none⟩ = some (.int .i64 p2) ∧ w'.cell? ⟨w.heap.size, 1, none⟩ = some (.int .i64 p)) := fun w' k => ⟨(Z5.keep k id).cell 1, (X5.keep k id).cell 1⟩
    have K55 := Keep.refl noneOf w5
    have HX5 := Lib.hid X5
    have HY5 := Lib.hid Y5
    have HZ5 := Lib.hid Z5
    clear X5 Y5 Z5
    go_region_held3 (fun w' => Keep noneOf w5 w' ∧ w'.cell? ⟨w1.heap.size, 1, none⟩ = some (.int .i64 p2) ∧ w'.cell? ⟨w.heap.size, 1, none⟩ = some (.int .i64 p)) (first | exact ⟨K55.drew, MK.out _ K55.drew⟩ | (refine (fun k => ⟨k, MK.out _ k⟩) ?_; exact Keep.trans (And.left (by assumption)) (Fresh.keep (by assumption)) (fun _ _ h => h)))
      (first | (go_at_call 53; refine (refVar_any _ n HN.out).mono ?_; rintro e w' ⟨A', c', rfl, F'⟩))
    have k4 : Keep noneOf w5 w' := K55.drew.trans F'.keep (fun _ _ h => h)
    have X4 := HX5.out.keep k4 id
    have Y4 := HY5.out.keep k4 id
    have Z4 := HZ5.out.keep k4 id
    have K4 := K5.trans k4 (fun _ _ h => h)
    have x0 : w'.cell? ⟨w.heap.size, 0, none⟩ = some (.slice A bs.length c) := X4.cell 0
    have x1 : w'.cell? ⟨w.heap.size, 1, none⟩ = some (.int .i64 p) := X4.cell 1
    have x2 : w'.cell? ⟨w.heap.size, 2, none⟩ = some (.int .i64 0) := X4.cell 2
    have y0 : w'.cell? ⟨w.heap.size + 1, 0, none⟩ = some (.slice none 0 0) := Y4.cell 0
    have y1 : w'.cell? ⟨w.heap.size + 1, 1, none⟩ = some (.int .i64 0) := Y4.cell 1
    have y2 : w'.cell? ⟨w.heap.size + 1, 2, none⟩ = some (.int .i64 0) := Y4.cell 2
    have z0 : w'.cell? ⟨w1.heap.size, 0, none⟩ = some (.slice A bs.length c) := Z4.cell 0
    have z1 : w'.cell? ⟨w1.heap.size, 1, none⟩ = some (.int .i64 p2) := Z4.cell 1
    have z2 : w'.cell? ⟨w1.heap.size, 2, none⟩ = some (.int .i64 0) := Z4.cell 2
    have gx0 := X4.free 0
    have gx1 := X4.free 1
    have gx2 := X4.free 2
    have gy0 := Y4.free 0
    have gy1 := Y4.free 1
    have gy2 := Y4.free 2
    clear MK K55 HX5 HY5 HZ5 F' k4 K5
    generalize (varBytes n).length = L at *
    have hwr : IntKind.i64.wrap ((p2 : Int) - (p : Int)) = 1 + 2 := by have h2 := HPP.out; rw [IntWalk.i64_in _ (by omega)]; omega
    rw [hwr]
    clear hwr HPP
    rcases HR.out with ⟨hv, rfl, rfl⟩ | ⟨hv, hm, rfl, rfl⟩ | ⟨hv, hm, hn', rfl⟩
    · have hbl : ((L : Int) != 1 + 2) = true := by rw [bne_iff_ne]; omega
      rw [hbl]
      have KS := (Keep.refl (fun k => k = w.heap.size) (w')).setCell (p := ⟨w.heap.size, 2, none⟩) (fun _ => rfl) (.int .i64 11)
      have YS := ((Y4.keep KS (by omega)).put3 (.slice A bs.length c) (.int .i64 p) (.int .i64 11))
      have KF := ((K4.newer KS (Nat.le_refl _)).newer (Keep.put3 (w.heap.size + 1) (.slice A bs.length c) (.int .i64 p) (.int .i64 11)) (Nat.le_succ _))
      have HYS := Lib.hid YS
      have HKF := Lib.hid KF
      clear KS YS KF
      clear hbl hv X4 Y4 Z4 K4 HR HS HL HLN HP1 hp1 hp HK HX HY HN HR2 a0 a1 a2 b0 b1 b2 d0 d1 d2 fa0 fa1 fa2 fb0 fb1 fb2 fd0 fd1 fd2
      go_wp2
      generalize ((((w').setCell ⟨w.heap.size, 2, none⟩ (.int .i64 11)).setCell ⟨w.heap.size + 1, 0, none⟩ (.slice A bs.length c)).setCell ⟨w.heap.size + 1, 1, none⟩ (.int .i64 p)).setCell ⟨w.heap.size + 1, 2, none⟩ (.int .i64 11) = wf at *
      have r0 : wf.cell? ⟨w.heap.size + 1, 0, none⟩ = some (.slice A bs.length c) := HYS.out.cell 0
      have r1 : wf.cell? ⟨w.heap.size + 1, 1, none⟩ = some (.int .i64 p) := HYS.out.cell 1
      have r2 : wf.cell? ⟨w.heap.size + 1, 2, none⟩ = some (.int .i64 11) := HYS.out.cell 2
      exact bodyPost_ret (v := .tuple #[.agg #[.slice A bs.length c, .int .i64 p, .int .i64 11], .int .u64 0]) (by simp [results, Try.results58, go_sem, r0, r1, r2]) rfl ⟨p, rfl, HP.out, rfl, HKF.out⟩
    · have hbl : ((L : Int) != 1 + 2) = false := by rw [bne_eq_false_iff_eq]; omega
      rw [hbl]
      have g2 : decide (most < n) = true := decide_eq_true hm
      have KS := (Keep.refl (fun k => k = w.heap.size) (w')).setCell (p := ⟨w.heap.size, 2, none⟩) (fun _ => rfl) (.int .i64 12)
      have YS := ((Y4.keep KS (by omega)).put3 (.slice A bs.length c) (.int .i64 p) (.int .i64 12))
      have KF := ((K4.newer KS (Nat.le_refl _)).newer (Keep.put3 (w.heap.size + 1) (.slice A bs.length c) (.int .i64 p) (.int .i64 12)) (Nat.le_succ _))
      have HYS := Lib.hid YS
      have HKF := Lib.hid KF
      clear KS YS KF
      clear hbl hv hm X4 Y4 Z4 K4 HR HS HL HLN HP1 hp1 hp HK HX HY HN HR2 a0 a1 a2 b0 b1 b2 d0 d1 d2 fa0 fa1 fa2 fb0 fb1 fb2 fd0 fd1 fd2
      go_wp2
      generalize ((((w').setCell ⟨w.heap.size, 2, none⟩ (.int .i64 12)).setCell ⟨w.heap.size + 1, 0, none⟩ (.slice A bs.length c)).setCell ⟨w.heap.size + 1, 1, none⟩ (.int .i64 p)).setCell ⟨w.heap.size + 1, 2, none⟩ (.int .i64 12) = wf at *
      have r0 : wf.cell? ⟨w.heap.size + 1, 0, none⟩ = some (.slice A bs.length c) := HYS.out.cell 0
      have r1 : wf.cell? ⟨w.heap.size + 1, 1, none⟩ = some (.int .i64 p) := HYS.out.cell 1
      have r2 : wf.cell? ⟨w.heap.size + 1, 2, none⟩ = some (.int .i64 12) := HYS.out.cell 2
      exact bodyPost_ret (v := .tuple #[.agg #[.slice A bs.length c, .int .i64 p, .int .i64 12], .int .u64 0]) (by simp [results, Try.results58, go_sem, r0, r1, r2]) rfl ⟨p, rfl, HP.out, rfl, HKF.out⟩
    · obtain rfl : n' = n := hn'
      have hbl : ((L : Int) != 1 + 2) = false := by rw [bne_eq_false_iff_eq]; omega
      rw [hbl]
      have g2 : decide (most < n') = false := decide_eq_false (by omega)
      have YS := Y4.put3 (.slice A bs.length c) (.int .i64 p2) (.int .i64 0)
      have KF := K4.newer (Keep.put3 (w.heap.size + 1) (.slice A bs.length c) (.int .i64 p2) (.int .i64 0)) (Nat.le_succ _)
      have HYS := Lib.hid YS
      have HKF := Lib.hid KF
      clear YS KF
      clear hbl hv hm X4 Y4 Z4 K4 HR HS HL HLN HP1 hp1 hp HK HX HY HN HR2 a0 a1 a2 b0 b1 b2 d0 d1 d2 fa0 fa1 fa2 fb0 fb1 fb2 fd0 fd1 fd2
      go_wp2
      generalize (((w').setCell ⟨w.heap.size + 1, 0, none⟩ (.slice A bs.length c)).setCell ⟨w.heap.size + 1, 1, none⟩ (.int .i64 p2)).setCell ⟨w.heap.size + 1, 2, none⟩ (.int .i64 0) = wf at *
      have r0 : wf.cell? ⟨w.heap.size + 1, 0, none⟩ = some (.slice A bs.length c) := HYS.out.cell 0
      have r1 : wf.cell? ⟨w.heap.size + 1, 1, none⟩ = some (.int .i64 p2) := HYS.out.cell 1
      have r2 : wf.cell? ⟨w.heap.size + 1, 2, none⟩ = some (.int .i64 0) := HYS.out.cell 2
      exact bodyPost_ret (v := .tuple #[.agg #[.slice A bs.length c, .int .i64 p2, .int .i64 0], .int .u64 n']) (by simp [results, Try.results58, go_sem, r0, r1, r2]) rfl ⟨p2, rfl, hp2, hd2'.out, HKF.out⟩
  · go_enter Try.func58, Try.ntmps58
    go_wp2_with fail
    refine G1.out.mono ?_
    rintro e w1 ⟨p1, rfl, hp1, hd1, k1⟩
    have K1 := HK.out.trans k1 (fun _ _ h => h)
    have X1 := HX.out.keep k1 id
    have Y1 := HY.out.keep k1 id
    have hp2 : p1 = p + 1 := by
      have h9 := HLN.out
      have := congrArg List.length hd1
      simp only [List.length_drop] at this
      omega
    have HP1 := Lib.hid hp2
    have ka := (Keep.refl noneOf w1).alloc (.cells #[.slice A bs.length c, .int .i64 p1, .int .i64 0] 67)
    have Z2 := Box.new w1 67 #[.slice A bs.length c, .int .i64 p1, .int .i64 0]
    have X2 := X1.keep ka id
    have Y2 := Y1.keep ka id
    have K2 := K1.trans ka (fun _ _ h => h)
    have G2 := Lib.hid (refGet_any _ D A c bs _ p1 _ 0 _ (HS.out.keep K2 (fun _ _ _ => id)) HL.out hp1 (by decide) ((congrArg (fun l => Rs.take ⟨l, 0⟩ _) hd1).trans H2.out))
    have a0 : w1.cell? ⟨w.heap.size, 0, none⟩ = some (.slice A bs.length c) := X1.cell 0
    have a1 : w1.cell? ⟨w.heap.size, 1, none⟩ = some (.int .i64 p) := X1.cell 1
    have a2 : w1.cell? ⟨w.heap.size, 2, none⟩ = some (.int .i64 0) := X1.cell 2
    have b0 : w1.cell? ⟨w.heap.size + 1, 0, none⟩ = some (.slice none 0 0) := Y1.cell 0
    have b1 : w1.cell? ⟨w.heap.size + 1, 1, none⟩ = some (.int .i64 0) := Y1.cell 1
    have b2 : w1.cell? ⟨w.heap.size + 1, 2, none⟩ = some (.int .i64 0) := Y1.cell 2
    have fa0 := X1.free 0
    have fa1 := X1.free 1
    have fa2 := X1.free 2
    have fb0 := Y1.free 0
    have fb1 := Y1.free 1
    have fb2 := Y1.free 2
    have hz0 : w.heap.size < w1.heap.size := X1.lt
    have hz : w.heap.size + 1 < w1.heap.size := Y1.lt
    have hzz : w1.heap.size < (w1.alloc (.cells #[.slice A bs.length c, .int .i64 p1, .int .i64 0] 67)).heap.size := Z2.lt
    rw [HNN.out] at G2
    clear X1 Y1 K1 k1 hd1 ka hp2 G1 HNN
    go_wp2_with fail
    refine G2.out.mono ?_
    rintro e w3 ⟨p2, rfl, hp2, hd2, k3⟩
    have X3 := X2.keep k3 id
    have Y3 := Y2.keep k3 id
    have Z3 := Z2.keep k3 id
    have K3 := K2.trans k3 (fun _ _ h => h)
    have KZ := Keep.put3 (w := w3) w1.heap.size (.slice A bs.length c) (.int .i64 p2) (.int .i64 0)
    have X4 := X3.keep KZ (by omega)
    have Y4 := Y3.keep KZ (by omega)
    have Z4 := Z3.put3 (.slice A bs.length c) (.int .i64 p2) (.int .i64 0)
    have K4 := K3.newer KZ (by omega)
    have d0 : w3.cell? ⟨w1.heap.size, 0, none⟩ = some (.slice A bs.length c) := Z3.cell 0
    have d1 : w3.cell? ⟨w1.heap.size, 1, none⟩ = some (.int .i64 p1) := Z3.cell 1
    have d2 : w3.cell? ⟨w1.heap.size, 2, none⟩ = some (.int .i64 0) := Z3.cell 2
    have fd0 := Z3.free 0
    have fd1 := Z3.free 1
    have fd2 := Z3.free 2
    have a0 : w3.cell? ⟨w.heap.size, 0, none⟩ = some (.slice A bs.length c) := X3.cell 0
    have a1 : w3.cell? ⟨w.heap.size, 1, none⟩ = some (.int .i64 p) := X3.cell 1
    have a2 : w3.cell? ⟨w.heap.size, 2, none⟩ = some (.int .i64 0) := X3.cell 2
    have b0 : w3.cell? ⟨w.heap.size + 1, 0, none⟩ = some (.slice none 0 0) := Y3.cell 0
    have b1 : w3.cell? ⟨w.heap.size + 1, 1, none⟩ = some (.int .i64 0) := Y3.cell 1
    have b2 : w3.cell? ⟨w.heap.size + 1, 2, none⟩ = some (.int .i64 0) := Y3.cell 2
    have fa0 := X3.free 0
    have fa1 := X3.free 1
    have fa2 := X3.free 2
    have fb0 := Y3.free 0
    have fb1 := Y3.free 1
    have fb2 := Y3.free 2
    have hd2' := Lib.hid hd2
    clear X2 Y2 Z2 K2 k3 X3 Y3 Z3 K3 KZ G2 H2 hzz hd2
    have hpp : p2 = p + 1 + 4 := by
      have h7 := congrArg List.length hd2'.out
      simp only [List.length_drop] at h7
      have h8 := HR2.out
      have h9 := HLN.out
      omega
    have HPP := Lib.hid hpp
    clear hpp
    go_wp2
    generalize ((w3.setCell ⟨w1.heap.size, 0, none⟩ (.slice A bs.length c)).setCell ⟨w1.heap.size, 1, none⟩ (.int .i64 p2)).setCell ⟨w1.heap.size, 2, none⟩ (.int .i64 0) = w5 at *
    have X5 := X4
    have Y5 := Y4
    have Z5 := Z4
    have K5 := K4
    clear X4 Y4 Z4 K4
    have MK : Hid (∀ w', Keep noneOf w5 w' → w'.cell? ⟨w1.heap.size, 1, none⟩ = some (.int .i64 p2) ∧ w'.cell? ⟨w.heap.size, 1, none⟩ = some (.int .i64 p)) := fun w' k => ⟨(Z5.keep k id).cell 1, (X5.keep k id).cell 1⟩
    have K55 := Keep.refl noneOf w5
    have HX5 := Lib.hid X5
    have HY5 := Lib.hid Y5
    have HZ5 := Lib.hid Z5
    clear X5 Y5 Z5
    go_region_held3 (fun w' => Keep noneOf w5 w' ∧ w'.cell? ⟨w1.heap.size, 1, none⟩ = some (.int .i64 p2) ∧ w'.cell? ⟨w.heap.size, 1, none⟩ = some (.int .i64 p)) (first | exact ⟨K55.drew, MK.out _ K55.drew⟩ | (refine (fun k => ⟨k, MK.out _ k⟩) ?_; exact Keep.trans (And.left (by assumption)) (Fresh.keep (by assumption)) (fun _ _ h => h)))
      (first | (go_at_call 53; refine (refVar_any _ n HN.out).mono ?_; rintro e w' ⟨A', c', rfl, F'⟩))
    have k4 : Keep noneOf w5 w' := K55.drew.trans F'.keep (fun _ _ h => h)
    have X4 := HX5.out.keep k4 id
    have Y4 := HY5.out.keep k4 id
    have Z4 := HZ5.out.keep k4 id
    have K4 := K5.trans k4 (fun _ _ h => h)
    have x0 : w'.cell? ⟨w.heap.size, 0, none⟩ = some (.slice A bs.length c) := X4.cell 0
    have x1 : w'.cell? ⟨w.heap.size, 1, none⟩ = some (.int .i64 p) := X4.cell 1
    have x2 : w'.cell? ⟨w.heap.size, 2, none⟩ = some (.int .i64 0) := X4.cell 2
    have y0 : w'.cell? ⟨w.heap.size + 1, 0, none⟩ = some (.slice none 0 0) := Y4.cell 0
    have y1 : w'.cell? ⟨w.heap.size + 1, 1, none⟩ = some (.int .i64 0) := Y4.cell 1
    have y2 : w'.cell? ⟨w.heap.size + 1, 2, none⟩ = some (.int .i64 0) := Y4.cell 2
    have z0 : w'.cell? ⟨w1.heap.size, 0, none⟩ = some (.slice A bs.length c) := Z4.cell 0
    have z1 : w'.cell? ⟨w1.heap.size, 1, none⟩ = some (.int .i64 p2) := Z4.cell 1
    have z2 : w'.cell? ⟨w1.heap.size, 2, none⟩ = some (.int .i64 0) := Z4.cell 2
    have gx0 := X4.free 0
    have gx1 := X4.free 1
    have gx2 := X4.free 2
    have gy0 := Y4.free 0
    have gy1 := Y4.free 1
    have gy2 := Y4.free 2
    clear MK K55 HX5 HY5 HZ5 F' k4 K5
    generalize (varBytes n).length = L at *
    have hwr : IntKind.i64.wrap ((p2 : Int) - (p : Int)) = 1 + 4 := by have h2 := HPP.out; rw [IntWalk.i64_in _ (by omega)]; omega
    rw [hwr]
    clear hwr HPP
    rcases HR.out with ⟨hv, rfl, rfl⟩ | ⟨hv, hm, rfl, rfl⟩ | ⟨hv, hm, hn', rfl⟩
    · have hbl : ((L : Int) != 1 + 4) = true := by rw [bne_iff_ne]; omega
      rw [hbl]
      have KS := (Keep.refl (fun k => k = w.heap.size) (w')).setCell (p := ⟨w.heap.size, 2, none⟩) (fun _ => rfl) (.int .i64 11)
      have YS := ((Y4.keep KS (by omega)).put3 (.slice A bs.length c) (.int .i64 p) (.int .i64 11))
      have KF := ((K4.newer KS (Nat.le_refl _)).newer (Keep.put3 (w.heap.size + 1) (.slice A bs.length c) (.int .i64 p) (.int .i64 11)) (Nat.le_succ _))
      have HYS := Lib.hid YS
      have HKF := Lib.hid KF
      clear KS YS KF
      clear hbl hv X4 Y4 Z4 K4 HR HS HL HLN HP1 hp1 hp HK HX HY HN HR2 a0 a1 a2 b0 b1 b2 d0 d1 d2 fa0 fa1 fa2 fb0 fb1 fb2 fd0 fd1 fd2
      go_wp2
      generalize ((((w').setCell ⟨w.heap.size, 2, none⟩ (.int .i64 11)).setCell ⟨w.heap.size + 1, 0, none⟩ (.slice A bs.length c)).setCell ⟨w.heap.size + 1, 1, none⟩ (.int .i64 p)).setCell ⟨w.heap.size + 1, 2, none⟩ (.int .i64 11) = wf at *
      have r0 : wf.cell? ⟨w.heap.size + 1, 0, none⟩ = some (.slice A bs.length c) := HYS.out.cell 0
      have r1 : wf.cell? ⟨w.heap.size + 1, 1, none⟩ = some (.int .i64 p) := HYS.out.cell 1
      have r2 : wf.cell? ⟨w.heap.size + 1, 2, none⟩ = some (.int .i64 11) := HYS.out.cell 2
      exact bodyPost_ret (v := .tuple #[.agg #[.slice A bs.length c, .int .i64 p, .int .i64 11], .int .u64 0]) (by simp [results, Try.results58, go_sem, r0, r1, r2]) rfl ⟨p, rfl, HP.out, rfl, HKF.out⟩
    · have hbl : ((L : Int) != 1 + 4) = false := by rw [bne_eq_false_iff_eq]; omega
      rw [hbl]
      have g2 : decide (most < n) = true := decide_eq_true hm
      have KS := (Keep.refl (fun k => k = w.heap.size) (w')).setCell (p := ⟨w.heap.size, 2, none⟩) (fun _ => rfl) (.int .i64 12)
      have YS := ((Y4.keep KS (by omega)).put3 (.slice A bs.length c) (.int .i64 p) (.int .i64 12))
      have KF := ((K4.newer KS (Nat.le_refl _)).newer (Keep.put3 (w.heap.size + 1) (.slice A bs.length c) (.int .i64 p) (.int .i64 12)) (Nat.le_succ _))
      have HYS := Lib.hid YS
      have HKF := Lib.hid KF
      clear KS YS KF
      clear hbl hv hm X4 Y4 Z4 K4 HR HS HL HLN HP1 hp1 hp HK HX HY HN HR2 a0 a1 a2 b0 b1 b2 d0 d1 d2 fa0 fa1 fa2 fb0 fb1 fb2 fd0 fd1 fd2
      go_wp2
      generalize ((((w').setCell ⟨w.heap.size, 2, none⟩ (.int .i64 12)).setCell ⟨w.heap.size + 1, 0, none⟩ (.slice A bs.length c)).setCell ⟨w.heap.size + 1, 1, none⟩ (.int .i64 p)).setCell ⟨w.heap.size + 1, 2, none⟩ (.int .i64 12) = wf at *
      have r0 : wf.cell? ⟨w.heap.size + 1, 0, none⟩ = some (.slice A bs.length c) := HYS.out.cell 0
      have r1 : wf.cell? ⟨w.heap.size + 1, 1, none⟩ = some (.int .i64 p) := HYS.out.cell 1
      have r2 : wf.cell? ⟨w.heap.size + 1, 2, none⟩ = some (.int .i64 12) := HYS.out.cell 2
      exact bodyPost_ret (v := .tuple #[.agg #[.slice A bs.length c, .int .i64 p, .int .i64 12], .int .u64 0]) (by simp [results, Try.results58, go_sem, r0, r1, r2]) rfl ⟨p, rfl, HP.out, rfl, HKF.out⟩
    · obtain rfl : n' = n := hn'
      have hbl : ((L : Int) != 1 + 4) = false := by rw [bne_eq_false_iff_eq]; omega
      rw [hbl]
      have g2 : decide (most < n') = false := decide_eq_false (by omega)
      have YS := Y4.put3 (.slice A bs.length c) (.int .i64 p2) (.int .i64 0)
      have KF := K4.newer (Keep.put3 (w.heap.size + 1) (.slice A bs.length c) (.int .i64 p2) (.int .i64 0)) (Nat.le_succ _)
      have HYS := Lib.hid YS
      have HKF := Lib.hid KF
      clear YS KF
      clear hbl hv hm X4 Y4 Z4 K4 HR HS HL HLN HP1 hp1 hp HK HX HY HN HR2 a0 a1 a2 b0 b1 b2 d0 d1 d2 fa0 fa1 fa2 fb0 fb1 fb2 fd0 fd1 fd2
      go_wp2
      generalize (((w').setCell ⟨w.heap.size + 1, 0, none⟩ (.slice A bs.length c)).setCell ⟨w.heap.size + 1, 1, none⟩ (.int .i64 p2)).setCell ⟨w.heap.size + 1, 2, none⟩ (.int .i64 0) = wf at *
      have r0 : wf.cell? ⟨w.heap.size + 1, 0, none⟩ = some (.slice A bs.length c) := HYS.out.cell 0
      have r1 : wf.cell? ⟨w.heap.size + 1, 1, none⟩ = some (.int .i64 p2) := HYS.out.cell 1
      have r2 : wf.cell? ⟨w.heap.size + 1, 2, none⟩ = some (.int .i64 0) := HYS.out.cell 2
      exact bodyPost_ret (v := .tuple #[.agg #[.slice A bs.length c, .int .i64 p2, .int .i64 0], .int .u64 n']) (by simp [results, Try.results58, go_sem, r0, r1, r2]) rfl ⟨p2, rfl, hp2, hd2'.out, HKF.out⟩
  · go_enter Try.func58, Try.ntmps58
    go_wp2_with fail
    refine G1.out.mono ?_
    rintro e w1 ⟨p1, rfl, hp1, hd1, k1⟩
    have K1 := HK.out.trans k1 (fun _ _ h => h)
    have X1 := HX.out.keep k1 id
    have Y1 := HY.out.keep k1 id
    have hp2 : p1 = p + 1 := by
      have h9 := HLN.out
      have := congrArg List.length hd1
      simp only [List.length_drop] at this
      omega
    have HP1 := Lib.hid hp2
    have ka := (Keep.refl noneOf w1).alloc (.cells #[.slice A bs.length c, .int .i64 p1, .int .i64 0] 67)
    have Z2 := Box.new w1 67 #[.slice A bs.length c, .int .i64 p1, .int .i64 0]
    have X2 := X1.keep ka id
    have Y2 := Y1.keep ka id
    have K2 := K1.trans ka (fun _ _ h => h)
    have G2 := Lib.hid (refGet_any _ D A c bs _ p1 _ 0 _ (HS.out.keep K2 (fun _ _ _ => id)) HL.out hp1 (by decide) ((congrArg (fun l => Rs.take ⟨l, 0⟩ _) hd1).trans H2.out))
    have a0 : w1.cell? ⟨w.heap.size, 0, none⟩ = some (.slice A bs.length c) := X1.cell 0
    have a1 : w1.cell? ⟨w.heap.size, 1, none⟩ = some (.int .i64 p) := X1.cell 1
    have a2 : w1.cell? ⟨w.heap.size, 2, none⟩ = some (.int .i64 0) := X1.cell 2
    have b0 : w1.cell? ⟨w.heap.size + 1, 0, none⟩ = some (.slice none 0 0) := Y1.cell 0
    have b1 : w1.cell? ⟨w.heap.size + 1, 1, none⟩ = some (.int .i64 0) := Y1.cell 1
    have b2 : w1.cell? ⟨w.heap.size + 1, 2, none⟩ = some (.int .i64 0) := Y1.cell 2
    have fa0 := X1.free 0
    have fa1 := X1.free 1
    have fa2 := X1.free 2
    have fb0 := Y1.free 0
    have fb1 := Y1.free 1
    have fb2 := Y1.free 2
    have hz0 : w.heap.size < w1.heap.size := X1.lt
    have hz : w.heap.size + 1 < w1.heap.size := Y1.lt
    have hzz : w1.heap.size < (w1.alloc (.cells #[.slice A bs.length c, .int .i64 p1, .int .i64 0] 67)).heap.size := Z2.lt
    rw [HNN.out] at G2
    clear X1 Y1 K1 k1 hd1 ka hp2 G1 HNN
    go_wp2_with fail
    refine G2.out.mono ?_
    rintro e w3 ⟨p2, rfl, hp2, hd2, k3⟩
    have X3 := X2.keep k3 id
    have Y3 := Y2.keep k3 id
    have Z3 := Z2.keep k3 id
    have K3 := K2.trans k3 (fun _ _ h => h)
    have KZ := Keep.put3 (w := w3) w1.heap.size (.slice A bs.length c) (.int .i64 p2) (.int .i64 0)
    have X4 := X3.keep KZ (by omega)
    have Y4 := Y3.keep KZ (by omega)
    have Z4 := Z3.put3 (.slice A bs.length c) (.int .i64 p2) (.int .i64 0)
    have K4 := K3.newer KZ (by omega)
    have d0 : w3.cell? ⟨w1.heap.size, 0, none⟩ = some (.slice A bs.length c) := Z3.cell 0
    have d1 : w3.cell? ⟨w1.heap.size, 1, none⟩ = some (.int .i64 p1) := Z3.cell 1
    have d2 : w3.cell? ⟨w1.heap.size, 2, none⟩ = some (.int .i64 0) := Z3.cell 2
    have fd0 := Z3.free 0
    have fd1 := Z3.free 1
    have fd2 := Z3.free 2
    have a0 : w3.cell? ⟨w.heap.size, 0, none⟩ = some (.slice A bs.length c) := X3.cell 0
    have a1 : w3.cell? ⟨w.heap.size, 1, none⟩ = some (.int .i64 p) := X3.cell 1
    have a2 : w3.cell? ⟨w.heap.size, 2, none⟩ = some (.int .i64 0) := X3.cell 2
    have b0 : w3.cell? ⟨w.heap.size + 1, 0, none⟩ = some (.slice none 0 0) := Y3.cell 0
    have b1 : w3.cell? ⟨w.heap.size + 1, 1, none⟩ = some (.int .i64 0) := Y3.cell 1
    have b2 : w3.cell? ⟨w.heap.size + 1, 2, none⟩ = some (.int .i64 0) := Y3.cell 2
    have fa0 := X3.free 0
    have fa1 := X3.free 1
    have fa2 := X3.free 2
    have fb0 := Y3.free 0
    have fb1 := Y3.free 1
    have fb2 := Y3.free 2
    have hd2' := Lib.hid hd2
    clear X2 Y2 Z2 K2 k3 X3 Y3 Z3 K3 KZ G2 H2 hzz hd2
    have hpp : p2 = p + 1 + 8 := by
      have h7 := congrArg List.length hd2'.out
      simp only [List.length_drop] at h7
      have h8 := HR2.out
      have h9 := HLN.out
      omega
    have HPP := Lib.hid hpp
    clear hpp
    go_wp2
    generalize ((w3.setCell ⟨w1.heap.size, 0, none⟩ (.slice A bs.length c)).setCell ⟨w1.heap.size, 1, none⟩ (.int .i64 p2)).setCell ⟨w1.heap.size, 2, none⟩ (.int .i64 0) = w5 at *
    have X5 := X4
    have Y5 := Y4
    have Z5 := Z4
    have K5 := K4
    clear X4 Y4 Z4 K4
    have MK : Hid (∀ w', Keep noneOf w5 w' → w'.cell? ⟨w1.heap.size, 1, none⟩ = some (.int .i64 p2) ∧ w'.cell? ⟨w.heap.size, 1, none⟩ = some (.int .i64 p)) := fun w' k => ⟨(Z5.keep k id).cell 1, (X5.keep k id).cell 1⟩
    have K55 := Keep.refl noneOf w5
    have HX5 := Lib.hid X5
    have HY5 := Lib.hid Y5
    have HZ5 := Lib.hid Z5
    clear X5 Y5 Z5
    go_region_held3 (fun w' => Keep noneOf w5 w' ∧ w'.cell? ⟨w1.heap.size, 1, none⟩ = some (.int .i64 p2) ∧ w'.cell? ⟨w.heap.size, 1, none⟩ = some (.int .i64 p)) (first | exact ⟨K55.drew, MK.out _ K55.drew⟩ | (refine (fun k => ⟨k, MK.out _ k⟩) ?_; exact Keep.trans (And.left (by assumption)) (Fresh.keep (by assumption)) (fun _ _ h => h)))
      (first | (go_at_call 53; refine (refVar_any _ n HN.out).mono ?_; rintro e w' ⟨A', c', rfl, F'⟩))
    have k4 : Keep noneOf w5 w' := K55.drew.trans F'.keep (fun _ _ h => h)
    have X4 := HX5.out.keep k4 id
    have Y4 := HY5.out.keep k4 id
    have Z4 := HZ5.out.keep k4 id
    have K4 := K5.trans k4 (fun _ _ h => h)
    have x0 : w'.cell? ⟨w.heap.size, 0, none⟩ = some (.slice A bs.length c) := X4.cell 0
    have x1 : w'.cell? ⟨w.heap.size, 1, none⟩ = some (.int .i64 p) := X4.cell 1
    have x2 : w'.cell? ⟨w.heap.size, 2, none⟩ = some (.int .i64 0) := X4.cell 2
    have y0 : w'.cell? ⟨w.heap.size + 1, 0, none⟩ = some (.slice none 0 0) := Y4.cell 0
    have y1 : w'.cell? ⟨w.heap.size + 1, 1, none⟩ = some (.int .i64 0) := Y4.cell 1
    have y2 : w'.cell? ⟨w.heap.size + 1, 2, none⟩ = some (.int .i64 0) := Y4.cell 2
    have z0 : w'.cell? ⟨w1.heap.size, 0, none⟩ = some (.slice A bs.length c) := Z4.cell 0
    have z1 : w'.cell? ⟨w1.heap.size, 1, none⟩ = some (.int .i64 p2) := Z4.cell 1
    have z2 : w'.cell? ⟨w1.heap.size, 2, none⟩ = some (.int .i64 0) := Z4.cell 2
    have gx0 := X4.free 0
    have gx1 := X4.free 1
    have gx2 := X4.free 2
    have gy0 := Y4.free 0
    have gy1 := Y4.free 1
    have gy2 := Y4.free 2
    clear MK K55 HX5 HY5 HZ5 F' k4 K5
    generalize (varBytes n).length = L at *
    have hwr : IntKind.i64.wrap ((p2 : Int) - (p : Int)) = 1 + 8 := by have h2 := HPP.out; rw [IntWalk.i64_in _ (by omega)]; omega
    rw [hwr]
    clear hwr HPP
    rcases HR.out with ⟨hv, rfl, rfl⟩ | ⟨hv, hm, rfl, rfl⟩ | ⟨hv, hm, hn', rfl⟩
    · have hbl : ((L : Int) != 1 + 8) = true := by rw [bne_iff_ne]; omega
      rw [hbl]
      have KS := (Keep.refl (fun k => k = w.heap.size) (w')).setCell (p := ⟨w.heap.size, 2, none⟩) (fun _ => rfl) (.int .i64 11)
      have YS := ((Y4.keep KS (by omega)).put3 (.slice A bs.length c) (.int .i64 p) (.int .i64 11))
      have KF := ((K4.newer KS (Nat.le_refl _)).newer (Keep.put3 (w.heap.size + 1) (.slice A bs.length c) (.int .i64 p) (.int .i64 11)) (Nat.le_succ _))
      have HYS := Lib.hid YS
      have HKF := Lib.hid KF
      clear KS YS KF
      clear hbl hv X4 Y4 Z4 K4 HR HS HL HLN HP1 hp1 hp HK HX HY HN HR2 a0 a1 a2 b0 b1 b2 d0 d1 d2 fa0 fa1 fa2 fb0 fb1 fb2 fd0 fd1 fd2
      go_wp2
      generalize ((((w').setCell ⟨w.heap.size, 2, none⟩ (.int .i64 11)).setCell ⟨w.heap.size + 1, 0, none⟩ (.slice A bs.length c)).setCell ⟨w.heap.size + 1, 1, none⟩ (.int .i64 p)).setCell ⟨w.heap.size + 1, 2, none⟩ (.int .i64 11) = wf at *
      have r0 : wf.cell? ⟨w.heap.size + 1, 0, none⟩ = some (.slice A bs.length c) := HYS.out.cell 0
      have r1 : wf.cell? ⟨w.heap.size + 1, 1, none⟩ = some (.int .i64 p) := HYS.out.cell 1
      have r2 : wf.cell? ⟨w.heap.size + 1, 2, none⟩ = some (.int .i64 11) := HYS.out.cell 2
      exact bodyPost_ret (v := .tuple #[.agg #[.slice A bs.length c, .int .i64 p, .int .i64 11], .int .u64 0]) (by simp [results, Try.results58, go_sem, r0, r1, r2]) rfl ⟨p, rfl, HP.out, rfl, HKF.out⟩
    · have hbl : ((L : Int) != 1 + 8) = false := by rw [bne_eq_false_iff_eq]; omega
      rw [hbl]
      have g2 : decide (most < n) = true := decide_eq_true hm
      have KS := (Keep.refl (fun k => k = w.heap.size) (w')).setCell (p := ⟨w.heap.size, 2, none⟩) (fun _ => rfl) (.int .i64 12)
      have YS := ((Y4.keep KS (by omega)).put3 (.slice A bs.length c) (.int .i64 p) (.int .i64 12))
      have KF := ((K4.newer KS (Nat.le_refl _)).newer (Keep.put3 (w.heap.size + 1) (.slice A bs.length c) (.int .i64 p) (.int .i64 12)) (Nat.le_succ _))
      have HYS := Lib.hid YS
      have HKF := Lib.hid KF
      clear KS YS KF
      clear hbl hv hm X4 Y4 Z4 K4 HR HS HL HLN HP1 hp1 hp HK HX HY HN HR2 a0 a1 a2 b0 b1 b2 d0 d1 d2 fa0 fa1 fa2 fb0 fb1 fb2 fd0 fd1 fd2
      go_wp2
      generalize ((((w').setCell ⟨w.heap.size, 2, none⟩ (.int .i64 12)).setCell ⟨w.heap.size + 1, 0, none⟩ (.slice A bs.length c)).setCell ⟨w.heap.size + 1, 1, none⟩ (.int .i64 p)).setCell ⟨w.heap.size + 1, 2, none⟩ (.int .i64 12) = wf at *
      have r0 : wf.cell? ⟨w.heap.size + 1, 0, none⟩ = some (.slice A bs.length c) := HYS.out.cell 0
      have r1 : wf.cell? ⟨w.heap.size + 1, 1, none⟩ = some (.int .i64 p) := HYS.out.cell 1
      have r2 : wf.cell? ⟨w.heap.size + 1, 2, none⟩ = some (.int .i64 12) := HYS.out.cell 2
      exact bodyPost_ret (v := .tuple #[.agg #[.slice A bs.length c, .int .i64 p, .int .i64 12], .int .u64 0]) (by simp [results, Try.results58, go_sem, r0, r1, r2]) rfl ⟨p, rfl, HP.out, rfl, HKF.out⟩
    · obtain rfl : n' = n := hn'
      have hbl : ((L : Int) != 1 + 8) = false := by rw [bne_eq_false_iff_eq]; omega
      rw [hbl]
      have g2 : decide (most < n') = false := decide_eq_false (by omega)
      have YS := Y4.put3 (.slice A bs.length c) (.int .i64 p2) (.int .i64 0)
      have KF := K4.newer (Keep.put3 (w.heap.size + 1) (.slice A bs.length c) (.int .i64 p2) (.int .i64 0)) (Nat.le_succ _)
      have HYS := Lib.hid YS
      have HKF := Lib.hid KF
      clear YS KF
      clear hbl hv hm X4 Y4 Z4 K4 HR HS HL HLN HP1 hp1 hp HK HX HY HN HR2 a0 a1 a2 b0 b1 b2 d0 d1 d2 fa0 fa1 fa2 fb0 fb1 fb2 fd0 fd1 fd2
      go_wp2
      generalize (((w').setCell ⟨w.heap.size + 1, 0, none⟩ (.slice A bs.length c)).setCell ⟨w.heap.size + 1, 1, none⟩ (.int .i64 p2)).setCell ⟨w.heap.size + 1, 2, none⟩ (.int .i64 0) = wf at *
      have r0 : wf.cell? ⟨w.heap.size + 1, 0, none⟩ = some (.slice A bs.length c) := HYS.out.cell 0
      have r1 : wf.cell? ⟨w.heap.size + 1, 1, none⟩ = some (.int .i64 p2) := HYS.out.cell 1
      have r2 : wf.cell? ⟨w.heap.size + 1, 2, none⟩ = some (.int .i64 0) := HYS.out.cell 2
      exact bodyPost_ret (v := .tuple #[.agg #[.slice A bs.length c, .int .i64 p2, .int .i64 0], .int .u64 n']) (by simp [results, Try.results58, go_sem, r0, r1, r2]) rfl ⟨p2, rfl, hp2, hd2'.out, HKF.out⟩
end Go.Proofs.Ytngbminjbgomgaa
