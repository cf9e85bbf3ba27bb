/-
  The document's reader, on: GetVar in one, GetText.
-/
import Derived.Test.YtngbminjbgomgaaRefVar
namespace Go.Proofs.Ytngbminjbgomgaa
open Go.RowKit

theorem first_len (f n : Nat) (hf : f < 256) (hn : varMore f ≠ 0 → n < 256 ^ varMore f) (h0 : varMore f = 0 → n = f) : varFirst n ≠ f ↔ (varBytes n).length ≠ 1 + varMore f := by
  rw [varBytes_length]
  by_cases h1 : f < 253
  · have e : varMore f = 0 := by unfold varMore; rw [if_neg (by omega), if_neg (by omega), if_neg (by omega)]
    have e2 := h0 e
    subst e2
    have e3 : varFirst n = n := by unfold varFirst; rw [if_pos h1]
    rw [e3, e]
    simp
  · rcases (show f = 253 ∨ f = 254 ∨ f = 255 from by omega) with rfl | rfl | rfl
    · have hb := hn (by decide)
      have e : varMore 253 = 2 := rfl
      rw [e] at hb ⊢
      unfold varFirst
      by_cases a1 : n < 253
      · rw [if_pos a1]
        have e9 : varMore n = 0 := by unfold varMore; rw [if_neg (by omega), if_neg (by omega), if_neg (by omega)]
        rw [e9]
        omega
      · rw [if_neg a1, if_pos (by omega)]
        simp [e]
    · have hb := hn (by decide)
      have e : varMore 254 = 4 := rfl
      rw [e] at hb ⊢
      unfold varFirst
      by_cases a1 : n < 253
      · rw [if_pos a1]
        have e9 : varMore n = 0 := by unfold varMore; rw [if_neg (by omega), if_neg (by omega), if_neg (by omega)]
        rw [e9]
        omega
      · rw [if_neg a1]
        by_cases a2 : n < 65536
        · rw [if_pos a2, show varMore 253 = 2 from rfl]
          omega
        · rw [if_neg a2, if_pos (by omega)]
          simp [e]
    · have hb := hn (by decide)
      have e : varMore 255 = 8 := rfl
      rw [e] at hb ⊢
      unfold varFirst
      by_cases a1 : n < 253
      · rw [if_pos a1]
        have e9 : varMore n = 0 := by unfold varMore; rw [if_neg (by omega), if_neg (by omega), if_neg (by omega)]
        rw [e9]
        omega
      · rw [if_neg a1]
        by_cases a2 : n < 65536
        · rw [if_pos a2, show varMore 253 = 2 from rfl]
          omega
        · rw [if_neg a2]
          by_cases a3 : n < 4294967296
          · rw [if_pos a3, show varMore 254 = 4 from rfl]
            omega
          · rw [if_neg a3]
            simp [e]

theorem refGetVar_any (w : World) (D : Nat → Prop) (A : Option Addr) (c : Nat) (bs : List UInt8) (p most : Nat) (er : Int) (n : Nat) (s : Rs) (hs : Bytes w D (.slice A bs.length c) bs) (hl : bs.length ≤ lim) (hp : p ≤ bs.length) (h : Rs.var ⟨bs.drop p, er⟩ most = (n, s)) :
    Calls Try.prog 58 #[.agg #[.slice A bs.length c, .int .i64 p, .int .i64 er], .int .u64 most, .bool false] w (RefGot w (.slice A bs.length c) bs n s) := by
  unfold Rs.var at h
  by_cases he : er = 0
  · subst he
    rw [if_neg (fun h => h rfl)] at h
    cases hd : bs.drop p with
    | nil =>
      rw [hd] at h
      have e : frontV [] most = (0, 0, 10) := rfl
      rw [e, if_pos (by decide)] at h
      obtain ⟨rfl, rfl⟩ := Prod.mk.inj h
      have := refGetVar_fail w D A c bs p most 0 10 [] (by unfold Rs.take; rw [if_neg (fun h => h rfl), hd, if_pos (by simp)]) (by decide) hs hl hp
      rw [hd] at this
      exact this
    | cons f rest =>
      rw [hd] at h
      simp only at h
      have hf : f.toNat < 256 := f.toNat_lt
      by_cases h253 : f.toNat < 253
      · have e : varMore f.toNat = 0 := by unfold varMore; rw [if_neg (by omega), if_neg (by omega), if_neg (by omega)]
        have e3 : varFirst f.toNat = f.toNat := by unfold varFirst; rw [if_pos h253]
        have hfv : frontV (f :: rest) most = if most < f.toNat then (0, 0, 12) else (f.toNat, 1, 0) := by
          rw [frontV_cons, e, if_neg (by simp), if_pos rfl]
          unfold frontN
          rw [if_neg (fun h => h e3)]
        refine refGetVar_one w D A c bs p most 0 f rest n s hd h253 rfl ?_ hs hl hp
        rw [hd]
        by_cases hm : most < f.toNat
        · rw [if_pos hm] at hfv
          rw [hfv, if_pos (by decide)] at h
          obtain ⟨rfl, rfl⟩ := Prod.mk.inj h
          exact .inl ⟨hm, rfl, rfl⟩
        · rw [if_neg hm] at hfv
          rw [hfv, if_neg (fun h => h rfl)] at h
          obtain ⟨rfl, rfl⟩ := Prod.mk.inj h
          exact .inr ⟨by omega, rfl, rfl⟩
      · have hx : (f.toNat = 253 ∧ varMore f.toNat = 2) ∨ (f.toNat = 254 ∧ varMore f.toNat = 4) ∨ (f.toNat = 255 ∧ varMore f.toNat = 8) := by
          rcases (show f.toNat = 253 ∨ f.toNat = 254 ∨ f.toNat = 255 from by omega) with e | e | e <;> rw [e] <;> simp [varMore]
        have hm0 : varMore f.toNat ≠ 0 := by omega
        have hm8 := varMore_le f.toNat
        by_cases hlt : rest.length < varMore f.toNat
        · have hfv : frontV (f :: rest) most = (0, 0, 10) := by rw [frontV_cons, if_pos (by rw [List.length_cons]; omega)]
          rw [hfv, if_pos (by decide)] at h
          obtain ⟨rfl, rfl⟩ := Prod.mk.inj h
          have := refGetVar_short w D A c bs p most 0 f rest _ _ hd rfl hx hlt rfl hs hl hp
          rw [hd] at this
          exact this
        · have hnl := num_lt (rest.take (varMore f.toNat))
          rw [List.length_take, Nat.min_eq_left (by omega)] at hnl
          have hfl := first_len f.toNat (num (rest.take (varMore f.toNat))) hf (fun _ => hnl) (fun e => absurd e hm0)
          have hfv : frontV (f :: rest) most = frontN f.toNat (varMore f.toNat) (num (rest.take (varMore f.toNat))) most := by
            rw [frontV_cons, if_neg (by rw [List.length_cons]; omega), if_neg hm0]
          have h64 : ((num (rest.take (varMore f.toNat)) : Nat) : Int) < 18446744073709551616 := num_lt64 _ (by rw [List.length_take]; omega)
          refine refGetVar_more w D A c bs p most 0 f rest _ _ (rest.take (varMore f.toNat)) (rest.drop (varMore f.toNat)) _ n s hd rfl hx ?_ ?_ rfl h64 rfl ?_ hs hl hp
          · unfold Rs.take; rw [if_neg (fun h => h rfl), if_neg hlt]
          · rw [List.length_drop]; omega
          · rw [hd]
            generalize num (rest.take (varMore f.toNat)) = k at *
            unfold frontN at hfv
            by_cases hv : varFirst k ≠ f.toNat
            · rw [if_pos hv] at hfv
              rw [hfv, if_pos (by decide)] at h
              obtain ⟨rfl, rfl⟩ := Prod.mk.inj h
              exact .inl ⟨hfl.1 hv, rfl, rfl⟩
            · have hv' : (varBytes k).length = 1 + varMore f.toNat := Decidable.byContradiction fun h => hv (hfl.2 h)
              rw [if_neg hv] at hfv
              by_cases hm : most < k
              · rw [if_pos hm] at hfv
                rw [hfv, if_pos (by decide)] at h
                obtain ⟨rfl, rfl⟩ := Prod.mk.inj h
                exact .inr (.inl ⟨hv', hm, rfl, rfl⟩)
              · rw [if_neg hm] at hfv
                rw [hfv, if_neg (fun h => h rfl)] at h
                obtain ⟨rfl, rfl⟩ := Prod.mk.inj h
                refine .inr (.inr ⟨hv', by omega, rfl, ?_⟩)
                simp only
                rw [Nat.add_comm, List.drop_succ_cons]
  · rw [if_pos he] at h
    obtain ⟨rfl, rfl⟩ := Prod.mk.inj h
    exact refGetVar_fail w D A c bs p most er er [] (by unfold Rs.take; rw [if_pos he]) he hs hl hp
set_option maxRecDepth 100000 in
set_option maxHeartbeats 1000000 in
theorem refGetText_fail (w : World) (D : Nat → Prop) (A : Option Addr) (c : Nat) (bs : List UInt8) (p most : Nat) (er : Int) (n : Nat) (s : Rs) (h1 : Rs.var ⟨bs.drop p, er⟩ most = (n, s)) (he : s.err ≠ 0) (hmo : most < 2147483648) (hs : Bytes w D (.slice A bs.length c) bs) (hl : bs.length ≤ lim) (hp : p ≤ bs.length) :
    Calls Try.prog 35 #[.agg #[.slice A bs.length c, .int .i64 p, .int .i64 er], .int .i64 most] w (RefTook w (.slice A bs.length c) bs [] s) := by
  obtain ⟨K0, X0, Y0⟩ := two_boxes w #[.slice A bs.length c, .int .i64 p, .int .i64 er] #[.slice none 0 0, .int .i64 0, .int .i64 0] 67
  obtain ⟨left, e1⟩ := s
  simp only at he
  have g' : (e1 != 0) = true := bne_iff_ne.2 he
  have g : (e1 == 0) = false := beq_eq_false_iff_ne.2 he
  clear he
  have G1 := Lib.hid (refGetVar_any _ D A c bs p most er n _ (hs.keep K0 (fun _ _ _ => id)) hl hp h1)
  have HK := Lib.hid K0
  have HX := Lib.hid X0
  have HY := Lib.hid Y0
  have HP := Lib.hid hp
  have HS := Lib.hid hs
  have HL := Lib.hid hl
  clear K0 X0 Y0 hs hl h1
  go_enter Try.func35, Try.ntmps35
  go_wp2_with fail
  refine G1.out.mono ?_
  rintro e w1 ⟨p1, rfl, hp1, hd1, k1⟩
  have K1 := HK.out.trans k1 (fun _ _ h => h)
  have X1 := HX.out.keep k1 id
  have Y1 := HY.out.keep k1 id
  have a0 : w1.cell? ⟨w.heap.size, 0, none⟩ = some (.slice A bs.length c) := X1.cell 0
  have a1 : w1.cell? ⟨w.heap.size, 1, none⟩ = some (.int .i64 p) := X1.cell 1
  have a2 : w1.cell? ⟨w.heap.size, 2, none⟩ = some (.int .i64 er) := X1.cell 2
  have b0 : w1.cell? ⟨w.heap.size + 1, 0, none⟩ = some (.slice none 0 0) := Y1.cell 0
  have b1 : w1.cell? ⟨w.heap.size + 1, 1, none⟩ = some (.int .i64 0) := Y1.cell 1
  have b2 : w1.cell? ⟨w.heap.size + 1, 2, none⟩ = some (.int .i64 0) := Y1.cell 2
  have fa0 := X1.free 0
  have fa1 := X1.free 1
  have fa2 := X1.free 2
  have fb0 := Y1.free 0
  have fb1 := Y1.free 1
  have fb2 := Y1.free 2
  have hz0 : w.heap.size < w1.heap.size := X1.lt
  have hz : w.heap.size + 1 < w1.heap.size := Y1.lt
  have YS := (Y1.put3 (.slice A bs.length c) (.int .i64 p1) (.int .i64 e1)).alloc (.cells #[.slice A bs.length c, .int .i64 p1, .int .i64 e1] 67)
  have KF := (K1.newer (Keep.put3 (w.heap.size + 1) (.slice A bs.length c) (.int .i64 p1) (.int .i64 e1)) (Nat.le_succ _)).alloc (.cells #[.slice A bs.length c, .int .i64 p1, .int .i64 e1] 67)
  have HYS := Lib.hid YS
  have HKF := Lib.hid KF
  have HD1 := Lib.hid hd1
  clear X1 Y1 K1 k1 YS KF hd1 HK HX HY G1
  go_wp2
  generalize (((w1.setCell ⟨w.heap.size + 1, 0, none⟩ (.slice A bs.length c)).setCell ⟨w.heap.size + 1, 1, none⟩ (.int .i64 p1)).setCell ⟨w.heap.size + 1, 2, none⟩ (.int .i64 e1)).alloc (.cells #[.slice A bs.length c, .int .i64 p1, .int .i64 e1] 67) = wf at *
  have r0 : wf.cell? ⟨w.heap.size + 1, 0, none⟩ = some (.slice A bs.length c) := HYS.out.cell 0
  have r1 : wf.cell? ⟨w.heap.size + 1, 1, none⟩ = some (.int .i64 p1) := HYS.out.cell 1
  have r2 : wf.cell? ⟨w.heap.size + 1, 2, none⟩ = some (.int .i64 e1) := HYS.out.cell 2
  exact bodyPost_ret (v := .tuple #[.agg #[.slice A bs.length c, .int .i64 p1, .int .i64 e1], .slice none 0 0]) (by simp [results, Try.results35, go_sem, r0, r1, r2]) rfl ⟨p1, _, rfl, hp1, HD1.out, fresh_nil HKF.out⟩

set_option maxRecDepth 100000 in
set_option maxHeartbeats 1000000 in
theorem refGetText_short (w : World) (D : Nat → Prop) (A : Option Addr) (c : Nat) (bs : List UInt8) (p most : Nat) (er : Int) (n : Nat) (left : List UInt8) (h1 : Rs.var ⟨bs.drop p, er⟩ most = (n, ⟨left, 0⟩)) (hlt : left.length < n) (hmo : most < 2147483648) (hs : Bytes w D (.slice A bs.length c) bs) (hl : bs.length ≤ lim) (hp : p ≤ bs.length) :
    Calls Try.prog 35 #[.agg #[.slice A bs.length c, .int .i64 p, .int .i64 er], .int .i64 most] w (RefTook w (.slice A bs.length c) bs [] ⟨bs.drop p, 10⟩) := by
  obtain ⟨K0, X0, Y0⟩ := two_boxes w #[.slice A bs.length c, .int .i64 p, .int .i64 er] #[.slice none 0 0, .int .i64 0, .int .i64 0] 67
  have hn := (var_le ⟨bs.drop p, er⟩ most)
  rw [h1] at hn
  simp only at hn
  have HLT := Lib.hid hlt
  clear hlt
  have G1 := Lib.hid (refGetVar_any _ D A c bs p most er n _ (hs.keep K0 (fun _ _ _ => id)) hl hp h1)
  have HK := Lib.hid K0
  have HX := Lib.hid X0
  have HY := Lib.hid Y0
  have HP := Lib.hid hp
  have HS := Lib.hid hs
  have HL := Lib.hid hl
  clear K0 X0 Y0 hs hl h1
  go_enter Try.func35, Try.ntmps35
  go_wp2_with fail
  refine G1.out.mono ?_
  rintro e w1 ⟨p1, rfl, hp1, hd1, k1⟩
  have K1 := HK.out.trans k1 (fun _ _ h => h)
  have X1 := HX.out.keep k1 id
  have Y1 := HY.out.keep k1 id
  have a0 : w1.cell? ⟨w.heap.size, 0, none⟩ = some (.slice A bs.length c) := X1.cell 0
  have a1 : w1.cell? ⟨w.heap.size, 1, none⟩ = some (.int .i64 p) := X1.cell 1
  have a2 : w1.cell? ⟨w.heap.size, 2, none⟩ = some (.int .i64 er) := X1.cell 2
  have b0 : w1.cell? ⟨w.heap.size + 1, 0, none⟩ = some (.slice none 0 0) := Y1.cell 0
  have b1 : w1.cell? ⟨w.heap.size + 1, 1, none⟩ = some (.int .i64 0) := Y1.cell 1
  have b2 : w1.cell? ⟨w.heap.size + 1, 2, none⟩ = some (.int .i64 0) := Y1.cell 2
  have fa0 := X1.free 0
  have fa1 := X1.free 1
  have fa2 := X1.free 2
  have fb0 := Y1.free 0
  have fb1 := Y1.free 1
  have fb2 := Y1.free 2
  have hz0 : w.heap.size < w1.heap.size := X1.lt
  have hz : w.heap.size + 1 < w1.heap.size := Y1.lt
  have hlen : bs.length - p1 < n := by have h7 : (bs.drop p1).length = left.length := congrArg List.length hd1; have h8 := HLT.out; rw [List.length_drop] at h7; omega
  have KS := (Keep.refl (fun k => k = w.heap.size) w1).setCell (p := ⟨w.heap.size, 2, none⟩) (fun _ => rfl) (.int .i64 10)
  have YS := ((Y1.keep KS (by omega)).put3 (.slice A bs.length c) (.int .i64 p) (.int .i64 10)).alloc (.cells #[.slice A bs.length c, .int .i64 p1, .int .i64 0] 67)
  have KF := ((K1.newer KS (Nat.le_refl _)).newer (Keep.put3 (w.heap.size + 1) (.slice A bs.length c) (.int .i64 p) (.int .i64 10)) (Nat.le_succ _)).alloc (.cells #[.slice A bs.length c, .int .i64 p1, .int .i64 0] 67)
  have HYS := Lib.hid YS
  have HKF := Lib.hid KF
  have HD1 := Lib.hid hd1
  have hl2 : bs.length ≤ 9223372036854775807 := by have := HL.out; rw [lim_is] at this; omega
  have gd : decide ((bs.length : Int) - (p1 : Int) < (n : Int)) = true := by simp; omega
  clear X1 Y1 K1 k1 KS YS KF hd1 HK HX HY G1
  go_wp2
  generalize ((((w1.setCell ⟨w.heap.size, 2, none⟩ (.int .i64 10)).setCell ⟨w.heap.size + 1, 0, none⟩ (.slice A bs.length c)).setCell ⟨w.heap.size + 1, 1, none⟩ (.int .i64 p)).setCell ⟨w.heap.size + 1, 2, none⟩ (.int .i64 10)).alloc (.cells #[.slice A bs.length c, .int .i64 p1, .int .i64 0] 67) = wf at *
  have r0 : wf.cell? ⟨w.heap.size + 1, 0, none⟩ = some (.slice A bs.length c) := HYS.out.cell 0
  have r1 : wf.cell? ⟨w.heap.size + 1, 1, none⟩ = some (.int .i64 p) := HYS.out.cell 1
  have r2 : wf.cell? ⟨w.heap.size + 1, 2, none⟩ = some (.int .i64 10) := HYS.out.cell 2
  exact bodyPost_ret (v := .tuple #[.agg #[.slice A bs.length c, .int .i64 p, .int .i64 10], .slice none 0 0]) (by simp [results, Try.results35, go_sem, r0, r1, r2]) rfl ⟨p, _, rfl, HP.out, rfl, fresh_nil HKF.out⟩

set_option maxRecDepth 100000 in
set_option maxHeartbeats 1000000 in
theorem refGetText_ok (w : World) (D : Nat → Prop) (A : Option Addr) (c : Nat) (bs : List UInt8) (p most : Nat) (er : Int) (n : Nat) (left cs : List UInt8) (s : Rs) (h1 : Rs.var ⟨bs.drop p, er⟩ most = (n, ⟨left, 0⟩)) (hlt : n ≤ left.length) (h2 : Rs.take ⟨left, 0⟩ n = (cs, s)) (hmo : most < 2147483648) (hs : Bytes w D (.slice A bs.length c) bs) (hl : bs.length ≤ lim) (hp : p ≤ bs.length) :
    Calls Try.prog 35 #[.agg #[.slice A bs.length c, .int .i64 p, .int .i64 er], .int .i64 most] w (RefTook w (.slice A bs.length c) bs cs s) := by
  obtain ⟨K0, X0, Y0⟩ := two_boxes w #[.slice A bs.length c, .int .i64 p, .int .i64 er] #[.slice none 0 0, .int .i64 0, .int .i64 0] 67
  have hn := (var_le ⟨bs.drop p, er⟩ most)
  rw [h1] at hn
  simp only at hn
  have HLT := Lib.hid hlt
  have H2 := Lib.hid h2
  clear hlt h2
  have G1 := Lib.hid (refGetVar_any _ D A c bs p most er n _ (hs.keep K0 (fun _ _ _ => id)) hl hp h1)
  have HK := Lib.hid K0
  have HX := Lib.hid X0
  have HY := Lib.hid Y0
  have HP := Lib.hid hp
  have HS := Lib.hid hs
  have HL := Lib.hid hl
  clear K0 X0 Y0 hs hl h1
  go_enter Try.func35, Try.ntmps35
  go_wp2_with fail
  refine G1.out.mono ?_
  rintro e w1 ⟨p1, rfl, hp1, hd1, k1⟩
  have K1 := HK.out.trans k1 (fun _ _ h => h)
  have X1 := HX.out.keep k1 id
  have Y1 := HY.out.keep k1 id
  have a0 : w1.cell? ⟨w.heap.size, 0, none⟩ = some (.slice A bs.length c) := X1.cell 0
  have a1 : w1.cell? ⟨w.heap.size, 1, none⟩ = some (.int .i64 p) := X1.cell 1
  have a2 : w1.cell? ⟨w.heap.size, 2, none⟩ = some (.int .i64 er) := X1.cell 2
  have b0 : w1.cell? ⟨w.heap.size + 1, 0, none⟩ = some (.slice none 0 0) := Y1.cell 0
  have b1 : w1.cell? ⟨w.heap.size + 1, 1, none⟩ = some (.int .i64 0) := Y1.cell 1
  have b2 : w1.cell? ⟨w.heap.size + 1, 2, none⟩ = some (.int .i64 0) := Y1.cell 2
  have fa0 := X1.free 0
  have fa1 := X1.free 1
  have fa2 := X1.free 2
  have fb0 := Y1.free 0
  have fb1 := Y1.free 1
  have fb2 := Y1.free 2
  have hz0 : w.heap.size < w1.heap.size := X1.lt
  have hz : w.heap.size + 1 < w1.heap.size := Y1.lt
  have hlen : n ≤ bs.length - p1 := by have h7 : (bs.drop p1).length = left.length := congrArg List.length hd1; have h8 := HLT.out; rw [List.length_drop] at h7; omega
  have ka := (Keep.refl noneOf w1).alloc (.cells #[.slice A bs.length c, .int .i64 p1, .int .i64 0] 67)
  have Y2 := Y1.keep ka id
  have K2 := K1.trans ka (fun _ _ h => h)
  have RW := Lib.hid (refRaw_any _ D _ bs cs p1 n 0 s (HS.out.keep K2 (fun _ _ _ => id)) HL.out hp1 (by omega) ((congrArg (fun l => Rs.take ⟨l, 0⟩ n) hd1).trans H2.out))
  have hl2 : bs.length ≤ 9223372036854775807 := by have := HL.out; rw [lim_is] at this; omega
  have gd : decide ((bs.length : Int) - (p1 : Int) < (n : Int)) = false := by simp; omega
  clear X1 Y1 K1 k1 hd1 HK HX HY G1 H2 HLT ka
  go_wp2_with fail
  refine RW.out.mono ?_
  rintro e w2 ⟨p2, u2, rfl, hp2, hd2, F2⟩
  obtain ⟨A2, c2, hs2⟩ := own_shape F2.own
  subst hs2
  have Y3 := Y2.keep F2.keep id
  have y0 : w2.cell? ⟨w.heap.size + 1, 0, none⟩ = some (.slice none 0 0) := Y3.cell 0
  have y1 : w2.cell? ⟨w.heap.size + 1, 1, none⟩ = some (.int .i64 0) := Y3.cell 1
  have y2 : w2.cell? ⟨w.heap.size + 1, 2, none⟩ = some (.int .i64 0) := Y3.cell 2
  have fy0 := Y3.free 0
  have fy1 := Y3.free 1
  have fy2 := Y3.free 2
  have YS := Y3.put3 (.slice A bs.length c) (.int .i64 p2) (.int .i64 s.err)
  have KP := Keep.put3 (w := w2) (w.heap.size + 1) (.slice A bs.length c) (.int .i64 p2) (.int .i64 s.err)
  have F3 : Fresh w _ _ _ := ⟨(K2.trans F2.keep (fun _ _ h => h)).newer KP (Nat.le_succ _), own_keep F2.own KP (fun k hk e => by have := F2.new k hk; have := Y2.lt; omega), fun k hk => by have := F2.new k hk; have := K2.size; omega⟩
  have HYS := Lib.hid YS
  have HF3 := Lib.hid F3
  have HD2 := Lib.hid hd2
  obtain ⟨lf, se⟩ := s
  simp only at HYS HF3 HD2 ⊢
  clear Y3 YS KP F3 F2 hd2 RW Y2 K2 a0 a1 a2 b0 b1 b2 fa0 fa1 fa2 fb0 fb1 fb2 hz0 hz gd
  go_wp2
  generalize ((w2.setCell ⟨w.heap.size + 1, 0, none⟩ (.slice A bs.length c)).setCell ⟨w.heap.size + 1, 1, none⟩ (.int .i64 p2)).setCell ⟨w.heap.size + 1, 2, none⟩ (.int .i64 se) = wf at *
  have r0 : wf.cell? ⟨w.heap.size + 1, 0, none⟩ = some (.slice A bs.length c) := HYS.out.cell 0
  have r1 : wf.cell? ⟨w.heap.size + 1, 1, none⟩ = some (.int .i64 p2) := HYS.out.cell 1
  have r2 : wf.cell? ⟨w.heap.size + 1, 2, none⟩ = some (.int .i64 se) := HYS.out.cell 2
  exact bodyPost_ret (v := .tuple #[.agg #[.slice A bs.length c, .int .i64 p2, .int .i64 se], .slice A2 cs.length c2]) (by simp [results, Try.results35, go_sem, r0, r1, r2]) rfl ⟨p2, _, rfl, hp2, HD2.out, HF3.out⟩


theorem text_var (s : Rs) (most : Nat) : s.text most = if (s.var most).2.err ≠ 0 then ([], (s.var most).2) else if (s.var most).2.left.length < (s.var most).1 then ([], ⟨s.left, 10⟩) else Rs.take ⟨(s.var most).2.left, 0⟩ (s.var most).1 := by
  unfold Rs.text Rs.var
  by_cases h1 : s.err ≠ 0
  · simp only [if_pos h1]
  · by_cases h2 : (frontV s.left most).2.2 ≠ 0
    · simp only [if_neg h1, if_pos h2]
    · have e0 : ¬ ((0 : Int) ≠ 0) := fun h => h rfl
      by_cases h3 : s.left.length - (frontV s.left most).2.1 < (frontV s.left most).1
      · simp only [if_neg h1, if_neg h2, if_neg e0, List.length_drop, if_pos h3]
      · unfold Rs.take
        simp only [if_neg h1, if_neg h2, if_neg e0, List.length_drop, if_neg h3]
theorem refGetText_any (w : World) (D : Nat → Prop) (A : Option Addr) (c : Nat) (bs cs : List UInt8) (p most : Nat) (er : Int) (s : Rs) (hmo : most < 2147483648) (hs : Bytes w D (.slice A bs.length c) bs) (hl : bs.length ≤ lim) (hp : p ≤ bs.length) (h : Rs.text ⟨bs.drop p, er⟩ most = (cs, s)) :
    Calls Try.prog 35 #[.agg #[.slice A bs.length c, .int .i64 p, .int .i64 er], .int .i64 most] w (RefTook w (.slice A bs.length c) bs cs s) := by
  rw [text_var] at h
  obtain ⟨n, ⟨left, e1⟩, hv⟩ : ∃ n s1, Rs.var ⟨bs.drop p, er⟩ most = (n, s1) := ⟨_, _, rfl⟩
  rw [hv] at h
  simp only at h
  by_cases he : e1 ≠ 0
  · rw [if_pos he] at h
    obtain ⟨rfl, rfl⟩ := Prod.mk.inj h
    exact refGetText_fail w D A c bs p most er n _ hv he hmo hs hl hp
  · obtain rfl : e1 = 0 := Decidable.not_not.1 he
    rw [if_neg he] at h
    by_cases hlt : left.length < n
    · rw [if_pos hlt] at h
      obtain ⟨rfl, rfl⟩ := Prod.mk.inj h
      exact refGetText_short w D A c bs p most er n left hv hlt hmo hs hl hp
    · rw [if_neg hlt] at h
      exact refGetText_ok w D A c bs p most er n left cs s hv (by omega) h hmo hs hl hp
end Go.Proofs.Ytngbminjbgomgaa
