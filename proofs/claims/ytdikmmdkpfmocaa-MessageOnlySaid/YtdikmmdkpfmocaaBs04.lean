import Derived.Test.YtdikmmdkpfmocaaBs03
namespace Go.Proofs.Ytdikmmdkpfmocaa
open Go.RowKit
theorem frontN_facts (f m n most : Nat) : (frontN f m n most).1 ≤ most ∧ (frontN f m n most).2.1 ≤ 1 + m ∧ ((frontN f m n most).2.2 ≠ 0 → (frontN f m n most).1 = 0 ∧ (frontN f m n most).2.1 = 0) := by
  unfold frontN
  split
  · simp
  · split
    · simp
    · simp; omega
theorem frontV_facts (bs : List UInt8) (most : Nat) : (frontV bs most).1 ≤ most ∧ (frontV bs most).2.1 ≤ bs.length ∧ ((frontV bs most).2.2 ≠ 0 → (frontV bs most).1 = 0 ∧ (frontV bs most).2.1 = 0) := by
  cases bs with
  | nil => exact ⟨Nat.zero_le _, Nat.zero_le _, fun _ => ⟨rfl, rfl⟩⟩
  | cons f r =>
    rw [frontV_cons]
    split
    · exact ⟨Nat.zero_le _, Nat.zero_le _, fun _ => ⟨rfl, rfl⟩⟩
    · obtain ⟨h1, h2, h3⟩ := frontN_facts f.toNat (varMore f.toNat) (if varMore f.toNat = 0 then f.toNat else num (r.take (varMore f.toNat))) most
      exact ⟨h1, by omega, h3⟩
set_option maxRecDepth 100000 in
set_option maxHeartbeats 400000 in
theorem frontCount_any (w : World) (D : Nat → Prop) (v : Value) (bs : List UInt8) (most : Nat) (hmo : most < 2147483648) (hs : Bytes w D v bs) :
    Calls Try.prog 100 #[v, .int .i64 most] w fun e w' => e = .returned (.tuple #[.int .i64 (frontV bs most).1, .int .i64 (frontV bs most).2.1, .int .i64 (frontV bs most).2.2]) ∧ w = w' := by
  have T := Lib.hid (frontVar_any w D v bs most hs)
  obtain ⟨h1, h2, h3⟩ := frontV_facts bs most
  clear h3
  generalize (frontV bs most).1 = n at *
  generalize (frontV bs most).2.1 = size at *
  generalize (frontV bs most).2.2 = er at *
  by_cases he : er = 0
  · subst he
    go_enter Try.func100, Try.ntmps100
    go_wp2_with fail
    refine T.out.mono ?_
    rintro e w1 ⟨rfl, rfl⟩
    go_wp2
    go_ret3
    exact ⟨rfl, rfl⟩
  · have g : (er == 0) = false := beq_eq_false_iff_ne.2 he
    clear he
    go_enter Try.func100, Try.ntmps100
    go_wp2_with fail
    refine T.out.mono ?_
    rintro e w1 ⟨rfl, rfl⟩
    go_wp2
    go_ret3
    exact ⟨rfl, rfl⟩
def Rs.text (s : Rs) (most : Nat) : List UInt8 × Rs :=
  if s.err ≠ 0 then ([], s)
  else if (frontV s.left most).2.2 ≠ 0 then ([], ⟨s.left, (frontV s.left most).2.2⟩)
  else if s.left.length - (frontV s.left most).2.1 < (frontV s.left most).1 then ([], ⟨s.left, 10⟩)
  else ((s.left.drop (frontV s.left most).2.1).take (frontV s.left most).1, ⟨(s.left.drop (frontV s.left most).2.1).drop (frontV s.left most).1, 0⟩)
theorem take_failed (bs : List UInt8) (er : Int) (n : Nat) (h : er ≠ 0) : Rs.take ⟨bs, er⟩ n = ([], ⟨bs, er⟩) := by unfold Rs.take; rw [if_pos h]
theorem take_fits (bs : List UInt8) (n : Nat) (h : n ≤ bs.length) : Rs.take ⟨bs, 0⟩ n = (bs.take n, ⟨bs.drop n, 0⟩) := by unfold Rs.take; rw [if_neg (fun h => h rfl), if_neg (by simpa using h)]
def Copied (w : World) (p : Nat) (D : Nat → Prop) (bs : List UInt8) (s : Rs) (e : Ending) (w' : World) : Prop :=
  ∃ u' x, e = .returned x ∧ Keep (fun k => k = p) w w' ∧ Rd w' p D u' s.left s.err ∧ w'.ownsRow 0 5 1 x bs.length (bs.map bv) ∧ ∀ k, x.ownBlock = some k → w.heap.size ≤ k
def textErr (bs : List UInt8) (most : Nat) : Int := if (frontV bs most).2.2 = 0 ∧ bs.length - (frontV bs most).2.1 < (frontV bs most).1 then 10 else (frontV bs most).2.2
theorem text_steps (bs : List UInt8) (er : Int) (most : Nat) :
    Rs.take (Rs.take ⟨bs, (Rs.fail ⟨bs, er⟩ (textErr bs most)).err⟩ (frontV bs most).2.1).2 (frontV bs most).1 = Rs.text ⟨bs, er⟩ most := by
  obtain ⟨f1, f2, f3⟩ := frontV_facts bs most
  unfold Rs.text textErr
  generalize (frontV bs most).1 = n at *
  generalize (frontV bs most).2.1 = size at *
  generalize (frontV bs most).2.2 = e0 at *
  by_cases h0 : er = 0
  · subst h0
    rw [if_neg (c := (0 : Int) ≠ 0) (fun h => h rfl)]
    show Rs.take (Rs.take ⟨bs, if e0 = 0 ∧ bs.length - size < n then 10 else e0⟩ size).2 n = _
    by_cases h1 : e0 = 0
    · subst h1
      rw [if_neg (c := (0 : Int) ≠ 0) (fun h => h rfl)]
      by_cases h2 : bs.length - size < n
      · rw [if_pos h2, if_pos ⟨rfl, h2⟩, take_failed bs 10 size (by decide), take_failed bs 10 n (by decide)]
      · rw [if_neg h2, if_neg (fun h => h2 h.2), take_fits _ _ f2, take_fits _ _ (by rw [List.length_drop]; omega)]
    · rw [if_pos h1, if_neg (fun h => h1 h.1), take_failed bs e0 size h1, take_failed bs e0 n h1]
  · rw [if_pos h0]
    have hfe : ∀ x, (Rs.fail ⟨bs, er⟩ x).err = er := fun x => by unfold Rs.fail; rw [if_neg h0]
    rw [hfe, take_failed bs er size h0, take_failed bs er n h0]
theorem text_done {w w1 w2 w3 w4 : World} {p : Nat} {D : Nat → Prop} {u3 x4 : Value} {cs : List UInt8} {s : Rs} (k1 : Keep (fun k => k = p) w w1) (k2 : Keep (fun k => k = p) w1 w2) (k3 : Keep (fun k => k = p) w2 w3)
    (h3 : Rd w3 p D u3 s.left s.err) (hF : Fresh w3 w4 x4 cs) : Copied w p D cs s (.returned x4) w4 := by
  have k : Keep (fun k => k = p) w w3 := (k1.trans k2 (fun _ _ h => h)).trans k3 (fun _ _ h => h)
  exact ⟨u3, x4, rfl, k.trans hF.keep (fun _ _ h => h.elim), h3.keep hF.keep id (fun _ _ => id), hF.own, fun j hj => Nat.le_trans k.size (hF.new j hj)⟩
set_option maxRecDepth 100000 in
set_option maxHeartbeats 1000000 in
theorem rtext_any (w : World) (p : Nat) (D : Nat → Prop) (u : Value) (bs : List UInt8) (er : Int) (most : Nat) (hmo : most < 2147483648) (h : Rd w p D u bs er) :
    Calls Try.prog 95 #[.pointer (some ⟨p, 0, none⟩), .int .i64 most] w (Copied w p D (Rs.text ⟨bs, er⟩ most).1 (Rs.text ⟨bs, er⟩ most).2) := by
  have FC := Lib.hid (frontCount_any w _ u bs most hmo h.bytes)
  obtain ⟨A, c, rfl, hlc, hcm, _, _⟩ := h.bytes
  have hc0 : w.cell? ⟨p, 0, none⟩ = some (.slice A bs.length c) := h.box.cell 0
  unfold maxLen at hcm
  obtain ⟨f1, f2, f3⟩ := frontV_facts bs most
  have TS := Lib.hid (text_steps bs er most)
  have HL := Lib.hid (show most ≤ lim by rw [lim_is]; omega)
  unfold textErr at TS
  rw [← TS.out]
  generalize (frontV bs most).1 = n at *
  generalize (frontV bs most).2.1 = size at *
  generalize (frontV bs most).2.2 = e0 at *
  clear TS
  by_cases h1 : e0 = 0
  · subst h1
    by_cases h2 : bs.length - size < n
    · rw [if_pos ⟨rfl, h2⟩]
      go_enter Try.func95, Try.ntmps95
      go_wp2_with fail
      refine FC.out.mono ?_
      rintro e w1 ⟨rfl, rfl⟩
      go_wp2_with fail
      refine (fail_any w p D _ bs er 10 h).mono ?_
      rintro e w1 ⟨rfl, h1, k1⟩
      go_wp2_with fail
      refine (take_any w1 p D _ bs _ size h1).mono ?_
      rintro e w2 ⟨u2, x2, rfl, k2, h2, b2⟩
      go_wp2_with fail
      refine (take_any w2 p D u2 _ _ n h2).mono ?_
      rintro e w3 ⟨u3, x3, rfl, k3, h3, b3⟩
      go_wp2_with fail
      refine (clone_any w3 x3 _ _ b3 ?hl3).mono ?_
      case hl3 => exact Nat.le_trans (take_length _ _) (by have := HL.out; omega)
      rintro e w4 ⟨x4, rfl, hF⟩
      go_wp2
      go_ret
      exact text_done k1 k2 k3 h3 hF
    · rw [if_neg (fun h => h2 h.2)]
      have h2i : (n : Int) ≤ (bs.length : Int) - size := by omega
      clear h2
      go_enter Try.func95, Try.ntmps95
      go_wp2_with fail
      refine FC.out.mono ?_
      rintro e w1 ⟨rfl, rfl⟩
      go_wp2_with fail
      refine (fail_any w p D _ bs er 0 h).mono ?_
      rintro e w1 ⟨rfl, h1, k1⟩
      go_wp2_with fail
      refine (take_any w1 p D _ bs _ size h1).mono ?_
      rintro e w2 ⟨u2, x2, rfl, k2, h2, b2⟩
      go_wp2_with fail
      refine (take_any w2 p D u2 _ _ n h2).mono ?_
      rintro e w3 ⟨u3, x3, rfl, k3, h3, b3⟩
      go_wp2_with fail
      refine (clone_any w3 x3 _ _ b3 ?hl3).mono ?_
      case hl3 => exact Nat.le_trans (take_length _ _) (by have := HL.out; omega)
      rintro e w4 ⟨x4, rfl, hF⟩
      go_wp2
      go_ret
      exact text_done k1 k2 k3 h3 hF
  · rw [if_neg (fun h => h1 h.1)]
    have g : (e0 == 0) = false := beq_eq_false_iff_ne.2 h1
    clear h1
    · go_enter Try.func95, Try.ntmps95
      go_wp2_with fail
      refine FC.out.mono ?_
      rintro e w1 ⟨rfl, rfl⟩
      go_wp2_with fail
      refine (fail_any w p D _ bs er e0 h).mono ?_
      rintro e w1 ⟨rfl, h1, k1⟩
      go_wp2_with fail
      refine (take_any w1 p D _ bs _ size h1).mono ?_
      rintro e w2 ⟨u2, x2, rfl, k2, h2, b2⟩
      go_wp2_with fail
      refine (take_any w2 p D u2 _ _ n h2).mono ?_
      rintro e w3 ⟨u3, x3, rfl, k3, h3, b3⟩
      go_wp2_with fail
      refine (clone_any w3 x3 _ _ b3 ?hl3).mono ?_
      case hl3 => exact Nat.le_trans (take_length _ _) (by have := HL.out; omega)
      rintro e w4 ⟨x4, rfl, hF⟩
      go_wp2
      go_ret
      exact text_done k1 k2 k3 h3 hF
def Rs.var (s : Rs) (most : Nat) : Nat × Rs :=
  if s.err ≠ 0 then (0, s)
  else if (frontV s.left most).2.2 ≠ 0 then (0, ⟨s.left, (frontV s.left most).2.2⟩)
  else ((frontV s.left most).1, ⟨s.left.drop (frontV s.left most).2.1, 0⟩)
theorem var_le (s : Rs) (most : Nat) : (s.var most).1 ≤ most := by
  unfold Rs.var
  have := (frontV_facts s.left most).1
  split
  · exact Nat.zero_le _
  · split
    · exact Nat.zero_le _
    · exact this
set_option maxRecDepth 100000 in
set_option maxHeartbeats 1000000 in
theorem rvar_any (w : World) (p : Nat) (D : Nat → Prop) (u : Value) (bs : List UInt8) (er : Int) (most : Nat) (h : Rd w p D u bs er) :
    Calls Try.prog 109 #[.pointer (some ⟨p, 0, none⟩), .int .u64 most] w (Got w p D (.int .u64 (Rs.var ⟨bs, er⟩ most).1) (Rs.var ⟨bs, er⟩ most).2) := by
  have FC := Lib.hid (frontVar_any w _ u bs most h.bytes)
  have VR : Rs.var ⟨bs, er⟩ most = if er ≠ 0 then (0, ⟨bs, er⟩) else if (frontV bs most).2.2 ≠ 0 then (0, ⟨bs, (frontV bs most).2.2⟩) else ((frontV bs most).1, ⟨bs.drop (frontV bs most).2.1, 0⟩) := rfl
  obtain ⟨A, c, rfl, hlc, hcm, _, _⟩ := h.bytes
  have hc0 : w.cell? ⟨p, 0, none⟩ = some (.slice A bs.length c) := h.box.cell 0
  obtain ⟨f1, f2, f3⟩ := frontV_facts bs most
  unfold maxLen at hcm
  generalize (frontV bs most).1 = n at *
  generalize (frontV bs most).2.1 = size at *
  generalize (frontV bs most).2.2 = e0 at *
  have HF : er = 0 → (Rs.fail ⟨bs, er⟩ e0).err = e0 := fun h => by unfold Rs.fail; rw [if_pos h]
  have HG : er ≠ 0 → (Rs.fail ⟨bs, er⟩ e0).err = er := fun h => by unfold Rs.fail; rw [if_neg h]
  have FL := Lib.hid (fail_any w p D _ bs er e0 h)
  obtain ⟨e1, he1⟩ : ∃ e1, (Rs.fail ⟨bs, er⟩ e0).err = e1 := ⟨_, rfl⟩
  by_cases hz : e1 = 0
  · subst hz
    have h0 : er = 0 ∧ e0 = 0 := by
      by_cases h0 : er = 0
      · exact ⟨h0, (HF h0).symm.trans he1⟩
      · exact absurd ((HG h0).symm.trans he1) h0
    obtain ⟨rfl, rfl⟩ := h0
    rw [if_neg (fun h => h rfl), if_neg (fun h => h rfl)] at VR
    rw [he1] at FL
    clear HF HG he1
    have E := Lib.hid VR
    clear VR
    go_enter Try.func109, Try.ntmps109
    go_wp2_with fail
    refine FC.out.mono ?_
    rintro e w1 ⟨rfl, rfl⟩
    go_wp2_with fail
    refine FL.out.mono ?_
    rintro e w1 ⟨rfl, h1, k1⟩
    have hc1 : w1.cell? ⟨p, 1, none⟩ = some (.int .i64 0) := h1.box.cell 1
    go_wp2_with fail
    refine (take_any w1 p D _ bs _ size h1).mono ?_
    rintro e w2 ⟨u2, x2, rfl, k2, h2, b2⟩
    go_wp2
    go_ret
    rw [E.out]
    rw [take_fits bs size f2] at h2
    exact ⟨rfl, k1.trans k2 (fun _ _ h => h), u2, h2⟩
  · have VR' : Rs.var ⟨bs, er⟩ most = (0, ⟨bs, e1⟩) := by
      rw [VR]
      by_cases h0 : er = 0
      · rw [if_neg (fun h => h h0)]
        have : e0 = e1 := (HF h0).symm.trans he1
        subst this
        rw [if_pos hz]
      · rw [if_pos h0, (HG h0).symm.trans he1]
    have E := Lib.hid VR'
    rw [he1] at FL
    have g' : (e1 != 0) = true := by rw [bne_iff_ne]; exact hz
    clear HF HG he1 VR VR' hz
    go_enter Try.func109, Try.ntmps109
    go_wp2_with fail
    refine FC.out.mono ?_
    rintro e w1 ⟨rfl, rfl⟩
    go_wp2_with fail
    refine FL.out.mono ?_
    rintro e w1 ⟨rfl, h1, k1⟩
    have hc1 : w1.cell? ⟨p, 1, none⟩ = some (.int .i64 e1) := h1.box.cell 1
    go_wp2
    go_ret
    rw [E.out]
    exact ⟨rfl, k1, _, h1⟩
theorem var_failed_first (bs : List UInt8) (er : Int) (most : Nat) : Rs.var ⟨bs, (Rs.fail ⟨bs, er⟩ (frontV bs most).2.2).err⟩ most = Rs.var ⟨bs, er⟩ most := by
  unfold Rs.fail Rs.var
  by_cases h0 : er = 0
  · subst h0
    by_cases h1 : (frontV bs most).2.2 = 0
    · simp [h1]
    · simp [h1]
  · simp [h0]
set_option maxRecDepth 100000 in
set_option maxHeartbeats 1000000 in
theorem count_any (w : World) (p : Nat) (D : Nat → Prop) (u : Value) (bs : List UInt8) (er : Int) (most : Nat) (hmo : most < 2147483648) (h : Rd w p D u bs er) :
    Calls Try.prog 107 #[.pointer (some ⟨p, 0, none⟩), .int .i64 most] w (Got w p D (.int .i64 (Rs.var ⟨bs, er⟩ most).1) (Rs.var ⟨bs, er⟩ most).2) := by
  have FC := Lib.hid (frontCount_any w _ u bs most hmo h.bytes)
  obtain ⟨A, c, rfl, hlc, hcm, _, _⟩ := h.bytes
  have hc0 : w.cell? ⟨p, 0, none⟩ = some (.slice A bs.length c) := h.box.cell 0
  rw [← var_failed_first]
  have FL := Lib.hid (fail_any w p D _ bs er (frontV bs most).2.2 h)
  generalize (Rs.fail ⟨bs, er⟩ (frontV bs most).2.2).err = e1 at *
  have hv := var_le ⟨bs, e1⟩ most
  generalize (frontV bs most).1 = n at *
  generalize (frontV bs most).2.1 = size at *
  generalize (frontV bs most).2.2 = e0 at *
  go_enter Try.func107, Try.ntmps107
  go_wp2_with fail
  refine FC.out.mono ?_
  rintro e w1 ⟨rfl, rfl⟩
  go_wp2_with fail
  refine FL.out.mono ?_
  rintro e w1 ⟨rfl, h1, k1⟩
  go_wp2_with fail
  refine (rvar_any w1 p D _ bs e1 most h1).mono ?_
  rintro e w2 ⟨rfl, k2, u2, h2⟩
  generalize (Rs.var ⟨bs, e1⟩ most).1 = m at *
  generalize (Rs.var ⟨bs, e1⟩ most).2 = s at *
  go_wp2
  go_ret
  exact ⟨rfl, k1.trans k2 (fun _ _ h => h), u2, h2⟩
section
variable (w : World) (p : Nat) (D : Nat → Prop) (u : Value) (s s' : Rs) (cs : List UInt8) (n most : Nat)
theorem rlong_to (h : Rd w p D u s.left s.err) (e : s.take 8 = (cs, s')) : Calls Try.prog 22 #[.pointer (some ⟨p, 0, none⟩)] w (Got w p D (.int .u64 (num cs)) s') := by
  have := rlong_any w p D u s.left s.err h
  rw [show (Rs.take ⟨s.left, s.err⟩ 8) = (cs, s') from e] at this
  exact this
theorem rbyte_to (h : Rd w p D u s.left s.err) (e : s.take 1 = (cs, s')) : Calls Try.prog 21 #[.pointer (some ⟨p, 0, none⟩)] w (Got w p D (.int .u8 (num cs)) s') := by
  have := rbyte_any w p D u s.left s.err h
  rw [show (Rs.take ⟨s.left, s.err⟩ 1) = (cs, s') from e] at this
  exact this
theorem rtext_to (hmo : most < 2147483648) (h : Rd w p D u s.left s.err) (e : s.text most = (cs, s')) : Calls Try.prog 95 #[.pointer (some ⟨p, 0, none⟩), .int .i64 most] w (Copied w p D cs s') := by
  have := rtext_any w p D u s.left s.err most hmo h
  rw [show (Rs.text ⟨s.left, s.err⟩ most) = (cs, s') from e] at this
  exact this
theorem count_to (hmo : most < 2147483648) (h : Rd w p D u s.left s.err) (e : s.var most = (n, s')) : Calls Try.prog 107 #[.pointer (some ⟨p, 0, none⟩), .int .i64 most] w (Got w p D (.int .i64 n) s') := by
  have := count_any w p D u s.left s.err most hmo h
  rw [show (Rs.var ⟨s.left, s.err⟩ most) = (n, s') from e] at this
  exact this
theorem end_to (er : Int) (h : Rd w p D u s.left s.err) (e : s.end_ = er) : Calls Try.prog 23 #[.pointer (some ⟨p, 0, none⟩)] w fun e w' => e = .returned (.int .i64 er) ∧ w = w' := by
  have := end_any w p D u s.left s.err h
  rw [show (Rs.end_ ⟨s.left, s.err⟩) = er from e] at this
  exact this
end
end Go.Proofs.Ytdikmmdkpfmocaa
