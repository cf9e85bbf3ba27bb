/-
  The document's entries: dockyardref04.Decode.
-/
import Derived.Test.YtngbminjbgomgaaRefEnc
import Derived.Test.YtngbminjbgomgaaRefText
import Derived.Test.YtngbminjbgomgaaPlain2
namespace Go.Proofs.Ytngbminjbgomgaa
open Go.RowKit

section
variable {w w' : World} {g g' : Nat} {t : TypeId} {a b c d : Value}
theorem Box.put4 (h : Box w g t #[a, b, c, d]) (x y z u : Value) : Box ((((w.setCell ⟨g, 0, none⟩ x).setCell ⟨g, 1, none⟩ y).setCell ⟨g, 2, none⟩ z).setCell ⟨g, 3, none⟩ u) g t #[x, y, z, u] := by simpa using (((h.put 0 x).put 1 y).put 2 z).put 3 u
theorem Keep.put4 (g : Nat) (x y z u : Value) : Keep (fun k => k = g) w ((((w.setCell ⟨g, 0, none⟩ x).setCell ⟨g, 1, none⟩ y).setCell ⟨g, 2, none⟩ z).setCell ⟨g, 3, none⟩ u) :=
  ((((Keep.refl (fun k => k = g) w).setCell (p := ⟨g, 0, none⟩) (fun _ => rfl) x).setCell (p := ⟨g, 1, none⟩) (fun _ => rfl) y).setCell (p := ⟨g, 2, none⟩) (fun _ => rfl) z).setCell (p := ⟨g, 3, none⟩) (fun _ => rfl) u
end

set_option maxRecDepth 100000 in
set_option maxHeartbeats 2000000 in
theorem refDecode_short (w : World) (A : Option Addr) (c n : Nat) (hn : n < 18) :
    Calls Try.prog 12 #[.slice A n c] w fun e w' => e = .returned (.tuple #[.agg #[.int .u64 0, .int .u64 0, .int .i64 0, .slice none 0 0], .int .i64 40]) ∧ Keep noneOf w w' := by
  have g : decide ((n : Int) < 18) = true := decide_eq_true (by omega)
  have K0 := (Keep.refl noneOf w).alloc (.cells #[.int .u64 0, .int .u64 0, .int .i64 0, .slice none 0 0] 25)
  have X0 := Box.new w 25 #[.int .u64 0, .int .u64 0, .int .i64 0, .slice none 0 0]
  have HY := Lib.hid (X0.put4 (.int .u64 0) (.int .u64 0) (.int .i64 0) (.slice none 0 0))
  have HK := Lib.hid (K0.newer (Keep.put4 w.heap.size (.int .u64 0) (.int .u64 0) (.int .i64 0) (.slice none 0 0)) (Nat.le_refl _))
  clear hn K0 X0
  go_enter Try.func12, Try.ntmps12
  go_wp2
  refine bodyPost_ret (v := .tuple #[.agg #[.int .u64 0, .int .u64 0, .int .i64 0, .slice none 0 0], .int .i64 40]) (by simp [results, Try.results12, go_sem]) rfl ⟨rfl, ?_⟩
  repeat (first | exact Keep.refl _ _ | refine Keep.alloc ?_ _ | refine Keep.putNew ?_ (Nat.le_refl _) _)

set_option maxRecDepth 100000 in
set_option maxHeartbeats 2000000 in
theorem refDecode_long (w : World) (D : Nat → Prop) (b o c : Nat) (bs cd : List UInt8) (sd : Rs) (er : Int) (ni nt nk : Nat) (x16 : UInt8) (ok : Bool) (hs : Bytes w D (.slice (some ⟨b, o, none⟩) bs.length c) bs) (hl : bs.length ≤ lim) (h18 : 18 ≤ bs.length)
    (hd : Rs.text ⟨bs.drop 17, 0⟩ 65536 = (cd, sd)) (hend : sd.end_ = er) (hni : num (bs.take 8) = ni) (hnt : num ((bs.drop 8).take 8) = nt) (hx : bs[16]? = some x16) (hnk : x16.toNat = nk)
    (hok : (decide (er = 0) && entRight ni nt (nk : Int) cd.length) = ok) (hrd : ok = true → entBytes ni nt (nk : Int).toNat cd = bs) (ci ct ck : List UInt8) (hci : num ci = ni) (hct : num ct = nt) (hck : num ck = nk) :
    Calls Try.prog 12 #[.slice (some ⟨b, o, none⟩) bs.length c] w (Decoded' w ci ct ck cd ok) := by
  have hc18 : 18 ≤ c := by obtain ⟨_, _, e, h, _⟩ := hs; injection e with _ _ e; omega
  have hcm : c ≤ 9223372036854775807 := by obtain ⟨_, _, e, _, h, _⟩ := hs; injection e with _ _ e; unfold maxLen at h; omega
  have g0 : decide ((bs.length : Int) < 18) = false := decide_eq_false (by omega)
  have K0 := (Keep.refl noneOf w).alloc (.cells #[.int .u64 0, .int .u64 0, .int .i64 0, .slice none 0 0] 25)
  have X0 := Box.new w 25 #[.int .u64 0, .int .u64 0, .int .i64 0, .slice none 0 0]
  have GT := Lib.hid (refGetText_any _ D _ c bs cd 17 65536 0 sd (by decide) (hs.keep K0 (fun _ _ _ => id)) hl (by omega) hd)
  have b8 := Bytes.take (n := 8) hs (by omega)
  have hdr := hs.drop (n := 8) (by omega)
  rw [← List.length_drop] at hdr
  have b16 := Bytes.take (n := 8) hdr (by rw [List.length_drop]; omega)
  rw [if_neg (by omega)] at b16
  have h64i : (ni : Int) < 18446744073709551616 := by rw [← hni]; exact num_lt64 _ (by rw [List.length_take]; omega)
  have h64t : (nt : Int) < 18446744073709551616 := by rw [← hnt]; exact num_lt64 _ (by rw [List.length_take]; omega)
  have q16 : w.cell? ⟨b, o + 16, none⟩ = some (.int .u8 (nk : Int)) := by
    obtain ⟨_, _, e, _, _, _, h⟩ := hs
    injection e with e _ _
    subst e
    obtain ⟨ad, e, _, _, _, h⟩ := h (by omega)
    injection e with e
    subst e
    have := h 16 x16 hx
    rw [← hnk]
    exact this
  have hb : b < w.heap.size := World.block_lt_of_cell? w ⟨b, o + 16, none⟩ q16
  have HS := Lib.hid hs
  have HB8 := Lib.hid b8
  have HB16 := Lib.hid b16
  have HK0 := Lib.hid K0
  have HX0 := Lib.hid X0
  have H64 := Lib.hid (And.intro h64i h64t)
  have HNI := Lib.hid hni
  have HNT := Lib.hid hnt
  have HQ16 := Lib.hid q16
  have HEND := Lib.hid hend
  have HOK := Lib.hid hok
  have HRD := Lib.hid hrd
  have HC := Lib.hid (And.intro hci (And.intro hct hck))
  have HBB := Lib.hid hb
  have hk256 : nk < 256 := by rw [← hnk]; exact x16.toNat_lt
  have HK256 := Lib.hid hk256
  clear hs hl hd hend hni hnt hx hnk hok hrd hci hct hck K0 X0 b8 hdr b16 h64i h64t q16 hb hk256
  go_enter Try.func12, Try.ntmps12
  go_wp2_with fail
  refine GT.out.mono ?_
  rintro e w1 ⟨p1, u1, rfl, hp1, hd1, F1⟩
  obtain ⟨A1, c1, hs1⟩ := own_shape F1.own
  subst hs1
  obtain ⟨lf, se⟩ := sd
  simp only at hd1 HEND ⊢
  have X1 := HX0.out.keep F1.keep id
  have F1' := Fresh.after HK0.out F1
  have ka := (Keep.refl noneOf w1).alloc (.cells #[.slice (some ⟨b, o, none⟩) bs.length c, .int .i64 p1, .int .i64 se] 67)
  have R2 := Box.new w1 67 #[.slice (some ⟨b, o, none⟩) bs.length c, .int .i64 p1, .int .i64 se]
  have X2 := X1.keep ka id
  have F2 := F1'.later ka
  have hz : w.heap.size < w1.heap.size := X1.lt
  have HD1 := Lib.hid hd1
  have HR2 := Lib.hid R2
  have HX2 := Lib.hid X2
  have HF2 := Lib.hid F2
  clear GT F1 X1 F1' ka R2 X2 F2 hd1 HX0 HK0
  go_wp2
  generalize w1.alloc (.cells #[.slice (some ⟨b, o, none⟩) bs.length c, .int .i64 p1, .int .i64 se] 67) = w2 at *
  have R3 := HR2.out
  have X3 := HX2.out
  have F3 := HF2.out
  have KW := F3.keep
  have SD8 : Hid (∀ w', Keep noneOf w w' → Calls Try.prog 36 #[.slice (some ⟨b, o, none⟩) 8 c] w' fun e w'' => e = .returned (.int .u64 (ni : Int)) ∧ w' = w'') := fun w' k => by
    have := refSaid_any w' D _ _ (HB8.out.keep k (fun _ _ _ => id)) (by rw [List.length_take]; omega)
    rw [HNI.out] at this
    exact this
  have SD16 : Hid (∀ w', Keep noneOf w w' → Calls Try.prog 36 #[.slice (some ⟨b, o + 8, none⟩) 8 (c - 8)] w' fun e w'' => e = .returned (.int .u64 (nt : Int)) ∧ w' = w'') := fun w' k => by
    have := refSaid_any w' D _ _ (HB16.out.keep k (fun _ _ _ => id)) (by rw [List.length_take]; omega)
    rw [HNT.out] at this
    exact this
  have MK : Hid (∀ w', Keep noneOf w w' → w'.cell? ⟨b, o + 16, none⟩ = some (.int .u8 (nk : Int))) := fun w' k => (k.cell (p := ⟨b, o + 16, none⟩) HBB.out id).trans HQ16.out
  have gc8 : (8 : Int) ≤ (c : Int) := by omega
  have gc16 : (16 : Int) ≤ (c : Int) := by omega
  have gl16 : (16 : Int) < (bs.length : Int) := by omega
  have gn8 : ¬ c = 8 := by omega
  have gl17 : 16 < bs.length := by omega
  have gwk : IntKind.i64.wrap (nk : Int) = (nk : Int) := IntWalk.i64_in _ (by have := HK256.out; omega)
  clear HB8 HB16 HNI HNT HQ16 R3 X3 F3
  go_region_held3 (fun w' => Keep noneOf w w' ∧ w'.cell? ⟨b, o + 16, none⟩ = some (.int .u8 (nk : Int))) (first | exact ⟨KW.drew, MK.out _ KW.drew⟩ | exact ⟨(KW.alloc _).drew, MK.out _ (KW.alloc _).drew⟩ | assumption | (refine (fun k => ⟨k, MK.out _ k⟩) ?_; exact Keep.alloc (And.left (by assumption)) _) | (refine (fun k => ⟨k, MK.out _ k⟩) ?_; repeat (first | exact KW.drew | refine Keep.alloc ?_ _ | refine Keep.putNew ?_ (by omega) _)))
    (first | (go_at_call 36; ((with_reducible refine (SD8.out _ (And.left (by assumption))).mono ?_); rintro e w'' ⟨rfl, rfl⟩)) | (go_at_call 36; ((with_reducible refine (SD16.out _ (And.left (by assumption))).mono ?_); rintro e w'' ⟨rfl, rfl⟩)))
  all_goals
    have k34 := ((Keep.refl noneOf w2).alloc (.cells #[.int .u64 (ni : Int), .int .u64 (nt : Int), .int .i64 (nk : Int), .slice A1 cd.length c1] 25)).drew
    have E4 := (Box.new w2 25 #[.int .u64 (ni : Int), .int .u64 (nt : Int), .int .i64 (nk : Int), .slice A1 cd.length c1]).drew
    have R4 := HR2.out.keep k34 id
    have X4 := HX2.out.keep k34 id
    have F4 := HF2.out.later k34
    have hz4 : w.heap.size < w2.heap.size := HX2.out.lt
    clear k34 HR2 HX2 HF2 SD8 SD16 MK KW gwk
    generalize (w2.alloc (.cells #[.int .u64 (ni : Int), .int .u64 (nt : Int), .int .i64 (nk : Int), .slice A1 cd.length c1] 25)).drew = w4 at *
    have e0 : w4.cell? ⟨w2.heap.size, 0, none⟩ = some (.int .u64 (ni : Int)) := E4.cell 0
    have e1 : w4.cell? ⟨w2.heap.size, 1, none⟩ = some (.int .u64 (nt : Int)) := E4.cell 1
    have e2 : w4.cell? ⟨w2.heap.size, 2, none⟩ = some (.int .i64 (nk : Int)) := E4.cell 2
    have e3 : w4.cell? ⟨w2.heap.size, 3, none⟩ = some (.slice A1 cd.length c1) := E4.cell 3
    have RE := Lib.hid (refEncode_any w4 _ ni nt nk _ cd H64.out.1 H64.out.2 F4.any)
    have HE4 := Lib.hid E4
    have HR4 := Lib.hid R4
    have HX4 := Lib.hid X4
    have HF4 := Lib.hid F4
    clear E4 R4 X4 F4
    go_wp2_with fail
    refine RE.out.mono ?_
    rintro e w5 ⟨k5, hh⟩
    have E5 := HE4.out.keep k5 id
    have R5 := HR4.out.keep k5 id
    have X5 := HX4.out.keep k5 id
    have F5 := HF4.out.later k5
    have d0 : w5.cell? ⟨w1.heap.size, 0, none⟩ = some (.slice (some ⟨b, o, none⟩) bs.length c) := R5.cell 0
    have d1 : w5.cell? ⟨w1.heap.size, 1, none⟩ = some (.int .i64 p1) := R5.cell 1
    have d2 : w5.cell? ⟨w1.heap.size, 2, none⟩ = some (.int .i64 se) := R5.cell 2
    have EN := Lib.hid (refEnd_any w5 (some ⟨b, o, none⟩) c p1 bs se hp1)
    rw [HD1.out, HEND.out] at EN
    clear e0 e1 e2 e3 RE HE4 HR4 HX4 HF4 R5
    rcases hh with ⟨hr, rfl⟩ | ⟨hr, u5, rfl, o5, n5⟩
    · rw [hr, Bool.and_false] at HOK
      obtain rfl := HOK.out.symm
      go_wp2_with fail
      refine EN.out.mono ?_
      rintro e w6 ⟨rfl, k6⟩
      have E6 := E5.keep k6 id
      have X6 := X5.keep k6 id
      have K6 := F5.keep.trans k6 (fun _ _ h => h)
      have x0 : w6.cell? ⟨w.heap.size, 0, none⟩ = some (.int .u64 0) := X6.cell 0
      have x1 : w6.cell? ⟨w.heap.size, 1, none⟩ = some (.int .u64 0) := X6.cell 1
      have x2 : w6.cell? ⟨w.heap.size, 2, none⟩ = some (.int .i64 0) := X6.cell 2
      have x3 : w6.cell? ⟨w.heap.size, 3, none⟩ = some (.slice none 0 0) := X6.cell 3
      have fx0 := X6.free 0
      have fx1 := X6.free 1
      have fx2 := X6.free 2
      have fx3 := X6.free 3
      clear EN k5 k6 E5 X5 F5 HOK HRD
      by_cases her : er = 0
      · subst her
        have YS := X6.put4 (.int .u64 0) (.int .u64 0) (.int .i64 0) (.slice none 0 0)
        have KF := K6.newer (Keep.put4 w.heap.size (.int .u64 0) (.int .u64 0) (.int .i64 0) (.slice none 0 0)) (Nat.le_refl _)
        have HYS := Lib.hid YS
        have HKF := Lib.hid KF
        clear YS KF X6 K6 E6
        go_wp2
        generalize (((w6.setCell ⟨w.heap.size, 0, none⟩ (.int .u64 0)).setCell ⟨w.heap.size, 1, none⟩ (.int .u64 0)).setCell ⟨w.heap.size, 2, none⟩ (.int .i64 0)).setCell ⟨w.heap.size, 3, none⟩ (.slice none 0 0) = wf at *
        have r0 : wf.cell? ⟨w.heap.size, 0, none⟩ = some (.int .u64 0) := HYS.out.cell 0
        have r1 : wf.cell? ⟨w.heap.size, 1, none⟩ = some (.int .u64 0) := HYS.out.cell 1
        have r2 : wf.cell? ⟨w.heap.size, 2, none⟩ = some (.int .i64 0) := HYS.out.cell 2
        have r3 : wf.cell? ⟨w.heap.size, 3, none⟩ = some (.slice none 0 0) := HYS.out.cell 3
        exact bodyPost_ret (v := .tuple #[.agg #[.int .u64 0, .int .u64 0, .int .i64 0, .slice none 0 0], .int .i64 40]) (by simp [results, Try.results12, go_sem, r0, r1, r2, r3]) rfl ⟨HKF.out, .inl ⟨rfl, rfl⟩⟩
      · have g1 : (er != 0) = true := bne_iff_ne.2 her
        have g2 : (er == 0) = false := beq_eq_false_iff_ne.2 her
        clear her
        have YS := X6.put4 (.int .u64 0) (.int .u64 0) (.int .i64 0) (.slice none 0 0)
        have KF := K6.newer (Keep.put4 w.heap.size (.int .u64 0) (.int .u64 0) (.int .i64 0) (.slice none 0 0)) (Nat.le_refl _)
        have HYS := Lib.hid YS
        have HKF := Lib.hid KF
        clear YS KF X6 K6 E6
        go_wp2
        generalize (((w6.setCell ⟨w.heap.size, 0, none⟩ (.int .u64 0)).setCell ⟨w.heap.size, 1, none⟩ (.int .u64 0)).setCell ⟨w.heap.size, 2, none⟩ (.int .i64 0)).setCell ⟨w.heap.size, 3, none⟩ (.slice none 0 0) = wf at *
        have r0 : wf.cell? ⟨w.heap.size, 0, none⟩ = some (.int .u64 0) := HYS.out.cell 0
        have r1 : wf.cell? ⟨w.heap.size, 1, none⟩ = some (.int .u64 0) := HYS.out.cell 1
        have r2 : wf.cell? ⟨w.heap.size, 2, none⟩ = some (.int .i64 0) := HYS.out.cell 2
        have r3 : wf.cell? ⟨w.heap.size, 3, none⟩ = some (.slice none 0 0) := HYS.out.cell 3
        exact bodyPost_ret (v := .tuple #[.agg #[.int .u64 0, .int .u64 0, .int .i64 0, .slice none 0 0], .int .i64 40]) (by simp [results, Try.results12, go_sem, r0, r1, r2, r3]) rfl ⟨HKF.out, .inl ⟨rfl, rfl⟩⟩
    · obtain ⟨A5, c5, hs5⟩ := own_shape o5
      have b5 := (Bytes.of_own o5).mono (D' := fun _ => True) (fun _ _ _ => trivial)
      subst hs5
      go_wp2_with fail
      refine EN.out.mono ?_
      rintro e w6 ⟨rfl, k6⟩
      have E6 := E5.keep k6 id
      have X6 := X5.keep k6 id
      have K6 := F5.keep.trans k6 (fun _ _ h => h)
      have F6 := F5.later k6
      have x0 : w6.cell? ⟨w.heap.size, 0, none⟩ = some (.int .u64 0) := X6.cell 0
      have x1 : w6.cell? ⟨w.heap.size, 1, none⟩ = some (.int .u64 0) := X6.cell 1
      have x2 : w6.cell? ⟨w.heap.size, 2, none⟩ = some (.int .i64 0) := X6.cell 2
      have x3 : w6.cell? ⟨w.heap.size, 3, none⟩ = some (.slice none 0 0) := X6.cell 3
      have fx0 := X6.free 0
      have fx1 := X6.free 1
      have fx2 := X6.free 2
      have fx3 := X6.free 3
      have e0 : w6.cell? ⟨w2.heap.size, 0, none⟩ = some (.int .u64 (ni : Int)) := E6.cell 0
      have e1 : w6.cell? ⟨w2.heap.size, 1, none⟩ = some (.int .u64 (nt : Int)) := E6.cell 1
      have e2 : w6.cell? ⟨w2.heap.size, 2, none⟩ = some (.int .i64 (nk : Int)) := E6.cell 2
      have e3 : w6.cell? ⟨w2.heap.size, 3, none⟩ = some (.slice A1 cd.length c1) := E6.cell 3
      by_cases her : er = 0
      · subst her
        rw [hr] at HOK
        obtain rfl : ok = true := HOK.out.symm
        have rs1 := run_str (b5.keep k6 (fun _ _ _ => id))
        have rs2 := run_str (HS.out.keep K6 (fun _ _ _ => id))
        rw [show strOf (entBytes ni nt (nk : Int).toNat cd) = strOf bs by rw [HRD.out rfl], Int.toNat_natCast] at rs1
        clear EN k5 k6 E5 X5 F5 HOK HRD o5 n5 b5 hr
        have hne : ∀ k, (Value.slice A1 cd.length c1).ownBlock = some k → ¬ (k = w.heap.size) := fun k hk e => by
          subst e
          rcases F6.own.2 with ⟨e, _⟩ | ⟨g, cap, cur, e, _, hg, _⟩
          · rw [e] at hk; cases hk
          · rw [e] at hk
            have : g = w.heap.size := by injection hk
            exact Box.ne (t := 5) (cs := cur) hg X6 (by decide) this
        have YS := X6.put4 (.int .u64 (ni : Int)) (.int .u64 (nt : Int)) (.int .i64 (nk : Int)) (.slice A1 cd.length c1)
        have KP := Keep.put4 (w := w6) w.heap.size (.int .u64 (ni : Int)) (.int .u64 (nt : Int)) (.int .i64 (nk : Int)) (.slice A1 cd.length c1)
        have KF := K6.newer KP (Nat.le_refl _)
        have OF := own_keep F6.own KP hne
        have HNEW := Lib.hid F6.new
        have HYS := Lib.hid YS
        have HKF := Lib.hid KF
        have HOF := Lib.hid OF
        clear YS KF KP OF X6 K6 E6 F6 hne
        go_wp2
        generalize (((w6.setCell ⟨w.heap.size, 0, none⟩ (.int .u64 (ni : Int))).setCell ⟨w.heap.size, 1, none⟩ (.int .u64 (nt : Int))).setCell ⟨w.heap.size, 2, none⟩ (.int .i64 (nk : Int))).setCell ⟨w.heap.size, 3, none⟩ (.slice A1 cd.length c1) = wf at *
        have r0 : wf.cell? ⟨w.heap.size, 0, none⟩ = some (.int .u64 (ni : Int)) := HYS.out.cell 0
        have r1 : wf.cell? ⟨w.heap.size, 1, none⟩ = some (.int .u64 (nt : Int)) := HYS.out.cell 1
        have r2 : wf.cell? ⟨w.heap.size, 2, none⟩ = some (.int .i64 (nk : Int)) := HYS.out.cell 2
        have r3 : wf.cell? ⟨w.heap.size, 3, none⟩ = some (.slice A1 cd.length c1) := HYS.out.cell 3
        exact bodyPost_ret (v := .tuple #[.agg #[.int .u64 (ni : Int), .int .u64 (nt : Int), .int .i64 (nk : Int), .slice A1 cd.length c1], .int .i64 0]) (by simp [results, Try.results12, go_sem, r0, r1, r2, r3]) rfl ⟨HKF.out, .inr ⟨rfl, _, by rw [HC.out.1, HC.out.2.1, HC.out.2.2], HOF.out, HNEW.out⟩⟩
      · have g1 : (er != 0) = true := bne_iff_ne.2 her
        have g2 : (er == 0) = false := beq_eq_false_iff_ne.2 her
        rw [decide_eq_false her, Bool.false_and] at HOK
        obtain rfl := HOK.out.symm
        clear her EN k5 k6 E5 X5 F5 HOK HRD o5 n5 b5 hr F6
        have YS := X6.put4 (.int .u64 0) (.int .u64 0) (.int .i64 0) (.slice none 0 0)
        have KF := K6.newer (Keep.put4 w.heap.size (.int .u64 0) (.int .u64 0) (.int .i64 0) (.slice none 0 0)) (Nat.le_refl _)
        have HYS := Lib.hid YS
        have HKF := Lib.hid KF
        clear YS KF X6 K6 E6
        go_wp2
        generalize (((w6.setCell ⟨w.heap.size, 0, none⟩ (.int .u64 0)).setCell ⟨w.heap.size, 1, none⟩ (.int .u64 0)).setCell ⟨w.heap.size, 2, none⟩ (.int .i64 0)).setCell ⟨w.heap.size, 3, none⟩ (.slice none 0 0) = wf at *
        have r0 : wf.cell? ⟨w.heap.size, 0, none⟩ = some (.int .u64 0) := HYS.out.cell 0
        have r1 : wf.cell? ⟨w.heap.size, 1, none⟩ = some (.int .u64 0) := HYS.out.cell 1
        have r2 : wf.cell? ⟨w.heap.size, 2, none⟩ = some (.int .i64 0) := HYS.out.cell 2
        have r3 : wf.cell? ⟨w.heap.size, 3, none⟩ = some (.slice none 0 0) := HYS.out.cell 3
        exact bodyPost_ret (v := .tuple #[.agg #[.int .u64 0, .int .u64 0, .int .i64 0, .slice none 0 0], .int .i64 40]) (by simp [results, Try.results12, go_sem, r0, r1, r2, r3]) rfl ⟨HKF.out, .inl ⟨rfl, rfl⟩⟩

theorem refDecode_any (w : World) (D : Nat → Prop) (v : Value) (bs : List UInt8) (hs : Bytes w D v bs) (hl : bs.length ≤ lim) :
    Calls Try.prog 12 #[v] w (Decoded w bs) := by
  have hs' := hs
  obtain ⟨A, c, rfl, _, _, _, hc⟩ := hs
  by_cases h : bs.length < 18
  · refine (refDecode_short w A c bs.length h).mono ?_
    rintro e w' ⟨rfl, K⟩
    exact ⟨K, .inl ⟨dec_short bs h, rfl⟩⟩
  · obtain ⟨ad, rfl, hsp, _⟩ := hc (by omega)
    obtain ⟨b, o, sp⟩ := ad
    simp only at hsp
    subst hsp
    obtain ⟨e1, e2, e3, e4⟩ := dec_parts bs (by omega)
    have h16 : bs[16]? = some bs[16] := List.getElem?_eq_getElem (by omega)
    have hk : (bs.drop 16).take 1 = [bs[16]] := by
      rw [List.drop_eq_getElem_cons (by omega)]
      rfl
    have hn1 : num [bs[16]] = bs[16].toNat := by simp [num]
    refine refDecode_long w D b o c bs (decD bs).1 (decD bs).2 (decD bs).2.end_ (num (decI bs).1) (num (decT bs).1) (num (decK bs).1) bs[16] (decOk bs) hs' hl (by omega) (by rw [← e4]) rfl (by rw [e1]) (by rw [e2]) h16 (by rw [e3, hk, hn1]) rfl (fun hok => ?_) _ _ _ rfl rfl rfl
    rw [Int.toNat_natCast]
    exact dec_read bs hok
end Go.Proofs.Ytngbminjbgomgaa
