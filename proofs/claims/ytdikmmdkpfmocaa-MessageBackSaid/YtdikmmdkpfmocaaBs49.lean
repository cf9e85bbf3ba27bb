import Derived.Test.YtdikmmdkpfmocaaBs07
import Derived.Test.YtdikmmdkpfmocaaBs44
import Derived.Test.YtdikmmdkpfmocaaBs45
import Derived.Test.YtdikmmdkpfmocaaBs48
namespace Go.Proofs.Ytdikmmdkpfmocaa
open Go.RowKit Go.Shelf Go.ChangeShapes Go.WideShapes Go.Deep
noncomputable def sameM (a b : Pm) : Bool := @decide (a = b) (Classical.propDecidable _)
theorem msame_tells (w : World) (D D' : Nat → Prop) (a b : Mg) (h : a.lies w D) (h' : b.lies w D') :
    Calls Try.prog 10 #[.agg a.cells, .agg b.cells] w fun e w' => e = .returned (.bool (sameM a.plain b.plain)) ∧ Keep noneOf w w' :=
  (msame_any w D D' a b h h').mono fun e w' ⟨R, hr, hq, hk⟩ => by
    refine ⟨?_, hk⟩
    rw [hr]
    have : R = sameM a.plain b.plain := by
      unfold sameM
      rw [Bool.eq_iff_iff, hq]
      simp
    rw [this]
theorem codes_same {m o : Mg} {w : World} {D D' : Nat → Prop} (h : m.lies w D) (h' : o.lies w D') (hr : rightP m.plain = true) (hr' : rightP o.plain = true) :
    (((strOf (encBs m.plain)).toList == (strOf (encBs o.plain)).toList) == sameM m.plain o.plain) = true := by
  rw [beq_iff_eq, Bool.eq_iff_iff, str_bool]
  unfold sameM encBs
  rw [if_pos hr, if_pos hr']
  simp only [decide_eq_true_eq]
  exact ⟨fun e => enc_inj hr hr' h.num64 h'.num64 e, fun e => by rw [e]⟩
set_option maxRecDepth 100000 in
set_option maxHeartbeats 4000000 in
theorem unlike_walk (w : World) (m o : Mg) (h : m.lies w (fun _ => True)) (h' : o.lies w (fun _ => True)) :
    Calls Try.prog 5 #[.agg m.cells, .agg o.cells] w fun e w' => e = .returned (.bool true) ∧ Keep noneOf w w' := by
  have K1 := (Keep.refl noneOf w).alloc (.cells m.cells 29)
  have K2 := K1.alloc (.cells o.cells 29)
  have HA : Hid (MBox ((w.alloc (.cells m.cells 29)).alloc (.cells o.cells 29)) w.heap.size m) := Lib.hid ((Box.new w 29 m.cells).alloc _)
  have HB : Hid (MBox ((w.alloc (.cells m.cells 29)).alloc (.cells o.cells 29)) (w.heap.size + 1) o) := Lib.hid (by have := Box.new (w.alloc (.cells m.cells 29)) 29 o.cells; rw [World.size_alloc] at this; exact this)
  have HK := Lib.hid K2
  have HLm := Lib.hid (h.keepN K2)
  have HLo := Lib.hid (h'.keepN K2)
  have HE := Lib.hid (mencode_one _ _ m (h.keepN K2))
  have HO := Lib.hid (fun w' (k : Keep noneOf ((w.alloc (.cells m.cells 29)).alloc (.cells o.cells 29)) w') => mencode_one w' _ o ((h'.keepN K2).keepN k))
  have ea : (Value.agg m.cells).cells = m.cells := rfl
  have eb : (Value.agg o.cells).cells = o.cells := rfl
  obtain ⟨R, hR⟩ : ∃ R, rightP m.plain = R := ⟨_, rfl⟩
  obtain ⟨R', hR'⟩ : ∃ R, rightP o.plain = R := ⟨_, rfl⟩
  have HCS : Hid (R = true → R' = true → (((strOf (encBs m.plain)).toList == (strOf (encBs o.plain)).toList) == sameM m.plain o.plain) = true) := Lib.hid (fun e e' => codes_same h h' (hR.trans e) (hR'.trans e'))
  obtain ⟨E, hE⟩ : ∃ E, encN m.plain = E := ⟨_, rfl⟩
  obtain ⟨E', hE'⟩ : ∃ E, encN o.plain = E := ⟨_, rfl⟩
  have HEN : Hid (E = if R = true then 0 else 160) := Lib.hid (by rw [← hE]; unfold encN; rw [hR])
  have HEN' : Hid (E' = if R' = true then 0 else 160) := Lib.hid (by rw [← hE']; unfold encN; rw [hR'])
  rw [hE] at HE
  rw [hE'] at HO
  have CS := Lib.hid (fun w' (k : Keep noneOf ((w.alloc (.cells m.cells 29)).alloc (.cells o.cells 29)) w') => msame_tells w' _ _ m o (HLm.out.keepN k) (HLo.out.keepN k))
  generalize encBs m.plain = X at *
  generalize encBs o.plain = Y at *
  generalize sameM m.plain o.plain = S at *
  clear K1 K2 h h' hR hR' hE hE'
  go_enter Try.func5, Try.ntmps5
  go_wp2_with (refine wpList_load_row rfl 29 _ rfl (w.heap.size) rfl 29 _ _ _ HA.out Try.underlying29 rfl (by kernel_rfl) ?_)
  generalize (w.alloc (.cells m.cells 29)).alloc (.cells o.cells 29) = w1 at *
  refine HE.out.mono ?_
  rintro e w2 ⟨u, rfl, F⟩
  have HB2 : Hid (MBox w2 (w.heap.size + 1) o) := Lib.hid (HB.out.keep F.keep id)
  have HX := Lib.hid F.bytes
  have HK2 := Lib.hid F.keep
  have HO2 := Lib.hid (HO.out w2 F.keep)
  obtain ⟨A, c, hu⟩ := own_shape F.own
  subst hu
  clear F HE HO
  go_wp2_with (refine wpList_load_row rfl 29 _ rfl (w.heap.size + 1) rfl 29 _ _ _ HB2.out Try.underlying29 rfl (by kernel_rfl) ?_)
  refine HO2.out.mono ?_
  rintro e w3 ⟨u', rfl, F'⟩
  have HX3 := Lib.hid (HX.out.keep F'.keep (fun _ _ _ => id))
  have HY3 := Lib.hid F'.bytes
  have HK13 := Lib.hid (HK2.out.trans F'.keep (fun _ _ h => h))
  have HK3 := Lib.hid (HK.out.trans HK13.out (fun _ _ h => h))
  obtain ⟨A', c', hu'⟩ := own_shape F'.own
  subst hu'
  clear F' HO2 HX HB2 HK2
  cases R
  · have he : E = 160 := HEN.out
    subst he
    go_wp2_with fail
    refine (alive_any w3).mono ?_
    rintro e wz ⟨rfl, kz⟩
    have HKZ := Lib.hid (HK3.out.trans kz (fun _ _ h => h))
    clear kz
    go_wp2
    go_ret
    exact ⟨rfl, HKZ.out⟩
  cases R'
  · have he : E = 0 := HEN.out
    subst he
    have he' : E' = 160 := HEN'.out
    subst he'
    go_wp2_with fail
    refine (alive_any w3).mono ?_
    rintro e wz ⟨rfl, kz⟩
    have HKZ := Lib.hid (HK3.out.trans kz (fun _ _ h => h))
    clear kz
    go_wp2
    go_ret
    exact ⟨rfl, HKZ.out⟩
  have he : E = 0 := HEN.out
  subst he
  have he' : E' = 0 := HEN'.out
  subst he'
  have hcs := HCS.out rfl rfl
  have K00 : Keep noneOf w3 w3 := Keep.refl _ _
  have MK := Lib.hid (fun w' (k : Keep noneOf w3 w') => show w'.cell? ⟨w.heap.size, 0, none⟩ = some (.int .i64 m.k) ∧ w'.cell? ⟨w.heap.size, 1, none⟩ = some (.int .i64 m.fr) ∧ w'.cell? ⟨w.heap.size, 2, none⟩ = some (.int .i64 m.to) ∧ w'.cell? ⟨w.heap.size, 3, none⟩ = some (.int .u64 (m.te : Int)) ∧ w'.cell? ⟨w.heap.size, 4, none⟩ = some (.int .u64 (m.ix : Int)) ∧ w'.cell? ⟨w.heap.size, 5, none⟩ = some (.int .u64 (m.lt : Int)) ∧ w'.cell? ⟨w.heap.size, 6, none⟩ = some (.int .u64 (m.cm : Int)) ∧ w'.cell? ⟨w.heap.size, 7, none⟩ = some (.int .u64 (m.rd : Int)) ∧ w'.cell? ⟨w.heap.size, 8, none⟩ = some (.bool m.gd) ∧ w'.cell? ⟨w.heap.size, 9, none⟩ = some (m.ev) ∧ w'.cell? ⟨w.heap.size, 10, none⟩ = some (m.va) ∧ w'.cell? ⟨w.heap.size, 11, none⟩ = some (m.la) ∧ w'.cell? ⟨w.heap.size, 12, none⟩ = some (.int .u64 (m.off : Int)) ∧ w'.cell? ⟨w.heap.size, 13, none⟩ = some (.int .u64 (m.wh : Int)) ∧ w'.cell? ⟨w.heap.size, 14, none⟩ = some (m.dv) ∧ w'.cell? ⟨w.heap.size + 1, 0, none⟩ = some (.int .i64 o.k) ∧ w'.cell? ⟨w.heap.size + 1, 1, none⟩ = some (.int .i64 o.fr) ∧ w'.cell? ⟨w.heap.size + 1, 2, none⟩ = some (.int .i64 o.to) ∧ w'.cell? ⟨w.heap.size + 1, 3, none⟩ = some (.int .u64 (o.te : Int)) ∧ w'.cell? ⟨w.heap.size + 1, 4, none⟩ = some (.int .u64 (o.ix : Int)) ∧ w'.cell? ⟨w.heap.size + 1, 5, none⟩ = some (.int .u64 (o.lt : Int)) ∧ w'.cell? ⟨w.heap.size + 1, 6, none⟩ = some (.int .u64 (o.cm : Int)) ∧ w'.cell? ⟨w.heap.size + 1, 7, none⟩ = some (.int .u64 (o.rd : Int)) ∧ w'.cell? ⟨w.heap.size + 1, 8, none⟩ = some (.bool o.gd) ∧ w'.cell? ⟨w.heap.size + 1, 9, none⟩ = some (o.ev) ∧ w'.cell? ⟨w.heap.size + 1, 10, none⟩ = some (o.va) ∧ w'.cell? ⟨w.heap.size + 1, 11, none⟩ = some (o.la) ∧ w'.cell? ⟨w.heap.size + 1, 12, none⟩ = some (.int .u64 (o.off : Int)) ∧ w'.cell? ⟨w.heap.size + 1, 13, none⟩ = some (.int .u64 (o.wh : Int)) ∧ w'.cell? ⟨w.heap.size + 1, 14, none⟩ = some (o.dv) ∧ (convert 27 9 (.slice A X.length c)).run Try.prog w' = .ok (.string (strOf X)) w' ∧ (convert 27 9 (.slice A' Y.length c')).run Try.prog w' = .ok (.string (strOf Y)) w' from ⟨((HA.out.keep (HK13.out.trans k (fun _ _ h => h)) id).cell 0).trans m.at0,
    ((HA.out.keep (HK13.out.trans k (fun _ _ h => h)) id).cell 1).trans m.at1,
    ((HA.out.keep (HK13.out.trans k (fun _ _ h => h)) id).cell 2).trans m.at2,
    ((HA.out.keep (HK13.out.trans k (fun _ _ h => h)) id).cell 3).trans m.at3,
    ((HA.out.keep (HK13.out.trans k (fun _ _ h => h)) id).cell 4).trans m.at4,
    ((HA.out.keep (HK13.out.trans k (fun _ _ h => h)) id).cell 5).trans m.at5,
    ((HA.out.keep (HK13.out.trans k (fun _ _ h => h)) id).cell 6).trans m.at6,
    ((HA.out.keep (HK13.out.trans k (fun _ _ h => h)) id).cell 7).trans m.at7,
    ((HA.out.keep (HK13.out.trans k (fun _ _ h => h)) id).cell 8).trans m.at8,
    ((HA.out.keep (HK13.out.trans k (fun _ _ h => h)) id).cell 9).trans m.at9,
    ((HA.out.keep (HK13.out.trans k (fun _ _ h => h)) id).cell 10).trans m.at10,
    ((HA.out.keep (HK13.out.trans k (fun _ _ h => h)) id).cell 11).trans m.at11,
    ((HA.out.keep (HK13.out.trans k (fun _ _ h => h)) id).cell 12).trans m.at12,
    ((HA.out.keep (HK13.out.trans k (fun _ _ h => h)) id).cell 13).trans m.at13,
    ((HA.out.keep (HK13.out.trans k (fun _ _ h => h)) id).cell 14).trans m.at14,
    ((HB.out.keep (HK13.out.trans k (fun _ _ h => h)) id).cell 0).trans o.at0,
    ((HB.out.keep (HK13.out.trans k (fun _ _ h => h)) id).cell 1).trans o.at1,
    ((HB.out.keep (HK13.out.trans k (fun _ _ h => h)) id).cell 2).trans o.at2,
    ((HB.out.keep (HK13.out.trans k (fun _ _ h => h)) id).cell 3).trans o.at3,
    ((HB.out.keep (HK13.out.trans k (fun _ _ h => h)) id).cell 4).trans o.at4,
    ((HB.out.keep (HK13.out.trans k (fun _ _ h => h)) id).cell 5).trans o.at5,
    ((HB.out.keep (HK13.out.trans k (fun _ _ h => h)) id).cell 6).trans o.at6,
    ((HB.out.keep (HK13.out.trans k (fun _ _ h => h)) id).cell 7).trans o.at7,
    ((HB.out.keep (HK13.out.trans k (fun _ _ h => h)) id).cell 8).trans o.at8,
    ((HB.out.keep (HK13.out.trans k (fun _ _ h => h)) id).cell 9).trans o.at9,
    ((HB.out.keep (HK13.out.trans k (fun _ _ h => h)) id).cell 10).trans o.at10,
    ((HB.out.keep (HK13.out.trans k (fun _ _ h => h)) id).cell 11).trans o.at11,
    ((HB.out.keep (HK13.out.trans k (fun _ _ h => h)) id).cell 12).trans o.at12,
    ((HB.out.keep (HK13.out.trans k (fun _ _ h => h)) id).cell 13).trans o.at13,
    ((HB.out.keep (HK13.out.trans k (fun _ _ h => h)) id).cell 14).trans o.at14,
    run_str (HX3.out.keep k (fun _ _ _ => id)),
    run_str (HY3.out.keep k (fun _ _ _ => id))⟩)
  have CS3 := Lib.hid (fun w' (k : Keep noneOf w3 w') => show Calls Try.prog 10 #[.agg #[.int .i64 m.k, .int .i64 m.fr, .int .i64 m.to, .int .u64 (m.te : Int), .int .u64 (m.ix : Int), .int .u64 (m.lt : Int), .int .u64 (m.cm : Int), .int .u64 (m.rd : Int), .bool m.gd, m.ev, m.va, m.la, .int .u64 (m.off : Int), .int .u64 (m.wh : Int), m.dv], .agg #[.int .i64 o.k, .int .i64 o.fr, .int .i64 o.to, .int .u64 (o.te : Int), .int .u64 (o.ix : Int), .int .u64 (o.lt : Int), .int .u64 (o.cm : Int), .int .u64 (o.rd : Int), .bool o.gd, o.ev, o.va, o.la, .int .u64 (o.off : Int), .int .u64 (o.wh : Int), o.dv]] w' (fun e w'' => e = .returned (.bool S) ∧ Keep noneOf w' w'') from CS.out w' (HK13.out.trans k (fun _ _ h => h)))
  have CA := Lib.hid (fun w' (_ : Keep noneOf w3 w') => alive_any w')
  clear HCS HEN HEN' CS HLm HLo HK13 HA HB HX3 HY3 HK
  go_wp2_with fail
  refine wp_region_in (fun w' => Keep noneOf w3 w' ∧ w'.cell? ⟨w.heap.size, 0, none⟩ = some (.int .i64 m.k) ∧ w'.cell? ⟨w.heap.size, 1, none⟩ = some (.int .i64 m.fr) ∧ w'.cell? ⟨w.heap.size, 2, none⟩ = some (.int .i64 m.to) ∧ w'.cell? ⟨w.heap.size, 3, none⟩ = some (.int .u64 (m.te : Int)) ∧ w'.cell? ⟨w.heap.size, 4, none⟩ = some (.int .u64 (m.ix : Int)) ∧ w'.cell? ⟨w.heap.size, 5, none⟩ = some (.int .u64 (m.lt : Int)) ∧ w'.cell? ⟨w.heap.size, 6, none⟩ = some (.int .u64 (m.cm : Int)) ∧ w'.cell? ⟨w.heap.size, 7, none⟩ = some (.int .u64 (m.rd : Int)) ∧ w'.cell? ⟨w.heap.size, 8, none⟩ = some (.bool m.gd) ∧ w'.cell? ⟨w.heap.size, 9, none⟩ = some (m.ev) ∧ w'.cell? ⟨w.heap.size, 10, none⟩ = some (m.va) ∧ w'.cell? ⟨w.heap.size, 11, none⟩ = some (m.la) ∧ w'.cell? ⟨w.heap.size, 12, none⟩ = some (.int .u64 (m.off : Int)) ∧ w'.cell? ⟨w.heap.size, 13, none⟩ = some (.int .u64 (m.wh : Int)) ∧ w'.cell? ⟨w.heap.size, 14, none⟩ = some (m.dv) ∧ w'.cell? ⟨w.heap.size + 1, 0, none⟩ = some (.int .i64 o.k) ∧ w'.cell? ⟨w.heap.size + 1, 1, none⟩ = some (.int .i64 o.fr) ∧ w'.cell? ⟨w.heap.size + 1, 2, none⟩ = some (.int .i64 o.to) ∧ w'.cell? ⟨w.heap.size + 1, 3, none⟩ = some (.int .u64 (o.te : Int)) ∧ w'.cell? ⟨w.heap.size + 1, 4, none⟩ = some (.int .u64 (o.ix : Int)) ∧ w'.cell? ⟨w.heap.size + 1, 5, none⟩ = some (.int .u64 (o.lt : Int)) ∧ w'.cell? ⟨w.heap.size + 1, 6, none⟩ = some (.int .u64 (o.cm : Int)) ∧ w'.cell? ⟨w.heap.size + 1, 7, none⟩ = some (.int .u64 (o.rd : Int)) ∧ w'.cell? ⟨w.heap.size + 1, 8, none⟩ = some (.bool o.gd) ∧ w'.cell? ⟨w.heap.size + 1, 9, none⟩ = some (o.ev) ∧ w'.cell? ⟨w.heap.size + 1, 10, none⟩ = some (o.va) ∧ w'.cell? ⟨w.heap.size + 1, 11, none⟩ = some (o.la) ∧ w'.cell? ⟨w.heap.size + 1, 12, none⟩ = some (.int .u64 (o.off : Int)) ∧ w'.cell? ⟨w.heap.size + 1, 13, none⟩ = some (.int .u64 (o.wh : Int)) ∧ w'.cell? ⟨w.heap.size + 1, 14, none⟩ = some (o.dv) ∧ (convert 27 9 (.slice A X.length c)).run Try.prog w' = .ok (.string (strOf X)) w' ∧ (convert 27 9 (.slice A' Y.length c')).run Try.prog w' = .ok (.string (strOf Y)) w') (by kernel_rfl) (by kernel_rfl) ⟨K00.drew, MK.out _ K00.drew⟩ ?_
  repeat
    first
    | go_big_quiet_skip
    | go_big_quiet_want
      go_big_quiet_op
      go_big_quiet_on
    | go_big_quiet_want
      apply quiet_calls
      case he => intro w'; go_simp; exact ⟨rfl, rfl⟩
      case h =>
        intro w' hw'
        have kw := And.left hw'
        first
        | go_at_call 11
          refine (CA.out w' kw).mono ?_
          rintro e w'' ⟨rfl, k''⟩
          have KK := Keep.trans kw k'' (fun _ _ h => h)
          exact ⟨rfl, KK, MK.out _ KK⟩
        | go_at_call 10
          refine (CS3.out w' kw).mono ?_
          rintro e w'' ⟨rfl, k''⟩
          have KK := Keep.trans kw k'' (fun _ _ h => h)
          exact ⟨rfl, KK, MK.out _ KK⟩
      simp only [Act.put, List.setIfInBounds_toArray, List.set_cons_zero, List.set_cons_succ]
      go_big_quiet_on
    | go_big_quiet_want
      apply quiet_reads
      case h =>
        intro w' hw'
        try dsimp only at hw'
        go_split_ands
        go_simp
        rfl
      simp only [Act.put, List.setIfInBounds_toArray, List.set_cons_zero, List.set_cons_succ]
      go_big_quiet_on
  refine wpQuiet_nil ?_
  intro w9 hw9
  have HK9 := Lib.hid (HK3.out.trans (And.left hw9) (fun _ _ h => h))
  have HCS := Lib.hid hcs
  clear hw9 hcs MK CS3 CA K00
  go_wp2
  go_ret
  exact ⟨rfl, HK9.out⟩
namespace MessageUnlike
set_option maxRecDepth 100000 in
theorem lifted (os : Os) (started : os.Started) (H : Type) (enc : TypeId × Value → H) :
    ReturnsInHanded {} Try.checked os 5 .any (Rows.messageUnlikeSpec.pre6 enc Try.prog Try.f5 Rows.messageUnlikeRow.domain false) (Rows.messageUnlikeSpec.post enc Try.prog Try.f5 false true false false) := by
  refine returnsInHanded_of_change_sized (C := Try.checked) own started (by kernel_rfl) Try.func5
    (ChangeSpec.witness6 (enc := enc) (C := Try.checked) false ⟨#[], #[.agg #[.int .i64 0, .int .i64 0, .int .i64 0, .int .u64 0, .int .u64 0, .int .u64 0, .int .u64 0, .int .u64 0, .bool false, .slice none 0 0, .slice none 0 0, .slice none 0 0, .int .u64 0, .int .u64 0, .slice none 0 0], .agg #[.int .i64 0, .int .i64 0, .int .i64 0, .int .u64 0, .int .u64 0, .int .u64 0, .int .u64 0, .int .u64 0, .bool false, .slice none 0 0, .slice none 0 0, .slice none 0 0, .int .u64 0, .int .u64 0, .slice none 0 0]], []⟩ 8 (by kernel_rfl) (by kernel_rfl) (by kernel_rfl) (by kernel_rfl)) ?_
  intro W base args ds gs before hval0 hW hcnd hsz _
  have hval : ∀ (j : Nat) t v, Try.f5.params[j]? = some t → args[j]? = some v → Value.okWide Try.prog W .any base t v := hval0
  have hW' := hW
  obtain ⟨p, q, hA0, hV, rfl, hfz, hnd⟩ := hW
  have hA : DataW.TrodAll enc Try.prog W 0 (fun _ => true) true Try.f5.params.toList args.toList ds p := hA0
  rw [Try.params5] at hA hval
  obtain ⟨v0, vs0, d0, ds0, p0, q0, hargs, rfl, rfl, h0, r0⟩ := trodAll_cons hA
  obtain ⟨v1, vs1, d1, ds1, p1, q1, rfl, rfl, rfl, h1, r1⟩ := trodAll_cons r0
  obtain ⟨rfl, rfl, rfl⟩ := trodAll_nil r1
  obtain rfl : args = #[v0, v1] := by cases args; simp_all
  obtain ⟨rfl, rfl⟩ := trodVars_none hV
  have k0 := h0
  have lt0 : ∀ x ∈ p0, x.block < W.heap.size := by obtain ⟨m, hm⟩ := k0; exact DataW.trod_lt m _ _ _ hm
  have k1 := h1
  have lt1 : ∀ x ∈ p1, x.block < W.heap.size := by obtain ⟨m, hm⟩ := k1; exact DataW.trod_lt m _ _ _ hm
  obtain ⟨m0, rfl, hm0⟩ := open_arg_msg (hval 0 29 v0 rfl rfl) h0 (light_arg hsz (j := 0) rfl rfl)
  obtain ⟨m1, rfl, hm1⟩ := open_arg_msg (hval 1 29 v1 rfl rfl) h1 (light_arg hsz (j := 1) rfl rfl)
  clear hA0 hval0
  refine (unlike_walk W m0 m1 hm0 hm1).mono fun e W' ⟨he, bel0⟩ => ?_
  subst he
  have bel := bel0.all
  exact ⟨_, rfl, _, _, _, [], _, [], hW', trodAll_mk1 (shut_bool Try.underlying4 _), (trodAll_cons_mk (Below.trod laidOut (by kernel_rfl) (of_decide_eq_true (by kernel_rfl)) k0 bel lt0) (trodAll_cons_mk (Below.trod laidOut (by kernel_rfl) (of_decide_eq_true (by kernel_rfl)) k1 bel lt1) trodAll_mk0)), rfl, bel.frame _, fun h => by cases h⟩
theorem over : Rows.messageUnlikeRow.holds Try.pinned (OpenSpec.ofChange Rows.messageUnlikeSpec) :=
  OpenClaim.holds_of_wide 5 Try.f5 rfl rfl rfl rfl rfl rfl rfl ⟨rfl, rfl, rfl, rfl, rfl⟩ rfl rfl rfl rfl rfl (by kernel_rfl) Try.func5 (by kernel_rfl)
    (of_decide_eq_true (by kernel_rfl)) (by unfold Func.isWrapper; first | (rw [if_pos (by decide +kernel)]; kernel_rfl) | (rw [if_neg (by decide +kernel)]; exact ⟨rfl, rfl⟩))
    (fun os started H enc _ => lifted os started H enc)
theorem proved : Rows.MessageUnlikeSaid := over
end MessageUnlike
end Go.Proofs.Ytdikmmdkpfmocaa
