/-
  MessageOnly: a right message with a Commit or a Whole that its kind does not name is none. No conditions.
-/
import Derived.Test.YtdikmmdkpfmocaaRows
import Derived.Test.YtdikmmdkpfmocaaBs01
import Derived.Test.YtdikmmdkpfmocaaBs02
import Derived.Test.YtdikmmdkpfmocaaBs03
import Derived.Test.YtdikmmdkpfmocaaBs04
import Derived.Test.YtdikmmdkpfmocaaBs05
import Derived.Test.YtdikmmdkpfmocaaBs06
import Derived.Test.YtdikmmdkpfmocaaBs07
import Derived.Test.YtdikmmdkpfmocaaBs08
import Derived.Test.YtdikmmdkpfmocaaBs09
import Derived.Test.YtdikmmdkpfmocaaBs10
import Derived.Test.YtdikmmdkpfmocaaBs11
import Derived.Test.YtdikmmdkpfmocaaBs12
import Derived.Test.YtdikmmdkpfmocaaBs13
import Derived.Test.YtdikmmdkpfmocaaBs14
import Derived.Test.YtdikmmdkpfmocaaBs15
import Derived.Test.YtdikmmdkpfmocaaBs16
import Derived.Test.YtdikmmdkpfmocaaBs17
import Derived.Test.YtdikmmdkpfmocaaBs18
import Derived.Test.YtdikmmdkpfmocaaBs19
import Derived.Test.YtdikmmdkpfmocaaBs20
import Derived.Test.YtdikmmdkpfmocaaBs21
import Derived.Test.YtdikmmdkpfmocaaBs22
import Derived.Test.YtdikmmdkpfmocaaBs23
import Derived.Test.YtdikmmdkpfmocaaBs24
import Derived.Test.YtdikmmdkpfmocaaBs25
import Derived.Test.YtdikmmdkpfmocaaBs26
import Derived.Test.YtdikmmdkpfmocaaBs27
import Derived.Test.YtdikmmdkpfmocaaBs28
import Derived.Test.YtdikmmdkpfmocaaBs29
import Derived.Test.YtdikmmdkpfmocaaBs30
import Derived.Test.YtdikmmdkpfmocaaBs31
import Derived.Test.YtdikmmdkpfmocaaBs32
import Derived.Test.YtdikmmdkpfmocaaBs33
import Derived.Test.YtdikmmdkpfmocaaBs34
import Derived.Test.YtdikmmdkpfmocaaBs35
import Derived.Test.YtdikmmdkpfmocaaBs36
import Derived.Test.YtdikmmdkpfmocaaBs37
import Derived.Test.YtdikmmdkpfmocaaBs38
import Derived.Test.YtdikmmdkpfmocaaBs39
import Derived.Test.YtdikmmdkpfmocaaBs40
import Derived.Test.YtdikmmdkpfmocaaBs41
import Derived.Test.YtdikmmdkpfmocaaBs42
import Derived.Test.YtdikmmdkpfmocaaBs43
import Derived.Test.YtdikmmdkpfmocaaBs44
import Derived.Test.YtdikmmdkpfmocaaBs45
import Derived.Test.YtdikmmdkpfmocaaBs46
import Derived.Test.YtdikmmdkpfmocaaBs47
import Derived.Test.YtdikmmdkpfmocaaBs48
import Derived.Test.YtdikmmdkpfmocaaBs49
namespace Go.Proofs.Ytdikmmdkpfmocaa
open Go.RowKit Go.ChangeShapes Go.WideShapes Go.Deep
section
variable {H : Type} {enc : TypeId × Value → H} {w : World}
theorem u64w {n : Int} (h : (Lit.int .u64 n).wf = true) : 0 ≤ n ∧ n < 18446744073709551616 := by
  have hk : 0 ≤ n ∧ n ≤ 18446744073709551615 := by simpa [Lit.wf, IntKind.min, IntKind.max, IntKind.signed, IntKind.bits] using h
  omega
end
end Go.Proofs.Ytdikmmdkpfmocaa
namespace Go.Proofs.Ytdikmmdkpfmocaa
open Go.RowKit Go.Shelf Go.ChangeShapes Go.WideShapes Go.Deep
theorem only_cm (m : Pm) (n : Nat) (hn : n ≠ 0) (hk : m.k ≠ 5) : rightP { m with cm := n } = false := by
  have hb : bareP { m with cm := n } = false := by
    cases h : bareP { m with cm := n } with
    | false => rfl
    | true =>
      unfold bareP at h
      rw [Bool.and_eq_true] at h
      have hz := congrArg Pm.cm (rest_zero h.2)
      have e : (clrP { m with cm := n }).cm = n := by
        unfold clrP
        simp only
        split
        · rfl
        split
        · rfl
        split
        · rfl
        split
        · rfl
        split
        · rfl
        rfl
      rw [e] at hz
      exact absurd hz hn
  unfold rightP
  rw [hb]
  simp
theorem only_wh (m : Pm) (n : Nat) (hn : n ≠ 0) (hk : m.k ≠ 7) : rightP { m with wh := n } = false := by
  have hb : bareP { m with wh := n } = false := by
    cases h : bareP { m with wh := n } with
    | false => rfl
    | true =>
      unfold bareP at h
      rw [Bool.and_eq_true] at h
      have hz := congrArg Pm.wh (rest_zero h.2)
      have e : (clrP { m with wh := n }).wh = n := by
        unfold clrP
        simp only
        split
        · rfl
        split
        · rfl
        split
        · rfl
        split
        · rfl
        split
        · rfl
        rfl
      rw [e] at hz
      exact absurd hz hn
  unfold rightP
  rw [hb]
  simp
set_option maxRecDepth 100000 in
set_option maxHeartbeats 4000000 in
theorem only_walk (w : World) (m : Mg) (n : Int) (h : m.lies w (fun _ => True)) (h0 : 0 ≤ n) (h1 : n < 18446744073709551616) :
    Calls Try.prog 7 #[.agg m.cells, .int .u64 n] w fun e w' => e = .returned (.bool true) ∧ Keep noneOf w w' := by
  obtain ⟨N, rfl⟩ : ∃ N : Nat, n = (N : Int) := ⟨n.toNat, by omega⟩
  have HLA := Lib.hid (fun w' D' (hl : m.lies w' D') => show ({ m with cm := N } : Mg).lies w' D' from ⟨hl.te, hl.ix, hl.lt, h1, hl.rd, hl.off, hl.wh, hl.es, hl.vs, hl.ls, hl.da⟩)
  have HLB := Lib.hid (fun w' D' (hl : m.lies w' D') => show ({ m with wh := N } : Mg).lies w' D' from ⟨hl.te, hl.ix, hl.lt, hl.cm, hl.rd, hl.off, h1, hl.es, hl.vs, hl.ls, hl.da⟩)
  clear h0 h1
  have KB := (Keep.refl noneOf w).alloc (.cells m.cells 29)
  have HB : Hid (MBox (w.alloc (.cells m.cells 29)) w.heap.size m) := Lib.hid (Box.new w 29 m.cells)
  have HK := Lib.hid KB
  have HL := Lib.hid (h.keepN KB)
  have HR := Lib.hid (right_any _ _ m (h.keepN KB))
  have e0 : (Value.agg m.cells).cells = m.cells := rfl
  clear KB h
  obtain ⟨R, hR⟩ : ∃ R, rightP m.plain = R := ⟨_, rfl⟩
  rw [hR] at HR
  obtain ⟨g0, hg0⟩ : ∃ g, ((N : Int) == 0) = g := ⟨_, rfl⟩
  go_enter Try.func7, Try.ntmps7
  go_wp2_with (refine wpList_load_row rfl 29 _ rfl (w.heap.size) rfl 29 _ _ _ HB.out Try.underlying29 rfl (by kernel_rfl) ?_)
  refine HR.out.mono ?_
  rintro e w1 ⟨rfl, k1⟩
  have HK1 := Lib.hid (HK.out.trans k1 (fun _ _ h => h))
  have HB1 : Hid (MBox w1 w.heap.size m) := Lib.hid (HB.out.keep k1 id)
  have HL1 := Lib.hid (HL.out.keepN k1)
  clear k1 HK HB HL HR
  cases R
  · go_wp2_with fail
    refine (alive_any w1).mono ?_
    rintro e w2 ⟨rfl, k2⟩
    have HK2 := Lib.hid (HK1.out.trans k2 (fun _ _ h => h))
    clear k2
    go_wp2
    go_ret
    exact ⟨rfl, HK2.out⟩
  cases g0
  · have HNE : Hid (N ≠ 0) := Lib.hid (by rintro rfl; cases hg0)
    have hp : w.heap.size < w1.heap.size := HB1.out.lt
    have HP0 := Lib.hid (fun w' (k : Keep (fun k => w1.heap.size ≤ k) w1 w') => show Box w' w.heap.size 29 m.cells from HB1.out.keep k (by omega))
    have HKX := Lib.hid (fun w' (k : Keep (fun k => w1.heap.size ≤ k) w1 w') => show Keep noneOf w w' from HK1.out.trans k (fun i hi e => by omega))
    have HLX := Lib.hid (fun w' (k : Keep (fun k => w1.heap.size ≤ k) w1 w') => HL1.out.low.keep k (fun i _ hi e => by omega))
    have ha : Keep (fun k => w1.heap.size ≤ k) w1 (w1.alloc (.cells #[.int .i64 0, .int .i64 0, .int .i64 0, .int .u64 0, .int .u64 0, .int .u64 0, .int .u64 0, .int .u64 0, .bool false, .slice none 0 0, .slice none 0 0, .slice none 0 0, .int .u64 0, .int .u64 0, .slice none 0 0] 29)) := (Keep.refl _ w1).alloc _
    have HA := Lib.hid ha
    have hone := Lib.hid HL1.out.cells_one
    clear ha
    go_wp2_with (first
      | (refine wpList_load_row rfl 29 _ rfl (w.heap.size) rfl 29 _ _ _ HB1.out Try.underlying29 rfl (by kernel_rfl) ?_)
      | (refine wpList_store_row _ rfl 29 _ _ rfl (w1.heap.size) 29 #[.int .i64 0, .int .i64 0, .int .i64 0, .int .u64 0, .int .u64 0, .int .u64 0, .int .u64 0, .int .u64 0, .bool false, .slice none 0 0, .slice none 0 0, .slice none 0 0, .int .u64 0, .int .u64 0, .slice none 0 0] m.cells rfl rfl (Box.new _ _ _) rfl (by kernel_rfl) hone.out ?_; intro w2 hB2 hK2; have hk2 := HA.out.trans hK2 (fun i hi e => by omega); have c6 := (hB2.cell 6).trans m.at6; have f6 := hB2.free 6; have hB2' := hB2.put 6 (.int .u64 (N : Int)); rw [Mg.set6] at hB2'; have hk3 := hk2.setCell (p := ⟨w1.heap.size, 6, none⟩) (fun h => absurd h (Nat.lt_irrefl _)) (.int .u64 (N : Int)); have hP3 := HP0.out _ hk3; have hz2 := hB2.lt; have hBn := Box.new (w2.setCell ⟨w1.heap.size, 6, none⟩ (.int .u64 (N : Int))) 29 #[.int .i64 0, .int .i64 0, .int .i64 0, .int .u64 0, .int .u64 0, .int .u64 0, .int .u64 0, .int .u64 0, .bool false, .slice none 0 0, .slice none 0 0, .slice none 0 0, .int .u64 0, .int .u64 0, .slice none 0 0]; have hsz : (w2.setCell ⟨w1.heap.size, 6, none⟩ (.int .u64 (N : Int))).heap.size = w2.heap.size := (by simp); rw [hsz] at hBn; have HB2' := Lib.hid (hB2'.alloc (.cells #[.int .i64 0, .int .i64 0, .int .i64 0, .int .u64 0, .int .u64 0, .int .u64 0, .int .u64 0, .int .u64 0, .bool false, .slice none 0 0, .slice none 0 0, .slice none 0 0, .int .u64 0, .int .u64 0, .slice none 0 0] 29)); have HK3 := Lib.hid (hk3.alloc (.cells #[.int .i64 0, .int .i64 0, .int .i64 0, .int .u64 0, .int .u64 0, .int .u64 0, .int .u64 0, .int .u64 0, .bool false, .slice none 0 0, .slice none 0 0, .slice none 0 0, .int .u64 0, .int .u64 0, .slice none 0 0] 29)); clear hB2 hK2 hB2' hk2 hk3 hsz)
      | (refine wpList_load_row rfl 29 _ rfl (w.heap.size) rfl 29 _ _ _ hP3 Try.underlying29 rfl (by kernel_rfl) ?_)
      | (refine wpList_store_row _ rfl 29 _ _ rfl (w2.heap.size) 29 #[.int .i64 0, .int .i64 0, .int .i64 0, .int .u64 0, .int .u64 0, .int .u64 0, .int .u64 0, .int .u64 0, .bool false, .slice none 0 0, .slice none 0 0, .slice none 0 0, .int .u64 0, .int .u64 0, .slice none 0 0] m.cells rfl rfl hBn rfl (by kernel_rfl) hone.out ?_; intro w4 hB4 hK4; have c13 := (hB4.cell 13).trans m.at13; have f13 := hB4.free 13; have hB4' := hB4.put 13 (.int .u64 (N : Int)); rw [Mg.set13] at hB4'; have hk4 := (HK3.out.trans hK4 (fun i hi e => absurd (e ▸ hi) (Nat.not_lt.2 (Nat.le_of_lt hz2)))).setCell (p := ⟨w2.heap.size, 13, none⟩) (fun _ => Nat.le_of_lt hz2) (.int .u64 (N : Int)); have hA4 := (HB2'.out.keep hK4 (Nat.ne_of_lt hz2)).far (p := ⟨w2.heap.size, 13, none⟩) (Nat.ne_of_lt hz2) (.int .u64 (N : Int)); have hP4 := HP0.out _ hk4; have HK4 := Lib.hid hk4; have HB4 := Lib.hid hB4'; clear hB4 hK4 hk4 hB4')
      | (refine wpList_load_row rfl 29 _ rfl (w1.heap.size) rfl 29 _ _ _ hA4 Try.underlying29 rfl (by kernel_rfl) ?_))
    obtain ⟨R1, hR1⟩ : ∃ R, rightP { m.plain with cm := N } = R := ⟨_, rfl⟩
    obtain ⟨R2, hR2⟩ : ∃ R, rightP { m.plain with wh := N } = R := ⟨_, rfl⟩
    have C1 := Lib.hid (right_any (w4.setCell ⟨w2.heap.size, 13, none⟩ (.int .u64 (N : Int))) _ { m with cm := N } (HLA.out _ _ (HLX.out _ HK4.out)))
    rw [show rightP ({ m with cm := N } : Mg).plain = R1 from hR1] at C1
    have HR1 : Hid (R1 = true → m.k = 5) := Lib.hid (fun e => Decidable.by_contra fun hk => by have := only_cm m.plain N HNE.out hk; rw [hR1, e] at this; cases this)
    have HR2 : Hid (R2 = true → m.k = 7) := Lib.hid (fun e => Decidable.by_contra fun hk => by have := only_wh m.plain N HNE.out hk; rw [hR2, e] at this; cases this)
    have HP4 := Lib.hid hP4
    have HL5 := Lib.hid (HLX.out _ HK4.out)
    have HRR2 := Lib.hid hR2
    have HK5 := Lib.hid (HKX.out _ HK4.out)
    clear hR1 hR2 hP4 hA4 hBn c6 f6 c13 f13 hP3
    generalize w4.setCell ⟨w2.heap.size, 13, none⟩ (.int .u64 (N : Int)) = w5 at *
    refine C1.out.mono ?_
    rintro e w6 ⟨rfl, k6⟩
    have hB6 : Box w6 w2.heap.size 29 ({ m with wh := N } : Mg).cells := HB4.out.keep k6 id
    have c0 : w6.cell? ⟨w.heap.size, 0, none⟩ = some (.int .i64 m.k) := ((HP4.out.keep k6 id).cell 0).trans m.at0
    have HP6 := Lib.hid (HP4.out.keep k6 id)
    have HK6 := Lib.hid (HK5.out.trans k6 (fun _ _ h => h))
    have C2 := Lib.hid (right_any w6 _ { m with wh := N } (HLB.out _ _ (HL5.out.keepN k6)))
    rw [show rightP ({ m with wh := N } : Mg).plain = R2 from HRR2.out] at C2
    clear k6 C1 HK5 HL5 HB4 HP4 HRR2 HK4 HB2' HK3 HA HP0 HKX HLX HLA HLB hone
    have G1 : Hid (R1 = true → (m.k != 5) = false) := Lib.hid (fun e => by rw [HR1.out e]; rfl)
    have G2 : Hid (R2 = true → (m.k != 7) = false) := Lib.hid (fun e => by rw [HR2.out e]; rfl)
    clear HR1 HR2
    cases R1
    · skip
      go_wp2_with (refine wpList_load_row rfl 29 _ rfl (w2.heap.size) rfl 29 _ _ _ hB6 Try.underlying29 rfl (by kernel_rfl) ?_)
      refine C2.out.mono ?_
      rintro e w7 ⟨rfl, k7⟩
      have c0 : w7.cell? ⟨w.heap.size, 0, none⟩ = some (.int .i64 m.k) := ((HP6.out.keep k7 id).cell 0).trans m.at0
      have HK7 := Lib.hid (HK6.out.trans k7 (fun _ _ h => h))
      clear k7 C2 HP6 hB6
      cases R2
      · skip
        go_wp2_with fail
        refine (alive_any w7).mono ?_
        rintro e w8 ⟨rfl, k8⟩
        have HK8 := Lib.hid (HK7.out.trans k8 (fun _ _ h => h))
        clear k8
        go_wp2
        go_ret
        exact ⟨rfl, HK8.out⟩
      · have g2 := G2.out rfl
        go_wp2_with fail
        refine (alive_any w7).mono ?_
        rintro e w8 ⟨rfl, k8⟩
        have HK8 := Lib.hid (HK7.out.trans k8 (fun _ _ h => h))
        clear k8
        go_wp2
        go_ret
        exact ⟨rfl, HK8.out⟩
    · have g1 := G1.out rfl
      go_wp2_with (refine wpList_load_row rfl 29 _ rfl (w2.heap.size) rfl 29 _ _ _ hB6 Try.underlying29 rfl (by kernel_rfl) ?_)
      refine C2.out.mono ?_
      rintro e w7 ⟨rfl, k7⟩
      have c0 : w7.cell? ⟨w.heap.size, 0, none⟩ = some (.int .i64 m.k) := ((HP6.out.keep k7 id).cell 0).trans m.at0
      have HK7 := Lib.hid (HK6.out.trans k7 (fun _ _ h => h))
      clear k7 C2 HP6 hB6
      cases R2
      · skip
        go_wp2_with fail
        refine (alive_any w7).mono ?_
        rintro e w8 ⟨rfl, k8⟩
        have HK8 := Lib.hid (HK7.out.trans k8 (fun _ _ h => h))
        clear k8
        go_wp2
        go_ret
        exact ⟨rfl, HK8.out⟩
      · have g2 := G2.out rfl
        go_wp2_with fail
        refine (alive_any w7).mono ?_
        rintro e w8 ⟨rfl, k8⟩
        have HK8 := Lib.hid (HK7.out.trans k8 (fun _ _ h => h))
        clear k8
        go_wp2
        go_ret
        exact ⟨rfl, HK8.out⟩
  · go_wp2_with fail
    refine (alive_any w1).mono ?_
    rintro e w2 ⟨rfl, k2⟩
    have HK2 := Lib.hid (HK1.out.trans k2 (fun _ _ h => h))
    clear k2
    go_wp2
    go_ret
    exact ⟨rfl, HK2.out⟩
namespace MessageOnly
set_option maxRecDepth 100000 in
theorem lifted (os : Os) (started : os.Started) (H : Type) (enc : TypeId × Value → H) :
    ReturnsInHanded {} Try.checked os 7 .any (Rows.messageOnlySpec.pre6 enc Try.prog Try.f7 Rows.messageOnlyRow.domain false) (Rows.messageOnlySpec.post enc Try.prog Try.f7 false true false false) := by
  refine returnsInHanded_of_change_sized (C := Try.checked) own started (by kernel_rfl) Try.func7
    (ChangeSpec.witness6 (enc := enc) (C := Try.checked) false ⟨#[], #[.agg #[.int .i64 0, .int .i64 0, .int .i64 0, .int .u64 0, .int .u64 0, .int .u64 0, .int .u64 0, .int .u64 0, .bool false, .slice none 0 0, .slice none 0 0, .slice none 0 0, .int .u64 0, .int .u64 0, .slice none 0 0], .int .u64 0], []⟩ 8 (by kernel_rfl) (by kernel_rfl) (by kernel_rfl) (by kernel_rfl)) ?_
  intro W base args ds gs before hval0 hW hcnd hsz _
  have hval : ∀ (j : Nat) t v, Try.f7.params[j]? = some t → args[j]? = some v → Value.okWide Try.prog W .any base t v := hval0
  have hW' := hW
  obtain ⟨p, q, hA0, hV, rfl, hfz, hnd⟩ := hW
  have hA : DataW.TrodAll enc Try.prog W 0 (fun _ => true) true Try.f7.params.toList args.toList ds p := hA0
  rw [Try.params7] at hA hval
  obtain ⟨v0, vs0, d0, ds0, p0, q0, hargs, rfl, rfl, h0, r0⟩ := trodAll_cons hA
  obtain ⟨v1, vs1, d1, ds1, p1, q1, rfl, rfl, rfl, h1, r1⟩ := trodAll_cons r0
  obtain ⟨rfl, rfl, rfl⟩ := trodAll_nil r1
  obtain rfl : args = #[v0, v1] := by cases args; simp_all
  obtain ⟨rfl, rfl⟩ := trodVars_none hV
  have k0 := h0
  have lt0 : ∀ x ∈ p0, x.block < W.heap.size := by obtain ⟨m, hm⟩ := k0; exact DataW.trod_lt m _ _ _ hm
  obtain ⟨m0, rfl, hm0⟩ := open_arg_msg (hval 0 29 v0 rfl rfl) h0 (light_arg hsz (j := 0) rfl rfl)
  obtain ⟨a1, rfl, rfl, rfl, w1⟩ := open_int Try.underlying22 (hval 1 22 v1 rfl rfl) h1
  clear hA0 hval0
  refine (only_walk W m0 a1 hm0 (u64w w1).1 (u64w w1).2).mono fun e W' ⟨he, bel0⟩ => ?_
  subst he
  have bel := bel0.all
  exact ⟨_, rfl, _, _, _, [], _, [], hW', trodAll_mk1 (shut_bool Try.underlying4 _), (trodAll_cons_mk (Below.trod laidOut (by kernel_rfl) (of_decide_eq_true (by kernel_rfl)) k0 bel lt0) (trodAll_cons_mk (shut_int Try.underlying22 w1) trodAll_mk0)), rfl, bel.frame _, fun h => by cases h⟩
theorem over : Rows.messageOnlyRow.holds Try.pinned (OpenSpec.ofChange Rows.messageOnlySpec) :=
  OpenClaim.holds_of_wide 7 Try.f7 rfl rfl rfl rfl rfl rfl rfl ⟨rfl, rfl, rfl, rfl, rfl⟩ rfl rfl rfl rfl rfl (by kernel_rfl) Try.func7 (by kernel_rfl)
    (of_decide_eq_true (by kernel_rfl)) (by unfold Func.isWrapper; first | (rw [if_pos (by decide +kernel)]; kernel_rfl) | (rw [if_neg (by decide +kernel)]; exact ⟨rfl, rfl⟩))
    (fun os started H enc _ => lifted os started H enc)
theorem proved : Rows.MessageOnlySaid := over
end MessageOnly
end Go.Proofs.Ytdikmmdkpfmocaa
