/-
  Proved: dockyardlaw11.SessionOrder answers true for every input that can be read, and leaves its arguments as they were. No conditions.
-/
import Derived.Test.YtimnehgonlohcaaSsSame
namespace Go.Proofs.Ytimnehgonlohcaa
open Go.ChangeShapes Go.WideShapes Go.ChangeAt Go.RowKit

def openAll (xs : List Int) : List Ro := xs.foldl openL []
theorem ins_rising (r : Ro) : ∀ (l : List Ro), l.Pairwise (fun a b => a.id < b.id) → (∀ g ∈ l, g.id ≠ r.id) → (insR r l).Pairwise (fun a b => a.id < b.id)
  | [], _, _ => by unfold insR; simp
  | g :: l, h, hne => by
    rw [List.pairwise_cons] at h
    unfold insR
    split
    · rename_i hlt
      rw [List.pairwise_cons, List.pairwise_cons]
      refine ⟨fun x hx => ?_, h⟩
      rcases List.mem_cons.1 hx with rfl | hx
      · exact hlt
      · have := h.1 x hx; omega
    · rename_i hlt
      rw [List.pairwise_cons]
      refine ⟨fun x hx => ?_, ins_rising r l h.2 (fun x hx => hne x (List.mem_cons_of_mem _ hx))⟩
      rcases List.mem_cons.1 ((ins_perm r l).mem_iff.1 hx) with rfl | hx
      · have := hne g (List.mem_cons_self ..); omega
      · exact h.1 x hx
def Fresh (l : List Ro) : Prop := l.Pairwise (fun a b => a.id < b.id) ∧ ∀ g ∈ l, g.seq = 0 ∧ g.ans = .zero ∧ g.id ≠ 0
theorem open_step {l : List Ro} {x : Int} (h : Fresh l) (hl : l.length < 16) : Fresh (openL l x) ∧ (openL l x).length ≤ l.length + 1 ∧ ∀ i, (∃ g ∈ openL l x, g.id = i) ↔ (∃ g ∈ l, g.id = i) ∨ (i = x ∧ i ≠ 0) := by
  unfold openL
  by_cases hx : x = 0
  · rw [if_pos hx]
    exact ⟨h, by omega, fun i => ⟨.inl, fun e => e.elim id (fun e => absurd (e.1.trans hx) e.2)⟩⟩
  · rw [if_neg hx]
    cases hq : findR l x with
    | some r =>
      obtain ⟨hr, hid⟩ := findR_mem hq
      rw [if_pos (show (some r).isSome = true from rfl)]
      exact ⟨h, by omega, fun i => ⟨.inl, fun e => e.elim id (fun e => ⟨r, hr, hid.trans e.1.symm⟩)⟩⟩
    | none =>
      rw [if_neg (by simp), if_neg (by omega)]
      have hne : ∀ g ∈ l, g.id ≠ x := by
        intro g hg e
        unfold findR at hq
        rw [List.find?_eq_none] at hq
        exact hq g hg (by simpa using e)
      refine ⟨⟨ins_rising _ l h.1 hne, fun g hg => ?_⟩, by rw [ins_length]; exact Nat.le_refl _, fun i => ?_⟩
      · rcases List.mem_cons.1 ((ins_perm _ l).mem_iff.1 hg) with rfl | hg
        · exact ⟨rfl, rfl, hx⟩
        · exact h.2 g hg
      · constructor
        · rintro ⟨g, hg, rfl⟩
          rcases List.mem_cons.1 ((ins_perm _ l).mem_iff.1 hg) with rfl | hg
          · exact .inr ⟨rfl, hx⟩
          · exact .inl ⟨g, hg, rfl⟩
        · rintro (⟨g, hg, rfl⟩ | ⟨rfl, _⟩)
          · exact ⟨g, (ins_perm _ l).mem_iff.2 (List.mem_cons_of_mem _ hg), rfl⟩
          · exact ⟨_, (ins_perm _ l).mem_iff.2 (List.mem_cons_self ..), rfl⟩
theorem open_many_step : ∀ (xs : List Int) (l : List Ro), Fresh l → l.length + xs.length ≤ 16 → Fresh (xs.foldl openL l) ∧ ∀ i, (∃ g ∈ xs.foldl openL l, g.id = i) ↔ (∃ g ∈ l, g.id = i) ∨ (i ∈ xs ∧ i ≠ 0)
  | [], l, h, _ => ⟨h, fun i => by simp⟩
  | x :: xs, l, h, hl => by
    rw [List.length_cons] at hl
    obtain ⟨h1, h2, h3⟩ := open_step (x := x) h (by omega)
    obtain ⟨h4, h5⟩ := open_many_step xs (openL l x) h1 (by omega)
    rw [List.foldl_cons]
    refine ⟨h4, fun i => ?_⟩
    rw [h5, h3, List.mem_cons]
    constructor
    · rintro ((h | ⟨h, h'⟩) | ⟨h, h'⟩)
      · exact .inl h
      · exact .inr ⟨.inl h, h'⟩
      · exact .inr ⟨.inr h, h'⟩
    · rintro (h | ⟨h | h, h'⟩)
      · exact .inl (.inl h)
      · exact .inl (.inr ⟨h, h'⟩)
      · exact .inr ⟨h, h'⟩
theorem rising_ext : ∀ {a b : List Ro}, a.Pairwise (fun x y => x.id < y.id) → b.Pairwise (fun x y => x.id < y.id) → (∀ r, r ∈ a ↔ r ∈ b) → a = b
  | [], [], _, _, _ => rfl
  | [], y :: b, _, _, h => absurd ((h y).2 (List.mem_cons_self ..)) (by simp)
  | x :: a, [], _, _, h => absurd ((h x).1 (List.mem_cons_self ..)) (by simp)
  | x :: a, y :: b, ha, hb, h => by
    rw [List.pairwise_cons] at ha hb
    have e : x = y := by
      rcases List.mem_cons.1 ((h x).1 (List.mem_cons_self ..)) with e | hx
      · exact e
      · rcases List.mem_cons.1 ((h y).2 (List.mem_cons_self ..)) with e | hy
        · exact e.symm
        · have h1 := hb.1 x hx
          have h2 := ha.1 y hy
          omega
    subst e
    rw [rising_ext ha.2 hb.2 (fun r => ?_)]
    have hr := h r
    rw [List.mem_cons, List.mem_cons] at hr
    constructor
    · intro h1
      rcases hr.1 (.inr h1) with rfl | h2
      · have := ha.1 r h1; omega
      · exact h2
    · intro h1
      rcases hr.2 (.inr h1) with rfl | h2
      · have := hb.1 r h1; omega
      · exact h2
theorem open_any_order {xs : List Int} (h : xs.length ≤ 16) : openAll xs = openAll xs.reverse := by
  have f0 : Fresh [] := ⟨List.Pairwise.nil, fun g hg => by cases hg⟩
  obtain ⟨a1, a2⟩ := open_many_step xs [] f0 (by simpa using h)
  obtain ⟨b1, b2⟩ := open_many_step xs.reverse [] f0 (by simpa using h)
  refine rising_ext a1.1 b1.1 (fun r => ?_)
  have key : ∀ {l l' : List Ro}, Fresh l → Fresh l' → (∀ i, (∃ g ∈ l, g.id = i) → (∃ g ∈ l', g.id = i)) → r ∈ l → r ∈ l' := by
    intro l l' hl hl' hi hr
    obtain ⟨g, hg, e⟩ := hi r.id ⟨r, hr, rfl⟩
    obtain ⟨r1, r2, _⟩ := hl.2 r hr
    obtain ⟨g1, g2, _⟩ := hl'.2 g hg
    obtain ⟨i, s, a⟩ := r
    obtain ⟨i', s', a'⟩ := g
    simp only at r1 r2 g1 g2 e
    subst r1 r2 g1 g2 e
    exact hg
  constructor
  · exact key a1 b1 (fun i hi => (b2 i).2 (by simpa using (a2 i).1 hi))
  · exact key b1 a1 (fun i hi => (a2 i).2 (by simpa using (b2 i).1 hi))
theorem openAll_take {xs : List Int} {k : Nat} {x : Int} (h : xs[k]? = some x) : openAll (xs.take (k + 1)) = openL (openAll (xs.take k)) x := by
  unfold openAll
  rw [List.take_add_one, h, List.foldl_append]
  rfl
theorem openAll_few (xs : List Int) : (openAll xs).length ≤ 16 := by
  have : ∀ (xs : List Int) (l : List Ro), l.length ≤ 16 → (xs.foldl openL l).length ≤ 16 := by
    intro xs
    induction xs with
    | nil => exact fun l h => h
    | cons x xs ih => exact fun l h => ih _ (open_few h)
  exact this xs [] (by simp)

set_option maxRecDepth 100000 in
set_option maxHeartbeats 4000000 in
theorem order_walk (w : World) (A : Option Addr) (c : Nat) (ns : List Int) (hc : Nums w (fun _ => True) (.slice A ns.length c) ns) :
    Calls Try.prog 6 #[.slice A ns.length c] w (TellsB true w) := by
  have NW := Lib.hid (new_any w)
  have HC := Lib.hid hc
  have hlm := hc.1.few
  unfold maxLen at hlm
  clear hc
  go_enter Try.func6, Try.ntmps6
  go_wp2_with fail
  refine NW.out.mono ?_
  rintro e w1 ⟨rfl, T1, k1⟩
  have NW2 := Lib.hid (new_any w1)
  have HPM : Hid (w.heap.size ≤ w.heap.size + 1 ∧ w.heap.size ≤ w.heap.size) := Lib.hid ⟨by omega, Nat.le_refl _⟩
  have HK1 := Lib.hid k1
  have HT1 := Lib.hid T1
  clear NW T1 k1
  generalize w.heap.size + 1 = p at *
  obtain ⟨m, hm⟩ : ∃ m, w.heap.size = m := ⟨_, rfl⟩
  have HM : Hid (w.heap.size ≤ m) := Lib.hid (Nat.le_of_eq hm)
  rw [hm] at HT1
  clear HPM hm
  go_wp2_with fail
  refine NW2.out.mono ?_
  rintro e w2 ⟨rfl, T2, k2⟩
  have HK2 := Lib.hid (HK1.out.trans k2 (fun _ _ h => h))
  have HTA := Lib.hid (HT1.out.stay k2)
  have HTB := Lib.hid T2
  have HNE : Hid (p ≠ w1.heap.size ∧ m ≠ w1.heap.size ∧ w1.heap.size + 1 ≠ m) := Lib.hid (by have := HT1.out.lt; omega)
  have HM2 : Hid (w.heap.size ≤ w1.heap.size) := Lib.hid HK1.out.size
  clear NW2 T2 k2 HK1 HT1
  generalize w1.heap.size + 1 = p2 at *
  generalize w1.heap.size = m2 at *
  go_wp2_with fail
  refine (alive_any _).mono ?_
  rintro e w3 ⟨rfl, k3⟩
  have HTA3 := Lib.hid (HTA.out.stay k3)
  have HTB3 := Lib.hid (HTB.out.stay k3)
  have HK3 := Lib.hid (HK2.out.trans k3 (fun _ _ h => h))
  clear HTA HTB HK2 k3
  by_cases h16 : ns.length ≤ 16
  · have g16 : ¬ ((16 : Int) < (ns.length : Int)) := by omega
    have H16 := Lib.hid h16
    clear h16
    go_wp2
    go_loopw [34] (fun i wr => ∃ (k : Nat), k ≤ ns.length ∧ i = .int .i64 k ∧ Keep noneOf w wr ∧ TabAt wr p m (openAll (ns.take k)) ∧ TabAt wr p2 m2 (openAll (ns.reverse.take k))) (fun i _ => ns.length - (intOf i).toNat)
    case atStart => exact ⟨0, Nat.zero_le _, rfl, HK3.out, HTA3.out, HTB3.out⟩
    case round =>
      obtain ⟨k, hk, rfl, hkeep, hta, htb⟩ := hrel
      have HKP := Lib.hid hkeep
      have HA := Lib.hid hta
      have HB := Lib.hid htb
      by_cases hlt : k < ns.length
      · have hx : ns[k]? = some ns[k] := List.getElem?_eq_getElem hlt
        obtain ⟨j, hj⟩ : ∃ j, ns.length - 1 - k = j := ⟨_, rfl⟩
        have hjl : j < ns.length := by omega
        have hy : ns[j]? = some ns[j] := List.getElem?_eq_getElem hjl
        have hyr : ns.reverse[k]? = some ns[j] := by
          rw [List.getElem?_reverse hlt, ← hy, hj]
        obtain ⟨b, o, rfl, hblk0, _, hcell⟩ := HC.out.1.cell (fun _ => rfl) hx
        obtain ⟨b', o', eb, _, _, hcell'⟩ := HC.out.1.cell (fun _ => rfl) hy
        have hblk : b < wr.heap.size := Nat.lt_of_lt_of_le hblk0 hkeep.size
        obtain ⟨rfl, rfl⟩ : b = b' ∧ o = o' := by
          injection eb with eb
          injection eb with e1 e2
          exact ⟨e1, e2⟩
        have hin := HC.out.2 _ (List.mem_of_getElem? hx)
        have hin' := HC.out.2 _ (List.mem_of_getElem? hy)
        have c0 := (hkeep.cell (p := ⟨b, o + (k * 1 + 0), none⟩) hblk0 id).trans (hcell 0 (by decide))
        have c1 := (hkeep.cell (p := ⟨b, o + (j * 1 + 0), none⟩) hblk0 id).trans (hcell' 0 (by decide))
        rw [Nat.mul_one, Nat.add_zero] at c0 c1
        have HXX := Lib.hid (And.intro (openAll_take hx) (openAll_take hyr))
        generalize ns[k] = x at *
        generalize ns[j] = y at *
        unfold numC at c0 c1
        simp only [List.getElem?_cons_zero] at c0 c1
        have q0 : (0 : Int) ≤ (k : Int) := by omega
        have q1 : (k : Int) < (ns.length : Int) := by omega
        have q2 : (0 : Int) ≤ (j : Int) := by omega
        have q3 : (j : Int) < (ns.length : Int) := by omega
        obtain ⟨n1, hn1⟩ : ∃ n1, ns.length - 1 = n1 := ⟨_, rfl⟩
        have wn1 : IntKind.i64.wrap ((ns.length : Int) - 1) = (n1 : Int) := by rw [IntKind.wrap_i64]; omega
        have wnj : IntKind.i64.wrap ((n1 : Int) - (k : Int)) = (j : Int) := by rw [IntKind.wrap_i64]; omega
        have HO1 := Lib.hid (open_any wr p m _ x HA.out hin.1 hin.2)
        have HO2 := Lib.hid (fun w' (T : TabAt w' p2 m2 (openAll (ns.reverse.take k))) => open_any w' p2 m2 _ y T hin'.1 hin'.2)
        have HCY : Hid (∀ w', Keep (fun i => i = m) wr w' → w'.cell? ⟨b, o + j, none⟩ = some (.int .u64 y)) := Lib.hid fun w' k' => (k'.cell (p := ⟨b, o + j, none⟩) hblk (fun e => by
          have h1 := HM.out
          have h2 : b = m := e
          omega)).trans c1
        clear hx hy hyr hcell hcell' hin hin' hkeep hta htb eb hj hn1 HA c1
        go_wp2_with fail
        refine HO1.out.mono ?_
        rintro e w4 ⟨rfl, T4, k4⟩
        have HA4 := Lib.hid T4
        have HB4 := Lib.hid (HB.out.keep k4 (fun e => HNE.out.2.2 e) (fun e => HNE.out.2.1 e.symm))
        have HK4 := Lib.hid (HKP.out.newer k4 HM.out)
        have c1 := HCY.out _ k4
        clear HO1 T4 k4 HCY HB HKP c0
        generalize openE (openAll (ns.take k)) x = e1
        go_wp2_with fail
        refine (HO2.out _ HB4.out).mono ?_
        rintro e w5 ⟨rfl, T5, k5⟩
        have HB5 := Lib.hid T5
        have HA5 := Lib.hid (HA4.out.keep k5 (fun e => HNE.out.1 e) (fun e => HNE.out.2.1 e))
        have HK5 := Lib.hid (HK4.out.newer k5 HM2.out)
        clear HO2 T5 k5 HA4 HB4 HK4 c1
        generalize openE (openAll (ns.reverse.take k)) y = e2
        go_wp2
        go_roundw
        case rel => exact ⟨k + 1, by omega, by go_num, HK5.out, by rw [HXX.out.1]; exact HA5.out, by rw [HXX.out.2]; exact HB5.out⟩
        case measure => simp [intOf]; omega
      · have hkn : ¬ ((k : Int) < (ns.length : Int)) := by omega
        have hk' : k = ns.length := by omega
        have e1 : openAll (ns.take k) = openAll ns := by rw [hk', List.take_length]
        have e2 : openAll (ns.reverse.take k) = openAll ns := by rw [hk', ← List.length_reverse, List.take_length, open_any_order H16.out]
        rw [e1] at HA
        rw [e2] at HB
        have HR1 := Lib.hid (rows_any wr p m _ HA.out (openAll_few ns))
        have HR2 := Lib.hid (fun w' (T : TabAt w' p2 m2 (openAll ns)) => rows_any w' p2 m2 _ T (openAll_few ns))
        clear hta htb hkeep e1 e2 hk' hlt
        generalize openAll ns = L at *
        go_wp2_with fail
        refine HR1.out.mono ?_
        rintro e w4 ⟨v1, rfl, hm1, k4⟩
        have HA4 := Lib.hid (HA.out.stay k4)
        have HB4 := Lib.hid (HB.out.stay k4)
        have HK4 := Lib.hid (HKP.out.trans k4 (fun _ _ h => h))
        have HV1 := Lib.hid hm1
        clear HR1 k4 hm1 HA HB HKP
        go_wp2_with fail
        refine (HR2.out _ HB4.out).mono ?_
        rintro e w5 ⟨v2, rfl, hm2, k5⟩
        have HA5 := Lib.hid (HA4.out.stay k5)
        have HB5 := Lib.hid (HB4.out.stay k5)
        have HK5 := Lib.hid (HK4.out.trans k5 (fun _ _ h => h))
        have HSM := Lib.hid (same_any w5 _ _ v1 v2 L L (HV1.out.keep k5 (fun _ _ _ => id)) hm2)
        rw [decide_eq_true rfl] at HSM
        clear HR2 k5 hm2 HA4 HB4 HK4 HV1
        go_wp2_with fail
        refine HSM.out.mono ?_
        rintro e w6 ⟨rfl, k6⟩
        have HA6 := Lib.hid (HA5.out.stay k6)
        have HB6 := Lib.hid (HB5.out.stay k6)
        have HK6 := Lib.hid (HK5.out.trans k6 (fun _ _ h => h))
        clear HSM k6 HA5 HB5 HK5
        go_wp2_with fail
        refine (len_any _ _ _ _ HA6.out).mono ?_
        rintro e w7 ⟨rfl, rfl⟩
        go_wp2_with fail
        refine (len_any _ _ _ _ HB6.out).mono ?_
        rintro e w8 ⟨rfl, rfl⟩
        go_wp2
        go_ret
        exact ⟨rfl, HK6.out⟩
  · have g16 : (16 : Int) < (ns.length : Int) := by omega
    clear h16
    go_wp2_with fail
    refine (alive_any _).mono ?_
    rintro e w4 ⟨rfl, k4⟩
    have HK4 := Lib.hid (HK3.out.trans k4 (fun _ _ h => h))
    clear k4
    go_wp2
    go_ret
    exact ⟨rfl, HK4.out⟩

namespace SessionOrder
set_option maxRecDepth 100000 in
theorem lifted (os : Os) (started : os.Started) (H : Type) (enc : TypeId × Value → H) :
    ReturnsInHanded {} Try.checked os 6 .any (Rows.sessionOrderSpec.pre6 enc Try.prog Try.f6 Rows.sessionOrderRow.domain false) (Rows.sessionOrderSpec.post enc Try.prog Try.f6 false true false false) := by
  refine returnsInHanded_of_change_sized (C := Try.checked) own started (by kernel_rfl) Try.func6
    (ChangeSpec.witness6 (enc := enc) (C := Try.checked) false ⟨#[], #[.slice none 0 0], []⟩ 8 (by kernel_rfl) (by kernel_rfl) (by kernel_rfl) (by kernel_rfl)) ?_
  intro W base args ds gs before hval0 hW hcnd hsz _
  have hval : ∀ (j : Nat) t v, Try.f6.params[j]? = some t → args[j]? = some v → Value.okWide Try.prog W .any base t v := hval0
  have hW' := hW
  obtain ⟨p, q, hA0, hV, rfl, hfz, hnd⟩ := hW
  have hA : DataW.TrodAll enc Try.prog W 0 (fun _ => true) true Try.f6.params.toList args.toList ds p := hA0
  rw [Try.params6] at hA hval
  obtain ⟨v0, vs0, d0, ds0, p0, q0, hargs, rfl, rfl, h0, r0⟩ := trodAll_cons hA
  obtain ⟨rfl, rfl, rfl⟩ := trodAll_nil r0
  obtain rfl : args = #[v0] := by cases args; simp_all
  obtain ⟨rfl, rfl⟩ := trodVars_none hV
  have k0 := h0
  have lt0 : ∀ x ∈ p0, x.block < W.heap.size := by obtain ⟨m, hm⟩ := k0; exact DataW.trod_lt m _ _ _ hm
  obtain ⟨A0, c0, l0, rfl, hl0⟩ := open_arg_nums (hval 0 48 v0 rfl rfl) h0 (light_arg hsz (j := 0) rfl rfl)
  clear hA0 hval0
  refine (order_walk W A0 c0 l0 hl0).mono fun e W' ⟨he, bel0⟩ => ?_
  subst he
  have bel := bel0.all
  exact ⟨_, rfl, _, _, _, [], _, [], hW', trodAll_mk1 (shut_bool Try.underlying4 _), (trodAll_cons_mk (Below.trod laidOut (by kernel_rfl) (of_decide_eq_true (by kernel_rfl)) k0 bel lt0) trodAll_mk0), rfl, bel.frame _, fun h => by cases h⟩

theorem over : Rows.sessionOrderRow.holds Try.pinned (OpenSpec.ofChange Rows.sessionOrderSpec) :=
  OpenClaim.holds_of_wide 6 Try.f6 rfl rfl rfl rfl rfl rfl rfl ⟨rfl, rfl, rfl, rfl, rfl⟩ rfl rfl rfl rfl rfl (by kernel_rfl) Try.func6 (by kernel_rfl)
    (of_decide_eq_true (by kernel_rfl)) (by unfold Func.isWrapper; first | (rw [if_pos (by decide +kernel)]; kernel_rfl) | (rw [if_neg (by decide +kernel)]; exact ⟨rfl, rfl⟩))
    (fun os started H enc _ => lifted os started H enc)

theorem proved : Rows.SessionOrderSaid := over
end SessionOrder
end Go.Proofs.Ytimnehgonlohcaa
