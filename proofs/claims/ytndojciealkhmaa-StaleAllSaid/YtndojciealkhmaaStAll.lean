/-
  Proved: dockyardlaw08.StaleAll answers true for every input that can be read, and leaves its argument as it was. No conditions.
-/
import Derived.Test.YtndojciealkhmaaStAlive
import Derived.Test.YtndojciealkhmaaGrOpen
namespace Go.Proofs.Ytndojciealkhmaa
open Go.ChangeShapes Go.WideShapes Go.ChangeAt Go.RowKit

theorem fresh_valid {ps : List Pt} {P : Nat → Bool} {i : Nat} {x : Bool} (h : (grFresh ps P)[i]? = some x) : grCheck ps = 0 ∧ i < ps.length := by
  have hi := (List.getElem?_eq_some_iff.1 h).1
  rw [grFresh_length] at hi
  have hq : grCheck ps = 0 := Classical.byContradiction fun hq => by rw [order_none hq] at hi; simp at hi
  rw [order_len hq] at hi
  exact ⟨hq, hi⟩
theorem fresh_true {ps : List Pt} {i : Nat} {x : Bool} (h : (grFresh ps (fun _ => true))[i]? = some x) : x = true := by
  obtain ⟨hq, hi⟩ := fresh_valid h
  have key := by_order hq (Q := fun p => (grFresh ps (fun _ => true))[p]? = some true) (fun p hp hn => by
    rw [grFresh_sol _ hq p hp]
    unfold freshAt
    rw [Bool.and_true]
    congr 1
    rw [List.all_eq_true]
    intro n hnn
    rw [List.getD_eq_getElem?_getD, hn n hnn]
    rfl) i hi
  rw [key] at h
  injection h with h
  exact h.symm
theorem fresh_false {ps : List Pt} {i : Nat} {x : Bool} (h : (grFresh ps (fun _ => false))[i]? = some x) : x = false := by
  obtain ⟨hq, hi⟩ := fresh_valid h
  rw [grFresh_sol _ hq i hi] at h
  injection h with h
  rw [← h]
  unfold freshAt
  exact Bool.and_false _
theorem order_pos {ps : List Pt} (h : grCheck ps = 0) : 0 < (grOrder ps).length := by
  rw [order_len h]
  have := (check_fits h).2.1
  unfold grFormed at this
  rw [Bool.and_eq_true, decide_eq_true_eq] at this
  exact List.length_pos_iff.2 this.1

theorem can_call_all1 : CanCall 21 := enters_of Try.func21 (by kernel_rfl) rfl
theorem can_call_all2 : CanCall 22 := enters_of Try.func22 (by kernel_rfl) rfl
theorem tells_all1 (w : World) : Tells 21 #[] (fun _ => true) w := by
  intro W x _ _
  show Calls Try.prog 21 #[.int .u64 (x : Int)] W _
  go_enter Try.func21, Try.ntmps21
  go_wp2
  go_ret
  exact ⟨rfl, rfl⟩
theorem tells_all2 (w : World) : Tells 22 #[] (fun _ => false) w := by
  intro W x _ _
  show Calls Try.prog 22 #[.int .u64 (x : Int)] W _
  go_enter Try.func22, Try.ntmps22
  go_wp2
  go_ret
  exact ⟨rfl, rfl⟩

set_option maxRecDepth 100000 in
set_option maxHeartbeats 2000000 in
theorem all_walk (w : World) (A : Option Addr) (c : Nat) (ts : List Tg) (h : Tgs w (fun _ => True) (.slice A ts.length c) ts) :
    Calls Try.prog 6 #[.agg #[.slice A ts.length c]] w fun e w' => e = .returned (.bool true) ∧ Keep noneOf w w' := by
  have HH := Lib.hid h
  have ka := (Keep.refl noneOf w).alloc (.cells #[.slice A ts.length c] 24)
  have HK0 := Lib.hid ka
  have HX0 := Lib.hid (Box.new w 24 #[.slice A ts.length c])
  have FR := Lib.hid (fresh_any _ _ _ ts (h.keep ka (fun _ _ _ => id)) _ #[] can_call_all1 _ (tells_all1 _))
  have FN : Hid (∀ w', Keep noneOf w w' → Calls Try.prog 15 #[.agg #[.slice A ts.length c], .func (.func 22) #[] #[]] w' (ToldBools (grFresh (ts.map Tg.plain) (fun _ => false)) w')) := Lib.hid fun w' k => fresh_any w' _ _ ts (HH.out.keep k (fun _ _ _ => id)) _ #[] can_call_all2 _ (tells_all2 _)
  have CK : Hid (∀ w', Keep noneOf w w' → Calls Try.prog 20 #[.agg #[.slice A ts.length c]] w' fun e w'' => e = .returned (.int .i64 (grCheck (ts.map Tg.plain))) ∧ Keep noneOf w' w'') := Lib.hid fun w' k => refCheck_any w' _ _ ts (HH.out.keep k (fun _ _ _ => id))
  have HTR : Hid (∀ i x, (grFresh (ts.map Tg.plain) (fun _ => true))[i]? = some x → x = true) := Lib.hid fun i x h => fresh_true h
  have HFA : Hid (∀ i x, (grFresh (ts.map Tg.plain) (fun _ => false))[i]? = some x → x = false) := Lib.hid fun i x h => fresh_false h
  have hl1 := grFresh_length (ts.map Tg.plain) (fun _ => true)
  have hl2 := grFresh_length (ts.map Tg.plain) (fun _ => false)
  have hpos := order_pos (ps := ts.map Tg.plain)
  have hnil := order_none (ps := ts.map Tg.plain)
  have h32 := order_32 (ts.map Tg.plain)
  generalize grFresh (ts.map Tg.plain) (fun _ => true) = fs at *
  generalize grFresh (ts.map Tg.plain) (fun _ => false) = ns at *
  generalize grCheck (ts.map Tg.plain) = chk at *
  generalize grOrder (ts.map Tg.plain) = ord at *
  have HL1 := Lib.hid hl1
  have HL2 := Lib.hid (hl2.trans hl1.symm)
  have HCP : Hid ((chk == 0) = decide (0 < fs.length)) := Lib.hid (by
    rw [hl1, Bool.eq_iff_iff, beq_iff_eq, decide_eq_true_eq]
    exact ⟨fun h => hpos h, fun h => Classical.byContradiction fun hq => by rw [hnil hq] at h; simp at h⟩)
  have hf32 : fs.length ≤ 32 := by rw [hl1]; exact h32
  clear ka h hl1 hl2 hpos hnil h32
  go_enter Try.func6, Try.ntmps6
  go_wp2_with fail
  refine FR.out.mono ?_
  rintro e w1 ⟨A1, c1, rfl, o1, k1⟩
  have K1 := HK0.out.trans k1 (fun _ _ h => h)
  have X1 := HX0.out.keep k1 id
  have x1 : w1.cell? ⟨w.heap.size, 0, none⟩ = some (.slice A ts.length c) := X1.cell 0
  have FN1 := Lib.hid (FN.out _ K1)
  have HK1 := Lib.hid K1
  have HX1 := Lib.hid X1
  have HO1 := Lib.hid o1
  clear FR HK0 HX0 k1 K1 X1 o1 FN
  go_wp2_with fail
  refine FN1.out.mono ?_
  rintro e w2 ⟨A2, c2, rfl, o2, k2⟩
  rw [HL2.out]
  have HK2 := Lib.hid (HK1.out.trans k2 (fun _ _ h => h))
  have HX2 := Lib.hid (HX1.out.keep k2 id)
  have HO2 := Lib.hid (HO1.out.keep k2 (fun _ _ _ => id))
  have HP2 := Lib.hid o2
  clear FN1 HK1 HX1 HO1 k2 o2 x1
  go_wp2_with fail
  refine (alive_any w2).mono ?_
  rintro e w3 ⟨rfl, k3⟩
  have K3 := HK2.out.trans k3 (fun _ _ h => h)
  have X3 := HX2.out.keep k3 id
  have x3 : w3.cell? ⟨w.heap.size, 0, none⟩ = some (.slice A ts.length c) := X3.cell 0
  have CK3 := Lib.hid (CK.out _ K3)
  have HK3 := Lib.hid K3
  have HO3 := Lib.hid (HO2.out.keep k3 (fun _ _ _ => id))
  have HP3 := Lib.hid (HP2.out.keep k3 (fun _ _ _ => id))
  have g0 : ((fs.length : Int) != (fs.length : Int)) = false := by rw [bne_self_eq_false]
  clear HK2 HX2 HO2 HP2 k3 K3 X3 CK
  go_wp2_with fail
  refine CK3.out.mono ?_
  rintro e w4 ⟨rfl, k4⟩
  have HK4 := Lib.hid (HK3.out.trans k4 (fun _ _ h => h))
  have HO4 := Lib.hid (HO3.out.keep k4 (fun _ _ _ => id))
  have HP4 := Lib.hid (HP3.out.keep k4 (fun _ _ _ => id))
  clear CK3 HK3 HO3 HP3 k4 x3
  by_cases hp : 0 < fs.length
  · have gq : (chk == 0) = true := by rw [HCP.out]; exact decide_eq_true hp
    have gp : decide (0 < fs.length) = true := decide_eq_true hp
    clear HCP
    go_wp2
    go_loopw [30] (fun i wr => ∃ k : Nat, k ≤ fs.length ∧ i = .int .i64 k ∧ w4 = wr) (fun i _ => fs.length - (intOf i).toNat)
    case atStart => exact ⟨0, Nat.zero_le _, rfl, rfl⟩
    case round =>
      obtain ⟨k, hk, rfl, rfl⟩ := hrel
      by_cases hlt : k < fs.length
      · obtain ⟨A', c', hv', hl', hm', _, _, hrow⟩ := HO4.out
        obtain ⟨rfl, rfl⟩ : A1 = A' ∧ c1 = c' := by simpa using hv'
        obtain ⟨ad, rfl, hsp, hblk, _, hcell⟩ := hrow (by omega)
        obtain ⟨b, o, sp⟩ := ad
        simp only at hsp hblk hcell
        subst hsp
        have hlt2 : k < ns.length := by rw [HL2.out]; exact hlt
        obtain ⟨A'', c'', hv'', hl'', hm'', _, _, hrow2⟩ := HP4.out
        obtain ⟨rfl, rfl⟩ : A2 = A'' ∧ c2 = c'' := by simpa using hv''
        obtain ⟨ad2, rfl, hsp2, hblk2, _, hcell2⟩ := hrow2 (by omega)
        obtain ⟨b2, o2, sp2⟩ := ad2
        simp only at hsp2 hblk2 hcell2
        subst hsp2
        have e1 : fs[k] = true := HTR.out k _ (List.getElem?_eq_getElem hlt)
        have e2 : ns[k] = false := HFA.out k _ (List.getElem?_eq_getElem hlt2)
        have c1 : w4.cell? ⟨b, o + k, none⟩ = some (.bool true) := by
          rw [← e1]
          exact hcell k _ (by rw [List.getElem?_map, List.getElem?_eq_getElem hlt]; rfl)
        have c2 : w4.cell? ⟨b2, o2 + k, none⟩ = some (.bool false) := by
          rw [← e2]
          exact hcell2 k _ (by rw [List.getElem?_map, List.getElem?_eq_getElem hlt2]; rfl)
        clear e1 e2 hcell hcell2 hrow hrow2 hv' hv''
        go_wp2
        go_roundw
        case rel => exact ⟨k + 1, by omega, by go_num, by first | rfl | trivial⟩
        case measure => simp [intOf]; omega
      · have hkn : ¬ ((k : Int) < (fs.length : Int)) := by omega
        clear hlt
        go_wp2
        go_ret
        exact ⟨rfl, HK4.out⟩
  · have gq : (chk == 0) = false := by rw [HCP.out]; exact decide_eq_false hp
    have e0 : fs.length = 0 := by omega
    rw [e0]
    clear HCP hp
    go_wp2
    go_loopw [30] (fun i wr => i = .int .i64 0 ∧ w4 = wr) (fun _ _ => 0)
    case atStart => exact ⟨rfl, rfl⟩
    case round =>
      obtain ⟨rfl, rfl⟩ := hrel
      go_wp2
      go_ret
      exact ⟨rfl, HK4.out⟩

namespace StaleAll
set_option maxRecDepth 100000 in
theorem lifted (os : Os) (started : os.Started) (H : Type) (enc : TypeId × Value → H) :
    ReturnsInHanded {} Try.checked os 6 .any (Rows.staleAllSpec.pre6 enc Try.prog Try.f6 Rows.staleAllRow.domain false) (Rows.staleAllSpec.post enc Try.prog Try.f6 false true false false) := by
  refine returnsInHanded_of_change_sized (C := Try.checked) own started (by kernel_rfl) Try.func6
    (ChangeSpec.witness6 (enc := enc) (C := Try.checked) false ⟨#[], #[.agg #[.slice none 0 0]], []⟩ 8 (by kernel_rfl) (by kernel_rfl) (by kernel_rfl) (by kernel_rfl)) ?_
  intro W base args ds gs before hval0 hW hcnd hsz _
  have hval : ∀ (j : Nat) t v, Try.f6.params[j]? = some t → args[j]? = some v → Value.okWide Try.prog W .any base t v := hval0
  have hW' := hW
  obtain ⟨p, q, hA0, hV, rfl, hfz, hnd⟩ := hW
  have hA : DataW.TrodAll enc Try.prog W 0 (fun _ => true) true Try.f6.params.toList args.toList ds p := hA0
  rw [Try.params6] at hA hval
  obtain ⟨v0, vs0, d0, ds0, p0, q0, hargs, rfl, rfl, h0, r0⟩ := trodAll_cons hA
  obtain ⟨rfl, rfl, rfl⟩ := trodAll_nil r0
  obtain rfl : args = #[v0] := by cases args; simp_all
  obtain ⟨rfl, rfl⟩ := trodVars_none hV
  have k0 := h0
  have lt0 : ∀ x ∈ p0, x.block < W.heap.size := by obtain ⟨m, hm⟩ := k0; exact DataW.trod_lt m _ _ _ hm
  obtain ⟨A0, c0, ts0, rfl, hts0, h560, h160⟩ := open_graph (hval 0 24 v0 rfl rfl) h0 (light_arg hsz (j := 0) rfl rfl)
  clear hA0 hval0
  refine (all_walk W A0 c0 ts0 hts0).mono fun e W' ⟨he, bel0⟩ => ?_
  subst he
  have bel := bel0.all
  exact ⟨_, rfl, _, _, _, [], _, [], hW', trodAll_mk1 (shut_bool Try.underlying4 _), (trodAll_cons_mk (Below.trod laidOut (by kernel_rfl) (of_decide_eq_true (by kernel_rfl)) k0 bel lt0) trodAll_mk0), rfl, bel.frame _, fun h => by cases h⟩

theorem over : Rows.staleAllRow.holds Try.pinned (OpenSpec.ofChange Rows.staleAllSpec) :=
  OpenClaim.holds_of_wide 6 Try.f6 rfl rfl rfl rfl rfl rfl rfl ⟨rfl, rfl, rfl, rfl, rfl⟩ rfl rfl rfl rfl rfl (by kernel_rfl) Try.func6 (by kernel_rfl)
    (of_decide_eq_true (by kernel_rfl)) (by unfold Func.isWrapper; first | (rw [if_pos (by decide +kernel)]; kernel_rfl) | (rw [if_neg (by decide +kernel)]; exact ⟨rfl, rfl⟩))
    (fun os started H enc _ => lifted os started H enc)

theorem proved : Rows.StaleAllSaid := over
end StaleAll
end Go.Proofs.Ytndojciealkhmaa
