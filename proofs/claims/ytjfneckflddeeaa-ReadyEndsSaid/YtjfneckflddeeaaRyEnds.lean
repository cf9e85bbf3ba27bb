/-
  Proved: dockyardlaw09.ReadyEnds answers true for every input that can be read, and leaves its arguments as they were. No conditions.
-/
import Derived.Test.YtjfneckflddeeaaRyLaw
import Derived.Test.YtjfneckflddeeaaRyRRepl
namespace Go.Proofs.Ytjfneckflddeeaa
open Go.ChangeShapes Go.WideShapes Go.ChangeAt Go.RowKit

theorem same_self {w : World} {D D' : Nat → Prop} {v v' : Value} {l : List Pst} (h : Sts w D v l) (h' : Sts w D' v' l) : Calls Try.prog 10 #[v, v'] w (TellsB true w) := by
  have := same_any w D D' _ _ l l h h'
  rw [decide_eq_true rfl] at this
  exact this

set_option maxRecDepth 100000 in
set_option maxHeartbeats 4000000 in
theorem ends_walk (w : World) (Al : Option Addr) (cl : Nat) (l : List Pst) (hl : Sts w (fun _ => True) (.slice Al l.length cl) l) (h24 : l.length * 24 ≤ reachBytes) (now : Int) :
    Calls Try.prog 4 #[.slice Al l.length cl, .int .u64 now] w (TellsB true w) := by
  have HL := Lib.hid hl
  have H24 := Lib.hid h24
  have hb24 : l.length * 24 ≤ 140737488351232 := h24
  have kb : Keep noneOf w (w.alloc (.cells #[] 32)) := (Keep.refl _ _).alloc _
  have HKB := Lib.hid kb
  have hown : (w.alloc (.cells #[] 32)).ownsRow w.heap.size 32 3 (.slice (some ⟨w.heap.size, 0, none⟩) 0 0) ([] : List Pst).length (([] : List Pst).flatMap Pst.cells) := World.ownsRow_lit w #[] 0 (Nat.le_refl _) (Nat.zero_le _) rfl
  have HOE := Lib.hid hown
  have HSE := Lib.hid (hl.keep kb (fun _ _ _ => id))
  clear hl h24 kb hown
  go_enter Try.func4, Try.ntmps4
  go_wp2_with (at_builtin; refine wpList_append_sts _ rfl _ _ rfl w.heap.size _ _ [] l (fun _ => True) rfl rfl HOE.out HSE.out (by rw [List.length_nil]; omega) (by simp) ?_; intro v2 w2 hown2 hg2' _; have hg2 : World.grownBy (w.alloc (.cells #[] 32)) w2 (some w.heap.size) := hg2'; clear hg2'; rw [List.nil_append] at hown2; obtain ⟨A2, c2, hv2⟩ := (Sts.of_own hown2).shape; subst hv2)
  have HK2 := Lib.hid (show Keep noneOf w w2 from HKB.out.trans (Keep.of_grown hg2) (fun i hi e => by
    have : i = w.heap.size := by simpa using e
    omega))
  have HG2 := Lib.hid (Sts.of_own hown2)
  have NX := Lib.hid (rnext_any w2 _ _ l (Sts.of_own hown2))
  clear hown2 hg2 HKB HOE HSE
  go_wp2_with fail
  refine NX.out.mono ?_
  rintro e w3 ⟨rfl, k3⟩
  have HK3 := Lib.hid (HK2.out.trans k3 (fun _ _ h => h))
  have HG3 := Lib.hid (HG2.out.keep k3 (fun _ _ _ => id))
  have RX := Lib.hid (refNext_any w3 _ _ l (HL.out.keep HK3.out (fun _ _ _ => id)))
  clear NX HK2 HG2 k3
  go_wp2_with fail
  refine RX.out.mono ?_
  rintro e w4 ⟨rfl, k4⟩
  have HK4 := Lib.hid (HK3.out.trans k4 (fun _ _ h => h))
  have HG4 := Lib.hid (HG3.out.keep k4 (fun _ _ _ => id))
  clear RX HK3 HG3 k4
  generalize ((nextIx l).getD 0 : Nat) = nx
  generalize (nextIx l).isSome = nq
  have hlm := HL.out.few
  unfold maxLen at hlm
  go_wp2
  go_loopw [26] (fun i wr => ∃ k : Nat, k ≤ l.length ∧ i = .int .i64 k ∧ Keep noneOf w4 wr) (fun i _ => l.length - (intOf i).toNat)
  case atStart => exact ⟨0, Nat.zero_le _, rfl, Keep.refl _ _⟩
  case round =>
    obtain ⟨k, hk, rfl, hkeep⟩ := hrel
    have HKP := Lib.hid hkeep
    by_cases hlt : k < l.length
    · obtain ⟨b, o, rfl, hblk, _, c0, c1, c2⟩ := (HL.out.keep (HK4.out.trans hkeep (fun _ _ h => h)) (fun _ _ _ => id)).cell (getS_at hlt)
      generalize l.getD k Pst.zero = x at *
      have q0 : (0 : Int) ≤ (k : Int) := by omega
      have q1 : (k : Int) < (l.length : Int) := by omega
      have FN : Hid (∀ w', Calls Try.prog 17 #[.agg #[.int .i64 x.s, .int .u64 x.t, .int .u64 x.u]] w' (TellsB (finB x.s) w')) := Lib.hid fun w' => final_any w' x
      have RN : Hid (∀ w', Calls Try.prog 18 #[.agg #[.int .i64 x.s, .int .u64 x.t, .int .u64 x.u]] w' (TellsB (finB x.s) w')) := Lib.hid fun w' => refFinal_any w' x
      have MK : Hid (∀ w', Keep noneOf wr w' → w'.cell? ⟨b, o + k * 3, none⟩ = some (.int .i64 x.s) ∧ w'.cell? ⟨b, o + k * 3 + 1, none⟩ = some (.int .u64 x.t) ∧ w'.cell? ⟨b, o + k * 3 + 2, none⟩ = some (.int .u64 x.u)) := Lib.hid fun w' k' => ⟨(k'.cell (p := ⟨b, o + k * 3, none⟩) hblk id).trans c0, (k'.cell (p := ⟨b, o + k * 3 + 1, none⟩) hblk id).trans c1, (k'.cell (p := ⟨b, o + k * 3 + 2, none⟩) hblk id).trans c2⟩
      generalize finB x.s = fb at *
      have gb : (fb != fb) = false := by rw [bne_self_eq_false]
      clear hkeep c0 c1 c2
      go_wp2
      refine wp_region_in (fun w' => Keep noneOf wr w' ∧ w'.cell? ⟨b, o + k * 3, none⟩ = some (.int .i64 x.s) ∧ w'.cell? ⟨b, o + k * 3 + 1, none⟩ = some (.int .u64 x.t) ∧ w'.cell? ⟨b, o + k * 3 + 2, none⟩ = some (.int .u64 x.u)) (by kernel_rfl) (by kernel_rfl) ⟨(Keep.refl noneOf wr).drew, MK.out _ (Keep.refl noneOf wr).drew⟩ ?_
      repeat
        first
        | go_big_quiet_skip
        | go_big_quiet_want
          go_big_quiet_op
          go_big_quiet_on
        | go_big_quiet_want
          apply quiet_calls
          case he => intro w'; go_simp; exact ⟨rfl, rfl⟩
          case h =>
            intro w' hw'
            first
            | go_at_call 17
              refine (FN.out w').mono ?_
              rintro e w'' ⟨rfl, k''⟩
              exact ⟨rfl, Keep.trans hw'.1 k'' (fun _ _ h => h), MK.out _ (Keep.trans hw'.1 k'' (fun _ _ h => h))⟩
            | go_at_call 18
              refine (RN.out w').mono ?_
              rintro e w'' ⟨rfl, k''⟩
              exact ⟨rfl, Keep.trans hw'.1 k'' (fun _ _ h => h), MK.out _ (Keep.trans hw'.1 k'' (fun _ _ h => h))⟩
          simp only [Act.put, List.setIfInBounds_toArray, List.set_cons_zero, List.set_cons_succ]
          go_big_quiet_on
        | go_big_quiet_want
          apply quiet_reads
          case h =>
            intro w' hw'
            try dsimp only at hw'
            go_split_ands
            go_simp
            rfl
          simp only [Act.put, List.setIfInBounds_toArray, List.set_cons_zero, List.set_cons_succ]
          go_big_quiet_on
      refine wpQuiet_nil ?_
      intro w9 hw9
      have HK9 := Lib.hid (HKP.out.trans hw9.1 (fun _ _ h => h))
      clear hw9 MK FN RN HKP
      go_wp2
      go_roundw
      case rel => exact ⟨k + 1, by omega, by go_num, HK9.out⟩
      case measure => simp [intOf]; omega
    · have hkn : ¬ ((k : Int) < (l.length : Int)) := by omega
      have HKR := Lib.hid (HK4.out.trans hkeep (fun _ _ h => h))
      have HGR := Lib.hid (HG4.out.keep hkeep (fun _ _ _ => id))
      clear hlt hkeep HKP
      go_wp2_with fail
      refine (alive_any wr).mono ?_
      rintro e w5 ⟨rfl, k5⟩
      have K5 := HKR.out.trans k5 (fun _ _ h => h)
      have HK5 := Lib.hid K5
      have HG5 := Lib.hid (HGR.out.keep k5 (fun _ _ _ => id))
      have EX := Lib.hid (expire_any w5 _ _ l HG5.out H24.out now)
      clear k5 K5 HKR HGR
      go_wp2_with fail
      refine EX.out.mono ?_
      rintro e w6 ⟨A6, c6, rfl, hs6, k6⟩
      have HK6 := Lib.hid (HK5.out.trans k6 (fun _ _ h => h))
      have HG6 := Lib.hid (HG5.out.keep k6 (fun _ _ _ => id))
      have HS6 := Lib.hid hs6
      have RE := Lib.hid (refExpire_any w6 _ _ l (HL.out.keep HK6.out (fun _ _ _ => id)) H24.out now)
      clear EX k6 HK5 HG5 hs6
      go_wp2_with fail
      refine RE.out.mono ?_
      rintro e w7 ⟨A7, c7, rfl, hs7, k7⟩
      have HK7 := Lib.hid (HK6.out.trans k7 (fun _ _ h => h))
      have HG7 := Lib.hid (HG6.out.keep k7 (fun _ _ _ => id))
      have SM := Lib.hid (same_self (HS6.out.keep k7 (fun _ _ _ => id)) hs7)
      clear RE k7 HK6 HG6 HS6 hs7
      go_wp2_with fail
      refine SM.out.mono ?_
      rintro e w8 ⟨rfl, k8⟩
      have HK8 := Lib.hid (HK7.out.trans k8 (fun _ _ h => h))
      have HG8 := Lib.hid (HG7.out.keep k8 (fun _ _ _ => id))
      have CA := Lib.hid (cancel_any w8 _ _ l HG8.out H24.out)
      clear SM k8 HK7 HG7
      go_wp2_with fail
      refine CA.out.mono ?_
      rintro e w9 ⟨A9, c9, rfl, hs9, k9⟩
      have HK9 := Lib.hid (HK8.out.trans k9 (fun _ _ h => h))
      have HG9 := Lib.hid (HG8.out.keep k9 (fun _ _ _ => id))
      have HS9 := Lib.hid hs9
      have RC := Lib.hid (refCancel_any w9 _ _ l (HL.out.keep HK9.out (fun _ _ _ => id)) H24.out)
      clear CA k9 HK8 HG8 hs9
      go_wp2_with fail
      refine RC.out.mono ?_
      rintro e w10 ⟨A10, c10, rfl, hs10, k10⟩
      have HK10 := Lib.hid (HK9.out.trans k10 (fun _ _ h => h))
      have HG10 := Lib.hid (HG9.out.keep k10 (fun _ _ _ => id))
      have SN := Lib.hid (same_self (HS9.out.keep k10 (fun _ _ _ => id)) hs10)
      clear RC k10 HK9 HG9 HS9 hs10
      go_wp2_with fail
      refine SN.out.mono ?_
      rintro e w11 ⟨rfl, k11⟩
      have HK11 := Lib.hid (HK10.out.trans k11 (fun _ _ h => h))
      have HG11 := Lib.hid (HG10.out.keep k11 (fun _ _ _ => id))
      have OV := Lib.hid (over_any w11 _ _ l HG11.out)
      have gn : ((nx : Int) == (nx : Int)) = true := by rw [beq_self_eq_true]
      have gq : (nq == nq) = true := by rw [beq_self_eq_true]
      clear SN k11 HK10 HG10
      go_wp2_with fail
      refine OV.out.mono ?_
      rintro e w12 ⟨rfl, k12⟩
      have HK12 := Lib.hid (HK11.out.trans k12 (fun _ _ h => h))
      have HG12 := Lib.hid (HG11.out.keep k12 (fun _ _ _ => id))
      have RO := Lib.hid (refOver_any w12 _ _ l (HL.out.keep HK12.out (fun _ _ _ => id)))
      clear OV k12 HK11 HG11
      go_wp2_with fail
      refine RO.out.mono ?_
      rintro e w13 ⟨rfl, k13⟩
      have HK13 := Lib.hid (HK12.out.trans k13 (fun _ _ h => h))
      have HG13 := Lib.hid (HG12.out.keep k13 (fun _ _ _ => id))
      have SL := Lib.hid (same_self HG13.out (HL.out.keep HK13.out (fun _ _ _ => id)))
      generalize overB l = ov
      have go : (ov == ov) = true := by rw [beq_self_eq_true]
      clear RO k13 HK12 HG12
      go_wp2_with fail
      refine SL.out.mono ?_
      rintro e w14 ⟨rfl, k14⟩
      have HK14 := Lib.hid (HK13.out.trans k14 (fun _ _ h => h))
      clear SL k14 HK13 HG13
      go_wp2
      go_ret
      exact ⟨rfl, HK14.out⟩

namespace ReadyEnds
set_option maxRecDepth 100000 in
theorem lifted (os : Os) (started : os.Started) (H : Type) (enc : TypeId × Value → H) :
    ReturnsInHanded {} Try.checked os 4 .any (Rows.readyEndsSpec.pre6 enc Try.prog Try.f4 Rows.readyEndsRow.domain false) (Rows.readyEndsSpec.post enc Try.prog Try.f4 false true false false) := by
  refine returnsInHanded_of_change_sized (C := Try.checked) own started (by kernel_rfl) Try.func4
    (ChangeSpec.witness6 (enc := enc) (C := Try.checked) false ⟨#[], #[.slice none 0 0, .int .u64 0], []⟩ 8 (by kernel_rfl) (by kernel_rfl) (by kernel_rfl) (by kernel_rfl)) ?_
  intro W base args ds gs before hval0 hW hcnd hsz _
  have hval : ∀ (j : Nat) t v, Try.f4.params[j]? = some t → args[j]? = some v → Value.okWide Try.prog W .any base t v := hval0
  have hW' := hW
  obtain ⟨p, q, hA0, hV, rfl, hfz, hnd⟩ := hW
  have hA : DataW.TrodAll enc Try.prog W 0 (fun _ => true) true Try.f4.params.toList args.toList ds p := hA0
  rw [Try.params4] at hA hval
  obtain ⟨v0, vs0, d0, ds0, p0, q0, hargs, rfl, rfl, h0, r0⟩ := trodAll_cons hA
  obtain ⟨v1, vs1, d1, ds1, p1, q1, rfl, rfl, rfl, h1, r1⟩ := trodAll_cons r0
  obtain ⟨rfl, rfl, rfl⟩ := trodAll_nil r1
  obtain rfl : args = #[v0, v1] := by cases args; simp_all
  obtain ⟨rfl, rfl⟩ := trodVars_none hV
  have k0 := h0
  have lt0 : ∀ x ∈ p0, x.block < W.heap.size := by obtain ⟨m, hm⟩ := k0; exact DataW.trod_lt m _ _ _ hm
  obtain ⟨A0, c0, l0, rfl, hl0, h240⟩ := open_arg_sts (hval 0 25 v0 rfl rfl) h0 (light_arg hsz (j := 0) rfl rfl)
  obtain ⟨a1, rfl, rfl, rfl, w1⟩ := open_int Try.underlying30 (hval 1 30 v1 rfl rfl) h1
  clear hA0 hval0
  refine (ends_walk W A0 c0 l0 hl0 h240 a1).mono fun e W' ⟨he, bel0⟩ => ?_
  subst he
  have bel := bel0.all
  exact ⟨_, rfl, _, _, _, [], _, [], hW', trodAll_mk1 (shut_bool Try.underlying4 _), (trodAll_cons_mk (Below.trod laidOut (by kernel_rfl) (of_decide_eq_true (by kernel_rfl)) k0 bel lt0) (trodAll_cons_mk (shut_int Try.underlying30 w1) trodAll_mk0)), rfl, bel.frame _, fun h => by cases h⟩

theorem over : Rows.readyEndsRow.holds Try.pinned (OpenSpec.ofChange Rows.readyEndsSpec) :=
  OpenClaim.holds_of_wide 4 Try.f4 rfl rfl rfl rfl rfl rfl rfl ⟨rfl, rfl, rfl, rfl, rfl⟩ rfl rfl rfl rfl rfl (by kernel_rfl) Try.func4 (by kernel_rfl)
    (of_decide_eq_true (by kernel_rfl)) (by unfold Func.isWrapper; first | (rw [if_pos (by decide +kernel)]; kernel_rfl) | (rw [if_neg (by decide +kernel)]; exact ⟨rfl, rfl⟩))
    (fun os started H enc _ => lifted os started H enc)

theorem proved : Rows.ReadyEndsSaid := over
end ReadyEnds
end Go.Proofs.Ytjfneckflddeeaa
