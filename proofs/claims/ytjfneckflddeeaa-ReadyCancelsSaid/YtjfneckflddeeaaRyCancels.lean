/-
  Proved: dockyardlaw09.ReadyCancels answers true for every input that can be read, and leaves its arguments as they were. No conditions.
-/
import Derived.Test.YtjfneckflddeeaaRyLaw
import Derived.Test.YtjfneckflddeeaaRyRRepl
namespace Go.Proofs.Ytjfneckflddeeaa
open Go.ChangeShapes Go.WideShapes Go.ChangeAt Go.RowKit

theorem cancelled_fin (l : List Pst) : ∀ (i : Nat) (x : Pst), (repl 6 (fun x => !finB x.s) l)[i]? = some x → finB x.s = true := by
  intro i x h
  cases hl : l[i]? with
  | none =>
    unfold repl at h
    rw [List.getElem?_map, hl] at h
    cases h
  | some y =>
    rw [repl_at 6 _ hl] at h
    injection h with h
    rw [← h]
    cases hf : finB y.s with
    | true => rw [if_neg (by decide)]; exact hf
    | false => rw [if_pos (by decide)]; decide
theorem over_of {l : List Pst} (h : ∀ (i : Nat) (x : Pst), l[i]? = some x → finB x.s = true) : overB l = true := by
  unfold overB
  rw [List.all_eq_true]
  intro x hx
  obtain ⟨i, hi⟩ := List.getElem?_of_mem hx
  exact h i x hi
/-- Where all is over nothing becomes ready. -/
theorem none_next {ps : List Pt} {l : List Pst} (h : ∀ (i : Nat) (x : Pst), l[i]? = some x → finB x.s = true) : nextIx (grSettle ps l) = none := by
  refine nextIx_none (fun j x hx => ?_)
  by_cases hq : grCheck ps = 0
  · by_cases hl : l.length = ps.length
    · have hj : j < ps.length := by
        have := (List.getElem?_eq_some_iff.1 hx).1
        rw [grSettle_length (by rw [order_len hq, hl])] at this
        omega
      have hlj := getS_at (l := l) (n := j) (by omega)
      have hf := h j _ hlj
      rw [grSettle_sol hq hl j hj] at hx
      injection hx with hx
      unfold settleAt at hx
      rw [if_neg (fun hh => by rw [hh.1] at hf; exact absurd hf (by decide))] at hx
      rw [← hx]
      intro e
      rw [e] at hf
      exact absurd hf (by decide)
    · rw [grSettle_other hl] at hx
      simp at hx
  · rw [grSettle_none hq] at hx
    simp at hx

set_option maxRecDepth 100000 in
set_option maxHeartbeats 4000000 in
theorem cancels_walk (w : World) (A : Option Addr) (c : Nat) (ts : List Tg) (h : Tgs w (fun _ => True) (.slice A ts.length c) ts) (Al : Option Addr) (cl : Nat) (l : List Pst) (hl : Sts w (fun _ => True) (.slice Al l.length cl) l) (h24 : l.length * 24 ≤ reachBytes) :
    Calls Try.prog 8 #[.agg #[.slice A ts.length c], .slice Al l.length cl] w (TellsB true w) := by
  have HH := Lib.hid h
  have HL := Lib.hid hl
  have hlm := hl.few
  unfold maxLen at hlm
  have ka := (Keep.refl noneOf w).alloc (.cells #[.slice A ts.length c] 24)
  have HX0 := Lib.hid (Box.new w 24 #[.slice A ts.length c])
  have HK0 := Lib.hid ka
  have CA := Lib.hid (cancel_any _ _ _ l (hl.keep ka (fun _ _ _ => id)) h24)
  have hlen := repl_length 6 (fun x => !finB x.s) l
  have HLN := Lib.hid hlen
  have HRA : Hid (∀ k (x : Pst), l[k]? = some x → (repl 6 (fun x => !finB x.s) l)[k]? = some (if (!finB x.s) = true then ⟨6, 0, 0⟩ else x)) := Lib.hid fun k x h => repl_at 6 (fun x => !finB x.s) h
  have HOV := Lib.hid (over_of (cancelled_fin l))
  have HNX := Lib.hid (none_next (ps := ts.map Tg.plain) (cancelled_fin l))
  have HRB : Hid ((repl 6 (fun x => !finB x.s) l).length * 24 ≤ reachBytes) := Lib.hid (by rw [hlen]; exact h24)
  generalize repl 6 (fun x => !finB x.s) l = R at *
  have g0 : ((l.length : Int) != (l.length : Int)) = false := by rw [bne_self_eq_false]
  clear h hl h24 ka hlen
  go_enter Try.func8, Try.ntmps8
  go_wp2_with fail
  refine CA.out.mono ?_
  rintro e w1 ⟨A1, c1, rfl, hs1, k1⟩
  have HS1 := Lib.hid hs1
  rw [HLN.out]
  have HK1 := Lib.hid (HK0.out.trans k1 (fun _ _ h => h))
  have HX1 := Lib.hid (HX0.out.keep k1 id)
  have OV := over_any w1 _ _ R hs1
  rw [HOV.out, HLN.out] at OV
  have HOV1 := Lib.hid OV
  clear CA hs1 k1 OV HK0 HX0
  go_wp2_with fail
  refine HOV1.out.mono ?_
  rintro e w2 ⟨rfl, k2⟩
  have HS2 := Lib.hid (HS1.out.keep k2 (fun _ _ _ => id))
  have HK2 := Lib.hid (HK1.out.trans k2 (fun _ _ h => h))
  have HX2 := Lib.hid (HX1.out.keep k2 id)
  clear HOV1 k2 HS1 HK1 HX1
  go_wp2
  go_loopw [23] (fun i wr => ∃ k : Nat, k ≤ l.length ∧ i = .int .i64 k ∧ Keep noneOf w2 wr) (fun i _ => l.length - (intOf i).toNat)
  case atStart => exact ⟨0, Nat.zero_le _, rfl, Keep.refl _ _⟩
  case round =>
    obtain ⟨k, hk, rfl, hkeep⟩ := hrel
    have HKP := Lib.hid hkeep
    by_cases hlt : k < l.length
    · have hx := getS_at hlt
      obtain ⟨b, o, rfl, hblk, _, c0, c1, c2⟩ := (HL.out.keep (HK2.out.trans hkeep (fun _ _ h => h)) (fun _ _ _ => id)).cell hx
      have hr := HRA.out k _ hx
      obtain ⟨b', o', rfl, hblk', _, d0, d1, d2⟩ := (HS2.out.keep hkeep (fun _ _ _ => id)).cell hr
      generalize l.getD k Pst.zero = x at *
      have q0 : (0 : Int) ≤ (k : Int) := by omega
      have q1 : (k : Int) < (l.length : Int) := by omega
      have RN : Hid (∀ w', Calls Try.prog 18 #[.agg #[.int .i64 x.s, .int .u64 x.t, .int .u64 x.u]] w' (TellsB (finB x.s) w')) := Lib.hid fun w' => refFinal_any w' x
      generalize hy : (if (!finB x.s) = true then (⟨6, 0, 0⟩ : Pst) else x) = y at *
      have MK : Hid (∀ w', Keep noneOf wr w' → w'.cell? ⟨b, o + k * 3, none⟩ = some (.int .i64 x.s) ∧ w'.cell? ⟨b, o + k * 3 + 1, none⟩ = some (.int .u64 x.t) ∧ w'.cell? ⟨b, o + k * 3 + 2, none⟩ = some (.int .u64 x.u) ∧ w'.cell? ⟨b', o' + k * 3, none⟩ = some (.int .i64 y.s) ∧ w'.cell? ⟨b', o' + k * 3 + 1, none⟩ = some (.int .u64 y.t) ∧ w'.cell? ⟨b', o' + k * 3 + 2, none⟩ = some (.int .u64 y.u)) := Lib.hid fun w' k' => ⟨(k'.cell (p := ⟨b, o + k * 3, none⟩) hblk id).trans c0, (k'.cell (p := ⟨b, o + k * 3 + 1, none⟩) hblk id).trans c1, (k'.cell (p := ⟨b, o + k * 3 + 2, none⟩) hblk id).trans c2, (k'.cell (p := ⟨b', o' + k * 3, none⟩) hblk' id).trans d0, (k'.cell (p := ⟨b', o' + k * 3 + 1, none⟩) hblk' id).trans d1, (k'.cell (p := ⟨b', o' + k * 3 + 2, none⟩) hblk' id).trans d2⟩
      have EG := fun w' o1 o2 (xs ys : Array Value) => run_eqGuard_agg (P := Try.prog) w' .neq 32 o1 o2 xs ys st_guard
      clear hkeep c0 c1 c2 d0 d1 d2 hx hr
      cases hf : finB x.s with
      | true =>
        rw [hf] at hy RN
        have hyx : y = x := by rw [← hy]; rfl
        subst hyx
        have EQ : ∀ w', (binOp .neq 32 (.agg #[.int .i64 y.s, .int .u64 y.t, .int .u64 y.u]) (.agg #[.int .i64 y.s, .int .u64 y.t, .int .u64 y.u])).run Try.prog w' = .ok (.bool false) w' := fun w' => by rw [run_neq3, decide_eq_true rfl]; rfl
        clear hy hf
        go_wp2
        refine wp_region_in (fun w' => Keep noneOf wr w' ∧ w'.cell? ⟨b, o + k * 3, none⟩ = some (.int .i64 y.s) ∧ w'.cell? ⟨b, o + k * 3 + 1, none⟩ = some (.int .u64 y.t) ∧ w'.cell? ⟨b, o + k * 3 + 2, none⟩ = some (.int .u64 y.u) ∧ w'.cell? ⟨b', o' + k * 3, none⟩ = some (.int .i64 y.s) ∧ w'.cell? ⟨b', o' + k * 3 + 1, none⟩ = some (.int .u64 y.t) ∧ w'.cell? ⟨b', o' + k * 3 + 2, none⟩ = some (.int .u64 y.u)) (by kernel_rfl) (by kernel_rfl) ⟨(Keep.refl noneOf wr).drew, MK.out _ (Keep.refl noneOf wr).drew⟩ ?_
        repeat
          first
          | go_big_quiet_skip
          | go_big_quiet_want
            go_big_quiet_op
            go_big_quiet_on
          | go_big_quiet_want
            apply quiet_calls
            case he => intro w'; go_simp; exact ⟨rfl, rfl⟩
            case h =>
              intro w' hw'
              go_at_call 18
              refine (RN.out w').mono ?_
              rintro e w'' ⟨rfl, k''⟩
              exact ⟨rfl, Keep.trans hw'.1 k'' (fun _ _ h => h), MK.out _ (Keep.trans hw'.1 k'' (fun _ _ h => h))⟩
            simp only [Act.put, List.setIfInBounds_toArray, List.set_cons_zero, List.set_cons_succ]
            go_big_quiet_on
          | go_big_quiet_want
            apply quiet_reads
            case h =>
              intro w' hw'
              try dsimp only at hw'
              go_split_ands
              go_simp
              rfl
            simp only [Act.put, List.setIfInBounds_toArray, List.set_cons_zero, List.set_cons_succ]
            go_big_quiet_on
        refine wpQuiet_nil ?_
        intro w9 hw9
        have HK9 := Lib.hid (HKP.out.trans hw9.1 (fun _ _ h => h))
        clear hw9 MK RN HKP EQ EG
        go_wp2
        go_roundw
        case rel => exact ⟨k + 1, by omega, by go_num, HK9.out⟩
        case measure => simp [intOf]; omega
      | false =>
        rw [hf] at hy RN
        have hyx : y = ⟨6, 0, 0⟩ := by rw [← hy]; rfl
        subst hyx
        have EQ : ∀ w', (binOp .neq 32 (.agg #[.int .i64 6, .int .u64 0, .int .u64 0]) (.agg #[.int .i64 6, .int .u64 0, .int .u64 0])).run Try.prog w' = .ok (.bool false) w' := fun w' => by rw [run_neq3 w' ⟨6, 0, 0⟩ ⟨6, 0, 0⟩, decide_eq_true rfl]; rfl
        simp only at MK
        clear hy hf
        go_wp2
        refine wp_region_in (fun w' => Keep noneOf wr w' ∧ w'.cell? ⟨b, o + k * 3, none⟩ = some (.int .i64 x.s) ∧ w'.cell? ⟨b, o + k * 3 + 1, none⟩ = some (.int .u64 x.t) ∧ w'.cell? ⟨b, o + k * 3 + 2, none⟩ = some (.int .u64 x.u) ∧ w'.cell? ⟨b', o' + k * 3, none⟩ = some (.int .i64 6) ∧ w'.cell? ⟨b', o' + k * 3 + 1, none⟩ = some (.int .u64 0) ∧ w'.cell? ⟨b', o' + k * 3 + 2, none⟩ = some (.int .u64 0)) (by kernel_rfl) (by kernel_rfl) ⟨(Keep.refl noneOf wr).drew, MK.out _ (Keep.refl noneOf wr).drew⟩ ?_
        repeat
          first
          | go_big_quiet_skip
          | go_big_quiet_want
            go_big_quiet_op
            go_big_quiet_on
          | go_big_quiet_want
            apply quiet_calls
            case he => intro w'; go_simp; exact ⟨rfl, rfl⟩
            case h =>
              intro w' hw'
              go_at_call 18
              refine (RN.out w').mono ?_
              rintro e w'' ⟨rfl, k''⟩
              exact ⟨rfl, Keep.trans hw'.1 k'' (fun _ _ h => h), MK.out _ (Keep.trans hw'.1 k'' (fun _ _ h => h))⟩
            simp only [Act.put, List.setIfInBounds_toArray, List.set_cons_zero, List.set_cons_succ]
            go_big_quiet_on
          | go_big_quiet_want
            apply quiet_reads
            case h =>
              intro w' hw'
              try dsimp only at hw'
              go_split_ands
              go_simp
              rfl
            simp only [Act.put, List.setIfInBounds_toArray, List.set_cons_zero, List.set_cons_succ]
            go_big_quiet_on
        refine wpQuiet_nil ?_
        intro w9 hw9
        have HK9 := Lib.hid (HKP.out.trans hw9.1 (fun _ _ h => h))
        clear hw9 MK RN HKP EQ EG
        go_wp2
        go_roundw
        case rel => exact ⟨k + 1, by omega, by go_num, HK9.out⟩
        case measure => simp [intOf]; omega
    · have hkn : ¬ ((k : Int) < (l.length : Int)) := by omega
      have K3 := HK2.out.trans hkeep (fun _ _ h => h)
      have HK3 := Lib.hid K3
      have HS3 := Lib.hid (HS2.out.keep hkeep (fun _ _ _ => id))
      have x3 : wr.cell? ⟨w.heap.size, 0, none⟩ = some (.slice A ts.length c) := (HX2.out.keep hkeep id).cell 0
      have SE := settle_any wr _ _ _ _ ts R (HH.out.keep K3 (fun _ _ _ => id)) HS3.out HRB.out
      rw [HLN.out] at SE
      have HSE := Lib.hid SE
      clear hlt hkeep HKP K3 SE
      go_wp2_with fail
      refine HSE.out.mono ?_
      rintro e w4 ⟨v4, rfl, k4, hv4⟩
      have hs4 := told_sts hv4
      obtain ⟨A4, c4, hv4s⟩ := hs4.shape
      subst hv4s
      have HK4 := Lib.hid (HK3.out.trans k4 (fun _ _ h => h))
      have NX := rnext_any w4 _ _ _ hs4
      rw [HNX.out] at NX
      have HN := Lib.hid NX
      clear HSE k4 hv4 hs4 HK3 HS3 x3 NX
      go_wp2_with fail
      refine HN.out.mono ?_
      rintro e w5 ⟨rfl, k5⟩
      have HK5 := Lib.hid (HK4.out.trans k5 (fun _ _ h => h))
      clear HN k5 HK4
      simp only [Option.isSome_none, Option.getD_none]
      go_wp2_with fail
      refine (alive_any w5).mono ?_
      rintro e w6 ⟨rfl, k6⟩
      have HK6 := Lib.hid (HK5.out.trans k6 (fun _ _ h => h))
      clear k6 HK5
      go_wp2
      go_ret
      exact ⟨rfl, HK6.out⟩

namespace ReadyCancels
set_option maxRecDepth 100000 in
theorem lifted (os : Os) (started : os.Started) (H : Type) (enc : TypeId × Value → H) :
    ReturnsInHanded {} Try.checked os 8 .any (Rows.readyCancelsSpec.pre6 enc Try.prog Try.f8 Rows.readyCancelsRow.domain false) (Rows.readyCancelsSpec.post enc Try.prog Try.f8 false true false false) := by
  refine returnsInHanded_of_change_sized (C := Try.checked) own started (by kernel_rfl) Try.func8
    (ChangeSpec.witness6 (enc := enc) (C := Try.checked) false ⟨#[], #[.agg #[.slice none 0 0], .slice none 0 0], []⟩ 8 (by kernel_rfl) (by kernel_rfl) (by kernel_rfl) (by kernel_rfl)) ?_
  intro W base args ds gs before hval0 hW hcnd hsz _
  have hval : ∀ (j : Nat) t v, Try.f8.params[j]? = some t → args[j]? = some v → Value.okWide Try.prog W .any base t v := hval0
  have hW' := hW
  obtain ⟨p, q, hA0, hV, rfl, hfz, hnd⟩ := hW
  have hA : DataW.TrodAll enc Try.prog W 0 (fun _ => true) true Try.f8.params.toList args.toList ds p := hA0
  rw [Try.params8] at hA hval
  obtain ⟨v0, vs0, d0, ds0, p0, q0, hargs, rfl, rfl, h0, r0⟩ := trodAll_cons hA
  obtain ⟨v1, vs1, d1, ds1, p1, q1, rfl, rfl, rfl, h1, r1⟩ := trodAll_cons r0
  obtain ⟨rfl, rfl, rfl⟩ := trodAll_nil r1
  obtain rfl : args = #[v0, v1] := by cases args; simp_all
  obtain ⟨rfl, rfl⟩ := trodVars_none hV
  have k0 := h0
  have lt0 : ∀ x ∈ p0, x.block < W.heap.size := by obtain ⟨m, hm⟩ := k0; exact DataW.trod_lt m _ _ _ hm
  have k1 := h1
  have lt1 : ∀ x ∈ p1, x.block < W.heap.size := by obtain ⟨m, hm⟩ := k1; exact DataW.trod_lt m _ _ _ hm
  obtain ⟨A0, c0, ts0, rfl, hts0, h560, h160⟩ := open_graph (hval 0 24 v0 rfl rfl) h0 (light_arg hsz (j := 0) rfl rfl)
  obtain ⟨A1, c1, l1, rfl, hl1, h241⟩ := open_arg_sts (hval 1 25 v1 rfl rfl) h1 (light_arg hsz (j := 1) rfl rfl)
  clear hA0 hval0
  refine (cancels_walk W A0 c0 ts0 hts0 A1 c1 l1 hl1 h241).mono fun e W' ⟨he, bel0⟩ => ?_
  subst he
  have bel := bel0.all
  exact ⟨_, rfl, _, _, _, [], _, [], hW', trodAll_mk1 (shut_bool Try.underlying4 _), (trodAll_cons_mk (Below.trod laidOut (by kernel_rfl) (of_decide_eq_true (by kernel_rfl)) k0 bel lt0) (trodAll_cons_mk (Below.trod laidOut (by kernel_rfl) (of_decide_eq_true (by kernel_rfl)) k1 bel lt1) trodAll_mk0)), rfl, bel.frame _, fun h => by cases h⟩

theorem over : Rows.readyCancelsRow.holds Try.pinned (OpenSpec.ofChange Rows.readyCancelsSpec) :=
  OpenClaim.holds_of_wide 8 Try.f8 rfl rfl rfl rfl rfl rfl rfl ⟨rfl, rfl, rfl, rfl, rfl⟩ rfl rfl rfl rfl rfl (by kernel_rfl) Try.func8 (by kernel_rfl)
    (of_decide_eq_true (by kernel_rfl)) (by unfold Func.isWrapper; first | (rw [if_pos (by decide +kernel)]; kernel_rfl) | (rw [if_neg (by decide +kernel)]; exact ⟨rfl, rfl⟩))
    (fun os started H enc _ => lifted os started H enc)

theorem proved : Rows.ReadyCancelsSaid := over
end ReadyCancels
end Go.Proofs.Ytjfneckflddeeaa
