/-
  Proved: dockyardlaw07.GraphFinds answers true for every input that can be read, and leaves its arguments as they were. No conditions.
-/
import Derived.Test.YtbcedkcopikcfaaGrAlive
import Derived.Test.YtbcedkcopikcfaaGrInts
import Derived.Test.YtbcedkcopikcfaaGrOpen
namespace Go.Proofs.Ytbcedkcopikcfaa
open Go.ChangeShapes Go.WideShapes Go.ChangeAt Go.RowKit

set_option maxRecDepth 100000 in
set_option maxHeartbeats 2000000 in
theorem finds_walk (w : World) (A : Option Addr) (c : Nat) (ts : List Tg) (s : ByteArray) (place : Int) (h : Tgs w (fun _ => True) (.slice A ts.length c) ts) (hf : fewNeeds ts) :
    Calls Try.prog 4 #[.agg #[.slice A ts.length c], .string s, .int .i64 place] w fun e w' => e = .returned (.bool true) ∧ Keep noneOf w w' := by
  have HH := Lib.hid h
  have HFW := Lib.hid hf
  have ka := (Keep.refl noneOf w).alloc (.cells #[.slice A ts.length c] 24)
  have HK0 := Lib.hid ka
  have HX0 := Lib.hid (Box.new w 24 #[.slice A ts.length c])
  have HF := Lib.hid (find_any _ _ _ ts s (h.keep ka (fun _ _ _ => id)))
  clear h hf ka
  go_enter Try.func4, Try.ntmps4
  go_wp2_with fail
  refine HF.out.mono ?_
  rintro e w1 ⟨rfl, k1⟩
  have K1 := HK0.out.trans k1 (fun _ _ h => h)
  have X1 := HX0.out.keep k1 id
  have x1 : w1.cell? ⟨w.heap.size, 0, none⟩ = some (.slice A ts.length c) := X1.cell 0
  have HG := Lib.hid (refFind_any w1 _ _ ts s (HH.out.keep K1 (fun _ _ _ => id)))
  clear HF HK0 HX0 k1
  go_wp2_with fail
  refine HG.out.mono ?_
  rintro e w2 ⟨rfl, k2⟩
  generalize findIx (ts.map Tg.plain) s = r
  generalize ((r.getD 0 : Nat) : Int) = n
  generalize r.isSome = q
  have K2 := K1.trans k2 (fun _ _ h => h)
  have X2 := X1.keep k2 id
  have HK2 := Lib.hid K2
  have MK : Hid (∀ w', Keep noneOf w2 w' → w'.cell? ⟨w.heap.size, 0, none⟩ = some (.slice A ts.length c)) := fun w' k => (X2.keep k id).cell 0
  have NE : Hid (∀ w', Keep noneOf w2 w' → Calls Try.prog 14 #[.agg #[.slice A ts.length c], .int .i64 place] w' (ToldInts (needsAt (ts.map Tg.plain) place) w')) := fun w' k' => needs_any w' _ _ ts place (HH.out.keep (HK2.out.trans k' (fun _ _ h => h)) (fun _ _ _ => id)) HFW.out
  have RN : Hid (∀ w', Keep noneOf w2 w' → Calls Try.prog 15 #[.agg #[.slice A ts.length c], .int .i64 place] w' (ToldInts (needsAt (ts.map Tg.plain) place) w')) := fun w' k' => refNeeds_any w' _ _ ts place (HH.out.keep (HK2.out.trans k' (fun _ _ h => h)) (fun _ _ _ => id)) HFW.out
  generalize needsAt (ts.map Tg.plain) place = ns at *
  have IT : Hid (∀ w' (D D' : Nat → Prop) v v', Ints w' D v ns → Ints w' D' v' ns → Calls Try.prog 13 #[v, v'] w' fun e w'' => e = .returned (.bool true) ∧ Keep noneOf w' w'') := fun w' D D' v v' hv hv' => by
    have := ints_any w' D D' v v' ns ns hv hv'
    simpa using this
  have K00 := Keep.refl noneOf w2
  clear HG k2 K1 X1 x1 K2 X2
  go_wp2
  go_region_held3 (fun w' => Keep noneOf w2 w' ∧ w'.cell? ⟨w.heap.size, 0, none⟩ = some (.slice A ts.length c)) (first | exact ⟨K00.drew, MK.out _ K00.drew⟩ | (refine (fun k => ⟨k, MK.out _ k⟩) ?_; exact Keep.trans (And.left (by assumption)) (by assumption) (fun _ _ h => h)))
    (first | (go_at_call 8; refine (alive_any _).mono ?_; rintro e wA ⟨rfl, kA⟩) | (go_at_call 14; refine (NE.out _ (And.left (by assumption))).mono ?_; rintro e wN ⟨vN, rfl, iN, kN⟩; obtain ⟨AN, cN, hvN⟩ := iN.shape; subst hvN) | (go_at_call 15; refine (RN.out _ (And.left (by assumption))).mono ?_; rintro e wR ⟨vR, rfl, iR, kR⟩; obtain ⟨AR, cR, hvR⟩ := iR.shape; subst hvR) | (go_at_call 13; refine (IT.out _ _ _ _ _ (Row.keep iN (by assumption) (fun _ _ _ => id)) iR).mono ?_; rintro e wI ⟨rfl, kI⟩) | (go_at_call 13; refine (IT.out _ _ _ _ _ iN (Row.keep iR (by assumption) (fun _ _ _ => id))).mono ?_; rintro e wI ⟨rfl, kI⟩))
  have KI : Keep noneOf w wI := by
    refine HK2.out.trans ?_ (fun _ _ h => h)
    refine Keep.trans ?_ kI (fun _ _ h => h)
    first
    | exact (((K00.drew.trans kA (fun _ _ h => h)).trans kN (fun _ _ h => h)).trans kR (fun _ _ h => h))
    | exact (((K00.drew.trans kA (fun _ _ h => h)).trans kR (fun _ _ h => h)).trans kN (fun _ _ h => h))
  clear NE RN IT MK K00 HK2 HH HFW iN iR kA kN kR kI
  go_wp2
  go_ret
  exact ⟨rfl, KI⟩

namespace GraphFinds
set_option maxRecDepth 100000 in
theorem lifted (os : Os) (started : os.Started) (H : Type) (enc : TypeId × Value → H) :
    ReturnsInHanded {} Try.checked os 4 .any (Rows.graphFindsSpec.pre6 enc Try.prog Try.f4 Rows.graphFindsRow.domain false) (Rows.graphFindsSpec.post enc Try.prog Try.f4 false true false false) := by
  refine returnsInHanded_of_change_sized (C := Try.checked) own started (by kernel_rfl) Try.func4
    (ChangeSpec.witness6 (enc := enc) (C := Try.checked) false ⟨#[], #[.agg #[.slice none 0 0], .string ⟨#[]⟩, .int .i64 0], []⟩ 8 (by kernel_rfl) (by kernel_rfl) (by kernel_rfl) (by kernel_rfl)) ?_
  intro W base args ds gs before hval0 hW hcnd hsz _
  have hval : ∀ (j : Nat) t v, Try.f4.params[j]? = some t → args[j]? = some v → Value.okWide Try.prog W .any base t v := hval0
  have hW' := hW
  obtain ⟨p, q, hA0, hV, rfl, hfz, hnd⟩ := hW
  have hA : DataW.TrodAll enc Try.prog W 0 (fun _ => true) true Try.f4.params.toList args.toList ds p := hA0
  rw [Try.params4] at hA hval
  obtain ⟨v0, vs0, d0, ds0, p0, q0, hargs, rfl, rfl, h0, r0⟩ := trodAll_cons hA
  obtain ⟨v1, vs1, d1, ds1, p1, q1, rfl, rfl, rfl, h1, r1⟩ := trodAll_cons r0
  obtain ⟨v2, vs2, d2, ds2, p2, q2, rfl, rfl, rfl, h2, r2⟩ := trodAll_cons r1
  obtain ⟨rfl, rfl, rfl⟩ := trodAll_nil r2
  obtain rfl : args = #[v0, v1, v2] := by cases args; simp_all
  obtain ⟨rfl, rfl⟩ := trodVars_none hV
  have k0 := h0
  have k1 := h1
  have lt0 : ∀ x ∈ p0, x.block < W.heap.size := by obtain ⟨m, hm⟩ := k0; exact DataW.trod_lt m _ _ _ hm
  have lt1 : ∀ x ∈ p1, x.block < W.heap.size := by obtain ⟨m, hm⟩ := k1; exact DataW.trod_lt m _ _ _ hm
  obtain ⟨A, c, ts, rfl, hts, _, h16⟩ := open_graph (hval 0 24 v0 rfl rfl) h0 (light_arg hsz (j := 0) rfl rfl)
  obtain ⟨s, rfl⟩ := okWide_string Try.underlying9 (hval 1 9 v1 rfl rfl)
  obtain ⟨a2, rfl, rfl, rfl, w2⟩ := open_int Try.underlying3 (hval 2 3 v2 rfl rfl) h2
  clear hA0 hval0
  refine (finds_walk W A c ts s a2 hts (few_of h16)).mono fun e W' ⟨he, bel0⟩ => ?_
  subst he
  have bel := bel0.all
  exact ⟨_, rfl, _, _, _, [], _, [], hW', trodAll_mk1 (shut_bool Try.underlying4 _), (trodAll_cons_mk (Below.trod laidOut (by kernel_rfl) (of_decide_eq_true (by kernel_rfl)) k0 bel lt0) (trodAll_cons_mk (Below.trod laidOut (by kernel_rfl) (of_decide_eq_true (by kernel_rfl)) k1 bel lt1) (trodAll_cons_mk (shut_int Try.underlying3 w2) trodAll_mk0))), rfl, bel.frame _, fun h => by cases h⟩

theorem over : Rows.graphFindsRow.holds Try.pinned (OpenSpec.ofChange Rows.graphFindsSpec) :=
  OpenClaim.holds_of_wide 4 Try.f4 rfl rfl rfl rfl rfl rfl rfl ⟨rfl, rfl, rfl, rfl, rfl⟩ rfl rfl rfl rfl rfl (by kernel_rfl) Try.func4 (by kernel_rfl)
    (of_decide_eq_true (by kernel_rfl)) (by unfold Func.isWrapper; first | (rw [if_pos (by decide +kernel)]; kernel_rfl) | (rw [if_neg (by decide +kernel)]; exact ⟨rfl, rfl⟩))
    (fun os started H enc _ => lifted os started H enc)

theorem proved : Rows.GraphFindsSaid := over
end GraphFinds
end Go.Proofs.Ytbcedkcopikcfaa
