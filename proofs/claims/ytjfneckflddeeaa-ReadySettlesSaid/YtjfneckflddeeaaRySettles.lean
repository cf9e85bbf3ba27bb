/-
  Proved: dockyardlaw09.ReadySettles answers true for every input that can be read, and leaves its arguments as they were. No conditions.
-/
import Derived.Test.YtjfneckflddeeaaRyLaw
namespace Go.Proofs.Ytjfneckflddeeaa
open Go.ChangeShapes Go.WideShapes Go.ChangeAt Go.RowKit

set_option maxRecDepth 100000 in
set_option maxHeartbeats 4000000 in
theorem settles_walk (w : World) (A : Option Addr) (c : Nat) (ts : List Tg) (h : Tgs w (fun _ => True) (.slice A ts.length c) ts) (h56 : ts.length * 56 ≤ reachBytes) (Al : Option Addr) (cl : Nat) (l : List Pst) (hl : Sts w (fun _ => True) (.slice Al l.length cl) l) (h24 : l.length * 24 ≤ reachBytes)
    (Af : Option Addr) (cf : Nat) (fs : List Bool) (hf : Bls w (fun _ => True) (.slice Af fs.length cf) fs) :
    Calls Try.prog 3 #[.agg #[.slice A ts.length c], .slice Al l.length cl, .slice Af fs.length cf] w (TellsB true w) := by
  have HH := Lib.hid h
  have HL := Lib.hid hl
  have HF := Lib.hid hf
  have H56 := Lib.hid h56
  have H24 := Lib.hid h24
  have hb24 : l.length * 24 ≤ 140737488351232 := h24
  have ka := (Keep.refl noneOf w).alloc (.cells #[.slice A ts.length c] 24)
  have X0 := Box.new w 24 #[.slice A ts.length c]
  have HX0 := Lib.hid X0
  have HK0 := Lib.hid ka
  have kb : Keep noneOf (w.alloc (.cells #[.slice A ts.length c] 24)) ((w.alloc (.cells #[.slice A ts.length c] 24)).alloc (.cells #[] 32)) := (Keep.refl _ _).alloc _
  have HKB := Lib.hid kb
  have hs0 : (w.alloc (.cells #[.slice A ts.length c] 24)).heap.size = w.heap.size + 1 := by simp
  have hown : ((w.alloc (.cells #[.slice A ts.length c] 24)).alloc (.cells #[] 32)).ownsRow (w.heap.size + 1) 32 3 (.slice (some ⟨w.heap.size + 1, 0, none⟩) 0 0) ([] : List Pst).length (([] : List Pst).flatMap Pst.cells) := by
    have := World.ownsRow_lit (base := w.heap.size + 1) (e := 32) (size := 3) (w.alloc (.cells #[.slice A ts.length c] 24)) #[] 0 (by rw [hs0]; exact Nat.le_refl _) (Nat.zero_le _) rfl
    rw [hs0] at this
    exact this
  have HOE := Lib.hid hown
  have HSE := Lib.hid ((hl.keep ka (fun _ _ _ => id)).keep kb (fun _ _ _ => id))
  clear h hl hf h56 h24 ka kb hown X0
  go_enter Try.func3, Try.ntmps3
  go_wp2_with (at_builtin; refine wpList_append_sts _ rfl _ _ rfl (w.heap.size + 1) _ _ [] l (fun _ => True) rfl rfl HOE.out HSE.out (by rw [List.length_nil]; omega) (by simp) ?_; intro v2 w2 hown2 hg2' _; have hg2 : World.grownBy ((w.alloc (.cells #[.slice A ts.length c] 24)).alloc (.cells #[] 32)) w2 (some (w.heap.size + 1)) := hg2'; clear hg2'; rw [List.nil_append] at hown2; have x2 : w2.cell? ⟨w.heap.size, 0, none⟩ = some (.slice A ts.length c) := ((HX0.out.alloc _).keep (Keep.of_grown hg2) (fun e => by simp at e)).cell 0)
  have hs1 : Sts w2 (fun k => w.heap.size + 1 ≤ k) v2 l := Sts.of_own hown2
  obtain ⟨A2, c2, hv2⟩ := hs1.shape
  subst hv2
  have kk2 : Keep noneOf (w.alloc (.cells #[.slice A ts.length c] 24)) w2 := HKB.out.trans (Keep.of_grown hg2) (fun i hi e => by
    have : i = w.heap.size + 1 := by simpa using e
    rw [hs0] at hi
    omega)
  have K2 := HK0.out.trans kk2 (fun _ _ h => h)
  have HK2 := Lib.hid K2
  have HX2 := Lib.hid (HX0.out.keep kk2 id)
  have HG2 := Lib.hid hs1
  have HW2 := Lib.hid K2.size
  have SE := Lib.hid (settle_any w2 _ _ _ _ ts l (HH.out.keep K2 (fun _ _ _ => id)) hs1 H24.out)
  clear hown2 hg2 hs1 kk2 K2 HX0 HK0 HKB hs0 HOE HSE
  go_wp2_with fail
  refine SE.out.mono ?_
  rintro e w3 ⟨v3, rfl, k3, hv3⟩
  have HT3 := Lib.hid (told_sts hv3)
  have HV3 := Lib.hid hv3
  have K3 := HK2.out.trans k3 (fun _ _ h => h)
  have HK3 := Lib.hid K3
  have HG3 := Lib.hid ((HG2.out.mono (D' := fun b => b < w2.heap.size) (fun i hi _ => hi)).keep k3 (fun _ _ _ => id))
  have x3 := (HX2.out.keep k3 id).cell 0
  obtain ⟨A3, c3, hv3s⟩ := HT3.out.shape
  subst hv3s
  have HX3 := Lib.hid (HX2.out.keep k3 id)
  have MK : Hid (∀ w', Keep noneOf w3 w' → w'.cell? ⟨w.heap.size, 0, none⟩ = some (.slice A ts.length c)) := Lib.hid fun w' k => (HX3.out.keep k id).cell 0
  have RS : Hid (∀ w', Keep noneOf w3 w' → Calls Try.prog 11 #[.agg #[.slice A ts.length c], .slice Al l.length cl] w' (TellsSts (grSettle (ts.map Tg.plain) l) w')) := Lib.hid fun w' k' => refSettle_any w' _ _ _ _ ts l (HH.out.keep (HK3.out.trans k' (fun _ _ h => h)) (fun _ _ _ => id)) (HL.out.keep (HK3.out.trans k' (fun _ _ h => h)) (fun _ _ _ => id))
  have ST : Hid (∀ w', Keep noneOf w3 w' → Calls Try.prog 12 #[.agg #[.slice A ts.length c], .slice Af fs.length cf] w' (TellsSts (grStart (ts.map Tg.plain) fs) w')) := Lib.hid fun w' k' => (start_any w' _ _ _ _ ts fs (HH.out.keep (HK3.out.trans k' (fun _ _ h => h)) (fun _ _ _ => id)) (HF.out.keep (HK3.out.trans k' (fun _ _ h => h)) (fun _ _ _ => id)) H56.out).mono (fun _ _ h => h.tells)
  have RT : Hid (∀ w', Keep noneOf w3 w' → Calls Try.prog 13 #[.agg #[.slice A ts.length c], .slice Af fs.length cf] w' (TellsSts (grStart (ts.map Tg.plain) fs) w')) := Lib.hid fun w' k' => (refStart_any w' _ _ _ _ ts fs (HH.out.keep (HK3.out.trans k' (fun _ _ h => h)) (fun _ _ _ => id)) (HF.out.keep (HK3.out.trans k' (fun _ _ h => h)) (fun _ _ _ => id)) H56.out)
  generalize grSettle (ts.map Tg.plain) l = R at *
  generalize grStart (ts.map Tg.plain) fs = S at *
  have SM : Hid (∀ (m : List Pst) w' (D D' : Nat → Prop) v v', Sts w' D v m → Sts w' D' v' m → Calls Try.prog 10 #[v, v'] w' (TellsB true w')) := Lib.hid fun m w' D D' v v' hv hv' => by
    have := same_any w' D D' v v' m m hv hv'
    rw [decide_eq_true rfl] at this
    exact this
  have K00 := Keep.refl noneOf w3
  clear SE k3 hv3 K3 HX2 HG2 HK2 x2
  go_wp2
  go_region_held3 (fun w' => Keep noneOf w3 w' ∧ w'.cell? ⟨w.heap.size, 0, none⟩ = some (.slice A ts.length c)) (first | exact ⟨K00.drew, MK.out _ K00.drew⟩ | (refine (fun k => ⟨k, MK.out _ k⟩) ?_; exact Keep.trans (And.left (by assumption)) (by assumption) (fun _ _ h => h)))
    (first | (go_at_call 11; refine (RS.out _ (And.left (by assumption))).mono ?_; rintro e wR ⟨AR, cR, rfl, iR, kR⟩) | (go_at_call 12; refine (ST.out _ (And.left (by assumption))).mono ?_; rintro e wS ⟨AS, cS, rfl, iS, kS⟩) | (go_at_call 13; refine (RT.out _ (And.left (by assumption))).mono ?_; rintro e wT ⟨AT, cT, rfl, iT, kT⟩) | (go_at_call 10; refine (SM.out S _ _ _ _ _ (Sts.keep iS kT (fun _ _ _ => id)) iT).mono ?_; rintro e wU ⟨rfl, kU⟩) | (go_at_call 10; refine (SM.out R _ _ _ _ _ (HT3.out.keep (K00.drew.trans kR (fun _ _ h => h)) (fun _ _ _ => id)) iR).mono ?_; rintro e wM ⟨rfl, kM⟩))
  have kU3 : Keep noneOf w3 wU := ((((K00.drew.trans kR (fun _ _ h => h)).trans kM (fun _ _ h => h)).trans kS (fun _ _ h => h)).trans kT (fun _ _ h => h)).trans kU (fun _ _ h => h)
  have HKU := Lib.hid (HK3.out.trans kU3 (fun _ _ h => h))
  have HKU3 := Lib.hid kU3
  have HGU := Lib.hid (HG3.out.keep kU3 (fun _ _ _ => id))
  have hw2 := HW2.out
  clear K00 kR kM kS kT kU kU3 iR iS iT SM RT ST RS MK HG3 HT3 HF x3 HX3
  go_wp2
  have LAST : Hid (∀ w' (D : Nat → Prop), Sts w' D (.slice A2 l.length c2) l → Sts w' (fun _ => True) (.slice Al l.length cl) l → Calls Try.prog 10 #[.slice A2 l.length c2, .slice Al l.length cl] w' (TellsB true w')) := Lib.hid fun w' D hv hv' => by
    have := same_any w' D _ _ _ l l hv hv'
    rw [decide_eq_true rfl] at this
    exact this
  go_loopw [33] (fun i wr => ∃ k : Nat, k ≤ R.length ∧ i = .int .i64 k ∧ Keep noneOf w wr ∧ Sts wr (fun b => b < w2.heap.size) (.slice A2 l.length c2) l ∧ (R.length = 0 ∨ ∃ (g : Nat) (m : List Pst), A3 = some ⟨g, 0, none⟩ ∧ w2.heap.size ≤ g ∧ m.length = R.length ∧ R.length ≤ c3 ∧ c3 ≤ maxLen ∧ Box wr g 32 (svs m))) (fun i _ => R.length - (intOf i).toNat)
  case atStart =>
    refine ⟨0, Nat.zero_le _, rfl, HKU.out, HGU.out, ?_⟩
    rcases HV3.out with ⟨_, h⟩ | ⟨g, h1, h2, h3, h4⟩
    · left
      rw [h]
      rfl
    · right
      have e := Value.slice.inj h1
      obtain ⟨e1, _, e3⟩ := e
      exact ⟨g, R, e1, h2, rfl, by omega, by rw [e3]; exact h3, h4.keep HKU3.out id⟩
  case round =>
    obtain ⟨k, hk, rfl, hkeep, hgiv, hbx⟩ := hrel
    have HKP := Lib.hid hkeep
    have HGV := Lib.hid hgiv
    clear hgiv
    by_cases hlt : k < R.length
    · obtain ⟨g, m, rfl, hg, hml, hRc, hc3, hb⟩ : ∃ (g : Nat) (m : List Pst), A3 = some ⟨g, 0, none⟩ ∧ w2.heap.size ≤ g ∧ m.length = R.length ∧ R.length ≤ c3 ∧ c3 ≤ maxLen ∧ Box wr g 32 (svs m) := by
        rcases hbx with h | h
        · omega
        · exact h
      unfold maxLen at hc3
      have HB := Lib.hid hb
      have hmk := getS_at (l := m) (n := k) (by omega)
      generalize m.getD k Pst.zero = x at *
      obtain ⟨e0, -, -⟩ := HB.out.state hmk
      have f0 := HB.out.free (k * 3)
      have hb2 := HB.out.put (k * 3) (.int .i64 77)
      rw [svs_set_s m k 77 _ hmk] at hb2
      have HB2 := Lib.hid hb2
      have ks : Keep (fun i => i = g) wr (wr.setCell ⟨g, k * 3, none⟩ (.int .i64 77)) := (Keep.refl (fun i => i = g) _).setCell (fun _ => rfl) _
      have HK2 := Lib.hid (HKP.out.own ks (by omega))
      have HG2 := Lib.hid (HGV.out.keep ks (fun i _ h e => by omega))
      have HML := Lib.hid (show (m.set k ⟨77, x.t, x.u⟩).length = R.length by rw [List.length_set]; exact hml)
      have HC3 := Lib.hid hc3
      clear hb hb2 ks hmk hbx hkeep HB HKP HGV hml
      go_wp2
      go_roundw
      case rel => exact ⟨k + 1, by omega, by go_num, HK2.out, HG2.out, .inr ⟨g, _, rfl, hg, HML.out, hRc, HC3.out, HB2.out⟩⟩
      case measure => simp [intOf]; omega
    · have hkn : ¬ ((k : Int) < (R.length : Int)) := by omega
      clear hlt hbx
      go_wp2_with fail
      refine (alive_any wr).mono ?_
      rintro e w5 ⟨rfl, k5⟩
      have HK5 := Lib.hid (hkeep.trans k5 (fun _ _ h => h))
      have LS := Lib.hid (LAST.out w5 _ (HGV.out.keep k5 (fun _ _ _ => id)) (HL.out.keep HK5.out (fun _ _ _ => id)))
      clear hkeep k5 HKP
      go_wp2_with fail
      refine LS.out.mono ?_
      rintro e w6 ⟨rfl, k6⟩
      have HK6 := Lib.hid (HK5.out.trans k6 (fun _ _ h => h))
      clear LS HK5 k6
      go_wp2
      go_ret
      exact ⟨rfl, HK6.out⟩

namespace ReadySettles
set_option maxRecDepth 100000 in
theorem lifted (os : Os) (started : os.Started) (H : Type) (enc : TypeId × Value → H) :
    ReturnsInHanded {} Try.checked os 3 .any (Rows.readySettlesSpec.pre6 enc Try.prog Try.f3 Rows.readySettlesRow.domain false) (Rows.readySettlesSpec.post enc Try.prog Try.f3 false true false false) := by
  refine returnsInHanded_of_change_sized (C := Try.checked) own started (by kernel_rfl) Try.func3
    (ChangeSpec.witness6 (enc := enc) (C := Try.checked) false ⟨#[], #[.agg #[.slice none 0 0], .slice none 0 0, .slice none 0 0], []⟩ 8 (by kernel_rfl) (by kernel_rfl) (by kernel_rfl) (by kernel_rfl)) ?_
  intro W base args ds gs before hval0 hW hcnd hsz _
  have hval : ∀ (j : Nat) t v, Try.f3.params[j]? = some t → args[j]? = some v → Value.okWide Try.prog W .any base t v := hval0
  have hW' := hW
  obtain ⟨p, q, hA0, hV, rfl, hfz, hnd⟩ := hW
  have hA : DataW.TrodAll enc Try.prog W 0 (fun _ => true) true Try.f3.params.toList args.toList ds p := hA0
  rw [Try.params3] at hA hval
  obtain ⟨v0, vs0, d0, ds0, p0, q0, hargs, rfl, rfl, h0, r0⟩ := trodAll_cons hA
  obtain ⟨v1, vs1, d1, ds1, p1, q1, rfl, rfl, rfl, h1, r1⟩ := trodAll_cons r0
  obtain ⟨v2, vs2, d2, ds2, p2, q2, rfl, rfl, rfl, h2, r2⟩ := trodAll_cons r1
  obtain ⟨rfl, rfl, rfl⟩ := trodAll_nil r2
  obtain rfl : args = #[v0, v1, v2] := by cases args; simp_all
  obtain ⟨rfl, rfl⟩ := trodVars_none hV
  have k0 := h0
  have lt0 : ∀ x ∈ p0, x.block < W.heap.size := by obtain ⟨m, hm⟩ := k0; exact DataW.trod_lt m _ _ _ hm
  have k1 := h1
  have lt1 : ∀ x ∈ p1, x.block < W.heap.size := by obtain ⟨m, hm⟩ := k1; exact DataW.trod_lt m _ _ _ hm
  have k2 := h2
  have lt2 : ∀ x ∈ p2, x.block < W.heap.size := by obtain ⟨m, hm⟩ := k2; exact DataW.trod_lt m _ _ _ hm
  obtain ⟨A0, c0, ts0, rfl, hts0, h560, h160⟩ := open_graph (hval 0 24 v0 rfl rfl) h0 (light_arg hsz (j := 0) rfl rfl)
  obtain ⟨A1, c1, l1, rfl, hl1, h241⟩ := open_arg_sts (hval 1 25 v1 rfl rfl) h1 (light_arg hsz (j := 1) rfl rfl)
  obtain ⟨A2, c2, l2, rfl, hl2⟩ := open_arg_bools (hval 2 26 v2 rfl rfl) h2 (light_arg hsz (j := 2) rfl rfl)
  clear hA0 hval0
  refine (settles_walk W A0 c0 ts0 hts0 h560 A1 c1 l1 hl1 h241 A2 c2 l2 hl2).mono fun e W' ⟨he, bel0⟩ => ?_
  subst he
  have bel := bel0.all
  exact ⟨_, rfl, _, _, _, [], _, [], hW', trodAll_mk1 (shut_bool Try.underlying4 _), (trodAll_cons_mk (Below.trod laidOut (by kernel_rfl) (of_decide_eq_true (by kernel_rfl)) k0 bel lt0) (trodAll_cons_mk (Below.trod laidOut (by kernel_rfl) (of_decide_eq_true (by kernel_rfl)) k1 bel lt1) (trodAll_cons_mk (Below.trod laidOut (by kernel_rfl) (of_decide_eq_true (by kernel_rfl)) k2 bel lt2) trodAll_mk0))), rfl, bel.frame _, fun h => by cases h⟩

theorem over : Rows.readySettlesRow.holds Try.pinned (OpenSpec.ofChange Rows.readySettlesSpec) :=
  OpenClaim.holds_of_wide 3 Try.f3 rfl rfl rfl rfl rfl rfl rfl ⟨rfl, rfl, rfl, rfl, rfl⟩ rfl rfl rfl rfl rfl (by kernel_rfl) Try.func3 (by kernel_rfl)
    (of_decide_eq_true (by kernel_rfl)) (by unfold Func.isWrapper; first | (rw [if_pos (by decide +kernel)]; kernel_rfl) | (rw [if_neg (by decide +kernel)]; exact ⟨rfl, rfl⟩))
    (fun os started H enc _ => lifted os started H enc)

theorem proved : Rows.ReadySettlesSaid := over
end ReadySettles
end Go.Proofs.Ytjfneckflddeeaa
