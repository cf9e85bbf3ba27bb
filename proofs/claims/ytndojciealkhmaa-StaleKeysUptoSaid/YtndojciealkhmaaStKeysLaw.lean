/-
  Proved: dockyardlaw08.StaleKeys answers true for every input of bulk at most 1048576 that can be read (the statement's second form), and leaves its arguments as they were. No conditions besides.
-/
import Derived.Test.YtndojciealkhmaaStAlive
import Derived.Test.YtndojciealkhmaaStOpen
import Derived.Deep.CondSized
import Derived.ChangeMaps5
namespace Go.Proofs.Ytndojciealkhmaa
open Go.ChangeShapes Go.WideShapes Go.ChangeAt Go.RowKit Go.ChangeMaps

set_option maxRecDepth 100000 in
set_option maxHeartbeats 4000000 in
theorem keys_walk (w : World) (A : Option Addr) (c : Nat) (ts : List Tg) (h : Tgs w (fun _ => True) (.slice A ts.length c) ts) (s : ByteArray) (Ab : Option Addr) (cb : Nat) (bks : List Nat) (hb : Kys w (fun _ => True) (.slice Ab bks.length cb) bks) (hs : 8 + s.size + 8 * bks.length ≤ lim) :
    Calls Try.prog 3 #[.agg #[.slice A ts.length c], .string s, .slice Ab bks.length cb] w fun e w' => e = .returned (.bool true) ∧ Keep noneOf w w' := by
  obtain ⟨w0, hw0⟩ : ∃ w0, w.alloc (.cells #[.slice A ts.length c] 24) = w0 := ⟨_, rfl⟩
  have ka : Keep noneOf w w0 := by rw [← hw0]; exact (Keep.refl noneOf w).alloc _
  have X0 : Box w0 w.heap.size 24 #[.slice A ts.length c] := by rw [← hw0]; exact Box.new w _ _
  have hsm : s.size ≤ maxLen := by rw [lim_is] at hs; unfold maxLen; omega
  have AL : Hid (∀ w', Keep noneOf w0 w' → Calls Try.prog 9 #[] w' fun e w'' => e = .returned (.bool true) ∧ Keep noneOf w' w'') := Lib.hid fun w' _ => alive_any w'
  have KA : Hid (∀ w', Keep noneOf w0 w' → Calls Try.prog 10 #[.string s, .slice Ab bks.length cb] w' fun e w'' => e = .returned (.int .u64 (keyN s bks : Int)) ∧ w' = w'') := Lib.hid fun w' k => key_any w' _ s _ bks hsm (hb.keep (ka.trans k (fun _ _ h => h)) (fun _ _ _ => id))
  have RK : Hid (∀ w', Keep noneOf w0 w' → Calls Try.prog 11 #[.string s, .slice Ab bks.length cb] w' fun e w'' => e = .returned (.int .u64 (keyN s bks : Int)) ∧ Keep noneOf w' w'') := Lib.hid fun w' k => refKey_any w' _ s _ bks hs (hb.keep (ka.trans k (fun _ _ h => h)) (fun _ _ _ => id))
  have KS : Hid (∀ w', Keep noneOf w0 w' → Calls Try.prog 13 #[.agg #[.slice A ts.length c]] w' (ToldKeys (grKeys (ts.map Tg.plain)) w')) := Lib.hid fun w' k => keys_any w' _ _ ts (h.keep (ka.trans k (fun _ _ h => h)) (fun _ _ _ => id))
  have RS : Hid (∀ w', Keep noneOf w0 w' → Calls Try.prog 14 #[.agg #[.slice A ts.length c]] w' (ToldKeys (grKeys (ts.map Tg.plain)) w')) := Lib.hid fun w' k => refKeys_any w' _ _ ts (h.keep (ka.trans k (fun _ _ h => h)) (fun _ _ _ => id))
  generalize grKeys (ts.map Tg.plain) = own at *
  have SK : Hid (∀ (w' : World) (D D' : Nat → Prop) (A B : Option Addr) (c c' : Nat), Kys w' D (.slice A own.length c) own → Kys w' D' (.slice B own.length c') own → Calls Try.prog 12 #[.slice A own.length c, .slice B own.length c'] w' fun e w'' => e = .returned (.bool true) ∧ Keep noneOf w' w'') := Lib.hid fun w' D D' A B c c' h1 h2 => by
    have := sameKeys_any w' D D' A B c c' own own h1 h2
    rwa [decide_eq_true rfl] at this
  generalize keyN s bks = q at *
  have gq : ((q : Int) == (q : Int)) = true := by rw [beq_self_eq_true]
  have HK0 := Lib.hid ka
  have MK : Hid (∀ w', Keep noneOf w0 w' → w'.cell? ⟨w.heap.size, 0, none⟩ = some (.slice A ts.length c)) := Lib.hid fun w' k => (X0.keep k id).cell 0
  have K00 := Keep.refl noneOf w0
  have HW0 := Lib.hid hw0
  clear ka X0 hw0 h hb hs hsm
  go_enter Try.func3, Try.ntmps3
  go_wp2
  rw [HW0.out]
  go_region_held3 (fun w' => Keep noneOf w0 w' ∧ w'.cell? ⟨w.heap.size, 0, none⟩ = some (.slice A ts.length c))
    (first | exact ⟨K00.drew, MK.out _ K00.drew⟩ | (refine (fun k => ⟨k, MK.out _ k⟩) ?_; first | (with_reducible exact And.left (by assumption)) | (with_reducible exact Keep.trans (And.left (by assumption)) (by assumption) (fun _ _ h => h))))
    (first | (go_at_call 9; refine (AL.out _ (And.left (by assumption))).mono ?_; rintro e w' ⟨rfl, k'⟩) | (go_at_call 10; refine (KA.out _ (And.left (by assumption))).mono ?_; rintro e w' ⟨rfl, rfl⟩) | (go_at_call 11; refine (RK.out _ (And.left (by assumption))).mono ?_; rintro e w' ⟨rfl, k'⟩) | (go_at_call 13; refine (KS.out _ (And.left (by assumption))).mono ?_; rintro e wk ⟨Ak, ck, rfl, hok, kk⟩) | (go_at_call 14; refine (RS.out _ (And.left (by assumption))).mono ?_; rintro e wr ⟨Ar, cr, rfl, hor, kr⟩) | (go_at_call 12; refine (SK.out _ _ _ _ _ _ _ (hok.keep (by assumption) (fun _ _ _ => id)) hor).mono ?_; rintro e w' ⟨rfl, k'⟩))
  have kf : Keep noneOf w0 w' := And.left (by assumption)
  have HKF := Lib.hid (HK0.out.trans kf (fun _ _ h => h))
  clear kf AL KA RK KS RS SK MK K00
  go_wp2
  go_ret
  exact ⟨rfl, HKF.out⟩

/-- Whatever was read weighs something, and so a list at least as much as its length. -/
theorem weighs {H : Type} (d : DataW H) : 0 < Rows.uptoBulk d := by
  unfold Rows.uptoBulk
  split <;> omega
theorem weighs_all {H : Type} : ∀ l : List (DataW H), l.length ≤ Rows.uptoBulkAll l
  | [] => Nat.zero_le _
  | d :: l => by
    have h1 := weighs d
    have h2 := weighs_all l
    show l.length + 1 ≤ Rows.uptoBulk d + Rows.uptoBulkAll l
    omega
/-- How many keys came in, in the argument's own measure. -/
theorem keys_bulk {H : Type} {enc : TypeId × Value → H} {w : World} {A : Option Addr} {c : Nat} {ks : List Nat} {d : DataW H} {p : List MemPlace} (h : DataW.Trod enc Try.prog w 0 (fun _ => true) true 25 (.slice A ks.length c) d p) : ks.length ≤ Rows.uptoBulk d := by
  obtain ⟨fuel, hf⟩ := h
  have hf' : DataW.trod enc Try.prog w 0 (fun _ => true) true fuel 25 [.slice A ks.length c] = some (d, p) := hf
  rcases Go.Deep.open_slice Try.underlying25 hf' with ⟨hcs, _⟩ | ⟨a, len, cap, m, n, D, Pl, hcs, _, _, _, _, hx, _⟩
  · have e : Value.slice A ks.length c = .slice none 0 0 := by simpa using hcs
    injection e with _ e _
    omega
  · have e : Value.slice A ks.length c = .slice (some a) len cap := by simpa using hcs
    injection e with _ e _
    obtain ⟨rfl, _⟩ := Prod.mk.inj hx
    have := weighs_all ((List.range len).map D)
    simp only [Rows.uptoBulk, List.length_map, List.length_range] at this ⊢
    omega

namespace StaleKeys
set_option maxRecDepth 100000 in
theorem lifted (os : Os) (started : os.Started) (H : Type) (enc : TypeId × Value → H) (F : Stop.Interp) :
    ReturnsInHanded {} Try.checked os 3 .any ((Rows.OpenSpec.upto Rows.staleKeysSpec).pre6 enc Try.prog Try.f3 Rows.staleKeysUptoRow.domain false) (((Rows.OpenSpec.upto Rows.staleKeysSpec).at F).post enc Try.prog Try.f3 false true false false) := by
  refine returnsInHanded_of_cond_sized (C := Try.checked) (s := Rows.OpenSpec.upto Rows.staleKeysSpec) (k := Rows.uptoSmall) rfl own started (by kernel_rfl) Try.func3
    (OpenSpec.witness (enc := enc) (C := Try.checked) (s := Rows.OpenSpec.upto Rows.staleKeysSpec) (k := Rows.uptoSmall) rfl false ⟨#[], #[.agg #[.slice none 0 0], .string ⟨#[]⟩, .slice none 0 0], []⟩ 8 (by kernel_rfl) (by kernel_rfl) (by kernel_rfl)
      (x := ([.agg [.nil], .lit (.string []), .nil], [], [])) (by kernel_rfl) rfl (by kernel_rfl)) ?_
  intro W base args ds gs before hval0 hW _ hk hsz _
  have hval : ∀ (j : Nat) t v, Try.f3.params[j]? = some t → args[j]? = some v → Value.okWide Try.prog W .any base t v := hval0
  have hW' := hW
  obtain ⟨p, q, hA0, hV, rfl, hfz, hnd⟩ := hW
  have hA : DataW.TrodAll enc Try.prog W 0 (fun _ => true) true Try.f3.params.toList args.toList ds p := hA0
  rw [Try.params3] at hA hval
  obtain ⟨v0, vs0, d0, ds0, p0, q0, hargs, rfl, rfl, h0, r0⟩ := trodAll_cons hA
  obtain ⟨v1, vs1, d1, ds1, p1, q1, rfl, rfl, rfl, h1, r1⟩ := trodAll_cons r0
  obtain ⟨v2, vs2, d2, ds2, p2, q2, rfl, rfl, rfl, h2, r2⟩ := trodAll_cons r1
  obtain ⟨rfl, rfl, rfl⟩ := trodAll_nil r2
  obtain rfl : args = #[v0, v1, v2] := by cases args; simp_all
  obtain ⟨rfl, rfl⟩ := trodVars_none hV
  have k0 := h0
  have lt0 : ∀ x ∈ p0, x.block < W.heap.size := by obtain ⟨m, hm⟩ := k0; exact DataW.trod_lt m _ _ _ hm
  have k1 := h1
  have lt1 : ∀ x ∈ p1, x.block < W.heap.size := by obtain ⟨m, hm⟩ := k1; exact DataW.trod_lt m _ _ _ hm
  have k2 := h2
  have lt2 : ∀ x ∈ p2, x.block < W.heap.size := by obtain ⟨m, hm⟩ := k2; exact DataW.trod_lt m _ _ _ hm
  obtain ⟨A0, c0, ts0, rfl, hts0, h560, h160⟩ := open_graph (hval 0 24 v0 rfl rfl) h0 (light_arg hsz (j := 0) rfl rfl)
  obtain ⟨s1, rfl, rfl, rfl, hmax⟩ := open_string Try.underlying9 (hval 1 9 v1 rfl rfl) h1
  obtain ⟨A2, c2, ks2, rfl, hks2, h82⟩ := open_arg_u64s (hval 2 25 v2 rfl rfl) h2 (light_arg hsz (j := 2) rfl rfl)
  have hb2 := keys_bulk h2
  have hroom : 8 + s1.size + 8 * ks2.length ≤ lim := by
    have hb : Rows.uptoBulkAll [d0, DataW.lit (H := H) (.string s1.data.toList), d2] ≤ 1048576 := of_decide_eq_true hk
    simp only [Rows.uptoBulkAll, Rows.uptoBulk, Array.length_toList] at hb
    have hss : s1.data.size = s1.size := rfl
    rw [lim_is]
    omega
  clear hA0 hval0
  refine (keys_walk W A0 c0 ts0 hts0 s1 A2 c2 ks2 hks2 hroom).mono fun e W' ⟨he, bel0⟩ => ?_
  subst he
  have bel := bel0.all
  exact ⟨_, rfl, _, _, _, [], _, [], hW', trodAll_mk1 (shut_bool Try.underlying4 _), (trodAll_cons_mk (Below.trod laidOut (by kernel_rfl) (of_decide_eq_true (by kernel_rfl)) k0 bel lt0) (trodAll_cons_mk (Below.trod laidOut (by kernel_rfl) (of_decide_eq_true (by kernel_rfl)) k1 bel lt1) (trodAll_cons_mk (Below.trod laidOut (by kernel_rfl) (of_decide_eq_true (by kernel_rfl)) k2 bel lt2) trodAll_mk0))), rfl, bel.frame _, fun h => by cases h⟩

theorem proved : Rows.StaleKeysUptoSaid :=
  OpenClaim.holds_of_cond 3 Try.f3 rfl rfl rfl rfl rfl rfl rfl ⟨rfl, rfl, rfl, rfl, rfl⟩ rfl rfl rfl rfl rfl (by kernel_rfl) Try.func3 (by kernel_rfl)
    (of_decide_eq_true (by kernel_rfl)) (by unfold Func.isWrapper; first | (rw [if_pos (by decide +kernel)]; kernel_rfl) | (rw [if_neg (by decide +kernel)]; exact ⟨rfl, rfl⟩))
    (fun os started H enc _ F => lifted os started H enc F)
end StaleKeys
end Go.Proofs.Ytndojciealkhmaa
