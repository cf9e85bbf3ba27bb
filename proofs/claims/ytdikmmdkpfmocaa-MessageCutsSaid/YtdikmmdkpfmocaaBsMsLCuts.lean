/-
  MessageCuts: a message that is cut, or has a byte more, is none. No conditions.
-/
import Derived.Test.YtdikmmdkpfmocaaRows
import Derived.Test.YtdikmmdkpfmocaaBs01
import Derived.Test.YtdikmmdkpfmocaaBs02
import Derived.Test.YtdikmmdkpfmocaaBs03
import Derived.Test.YtdikmmdkpfmocaaBs04
import Derived.Test.YtdikmmdkpfmocaaBs05
import Derived.Test.YtdikmmdkpfmocaaBs06
import Derived.Test.YtdikmmdkpfmocaaBs07
import Derived.Test.YtdikmmdkpfmocaaBs08
import Derived.Test.YtdikmmdkpfmocaaBs09
import Derived.Test.YtdikmmdkpfmocaaBs10
import Derived.Test.YtdikmmdkpfmocaaBs11
import Derived.Test.YtdikmmdkpfmocaaBs12
import Derived.Test.YtdikmmdkpfmocaaBs13
import Derived.Test.YtdikmmdkpfmocaaBs14
import Derived.Test.YtdikmmdkpfmocaaBs15
import Derived.Test.YtdikmmdkpfmocaaBs16
import Derived.Test.YtdikmmdkpfmocaaBs17
import Derived.Test.YtdikmmdkpfmocaaBs18
import Derived.Test.YtdikmmdkpfmocaaBs19
import Derived.Test.YtdikmmdkpfmocaaBs20
import Derived.Test.YtdikmmdkpfmocaaBs21
import Derived.Test.YtdikmmdkpfmocaaBs22
import Derived.Test.YtdikmmdkpfmocaaBs23
import Derived.Test.YtdikmmdkpfmocaaBs24
import Derived.Test.YtdikmmdkpfmocaaBs25
import Derived.Test.YtdikmmdkpfmocaaBs26
import Derived.Test.YtdikmmdkpfmocaaBs27
import Derived.Test.YtdikmmdkpfmocaaBs28
import Derived.Test.YtdikmmdkpfmocaaBs29
import Derived.Test.YtdikmmdkpfmocaaBs30
import Derived.Test.YtdikmmdkpfmocaaBs31
import Derived.Test.YtdikmmdkpfmocaaBs32
import Derived.Test.YtdikmmdkpfmocaaBs33
import Derived.Test.YtdikmmdkpfmocaaBs34
import Derived.Test.YtdikmmdkpfmocaaBs35
import Derived.Test.YtdikmmdkpfmocaaBs36
import Derived.Test.YtdikmmdkpfmocaaBs37
import Derived.Test.YtdikmmdkpfmocaaBs38
import Derived.Test.YtdikmmdkpfmocaaBs39
import Derived.Test.YtdikmmdkpfmocaaBs40
import Derived.Test.YtdikmmdkpfmocaaBs41
import Derived.Test.YtdikmmdkpfmocaaBs42
import Derived.Test.YtdikmmdkpfmocaaBs43
import Derived.Test.YtdikmmdkpfmocaaBs44
import Derived.Test.YtdikmmdkpfmocaaBs45
import Derived.Test.YtdikmmdkpfmocaaBs46
import Derived.Test.YtdikmmdkpfmocaaBs47
import Derived.Test.YtdikmmdkpfmocaaBs48
import Derived.Test.YtdikmmdkpfmocaaBs49
namespace Go.Proofs.Ytdikmmdkpfmocaa
open Go.RowKit
theorem be_inj {n m k : Nat} (hn : n < 256 ^ k) (hm : m < 256 ^ k) (h : be n k = be m k) : n = m := by
  rw [← num_be n k hn, ← num_be m k hm, h]
end Go.Proofs.Ytdikmmdkpfmocaa
namespace Go.Proofs.Ytdikmmdkpfmocaa
open Go.RowKit
theorem fresh_one (w : World) (b : Int) (h0 : 0 ≤ b) (h1 : b < 256) : Fresh w (w.alloc (.cells #[.int .u8 b] 5)) (.slice (some ⟨w.heap.size, 0, none⟩) 1 1) [by8 b] := by
  refine ⟨(Keep.refl _ _).alloc _, ⟨?_, .inr ⟨w.heap.size, 1, #[.int .u8 b], rfl, Nat.zero_le _, Box.new w _ _, Nat.le_refl _, by unfold maxLen; decide, rfl, by simp [bv_by8 h0 h1]⟩⟩, fun k hk => ?_⟩
  · simp
  · have : w.heap.size = k := by simpa [Value.ownBlock] using hk
    omega
end Go.Proofs.Ytdikmmdkpfmocaa
namespace Go.Proofs.Ytdikmmdkpfmocaa
open Go.RowKit Go.Shelf
section
variable (x : Pm × Rs)
end
theorem decM_none {b : List UInt8} (h : ∀ p, rightP p = true → b ≠ frameOf (msgB p)) : decM b = none := by
  cases hd : decM b with
  | none => rfl
  | some p => exact absurd (decM_was b p hd).1.symm (h p (decM_was b p hd).2)
theorem frame_front (X : List UInt8) : (frameOf X).take 4 = be X.length 4 := by
  unfold frameOf
  rw [List.append_assoc, List.append_assoc, List.take_left' (be_length _ _)]
theorem frame_same (X Y : List UInt8) (hX : X.length ≤ 16777216) (hY : Y.length ≤ 16777216) (h : (frameOf X).take 4 = (frameOf Y).take 4) : (frameOf X).length = (frameOf Y).length := by
  rw [frame_front, frame_front] at h
  have := be_inj (k := 4) (by rw [pow4]; omega) (by rw [pow4]; omega) h
  rw [frame_length, frame_length, this]
theorem cut_none (m : Pm) (h : rightP m = true) (k : Nat) (hk : k < (frameOf (msgB m)).length) : decM ((frameOf (msgB m)).take k) = none :=
  decM_none fun p hp e => by
    have hl := congrArg List.length e
    rw [List.length_take] at hl
    have h1 := frame_length (msgB p)
    have := frame_same _ _ (by have := msg_few (rgt_of h); omega) (by have := msg_few (rgt_of hp); omega) (show (frameOf (msgB m)).take 4 = (frameOf (msgB p)).take 4 by rw [← e, List.take_take, Nat.min_eq_left (by omega)])
    omega
theorem more_none (m : Pm) (h : rightP m = true) (c : UInt8) : decM (frameOf (msgB m) ++ [c]) = none :=
  decM_none fun p hp e => by
    have hl := congrArg List.length e
    rw [List.length_append, List.length_cons, List.length_nil] at hl
    have h1 := frame_length (msgB m)
    have := frame_same _ _ (by have := msg_few (rgt_of h); omega) (by have := msg_few (rgt_of hp); omega) (show (frameOf (msgB m)).take 4 = (frameOf (msgB p)).take 4 by rw [← e, List.take_append_of_le_length (by omega)])
    omega
end Go.Proofs.Ytdikmmdkpfmocaa
namespace Go.Proofs.Ytdikmmdkpfmocaa
open Go.RowKit Go.Shelf Go.ChangeShapes Go.WideShapes Go.Deep
theorem mdecode_bad (w : World) (D : Nat → Prop) (v : Value) (bs : List UInt8) (h : Bytes w D v bs) (hl : bs.length ≤ lim) (hn : decM bs = none) :
    Calls Try.prog 9 #[v] w fun e w' => e = .returned (.tuple #[.agg #[.int .i64 0, .int .i64 0, .int .i64 0, .int .u64 0, .int .u64 0, .int .u64 0, .int .u64 0, .int .u64 0, .bool false, .slice none 0 0, .slice none 0 0, .slice none 0 0, .int .u64 0, .int .u64 0, .slice none 0 0], .int .i64 160]) ∧ Keep noneOf w w' :=
  (mdecode_any w D v bs h hl).mono fun e w' hp => by
    rcases hp with ⟨_, rfl, k⟩ | ⟨m, hr, _⟩
    · exact ⟨rfl, k⟩
    · rw [hn] at hr
      cases hr
theorem fresh_zero (w : World) : Fresh w (w.alloc (.cells #[] 5)) (.slice (some ⟨w.heap.size, 0, none⟩) 0 0) [] := by
  refine ⟨(Keep.refl _ _).alloc _, ⟨?_, .inr ⟨w.heap.size, 0, #[], rfl, Nat.zero_le _, Box.new w _ _, Nat.le_refl _, Nat.zero_le _, rfl, by simp⟩⟩, fun k hk => ?_⟩
  · simp
  · have : w.heap.size = k := by simpa [Value.ownBlock] using hk
    omega
theorem wrap_u8n (n : Int) : ∃ z : Int, IntKind.u8.wrap n = z ∧ 0 ≤ z ∧ z < 256 := by
  refine ⟨n % 256, ?_, by omega, by omega⟩
  simp only [IntKind.wrap, IntKind.signed, IntKind.bits]
  simp
set_option maxRecDepth 100000 in
set_option maxHeartbeats 4000000 in
theorem cuts_walk (w : World) (m : Mg) (cut : Int) (h : m.lies w (fun _ => True)) :
    Calls Try.prog 6 #[.agg m.cells, .int .i64 cut] w fun e w' => e = .returned (.bool true) ∧ Keep noneOf w w' := by
  have KB := (Keep.refl noneOf w).alloc (.cells m.cells 29)
  have HB : Hid (MBox (w.alloc (.cells m.cells 29)) w.heap.size m) := Lib.hid (Box.new w 29 m.cells)
  have HK := Lib.hid KB
  have HE := Lib.hid (mencode_one _ _ m (h.keepN KB))
  have e0 : (Value.agg m.cells).cells = m.cells := rfl
  have HLIM := Lib.hid lim_is
  clear KB h
  obtain ⟨R, hR⟩ : ∃ R, rightP m.plain = R := ⟨_, rfl⟩
  have HFEW := Lib.hid (encBs_few m.plain)
  have HBS : Hid (R = true → encBs m.plain = frameOf (msgB m.plain)) := Lib.hid (fun e => by unfold encBs; rw [if_pos (hR.trans e)])
  obtain ⟨E, hE⟩ : ∃ E, encN m.plain = E := ⟨_, rfl⟩
  have HEN : Hid (E = if R = true then 0 else 160) := Lib.hid (by rw [← hE]; unfold encN; rw [hR])
  rw [hE] at HE
  obtain ⟨X, hX⟩ : ∃ X, encBs m.plain = X := ⟨_, rfl⟩
  rw [hX] at HE HFEW HBS
  have HRT := Lib.hid hR
  clear hR hE hX
  go_enter Try.func6, Try.ntmps6
  go_wp2_with (refine wpList_load_row rfl 29 _ rfl (w.heap.size) rfl 29 _ _ _ HB.out Try.underlying29 rfl (by kernel_rfl) ?_)
  refine HE.out.mono ?_
  rintro e w1 ⟨u, rfl, F⟩
  have HF := Lib.hid F
  have HK1 := Lib.hid (HK.out.trans F.keep (fun _ _ h => h))
  obtain ⟨A, c, hu⟩ := own_shape F.own
  subst hu
  clear F HE HK HB
  cases R
  · have he : E = 160 := HEN.out
    subst he
    clear HEN HBS
    go_wp2_with fail
    refine (alive_any w1).mono ?_
    rintro e wz ⟨rfl, kz⟩
    have HKZ := Lib.hid (HK1.out.trans kz (fun _ _ h => h))
    clear kz
    go_wp2
    go_ret
    exact ⟨rfl, HKZ.out⟩
  · have he : E = 0 := HEN.out
    subst he
    have HBS := Lib.hid (HBS.out rfl)
    clear HEN
    by_cases h0 : cut < 0
    · clear HBS
      go_wp2_with fail
      refine (alive_any w1).mono ?_
      rintro e wz ⟨rfl, kz⟩
      have HKZ := Lib.hid (HK1.out.trans kz (fun _ _ h => h))
      clear kz
      go_wp2
      go_ret
      exact ⟨rfl, HKZ.out⟩
    by_cases h1 : cut ≥ (X.length : Int)
    · clear HBS
      go_wp2_with fail
      refine (alive_any w1).mono ?_
      rintro e wz ⟨rfl, kz⟩
      have HKZ := Lib.hid (HK1.out.trans kz (fun _ _ h => h))
      clear kz
      go_wp2
      go_ret
      exact ⟨rfl, HKZ.out⟩
    obtain ⟨n, rfl⟩ : ∃ n : Nat, cut = (n : Int) := ⟨cut.toNat, by omega⟩
    have hn : n < X.length := by omega
    have D1 : decM (X.take n) = none := by rw [HBS.out]; exact cut_none _ HRT.out n (by rw [← HBS.out]; exact hn)
    obtain ⟨z, hz, z0, z1⟩ := wrap_u8n (n : Int)
    have D2 : decM (X ++ [by8 z]) = none := by rw [HBS.out]; exact more_none _ HRT.out _
    have hbz := Lib.hid (bv_by8 z0 z1)
    have hB := HF.out.bytes
    have bt := hB.take (n := n) (by omega)
    have HB1 := Lib.hid hB
    have CD := Lib.hid (mdecode_bad w1 _ _ (X.take n) bt (by rw [HLIM.out, List.length_take]; have := HFEW.out; omega) D1)
    have CE := Lib.hid (fun w' v (hb : Bytes w' (fun _ => True) v (X ++ [by8 z])) => mdecode_bad w' _ v _ hb (by rw [HLIM.out, List.length_append, List.length_cons, List.length_nil]; have := HFEW.out; omega) D2)
    have hcc : n ≤ c := by
      obtain ⟨_, _, e, hle, _⟩ := hB
      injection e with _ _ e3
      omega
    have hcI : (n : Int) ≤ (c : Int) := by omega
    have Z0 := Lib.hid z0
    have Z1 := Lib.hid z1
    clear hB bt D1 D2 HBS HRT z0 z1
    go_wp2_with fail
    refine CD.out.mono ?_
    rintro e w2 ⟨rfl, k2⟩
    have ka := (Keep.refl noneOf w2).alloc (.cells #[.int .i64 0, .int .i64 0, .int .i64 0, .int .u64 0, .int .u64 0, .int .u64 0, .int .u64 0, .int .u64 0, .bool false, .slice none 0 0, .slice none 0 0, .slice none 0 0, .int .u64 0, .int .u64 0, .slice none 0 0] 29)
    have HK2 := Lib.hid (HK1.out.trans (k2.trans ka (fun _ _ h => h)) (fun _ _ h => h))
    have HB2 := Lib.hid (HB1.out.keep (k2.trans ka (fun _ _ h => h)) (fun _ _ _ => id))
    clear k2 ka CD HB1 hcc hcI HK1
    have Z3 := fresh_zero (w2.alloc (.cells #[.int .i64 0, .int .i64 0, .int .i64 0, .int .u64 0, .int .u64 0, .int .u64 0, .int .u64 0, .int .u64 0, .bool false, .slice none 0 0, .slice none 0 0, .slice none 0 0, .int .u64 0, .int .u64 0, .slice none 0 0] 29))
    rw [World.size_alloc] at Z3
    obtain ⟨i1, hi1, hz0, hz1, hz2⟩ := info_parts u8info
    have o3 := Z3.own
    have b3 := HB2.out.keep Z3.keep (fun _ _ _ => id)
    have HZ3 := Lib.hid Z3
    clear Z3
    go_wp2_with (at_builtin; refine wpList_append_read _ rfl (.tmp 37) (.tmp 38) 27 rfl 5 i1 _ Try.underlying27 hi1 hz0 hz1 hz2 rfl _ _ [] X _ rfl rfl o3 b3 (by rw [HLIM.out, List.length_nil]; have := HFEW.out; omega) ?_)
    intro v4 w4 o4 gr4 at4 _
    have F4 := HZ3.out.append (cs := X) gr4 (by simpa using at4) (by simpa using o4)
    obtain ⟨A4, c4, hs4⟩ := own_shape F4.own
    subst hs4
    rw [List.nil_append] at F4
    have F5 := F4.later ((Keep.refl noneOf w4).alloc (.cells #[.int .u8 z] 5))
    have o5 := F5.own
    have b5 := (fresh_one w4 z Z0.out Z1.out).any
    have HF5 := Lib.hid F5
    clear o3 b3 o4 gr4 at4 F4 F5 HZ3
    go_wp2_with (at_builtin; refine wpList_append_read _ rfl (.tmp 39) (.tmp 42) 27 rfl 5 i1 _ Try.underlying27 hi1 hz0 hz1 hz2 rfl _ _ X [by8 z] _ rfl rfl o5 b5 (by rw [HLIM.out, List.length_cons, List.length_nil]; have := HFEW.out; omega) ?_)
    intro v6 w6 o6 gr6 at6 _
    have F6 := HF5.out.append (cs := [by8 z]) gr6 (by simpa using at6) (by simpa using o6)
    obtain ⟨A6, c6, hs6⟩ := own_shape F6.own
    subst hs6
    have HK6 := Lib.hid (HK2.out.trans F6.keep (fun _ _ h => h))
    have B6 := F6.any
    rw [show (X ++ [by8 z]).length = X.length + 1 from by simp] at B6
    have HB6 := Lib.hid B6
    clear o5 b5 o6 gr6 at6 HF5 F6 B6 HB2 HK2
    go_wp2_with fail
    refine (CE.out _ _ HB6.out).mono ?_
    rintro e w7 ⟨rfl, k7⟩
    have HK7 := Lib.hid ((HK6.out.trans k7 (fun _ _ h => h)).alloc (.cells #[.int .i64 0, .int .i64 0, .int .i64 0, .int .u64 0, .int .u64 0, .int .u64 0, .int .u64 0, .int .u64 0, .bool false, .slice none 0 0, .slice none 0 0, .slice none 0 0, .int .u64 0, .int .u64 0, .slice none 0 0] 29))
    clear k7 HK6 HB6 CE
    go_wp2_with fail
    refine (alive_any _).mono ?_
    rintro e wz ⟨rfl, kz⟩
    have HKZ := Lib.hid (HK7.out.trans kz (fun _ _ h => h))
    clear kz
    go_wp2
    go_ret
    exact ⟨rfl, HKZ.out⟩
namespace MessageCuts
set_option maxRecDepth 100000 in
theorem lifted (os : Os) (started : os.Started) (H : Type) (enc : TypeId × Value → H) :
    ReturnsInHanded {} Try.checked os 6 .any (Rows.messageCutsSpec.pre6 enc Try.prog Try.f6 Rows.messageCutsRow.domain false) (Rows.messageCutsSpec.post enc Try.prog Try.f6 false true false false) := by
  refine returnsInHanded_of_change_sized (C := Try.checked) own started (by kernel_rfl) Try.func6
    (ChangeSpec.witness6 (enc := enc) (C := Try.checked) false ⟨#[], #[.agg #[.int .i64 0, .int .i64 0, .int .i64 0, .int .u64 0, .int .u64 0, .int .u64 0, .int .u64 0, .int .u64 0, .bool false, .slice none 0 0, .slice none 0 0, .slice none 0 0, .int .u64 0, .int .u64 0, .slice none 0 0], .int .i64 0], []⟩ 8 (by kernel_rfl) (by kernel_rfl) (by kernel_rfl) (by kernel_rfl)) ?_
  intro W base args ds gs before hval0 hW hcnd hsz _
  have hval : ∀ (j : Nat) t v, Try.f6.params[j]? = some t → args[j]? = some v → Value.okWide Try.prog W .any base t v := hval0
  have hW' := hW
  obtain ⟨p, q, hA0, hV, rfl, hfz, hnd⟩ := hW
  have hA : DataW.TrodAll enc Try.prog W 0 (fun _ => true) true Try.f6.params.toList args.toList ds p := hA0
  rw [Try.params6] at hA hval
  obtain ⟨v0, vs0, d0, ds0, p0, q0, hargs, rfl, rfl, h0, r0⟩ := trodAll_cons hA
  obtain ⟨v1, vs1, d1, ds1, p1, q1, rfl, rfl, rfl, h1, r1⟩ := trodAll_cons r0
  obtain ⟨rfl, rfl, rfl⟩ := trodAll_nil r1
  obtain rfl : args = #[v0, v1] := by cases args; simp_all
  obtain ⟨rfl, rfl⟩ := trodVars_none hV
  have k0 := h0
  have lt0 : ∀ x ∈ p0, x.block < W.heap.size := by obtain ⟨m, hm⟩ := k0; exact DataW.trod_lt m _ _ _ hm
  obtain ⟨m0, rfl, hm0⟩ := open_arg_msg (hval 0 29 v0 rfl rfl) h0 (light_arg hsz (j := 0) rfl rfl)
  obtain ⟨a1, rfl, rfl, rfl, w1⟩ := open_int Try.underlying3 (hval 1 3 v1 rfl rfl) h1
  clear hA0 hval0
  refine (cuts_walk W m0 a1 hm0).mono fun e W' ⟨he, bel0⟩ => ?_
  subst he
  have bel := bel0.all
  exact ⟨_, rfl, _, _, _, [], _, [], hW', trodAll_mk1 (shut_bool Try.underlying4 _), (trodAll_cons_mk (Below.trod laidOut (by kernel_rfl) (of_decide_eq_true (by kernel_rfl)) k0 bel lt0) (trodAll_cons_mk (shut_int Try.underlying3 w1) trodAll_mk0)), rfl, bel.frame _, fun h => by cases h⟩
theorem over : Rows.messageCutsRow.holds Try.pinned (OpenSpec.ofChange Rows.messageCutsSpec) :=
  OpenClaim.holds_of_wide 6 Try.f6 rfl rfl rfl rfl rfl rfl rfl ⟨rfl, rfl, rfl, rfl, rfl⟩ rfl rfl rfl rfl rfl (by kernel_rfl) Try.func6 (by kernel_rfl)
    (of_decide_eq_true (by kernel_rfl)) (by unfold Func.isWrapper; first | (rw [if_pos (by decide +kernel)]; kernel_rfl) | (rw [if_neg (by decide +kernel)]; exact ⟨rfl, rfl⟩))
    (fun os started H enc _ => lifted os started H enc)
theorem proved : Rows.MessageCutsSaid := over
end MessageCuts
end Go.Proofs.Ytdikmmdkpfmocaa
