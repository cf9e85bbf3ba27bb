/-
  Proved: dockyardlaw08.StaleFresh answers true for every input that can be read, and leaves its arguments as they were. No conditions.
-/
import Derived.Test.YtndojciealkhmaaStAlive
import Derived.Test.YtndojciealkhmaaStOpen
namespace Go.Proofs.Ytndojciealkhmaa
open Go.ChangeShapes Go.WideShapes Go.ChangeAt Go.RowKit

theorem Bls.cell {w : World} {D : Nat → Prop} {A : Option Addr} {c : Nat} {bs : List Bool} (h : Bls w D (.slice A bs.length c) bs) {k : Nat} {x : Bool} (hk : bs[k]? = some x) :
    ∃ b o, A = some ⟨b, o, none⟩ ∧ b < w.heap.size ∧ D b ∧ w.cell? ⟨b, o + k, none⟩ = some (.bool x) := by
  obtain ⟨A', c', hv', _, _, _, _, hrow⟩ := h
  obtain ⟨rfl, rfl⟩ : A = A' ∧ c = c' := by simpa using hv'
  have hlt := (List.getElem?_eq_some_iff.1 hk).1
  obtain ⟨ad, rfl, hsp, hblk, hD, hcell⟩ := hrow (by omega)
  obtain ⟨b, o, sp⟩ := ad
  simp only at hsp hblk hD hcell
  subst hsp
  exact ⟨b, o, rfl, hblk, hD, hcell k _ (by rw [List.getElem?_map, hk]; rfl)⟩
theorem Ints.cell {w : World} {D : Nat → Prop} {A : Option Addr} {c : Nat} {ns : List Nat} (h : Ints w D (.slice A ns.length c) ns) {k n : Nat} (hk : ns[k]? = some n) :
    ∃ b o, A = some ⟨b, o, none⟩ ∧ b < w.heap.size ∧ D b ∧ w.cell? ⟨b, o + k, none⟩ = some (.int .i64 (n : Int)) := by
  obtain ⟨A', c', hv', _, _, _, _, hrow⟩ := h
  obtain ⟨rfl, rfl⟩ : A = A' ∧ c = c' := by simpa using hv'
  have hlt := (List.getElem?_eq_some_iff.1 hk).1
  obtain ⟨ad, rfl, hsp, hblk, hD, hcell⟩ := hrow (by omega)
  obtain ⟨b, o, sp⟩ := ad
  simp only at hsp hblk hD hcell
  subst hsp
  exact ⟨b, o, rfl, hblk, hD, hcell k _ (by rw [List.getElem?_map, hk]; rfl)⟩
theorem Kys.cell {w : World} {D : Nat → Prop} {A : Option Addr} {c : Nat} {ks : List Nat} (h : Kys w D (.slice A ks.length c) ks) {k n : Nat} (hk : ks[k]? = some n) :
    ∃ b o, A = some ⟨b, o, none⟩ ∧ b < w.heap.size ∧ D b ∧ w.cell? ⟨b, o + k, none⟩ = some (.int .u64 (n : Int)) := by
  obtain ⟨⟨A', c', hv', _, _, _, _, hrow⟩, _⟩ := h
  obtain ⟨rfl, rfl⟩ : A = A' ∧ c = c' := by simpa using hv'
  have hlt := (List.getElem?_eq_some_iff.1 hk).1
  obtain ⟨ad, rfl, hsp, hblk, hD, hcell⟩ := hrow (by omega)
  obtain ⟨b, o, sp⟩ := ad
  simp only at hsp hblk hD hcell
  subst hsp
  exact ⟨b, o, rfl, hblk, hD, hcell k _ (by rw [List.getElem?_map, hk]; rfl)⟩

theorem fresh_valid {ps : List Pt} {P : Nat → Bool} {i : Nat} {x : Bool} (h : (grFresh ps P)[i]? = some x) : grCheck ps = 0 ∧ i < ps.length := by
  have hi := (List.getElem?_eq_some_iff.1 h).1
  rw [grFresh_length] at hi
  have hq : grCheck ps = 0 := Classical.byContradiction fun hq => by rw [order_none hq] at hi; simp at hi
  rw [order_len hq] at hi
  exact ⟨hq, hi⟩
theorem fresh_needs {ps : List Pt} {P : Nat → Bool} {i n : Nat} (h : (grFresh ps P)[i]? = some true) (hn : n ∈ needsAt ps (i : Int)) : (grFresh ps P)[n]? = some true := by
  obtain ⟨hq, hi⟩ := fresh_valid h
  rw [grFresh_sol _ hq i hi] at h
  injection h with h
  unfold freshAt at h
  rw [Bool.and_eq_true, List.all_eq_true] at h
  have := h.1 n hn
  rw [List.getD_eq_getElem?_getD, grFresh_sol _ hq n (needsAt_lt hn)] at this
  rw [grFresh_sol _ hq n (needsAt_lt hn)]
  simpa using this

theorem can_call_fresh1 : CanCall 16 := enters_of Try.func16 (by kernel_rfl) rfl
theorem tells_fresh1 {w : World} {D : Nat → Prop} {Ab : Option Addr} {cb q : Nat} {bks : List Nat} (hq : Box w q 25 #[.slice Ab bks.length cb]) (hk : Kys w D (.slice Ab bks.length cb) bks) :
    Tells 16 #[.pointer (some ⟨q, 0, none⟩)] (fun k => bks.contains k) w := by
  intro W x k _
  show Calls Try.prog 16 #[.int .u64 (x : Int), .pointer (some ⟨q, 0, none⟩)] W fun e w' => e = .returned (.bool (bks.contains x)) ∧ W = w'
  have IN := Lib.hid (in64_any W D _ bks x (hk.keep k (fun _ _ _ => id)))
  have c0 : W.cell? ⟨q, 0, none⟩ = some (.slice Ab bks.length cb) := (hq.keep k id).cell 0
  generalize bks.contains x = R at *
  clear hq hk k
  go_enter Try.func16, Try.ntmps16
  go_wp2_with fail
  refine IN.out.mono ?_
  rintro e w1 ⟨rfl, rfl⟩
  clear IN
  go_wp2
  go_ret
  exact ⟨rfl, rfl⟩

set_option maxRecDepth 100000 in
set_option maxHeartbeats 4000000 in
theorem fresh_walk (w : World) (A : Option Addr) (c : Nat) (ts : List Tg) (h : Tgs w (fun _ => True) (.slice A ts.length c) ts) (Ab : Option Addr) (cb : Nat) (bks : List Nat) (hb : Kys w (fun _ => True) (.slice Ab bks.length cb) bks) :
    Calls Try.prog 4 #[.agg #[.slice A ts.length c], .slice Ab bks.length cb] w fun e w' => e = .returned (.bool true) ∧ Keep noneOf w w' := by
  have HH := Lib.hid h
  have x0 := (Box.new w 24 #[.slice A ts.length c]).alloc (.cells #[.slice Ab bks.length cb] 25)
  have y0 := Box.new (w.alloc (.cells #[.slice A ts.length c] 24)) 25 #[.slice Ab bks.length cb]
  rw [show (w.alloc (.cells #[.slice A ts.length c] 24)).heap.size = w.heap.size + 1 from by simp] at y0
  have ka := ((Keep.refl noneOf w).alloc (.cells #[.slice A ts.length c] 24)).alloc (.cells #[.slice Ab bks.length cb] 25)
  have FR := Lib.hid (fresh_any _ _ _ ts (h.keep ka (fun _ _ _ => id)) _ _ can_call_fresh1 _ (tells_fresh1 y0 (hb.keep ka (fun _ _ _ => id))))
  have RF : Hid (∀ w', Keep noneOf w w' → Calls Try.prog 18 #[.agg #[.slice A ts.length c], .slice Ab bks.length cb] w' (ToldBools (grFresh (ts.map Tg.plain) (fun k => bks.contains k)) w')) := Lib.hid fun w' k => refFresh_any w' _ _ _ _ bks ts (HH.out.keep k (fun _ _ _ => id)) (hb.keep k (fun _ _ _ => id))
  have NE : Hid (∀ (w' : World) (p : Nat), Keep noneOf w w' → grCheck (ts.map Tg.plain) = 0 → Calls Try.prog 19 #[.agg #[.slice A ts.length c], .int .i64 (p : Int)] w' (ToldInts (needsAt (ts.map Tg.plain) (p : Int)) w')) := Lib.hid fun w' p k' hq => refNeeds_any w' _ _ ts (p : Int) (HH.out.keep k' (fun _ _ _ => id)) (fits_few (check_fits hq).1).2
  have HV : Hid (∀ (i : Nat) (x : Bool), (grFresh (ts.map Tg.plain) (fun k => bks.contains k))[i]? = some x → grCheck (ts.map Tg.plain) = 0 ∧ i < (ts.map Tg.plain).length) := Lib.hid fun i x h => fresh_valid h
  have HNT : Hid (∀ (i n : Nat), (grFresh (ts.map Tg.plain) (fun k => bks.contains k))[i]? = some true → n ∈ needsAt (ts.map Tg.plain) (i : Int) → (grFresh (ts.map Tg.plain) (fun k => bks.contains k))[n]? = some true) := Lib.hid fun i n h hn => fresh_needs h hn
  have HNL : Hid (∀ (i n : Nat), i < (grFresh (ts.map Tg.plain) (fun k => bks.contains k)).length → n ∈ needsAt (ts.map Tg.plain) (i : Int) → n < (grFresh (ts.map Tg.plain) (fun k => bks.contains k)).length) := Lib.hid fun i n hi hn => by
    obtain ⟨hq, _⟩ := fresh_valid (List.getElem?_eq_getElem hi)
    rw [grFresh_length, order_len hq]
    exact needsAt_lt hn
  have HN16 : Hid (∀ i : Nat, grCheck (ts.map Tg.plain) = 0 → (needsAt (ts.map Tg.plain) (i : Int)).length ≤ 16) := Lib.hid fun i hq => needsAt_16 hq
  have h32 := order_32 (ts.map Tg.plain)
  rw [← grFresh_length (ts.map Tg.plain) (fun k => bks.contains k)] at h32
  generalize grFresh (ts.map Tg.plain) (fun k => bks.contains k) = fs at *
  generalize grCheck (ts.map Tg.plain) = chk at *
  generalize needsAt (ts.map Tg.plain) = na at *
  have HK0 := Lib.hid ka
  have HX0 := Lib.hid x0
  have HY0 := Lib.hid y0
  clear ka x0 y0 h hb
  go_enter Try.func4, Try.ntmps4
  go_wp2_with fail
  refine FR.out.mono ?_
  rintro e w1 ⟨A1, c1, rfl, o1, k1⟩
  have K1 := HK0.out.trans k1 (fun _ _ h => h)
  have X1 := HX0.out.keep k1 id
  have Y1 := HY0.out.keep k1 id
  have x1 : w1.cell? ⟨w.heap.size, 0, none⟩ = some (.slice A ts.length c) := X1.cell 0
  have y1 : w1.cell? ⟨w.heap.size + 1, 0, none⟩ = some (.slice Ab bks.length cb) := Y1.cell 0
  have RF1 := Lib.hid (RF.out _ K1)
  have HK1 := Lib.hid K1
  have HX1 := Lib.hid X1
  have HO1 := Lib.hid o1
  clear FR HK0 HX0 HY0 k1 K1 X1 Y1 o1 RF
  go_wp2_with fail
  refine RF1.out.mono ?_
  rintro e w2 ⟨A2, c2, rfl, o2, k2⟩
  have HK2 := Lib.hid (HK1.out.trans k2 (fun _ _ h => h))
  have HX2 := Lib.hid (HX1.out.keep k2 id)
  have HO2 := Lib.hid (HO1.out.keep k2 (fun _ _ _ => id))
  have HP2 := Lib.hid o2
  clear RF1 HK1 HX1 HO1 k2 o2 x1 y1
  go_wp2_with fail
  refine (alive_any w2).mono ?_
  rintro e w3 ⟨rfl, k3⟩
  have HK3 := Lib.hid (HK2.out.trans k3 (fun _ _ h => h))
  have HX3 := Lib.hid (HX2.out.keep k3 id)
  have HO3 := Lib.hid (HO2.out.keep k3 (fun _ _ _ => id))
  have HP3 := Lib.hid (HP2.out.keep k3 (fun _ _ _ => id))
  have g0 : ((fs.length : Int) != (fs.length : Int)) = false := by rw [bne_self_eq_false]
  clear HK2 HX2 HO2 HP2 k3
  go_wp2
  generalize w3 = W3 at *
  go_loopw [27] (fun i wx => ∃ k : Nat, k ≤ fs.length ∧ i = .int .i64 k ∧ Keep noneOf W3 wx) (fun i _ => fs.length - (intOf i).toNat)
  case atStart => exact ⟨0, Nat.zero_le _, rfl, Keep.refl _ _⟩
  case round =>
    obtain ⟨k, hk, rfl, hkw⟩ := hrel
    have HKW := Lib.hid hkw
    by_cases hlt : k < fs.length
    · have HS := Lib.hid (List.getElem?_eq_getElem hlt)
      obtain ⟨hq, _⟩ := HV.out k _ HS.out
      obtain ⟨b1, o1, rfl, hb1, _, d1⟩ := (HO3.out.keep hkw (fun _ _ _ => id)).cell HS.out
      obtain ⟨b2, o2, rfl, hb2, _, d2⟩ := (HP3.out.keep hkw (fun _ _ _ => id)).cell HS.out
      have NE0 : Hid (∀ w', Keep noneOf wr w' → Calls Try.prog 19 #[.agg #[.slice A ts.length c], .int .i64 (k : Int)] w' (ToldInts (na (k : Int)) w')) := Lib.hid fun w' k' => NE.out w' k ((HK3.out.trans hkw (fun _ _ h => h)).trans k' (fun _ _ h => h)) hq
      have hn16 := HN16.out k hq
      generalize fs[k] = x at *
      have gx : (x != x) = false := by rw [bne_self_eq_false]
      have q1 : (0 : Int) ≤ (k : Int) := by omega
      have q2 : (k : Int) < (fs.length : Int) := by omega
      have x9 : wr.cell? ⟨w.heap.size, 0, none⟩ = some (.slice A ts.length c) := (HX3.out.keep hkw id).cell 0
      have K00 := Keep.refl noneOf wr
      clear hkw hq
      go_wp2
      go_quiet (fail)
      go_wp2_with fail
      refine (NE0.out _ (K00.drewN _)).mono ?_
      rintro e w4 ⟨v4, rfl, i4, k4⟩
      obtain ⟨A4, c4, hv4⟩ := i4.shape
      subst hv4
      have k5 : Keep noneOf wr w4 := (K00.drewN _).trans k4 (fun _ _ h => h)
      have HK5 := Lib.hid (HKW.out.trans k5 (fun _ _ h => h))
      have HI5 := Lib.hid i4
      have HO5 := Lib.hid ((HO3.out.keep HKW.out (fun _ _ _ => id)).keep k5 (fun _ _ _ => id))
      clear k4 i4 k5 NE0 x9 K00 d1 d2 hb1 hb2
      go_wp2
      go_loopw [43] (fun i wx => ∃ j : Nat, j ≤ (na (k : Int)).length ∧ i = .int .i64 j ∧ w4 = wx) (fun i _ => (na (k : Int)).length - (intOf i).toNat)
      case atStart => exact ⟨0, Nat.zero_le _, rfl, rfl⟩
      case round =>
        obtain ⟨j, hj, rfl, rfl⟩ := hrel
        by_cases hjl : j < (na (k : Int)).length
        · obtain ⟨b4, o4, rfl, hb4, _, d4⟩ := HI5.out.cell (List.getElem?_eq_getElem hjl)
          have hmem := List.getElem_mem hjl
          generalize (na (k : Int))[j] = m at *
          have hml := HNL.out k m hlt hmem
          obtain ⟨b5, o5, hb5e, hb5, _, d5⟩ := HO5.out.cell HS.out
          obtain ⟨rfl, rfl⟩ : b1 = b5 ∧ o1 = o5 := by simpa using hb5e
          cases x with
          | true =>
            obtain ⟨b6, o6, hb6e, hb6, _, d6⟩ := HO5.out.cell (HNT.out k m HS.out hmem)
            obtain ⟨rfl, rfl⟩ : b1 = b6 ∧ o1 = o6 := by simpa using hb6e
            clear hmem hb5e hb6e
            generalize na (k : Int) = ns at *
            have q3 : (m : Int) < (fs.length : Int) := by omega
            have q4 : (0 : Int) ≤ (m : Int) := by omega
            go_wp2
            go_roundw
            case rel => exact ⟨j + 1, by omega, by go_num, by first | rfl | trivial⟩
            case measure => simp [intOf]; omega
          | false =>
            clear hmem hb5e
            generalize na (k : Int) = ns at *
            go_wp2
            go_roundw
            case rel => exact ⟨j + 1, by omega, by go_num, by first | rfl | trivial⟩
            case measure => simp [intOf]; omega
        · have hjn : ¬ ((j : Int) < ((na (k : Int)).length : Int)) := by omega
          clear hjl
          generalize na (k : Int) = ns at *
          go_wp2
          go_roundw
          case rel => exact ⟨k + 1, by omega, by go_num, HK5.out⟩
          case measure => simp [intOf]; omega
    · have hkn : ¬ ((k : Int) < (fs.length : Int)) := by omega
      have HK9 := Lib.hid (HK3.out.trans hkw (fun _ _ h => h))
      clear hlt hkw
      go_wp2
      go_ret
      exact ⟨rfl, HK9.out⟩

namespace StaleFresh
set_option maxRecDepth 100000 in
theorem lifted (os : Os) (started : os.Started) (H : Type) (enc : TypeId × Value → H) :
    ReturnsInHanded {} Try.checked os 4 .any (Rows.staleFreshSpec.pre6 enc Try.prog Try.f4 Rows.staleFreshRow.domain false) (Rows.staleFreshSpec.post enc Try.prog Try.f4 false true false false) := by
  refine returnsInHanded_of_change_sized (C := Try.checked) own started (by kernel_rfl) Try.func4
    (ChangeSpec.witness6 (enc := enc) (C := Try.checked) false ⟨#[], #[.agg #[.slice none 0 0], .slice none 0 0], []⟩ 8 (by kernel_rfl) (by kernel_rfl) (by kernel_rfl) (by kernel_rfl)) ?_
  intro W base args ds gs before hval0 hW hcnd hsz _
  have hval : ∀ (j : Nat) t v, Try.f4.params[j]? = some t → args[j]? = some v → Value.okWide Try.prog W .any base t v := hval0
  have hW' := hW
  obtain ⟨p, q, hA0, hV, rfl, hfz, hnd⟩ := hW
  have hA : DataW.TrodAll enc Try.prog W 0 (fun _ => true) true Try.f4.params.toList args.toList ds p := hA0
  rw [Try.params4] at hA hval
  obtain ⟨v0, vs0, d0, ds0, p0, q0, hargs, rfl, rfl, h0, r0⟩ := trodAll_cons hA
  obtain ⟨v1, vs1, d1, ds1, p1, q1, rfl, rfl, rfl, h1, r1⟩ := trodAll_cons r0
  obtain ⟨rfl, rfl, rfl⟩ := trodAll_nil r1
  obtain rfl : args = #[v0, v1] := by cases args; simp_all
  obtain ⟨rfl, rfl⟩ := trodVars_none hV
  have k0 := h0
  have lt0 : ∀ x ∈ p0, x.block < W.heap.size := by obtain ⟨m, hm⟩ := k0; exact DataW.trod_lt m _ _ _ hm
  have k1 := h1
  have lt1 : ∀ x ∈ p1, x.block < W.heap.size := by obtain ⟨m, hm⟩ := k1; exact DataW.trod_lt m _ _ _ hm
  obtain ⟨A0, c0, ts0, rfl, hts0, h560, h160⟩ := open_graph (hval 0 24 v0 rfl rfl) h0 (light_arg hsz (j := 0) rfl rfl)
  obtain ⟨A1, c1, ks1, rfl, hks1, h81⟩ := open_arg_u64s (hval 1 25 v1 rfl rfl) h1 (light_arg hsz (j := 1) rfl rfl)
  clear hA0 hval0
  refine (fresh_walk W A0 c0 ts0 hts0 A1 c1 ks1 hks1).mono fun e W' ⟨he, bel0⟩ => ?_
  subst he
  have bel := bel0.all
  exact ⟨_, rfl, _, _, _, [], _, [], hW', trodAll_mk1 (shut_bool Try.underlying4 _), (trodAll_cons_mk (Below.trod laidOut (by kernel_rfl) (of_decide_eq_true (by kernel_rfl)) k0 bel lt0) (trodAll_cons_mk (Below.trod laidOut (by kernel_rfl) (of_decide_eq_true (by kernel_rfl)) k1 bel lt1) trodAll_mk0)), rfl, bel.frame _, fun h => by cases h⟩

theorem over : Rows.staleFreshRow.holds Try.pinned (OpenSpec.ofChange Rows.staleFreshSpec) :=
  OpenClaim.holds_of_wide 4 Try.f4 rfl rfl rfl rfl rfl rfl rfl ⟨rfl, rfl, rfl, rfl, rfl⟩ rfl rfl rfl rfl rfl (by kernel_rfl) Try.func4 (by kernel_rfl)
    (of_decide_eq_true (by kernel_rfl)) (by unfold Func.isWrapper; first | (rw [if_pos (by decide +kernel)]; kernel_rfl) | (rw [if_neg (by decide +kernel)]; exact ⟨rfl, rfl⟩))
    (fun os started H enc _ => lifted os started H enc)

theorem proved : Rows.StaleFreshSaid := over
end StaleFresh
end Go.Proofs.Ytndojciealkhmaa
