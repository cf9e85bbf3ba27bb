/-
  Proved: dockyardlaw04.EntryCodes answers true for every input that can be read, and leaves its arguments as they were. No conditions.
-/
import Derived.Test.YtngbminjbgomgaaRefDec
import Derived.Test.YtngbminjbgomgaaSameEntry
import Derived.Test.YtngbminjbgomgaaAlive
import Derived.Test.YtngbminjbgomgaaOpen2
import Derived.SizedLaws
namespace Go.Proofs.Ytngbminjbgomgaa
open Go.ChangeShapes Go.WideShapes Go.ChangeAt Go.RowKit

/-- What an Encode answers, in one form. -/
def Answer2 (w : World) (er : Int) (bs : List UInt8) (e : Ending) (w' : World) : Prop :=
  Keep noneOf w w' ∧ ∃ A c, e = .returned (.tuple #[.slice A bs.length c, .int .i64 er]) ∧ Bytes w' (fun _ => True) (.slice A bs.length c) bs
theorem answer2 {w w' : World} {i t : Nat} {k er : Int} {cs xs : List UInt8} {e : Ending} (h : Encoded w i t k cs e w') (hx : (entRight i t k cs.length = false ∧ er = 40 ∧ xs = []) ∨ (entRight i t k cs.length = true ∧ er = 0 ∧ xs = entBytes i t k.toNat cs)) : Answer2 w er xs e w' := by
  obtain ⟨K, h⟩ := h
  rcases hx with ⟨hr, rfl, rfl⟩ | ⟨hr, rfl, rfl⟩
  · rcases h with ⟨_, rfl⟩ | ⟨h, _⟩
    · exact ⟨K, none, 0, rfl, Bytes.nil _ _⟩
    · rw [hr] at h; cases h
  · rcases h with ⟨h, _⟩ | ⟨_, u, rfl, o, _⟩
    · rw [hr] at h; cases h
    · have hb := (Bytes.of_own o).mono (D' := fun _ => True) (fun _ _ _ => trivial)
      obtain ⟨A, c, hs⟩ := own_shape o
      subst hs
      exact ⟨K, A, c, rfl, hb⟩
/-- What a Decode answers, in one form. -/
def Decode2 (w : World) (er : Int) (i t : Nat) (k : Int) (cs : List UInt8) (e : Ending) (w' : World) : Prop :=
  Keep noneOf w w' ∧ ∃ A c, e = .returned (.tuple #[.agg #[.int .u64 (i : Int), .int .u64 (t : Int), .int .i64 k, .slice A cs.length c], .int .i64 er]) ∧ Bytes w' (fun _ => True) (.slice A cs.length c) cs
theorem decode2 {w w' : World} {bs cs : List UInt8} {i t : Nat} {k er : Int} {e : Ending} (h : Decoded w bs e w') (hx : (decOk bs = false ∧ er = 40 ∧ i = 0 ∧ t = 0 ∧ k = 0 ∧ cs = []) ∨ (decOk bs = true ∧ er = 0 ∧ i = num (decI bs).1 ∧ t = num (decT bs).1 ∧ k = (num (decK bs).1 : Int) ∧ cs = (decD bs).1)) : Decode2 w er i t k cs e w' := by
  obtain ⟨K, h⟩ := h
  rcases hx with ⟨hr, rfl, rfl, rfl, rfl, rfl⟩ | ⟨hr, rfl, rfl, rfl, rfl, rfl⟩
  · rcases h with ⟨_, rfl⟩ | ⟨h, _⟩
    · exact ⟨K, none, 0, rfl, Bytes.nil _ _⟩
    · rw [hr] at h; cases h
  · rcases h with ⟨h, _⟩ | ⟨_, u, rfl, o, _⟩
    · rw [hr] at h; cases h
    · have hb := (Bytes.of_own o).mono (D' := fun _ => True) (fun _ _ _ => trivial)
      obtain ⟨A, c, hs⟩ := own_shape o
      subst hs
      exact ⟨K, A, c, rfl, hb⟩
theorem fresh_zero (w : World) : Fresh w (w.alloc (.cells #[] 5)) (.slice (some ⟨w.heap.size, 0, none⟩) 0 0) [] := by
  refine ⟨(Keep.refl _ _).alloc _, ⟨?_, .inr ⟨w.heap.size, 0, #[], rfl, Nat.zero_le _, Box.new w _ _, Nat.le_refl _, Nat.zero_le _, rfl, by simp⟩⟩, fun k hk => ?_⟩
  · simp
  · have : w.heap.size = k := by simpa [Value.ownBlock] using hk
    omega

set_option maxRecDepth 100000 in
set_option maxHeartbeats 2000000 in
theorem codes_walk (w : World) (ei et : Nat) (ek : Int) (eA : Option Addr) (ec : Nat) (ecs : List UInt8) (bA : Option Addr) (bc : Nat) (bs xs dcs : List UInt8) (er dr : Int) (di dt : Nat) (dk : Int)
    (hei : (ei : Int) < 18446744073709551616) (het : (et : Int) < 18446744073709551616) (he : Bytes w (fun _ => True) (.slice eA ecs.length ec) ecs) (hb : Bytes w (fun _ => True) (.slice bA bs.length bc) bs) (hl : bs.length ≤ lim)
    (hx : (entRight ei et ek ecs.length = false ∧ er = 40 ∧ xs = []) ∨ (entRight ei et ek ecs.length = true ∧ er = 0 ∧ xs = entBytes ei et ek.toNat ecs))
    (hy : (decOk bs = false ∧ dr = 40 ∧ di = 0 ∧ dt = 0 ∧ dk = 0 ∧ dcs = []) ∨ (decOk bs = true ∧ dr = 0 ∧ di = num (decI bs).1 ∧ dt = num (decT bs).1 ∧ dk = (num (decK bs).1 : Int) ∧ dcs = (decD bs).1)) :
    Calls Try.prog 3 #[.agg #[.int .u64 (ei : Int), .int .u64 (et : Int), .int .i64 ek, .slice eA ecs.length ec], .slice bA bs.length bc] w fun e w' => e = .returned (.bool true) ∧ Keep noneOf w w' := by
  obtain ⟨i1, hi1, hz0, hz1, hz2⟩ := info_parts u8info
  have K0 := (Keep.refl noneOf w).alloc (.cells #[.int .u64 (ei : Int), .int .u64 (et : Int), .int .i64 ek, .slice eA ecs.length ec] 25)
  have X0 := Box.new w 25 #[.int .u64 (ei : Int), .int .u64 (et : Int), .int .i64 ek, .slice eA ecs.length ec]
  have C1 : Hid (∀ w', Keep noneOf w w' → Calls Try.prog 9 #[.agg #[.int .u64 (ei : Int), .int .u64 (et : Int), .int .i64 ek, .slice eA ecs.length ec]] w' (Answer2 w' er xs)) := fun w' k => (encode_any w' (fun _ => True) ei et ek _ ecs hei het (he.keep k (fun _ _ _ => id))).mono fun _ _ h => answer2 h hx
  have C2 : Hid (∀ w', Keep noneOf w w' → Calls Try.prog 10 #[.agg #[.int .u64 (ei : Int), .int .u64 (et : Int), .int .i64 ek, .slice eA ecs.length ec]] w' (Answer2 w' er xs)) := fun w' k => (refEncode_any w' (fun _ => True) ei et ek _ ecs hei het (he.keep k (fun _ _ _ => id))).mono fun _ _ h => answer2 h hx
  have C3 : Hid (∀ w' v, Bytes w' (fun _ => True) v bs → Calls Try.prog 11 #[v] w' (Decode2 w' dr di dt dk dcs)) := fun w' v k => (decode_any w' (fun _ => True) v bs k hl).mono fun _ _ h => decode2 h hy
  have C4 : Hid (∀ w' v, Bytes w' (fun _ => True) v bs → Calls Try.prog 12 #[v] w' (Decode2 w' dr di dt dk dcs)) := fun w' v k => (refDecode_any w' (fun _ => True) v bs k hl).mono fun _ _ h => decode2 h hy
  have HB := Lib.hid hb
  have HLM := Lib.hid hl
  have HK0 := Lib.hid K0
  have HX0 := Lib.hid X0
  clear hei het he hb hl hx hy K0 X0
  go_enter Try.func3, Try.ntmps3
  go_wp2_with fail
  refine (C1.out _ HK0.out).mono ?_
  rintro e w1 ⟨k1, A1, c1, rfl, b1⟩
  have X1 := HX0.out.keep k1 id
  have K1 := HK0.out.trans k1 (fun _ _ h => h)
  have a0 : w1.cell? ⟨w.heap.size, 0, none⟩ = some (.int .u64 (ei : Int)) := X1.cell 0
  have a1 : w1.cell? ⟨w.heap.size, 1, none⟩ = some (.int .u64 (et : Int)) := X1.cell 1
  have a2 : w1.cell? ⟨w.heap.size, 2, none⟩ = some (.int .i64 ek) := X1.cell 2
  have a3 : w1.cell? ⟨w.heap.size, 3, none⟩ = some (.slice eA ecs.length ec) := X1.cell 3
  have HB1 := Lib.hid b1
  clear HX0 HK0 k1 C1 b1
  go_wp2_with fail
  refine (C2.out _ K1).mono ?_
  rintro e w2 ⟨k2, A2, c2, rfl, b2⟩
  have K2 := K1.trans k2 (fun _ _ h => h)
  have HB1' := Lib.hid (HB1.out.keep k2 (fun _ _ _ => id))
  have k23 := (Keep.refl noneOf w2).alloc (.cells #[] 5)
  have Z3 := fresh_zero w2
  have o3 := Z3.own
  have b3 := HB.out.keep (K2.trans k23 (fun _ _ h => h)) (fun _ _ _ => id)
  have HB2 := Lib.hid b2
  have HK2 := Lib.hid K2
  have HZ3 := Lib.hid Z3
  clear a0 a1 a2 a3 X1 K1 k2 k23 C2 HB1 b2 K2 Z3
  go_wp2_with (at_builtin; refine wpList_append_read _ rfl (.tmp 24) (.tmp 25) 23 rfl 5 i1 _ Try.underlying23 hi1 hz0 hz1 hz2 rfl _ _ [] bs _ rfl rfl o3 b3 (by simpa using HLM.out) ?_)
  intro v4 w4 o4 gr4 at4 _
  have F4 := HZ3.out.append (cs := bs) gr4 (by simpa using at4) (by simpa using o4)
  obtain ⟨A4, c4, hs4⟩ := own_shape F4.own
  subst hs4
  rw [List.nil_append] at F4
  have g4 : Bytes w4 (fun _ => True) _ bs := F4.any
  have K4 := HK2.out.trans F4.keep (fun _ _ h => h)
  have HX4 := Lib.hid (HB1'.out.keep F4.keep (fun _ _ _ => id))
  have HY4 := Lib.hid (HB2.out.keep F4.keep (fun _ _ _ => id))
  have HG4 := Lib.hid g4
  have HK4 := Lib.hid K4
  clear o3 b3 o4 gr4 at4 F4 g4 K4 HB1' HB2 HZ3 HK2
  go_wp2_with fail
  refine (C3.out _ _ HG4.out).mono ?_
  rintro e w5 ⟨k5, oA, oc, rfl, b5⟩
  have ka := (Keep.refl noneOf w5).alloc (.cells #[.int .u64 (di : Int), .int .u64 (dt : Int), .int .i64 dk, .slice oA dcs.length oc] 25)
  have O6 := Box.new w5 25 #[.int .u64 (di : Int), .int .u64 (dt : Int), .int .i64 dk, .slice oA dcs.length oc]
  have K45 := k5.trans ka (fun _ _ h => h)
  have K6 := HK4.out.trans K45 (fun _ _ h => h)
  have bo6 := b5.keep ka (fun _ _ _ => id)
  have HX6 := Lib.hid (HX4.out.keep K45 (fun _ _ _ => id))
  have HY6 := Lib.hid (HY4.out.keep K45 (fun _ _ _ => id))
  have HG6 := Lib.hid (HG4.out.keep K45 (fun _ _ _ => id))
  have HO6 := Lib.hid O6
  have HBO6 := Lib.hid bo6
  have HK6 := Lib.hid K6
  clear k5 ka O6 K45 K6 bo6 b5 HX4 HY4 HG4 HK4 C3
  go_wp2_with fail
  refine (C4.out _ _ (HB.out.keep HK6.out (fun _ _ _ => id))).mono ?_
  rintro e w7 ⟨k7, pA, pc, rfl, b7⟩
  have ka := (Keep.refl noneOf w7).alloc (.cells #[.int .u64 (di : Int), .int .u64 (dt : Int), .int .i64 dk, .slice pA dcs.length pc] 25)
  have P8 := Box.new w7 25 #[.int .u64 (di : Int), .int .u64 (dt : Int), .int .i64 dk, .slice pA dcs.length pc]
  have K78 := k7.trans ka (fun _ _ h => h)
  have K8 := HK6.out.trans K78 (fun _ _ h => h)
  have O8 := HO6.out.keep K78 id
  have HBP8 := Lib.hid (b7.keep ka (fun _ _ _ => id))
  have HBO8 := Lib.hid (HBO6.out.keep K78 (fun _ _ _ => id))
  have HX8 := Lib.hid (HX6.out.keep K78 (fun _ _ _ => id))
  have HY8 := Lib.hid (HY6.out.keep K78 (fun _ _ _ => id))
  have HG8 := Lib.hid (HG6.out.keep K78 (fun _ _ _ => id))
  have HO8 := Lib.hid O8
  have HP8 := Lib.hid P8
  have HK8 := Lib.hid K8
  clear k7 ka P8 K78 K8 O8 b7 HX6 HY6 HG6 HO6 HBO6 HK6 C4
  go_wp2_with fail
  refine (alive_any _).mono ?_
  rintro e w9 ⟨rfl, k9⟩
  have O9 := HO8.out.keep k9 id
  have P9 := HP8.out.keep k9 id
  have K9 := HK8.out.trans k9 (fun _ _ h => h)
  have r1 := run_str (HX8.out.keep k9 (fun _ _ _ => id))
  have r2 := run_str (HY8.out.keep k9 (fun _ _ _ => id))
  have o0 : w9.cell? ⟨w5.heap.size, 0, none⟩ = some (.int .u64 (di : Int)) := O9.cell 0
  have o1 : w9.cell? ⟨w5.heap.size, 1, none⟩ = some (.int .u64 (dt : Int)) := O9.cell 1
  have o2 : w9.cell? ⟨w5.heap.size, 2, none⟩ = some (.int .i64 dk) := O9.cell 2
  have o3 : w9.cell? ⟨w5.heap.size, 3, none⟩ = some (.slice oA dcs.length oc) := O9.cell 3
  have p0 : w9.cell? ⟨w7.heap.size, 0, none⟩ = some (.int .u64 (di : Int)) := P9.cell 0
  have p1 : w9.cell? ⟨w7.heap.size, 1, none⟩ = some (.int .u64 (dt : Int)) := P9.cell 1
  have p2 : w9.cell? ⟨w7.heap.size, 2, none⟩ = some (.int .i64 dk) := P9.cell 2
  have p3 : w9.cell? ⟨w7.heap.size, 3, none⟩ = some (.slice pA dcs.length pc) := P9.cell 3
  have SE := Lib.hid (sameEntry_any w9 _ _ di dt di dt dk dk _ _ dcs dcs (HBO8.out.keep k9 (fun _ _ _ => id)) (HBP8.out.keep k9 (fun _ _ _ => id)))
  have hse : sameEnt di dt dk dcs di dt dk dcs = true := by unfold sameEnt; simp
  rw [hse] at SE
  have HG9 := Lib.hid (HG8.out.keep k9 (fun _ _ _ => id))
  have HK9 := Lib.hid K9
  clear O9 P9 K9 k9 hse HX8 HY8 HG8 HO8 HP8 HBO8 HBP8 HK8
  go_wp2_with fail
  refine SE.out.mono ?_
  rintro e wa ⟨rfl, ka⟩
  have ra := run_str (HG9.out.keep ka (fun _ _ _ => id))
  have rb := run_str (HB.out.keep (HK9.out.trans ka (fun _ _ h => h)) (fun _ _ _ => id))
  have HKa := Lib.hid (HK9.out.trans ka (fun _ _ h => h))
  clear r1 r2 SE HG9 HK9 ka o0 o1 o2 o3 p0 p1 p2 p3
  go_wp2
  go_ret
  exact ⟨rfl, HKa.out⟩

theorem own : ownKnob Try.prog.godebug = none := by kernel_rfl
theorem laidOut : laidOutB Try.prog = true := by kernel_rfl

theorem Bytes.shape {w : World} {D : Nat → Prop} {A : Option Addr} {n c : Nat} {bs : List UInt8} (h : Bytes w D (.slice A n c) bs) : n = bs.length := by
  obtain ⟨A', c', e, _⟩ := h
  injection e
/-- Bytes that came in as an argument, and how many there are at most. -/
theorem open_arg_bytes {H : Type} {enc : TypeId × Value → H} {w : World} {v : Value} {d : DataW H} {p : List MemPlace} (hv : ∃ a l c, v = .slice a l c) (h : DataW.Trod enc Try.prog w 0 (fun _ => true) true 23 v d p) :
    ∃ bs, Bytes w (fun _ => True) v bs ∧ (bs = [] ∨ ∃ elems spare, d = .slice elems spare ∧ elems.length = bs.length) := by
  obtain ⟨a0, l0, c0, rfl⟩ := hv
  obtain ⟨fuel, hf⟩ := h
  have hf' : DataW.trod enc Try.prog w 0 (fun _ => true) true fuel 23 [.slice a0 l0 c0] = some (d, p) := hf
  obtain ⟨bs, hb⟩ := open_bytes hf'
  refine ⟨bs, hb, ?_⟩
  have hl := hb.shape
  rcases Go.Deep.open_slice Try.underlying23 hf' with ⟨hcs, _⟩ | ⟨a, len, cap, m, n, D, Pl, hcs, _, _, _, _, hx, _⟩
  · left
    have e : Value.slice a0 l0 c0 = .slice none 0 0 := by simpa using hcs
    injection e with _ e _
    exact List.eq_nil_of_length_eq_zero (by omega)
  · right
    have e : Value.slice a0 l0 c0 = .slice (some a) len cap := by simpa using hcs
    injection e with _ e _
    obtain ⟨rfl, _⟩ := Prod.mk.inj hx
    exact ⟨_, _, rfl, by simp; omega⟩

namespace EntryCodes
set_option maxRecDepth 100000 in
theorem lifted (os : Os) (started : os.Started) (H : Type) (enc : TypeId × Value → H) :
    ReturnsInHanded {} Try.checked os 3 .any (Rows.entryCodesSpec.pre6 enc Try.prog Try.f3 Rows.entryCodesRow.domain false) (Rows.entryCodesSpec.post enc Try.prog Try.f3 false true false false) := by
  refine returnsInHanded_of_change_sized (C := Try.checked) own started (by kernel_rfl) Try.func3
    (ChangeSpec.witness6 (enc := enc) (C := Try.checked) false ⟨#[], #[.agg #[.int .u64 0, .int .u64 0, .int .i64 0, .slice none 0 0], .slice none 0 0], []⟩ 8 (by kernel_rfl) (by kernel_rfl) (by kernel_rfl) (by kernel_rfl)) ?_
  intro W base args ds gs before hval0 hW hcnd hsz _
  have hval : ∀ (j : Nat) t v, Try.f3.params[j]? = some t → args[j]? = some v → Value.okWide Try.prog W .any base t v := hval0
  have hW' := hW
  obtain ⟨p, q, hA0, hV, rfl, hfz, hnd⟩ := hW
  have hA : DataW.TrodAll enc Try.prog W 0 (fun _ => true) true Try.f3.params.toList args.toList ds p := hA0
  rw [Try.params3] at hA hval
  obtain ⟨v0, vs0, d0, ds0, p0, q0, hargs, rfl, rfl, h0, r0⟩ := trodAll_cons hA
  obtain ⟨v1, vs1, d1, ds1, p1, q1, rfl, rfl, rfl, h1, r1⟩ := trodAll_cons r0
  obtain ⟨rfl, rfl, rfl⟩ := trodAll_nil r1
  obtain rfl : args = #[v0, v1] := by cases args; simp_all
  obtain ⟨rfl, rfl⟩ := trodVars_none hV
  have k0 := h0
  have k1 := h1
  have lt0 : ∀ x ∈ p0, x.block < W.heap.size := by obtain ⟨m, hm⟩ := k0; exact DataW.trod_lt m _ _ _ hm
  have lt1 : ∀ x ∈ p1, x.block < W.heap.size := by obtain ⟨m, hm⟩ := k1; exact DataW.trod_lt m _ _ _ hm
  obtain ⟨ei, et, ek, eu, ecs, rfl, hei, het, hec⟩ := open_ent (hval 0 25 v0 rfl rfl) h0
  obtain ⟨bs, hbs, hlen⟩ := open_arg_bytes (okWide_slice Try.underlying23 (hval 1 23 v1 rfl rfl)) h1
  have hl : bs.length ≤ lim := by
    rcases hlen with rfl | ⟨elems, spare, hd, hle⟩
    · exact Nat.zero_le _
    · have hs := sized_slice (j := 1) (t := 23) (e := 5) (elems := elems) (spare := spare) hsz (by rfl) (by rw [hd]; rfl) Try.underlying23
      have hB : Try.checked.prog.bytesOf 5 = 1 := by kernel_rfl
      rw [hB, Nat.mul_one] at hs
      have hR : reachBytes = lim := rfl
      omega
  clear hA0 hval0
  have hec' := hec
  have hbs' := hbs
  obtain ⟨eA, ec, hev, _⟩ := hec
  obtain ⟨bA, bc, hbv, _⟩ := hbs
  subst hev hbv
  have hx : ∃ (er : Int) (xs : List UInt8), (entRight ei et ek ecs.length = false ∧ er = 40 ∧ xs = []) ∨ (entRight ei et ek ecs.length = true ∧ er = 0 ∧ xs = entBytes ei et ek.toNat ecs) := by
    cases entRight ei et ek ecs.length with
    | false => exact ⟨40, [], .inl ⟨rfl, rfl, rfl⟩⟩
    | true => exact ⟨0, _, .inr ⟨rfl, rfl, rfl⟩⟩
  have hy : ∃ (dr : Int) (di dt : Nat) (dk : Int) (dcs : List UInt8), (decOk bs = false ∧ dr = 40 ∧ di = 0 ∧ dt = 0 ∧ dk = 0 ∧ dcs = []) ∨ (decOk bs = true ∧ dr = 0 ∧ di = num (decI bs).1 ∧ dt = num (decT bs).1 ∧ dk = (num (decK bs).1 : Int) ∧ dcs = (decD bs).1) := by
    cases decOk bs with
    | false => exact ⟨40, 0, 0, 0, [], .inl ⟨rfl, rfl, rfl, rfl, rfl, rfl⟩⟩
    | true => exact ⟨0, _, _, _, _, .inr ⟨rfl, rfl, rfl, rfl, rfl, rfl⟩⟩
  obtain ⟨er, xs, hx⟩ := hx
  obtain ⟨dr, di, dt, dk, dcs, hy⟩ := hy
  refine (codes_walk W ei et ek eA ec ecs bA bc bs xs dcs er dr di dt dk hei het hec' hbs' hl hx hy).mono fun e W' ⟨he, bel0⟩ => ?_
  subst he
  have bel := bel0.all
  exact ⟨_, rfl, _, _, _, [], _, [], hW', trodAll_mk1 (shut_bool Try.underlying4 _), (trodAll_cons_mk (Below.trod laidOut (by kernel_rfl) (of_decide_eq_true (by kernel_rfl)) k0 bel lt0) (trodAll_cons_mk (Below.trod laidOut (by kernel_rfl) (of_decide_eq_true (by kernel_rfl)) k1 bel lt1) trodAll_mk0)), rfl, bel.frame _, fun h => by cases h⟩

theorem over : Rows.entryCodesRow.holds Try.pinned (OpenSpec.ofChange Rows.entryCodesSpec) :=
  OpenClaim.holds_of_wide 3 Try.f3 rfl rfl rfl rfl rfl rfl rfl ⟨rfl, rfl, rfl, rfl, rfl⟩ rfl rfl rfl rfl rfl (by kernel_rfl) Try.func3 (by kernel_rfl)
    (of_decide_eq_true (by kernel_rfl)) (by unfold Func.isWrapper; first | (rw [if_pos (by decide +kernel)]; kernel_rfl) | (rw [if_neg (by decide +kernel)]; exact ⟨rfl, rfl⟩))
    (fun os started H enc _ => lifted os started H enc)

theorem proved : Rows.EntryCodesSaid := over
end EntryCodes
end Go.Proofs.Ytngbminjbgomgaa
