/-
  Proved: dockyardlaw08.StaleMore answers true for every input that can be read, and leaves its arguments as they were. No conditions.
-/
import Derived.Test.YtndojciealkhmaaStAlive
import Derived.Test.YtndojciealkhmaaStOpen
namespace Go.Proofs.Ytndojciealkhmaa
open Go.ChangeShapes Go.WideShapes Go.ChangeAt Go.RowKit

theorem Bls.cell {w : World} {D : Nat → Prop} {A : Option Addr} {c : Nat} {bs : List Bool} (h : Bls w D (.slice A bs.length c) bs) {k : Nat} {x : Bool} (hk : bs[k]? = some x) :
    ∃ b o, A = some ⟨b, o, none⟩ ∧ b < w.heap.size ∧ D b ∧ w.cell? ⟨b, o + k, none⟩ = some (.bool x) := by
  obtain ⟨A', c', hv', _, _, _, _, hrow⟩ := h
  obtain ⟨rfl, rfl⟩ : A = A' ∧ c = c' := by simpa using hv'
  have hlt := (List.getElem?_eq_some_iff.1 hk).1
  obtain ⟨ad, rfl, hsp, hblk, hD, hcell⟩ := hrow (by omega)
  obtain ⟨b, o, sp⟩ := ad
  simp only at hsp hblk hD hcell
  subst hsp
  exact ⟨b, o, rfl, hblk, hD, hcell k _ (by rw [List.getElem?_map, hk]; rfl)⟩
theorem Ints.cell {w : World} {D : Nat → Prop} {A : Option Addr} {c : Nat} {ns : List Nat} (h : Ints w D (.slice A ns.length c) ns) {k n : Nat} (hk : ns[k]? = some n) :
    ∃ b o, A = some ⟨b, o, none⟩ ∧ b < w.heap.size ∧ D b ∧ w.cell? ⟨b, o + k, none⟩ = some (.int .i64 (n : Int)) := by
  obtain ⟨A', c', hv', _, _, _, _, hrow⟩ := h
  obtain ⟨rfl, rfl⟩ : A = A' ∧ c = c' := by simpa using hv'
  have hlt := (List.getElem?_eq_some_iff.1 hk).1
  obtain ⟨ad, rfl, hsp, hblk, hD, hcell⟩ := hrow (by omega)
  obtain ⟨b, o, sp⟩ := ad
  simp only at hsp hblk hD hcell
  subst hsp
  exact ⟨b, o, rfl, hblk, hD, hcell k _ (by rw [List.getElem?_map, hk]; rfl)⟩
theorem Kys.cell {w : World} {D : Nat → Prop} {A : Option Addr} {c : Nat} {ks : List Nat} (h : Kys w D (.slice A ks.length c) ks) {k n : Nat} (hk : ks[k]? = some n) :
    ∃ b o, A = some ⟨b, o, none⟩ ∧ b < w.heap.size ∧ D b ∧ w.cell? ⟨b, o + k, none⟩ = some (.int .u64 (n : Int)) := by
  obtain ⟨⟨A', c', hv', _, _, _, _, hrow⟩, _⟩ := h
  obtain ⟨rfl, rfl⟩ : A = A' ∧ c = c' := by simpa using hv'
  have hlt := (List.getElem?_eq_some_iff.1 hk).1
  obtain ⟨ad, rfl, hsp, hblk, hD, hcell⟩ := hrow (by omega)
  obtain ⟨b, o, sp⟩ := ad
  simp only at hsp hblk hD hcell
  subst hsp
  exact ⟨b, o, rfl, hblk, hD, hcell k _ (by rw [List.getElem?_map, hk]; rfl)⟩

theorem fresh_valid {ps : List Pt} {P : Nat → Bool} {i : Nat} {x : Bool} (h : (grFresh ps P)[i]? = some x) : grCheck ps = 0 ∧ i < ps.length := by
  have hi := (List.getElem?_eq_some_iff.1 h).1
  rw [grFresh_length] at hi
  have hq : grCheck ps = 0 := Classical.byContradiction fun hq => by rw [order_none hq] at hi; simp at hi
  rw [order_len hq] at hi
  exact ⟨hq, hi⟩
theorem runOf_congr {α : Type} {f g : List α → Nat → α} (order : List Nat) (l : List α) (h : ∀ p ∈ order, ∀ l, f l p = g l p) : runOf f l order = runOf g l order := by
  unfold runOf
  induction order generalizing l with
  | nil => rfl
  | cons p os ih =>
    rw [List.foldl_cons, List.foldl_cons, h p (by simp) l]
    exact ih _ (fun q hq => h q (by simp [hq]))
theorem fresh_same {ps : List Pt} {P P' : Nat → Bool} (h : ∀ k ∈ grKeys ps, P k = P' k) : grFresh ps P = grFresh ps P' := by
  unfold grFresh
  refine runOf_congr _ _ (fun p hp l => ?_)
  unfold freshAt
  congr 1
  obtain ⟨i, hi⟩ := List.getElem?_of_mem hp
  obtain ⟨hq, hpl⟩ := order_some hi
  have hlt : p < (grKeys ps).length := by rw [grKeys_length, order_len hq]; exact hpl
  refine h _ ?_
  rw [List.getD_eq_getElem?_getD, List.getElem?_eq_getElem hlt]
  exact List.getElem_mem hlt
theorem fresh_more {ps : List Pt} {P P' : Nat → Bool} (h : ∀ k, P k = true → P' k = true) {i : Nat} (hi : (grFresh ps P)[i]? = some true) : (grFresh ps P')[i]? = some true := by
  obtain ⟨hq, hil⟩ := fresh_valid hi
  have key := by_order hq (Q := fun p => (grFresh ps P)[p]? = some true → (grFresh ps P')[p]? = some true) (fun p hp hn hP => by
    rw [grFresh_sol _ hq p hp] at hP ⊢
    injection hP with hP
    congr 1
    unfold freshAt at hP ⊢
    rw [Bool.and_eq_true, List.all_eq_true] at hP ⊢
    refine ⟨fun n hnn => ?_, h _ hP.2⟩
    have h1 := hP.1 n hnn
    have hnl := needsAt_lt hnn
    have h2 := hn n hnn (by
      rw [List.getD_eq_getElem?_getD] at h1
      cases hx : (grFresh ps P)[n]? with
      | none => rw [hx] at h1; cases h1
      | some x => rw [hx] at h1; rw [← h1]; rfl)
    rw [List.getD_eq_getElem?_getD, h2]
    rfl) i hil
  exact key hi

theorem can_call_more1 : CanCall 23 := enters_of Try.func23 (by kernel_rfl) rfl
theorem can_call_more2 : CanCall 24 := enters_of Try.func24 (by kernel_rfl) rfl
theorem can_call_more3 : CanCall 25 := enters_of Try.func25 (by kernel_rfl) rfl
theorem tells_more1 {w : World} {D : Nat → Prop} {Ab : Option Addr} {cb q : Nat} {bks : List Nat} (hq : Box w q 25 #[.slice Ab bks.length cb]) (hk : Kys w D (.slice Ab bks.length cb) bks) :
    Tells 23 #[.pointer (some ⟨q, 0, none⟩)] (fun k => bks.contains k) w := by
  intro W x k _
  show Calls Try.prog 23 #[.int .u64 (x : Int), .pointer (some ⟨q, 0, none⟩)] W fun e w' => e = .returned (.bool (bks.contains x)) ∧ W = w'
  have IN := Lib.hid (in64_any W D _ bks x (hk.keep k (fun _ _ _ => id)))
  have c0 : W.cell? ⟨q, 0, none⟩ = some (.slice Ab bks.length cb) := (hq.keep k id).cell 0
  generalize bks.contains x = R at *
  clear hq hk k
  go_enter Try.func23, Try.ntmps23
  go_wp2_with fail
  refine IN.out.mono ?_
  rintro e w1 ⟨rfl, rfl⟩
  clear IN
  go_wp2
  go_ret
  exact ⟨rfl, rfl⟩
theorem tells_more2 {w : World} {D D' : Nat → Prop} {Ab Am : Option Addr} {cb q cm r : Nat} {bks mks : List Nat} (hq : Box w q 25 #[.slice Ab bks.length cb]) (hk : Kys w D (.slice Ab bks.length cb) bks)
    (hr : Box w r 25 #[.slice Am mks.length cm]) (hm : Kys w D' (.slice Am mks.length cm) mks) :
    Tells 24 #[.pointer (some ⟨q, 0, none⟩), .pointer (some ⟨r, 0, none⟩)] (fun k => bks.contains k || mks.contains k) w := by
  intro W x k _
  show Calls Try.prog 24 #[.int .u64 (x : Int), .pointer (some ⟨q, 0, none⟩), .pointer (some ⟨r, 0, none⟩)] W fun e w' => e = .returned (.bool (bks.contains x || mks.contains x)) ∧ W = w'
  have IN := Lib.hid (in64_any W D _ bks x (hk.keep k (fun _ _ _ => id)))
  have IM := Lib.hid (in64_any W D' _ mks x (hm.keep k (fun _ _ _ => id)))
  have c0 : W.cell? ⟨q, 0, none⟩ = some (.slice Ab bks.length cb) := (hq.keep k id).cell 0
  have c1 : W.cell? ⟨r, 0, none⟩ = some (.slice Am mks.length cm) := (hr.keep k id).cell 0
  generalize bks.contains x = R at *
  generalize mks.contains x = R' at *
  clear hq hk k hr hm
  cases R with
  | true =>
    go_enter Try.func24, Try.ntmps24
    go_wp2_with fail
    refine IN.out.mono ?_
    rintro e w1 ⟨rfl, rfl⟩
    clear IN
    go_wp2
    go_ret
    exact ⟨rfl, rfl⟩
  | false =>
    go_enter Try.func24, Try.ntmps24
    go_wp2_with fail
    refine IN.out.mono ?_
    rintro e w1 ⟨rfl, rfl⟩
    clear IN
    go_wp2_with fail
    refine IM.out.mono ?_
    rintro e w1 ⟨rfl, rfl⟩
    clear IM
    go_wp2
    go_ret
    exact ⟨rfl, rfl⟩
theorem tells_more3 {w : World} {D D' : Nat → Prop} {Ab Am : Option Addr} {cb q cm r : Nat} {bks mks : List Nat} (hq : Box w q 25 #[.slice Ab bks.length cb]) (hk : Kys w D (.slice Ab bks.length cb) bks)
    (hr : Box w r 25 #[.slice Am mks.length cm]) (hm : Kys w D' (.slice Am mks.length cm) mks) :
    Tells 25 #[.pointer (some ⟨q, 0, none⟩), .pointer (some ⟨r, 0, none⟩)] (fun k => bks.contains k || !mks.contains k) w := by
  intro W x k _
  show Calls Try.prog 25 #[.int .u64 (x : Int), .pointer (some ⟨q, 0, none⟩), .pointer (some ⟨r, 0, none⟩)] W fun e w' => e = .returned (.bool (bks.contains x || !mks.contains x)) ∧ W = w'
  have IN := Lib.hid (in64_any W D _ bks x (hk.keep k (fun _ _ _ => id)))
  have IM := Lib.hid (in64_any W D' _ mks x (hm.keep k (fun _ _ _ => id)))
  have c0 : W.cell? ⟨q, 0, none⟩ = some (.slice Ab bks.length cb) := (hq.keep k id).cell 0
  have c1 : W.cell? ⟨r, 0, none⟩ = some (.slice Am mks.length cm) := (hr.keep k id).cell 0
  generalize bks.contains x = R at *
  generalize mks.contains x = R' at *
  clear hq hk k hr hm
  cases R with
  | true =>
    go_enter Try.func25, Try.ntmps25
    go_wp2_with fail
    refine IN.out.mono ?_
    rintro e w1 ⟨rfl, rfl⟩
    clear IN
    go_wp2
    go_ret
    exact ⟨rfl, rfl⟩
  | false =>
    go_enter Try.func25, Try.ntmps25
    go_wp2_with fail
    refine IN.out.mono ?_
    rintro e w1 ⟨rfl, rfl⟩
    clear IN
    go_wp2_with fail
    refine IM.out.mono ?_
    rintro e w1 ⟨rfl, rfl⟩
    clear IM
    cases R'
    all_goals
      go_wp2
      go_ret
      exact ⟨rfl, rfl⟩

set_option maxRecDepth 100000 in
set_option maxHeartbeats 4000000 in
theorem more_walk (w : World) (A : Option Addr) (c : Nat) (ts : List Tg) (h : Tgs w (fun _ => True) (.slice A ts.length c) ts) (Ab : Option Addr) (cb : Nat) (bks : List Nat) (hb : Kys w (fun _ => True) (.slice Ab bks.length cb) bks)
    (Am : Option Addr) (cm : Nat) (mks : List Nat) (hm : Kys w (fun _ => True) (.slice Am mks.length cm) mks) :
    Calls Try.prog 7 #[.agg #[.slice A ts.length c], .slice Ab bks.length cb, .slice Am mks.length cm] w fun e w' => e = .returned (.bool true) ∧ Keep noneOf w w' := by
  have HH := Lib.hid h
  have x0 := ((Box.new w 24 #[.slice A ts.length c]).alloc (.cells #[.slice Ab bks.length cb] 25)).alloc (.cells #[.slice Am mks.length cm] 25)
  have y0 := (Box.new (w.alloc (.cells #[.slice A ts.length c] 24)) 25 #[.slice Ab bks.length cb]).alloc (.cells #[.slice Am mks.length cm] 25)
  rw [show (w.alloc (.cells #[.slice A ts.length c] 24)).heap.size = w.heap.size + 1 from by simp] at y0
  have z0 := Box.new ((w.alloc (.cells #[.slice A ts.length c] 24)).alloc (.cells #[.slice Ab bks.length cb] 25)) 25 #[.slice Am mks.length cm]
  rw [show ((w.alloc (.cells #[.slice A ts.length c] 24)).alloc (.cells #[.slice Ab bks.length cb] 25)).heap.size = w.heap.size + 1 + 1 from by simp] at z0
  have ka := (((Keep.refl noneOf w).alloc (.cells #[.slice A ts.length c] 24)).alloc (.cells #[.slice Ab bks.length cb] 25)).alloc (.cells #[.slice Am mks.length cm] 25)
  have FR := Lib.hid (fresh_any _ _ _ ts (h.keep ka (fun _ _ _ => id)) _ _ can_call_more1 _ (tells_more1 y0 (hb.keep ka (fun _ _ _ => id))))
  have F2 : Hid (∀ w' q r, Keep noneOf w w' → Box w' q 25 #[.slice Ab bks.length cb] → Box w' r 25 #[.slice Am mks.length cm] → Calls Try.prog 15 #[.agg #[.slice A ts.length c], .func (.func 24) #[] #[.pointer (some ⟨q, 0, none⟩), .pointer (some ⟨r, 0, none⟩)]] w' (ToldBools (grFresh (ts.map Tg.plain) (fun k => bks.contains k || mks.contains k)) w')) :=
    Lib.hid fun w' q r k hq hr => fresh_any w' _ _ ts (HH.out.keep k (fun _ _ _ => id)) _ _ can_call_more2 _ (tells_more2 hq (hb.keep k (fun _ _ _ => id)) hr (hm.keep k (fun _ _ _ => id)))
  have KE : Hid (∀ w', Keep noneOf w w' → Calls Try.prog 13 #[.agg #[.slice A ts.length c]] w' (ToldKeys (grKeys (ts.map Tg.plain)) w')) := Lib.hid fun w' k => keys_any w' _ _ ts (HH.out.keep k (fun _ _ _ => id))
  have F3 : Hid (∀ w' q r D Ao co, Keep noneOf w w' → Box w' q 25 #[.slice Ab bks.length cb] → Box w' r 25 #[.slice Ao (grKeys (ts.map Tg.plain)).length co] → Kys w' D (.slice Ao (grKeys (ts.map Tg.plain)).length co) (grKeys (ts.map Tg.plain)) → Calls Try.prog 15 #[.agg #[.slice A ts.length c], .func (.func 25) #[] #[.pointer (some ⟨q, 0, none⟩), .pointer (some ⟨r, 0, none⟩)]] w' (ToldBools (grFresh (ts.map Tg.plain) (fun k => bks.contains k)) w')) :=
    Lib.hid fun w' q r D Ao co k hq hr ho => by
      have := fresh_any w' _ _ ts (HH.out.keep k (fun _ _ _ => id)) _ _ can_call_more3 _ (tells_more3 hq (hb.keep k (fun _ _ _ => id)) hr ho)
      rwa [fresh_same (P' := fun k => bks.contains k) (fun k hk => by rw [List.contains_iff_mem.2 hk]; simp)] at this
  have HMO : Hid (∀ (i : Nat), (grFresh (ts.map Tg.plain) (fun k => bks.contains k))[i]? = some true → (grFresh (ts.map Tg.plain) (fun k => bks.contains k || mks.contains k))[i]? = some true) := Lib.hid fun i h => fresh_more (fun k hk => by simp only [hk, Bool.true_or]) h
  have hl1 := grFresh_length (ts.map Tg.plain) (fun k => bks.contains k)
  have hl2 := grFresh_length (ts.map Tg.plain) (fun k => bks.contains k || mks.contains k)
  have h32 := order_32 (ts.map Tg.plain)
  generalize grFresh (ts.map Tg.plain) (fun k => bks.contains k) = fs at *
  generalize grFresh (ts.map Tg.plain) (fun k => bks.contains k || mks.contains k) = ms at *
  generalize grKeys (ts.map Tg.plain) = own at *
  have HL2 := Lib.hid (hl2.trans hl1.symm)
  rw [← hl1] at h32
  have HK0 := Lib.hid ka
  have HX0 := Lib.hid x0
  have HY0 := Lib.hid y0
  have HZ0 := Lib.hid z0
  clear ka x0 y0 z0 h hb hm hl1 hl2
  go_enter Try.func7, Try.ntmps7
  go_wp2_with fail
  refine FR.out.mono ?_
  rintro e w1 ⟨A1, c1, rfl, o1, k1⟩
  have K1 := HK0.out.trans k1 (fun _ _ h => h)
  have X1 := HX0.out.keep k1 id
  have Y1 := HY0.out.keep k1 id
  have Z1 := HZ0.out.keep k1 id
  have x1 : w1.cell? ⟨w.heap.size, 0, none⟩ = some (.slice A ts.length c) := X1.cell 0
  have F21 := Lib.hid (F2.out _ _ _ K1 Y1 Z1)
  have HK1 := Lib.hid K1
  have HX1 := Lib.hid X1
  have HY1 := Lib.hid Y1
  have HO1 := Lib.hid o1
  clear FR HK0 HX0 HY0 HZ0 k1 K1 X1 Y1 Z1 o1 F2
  go_wp2_with fail
  refine F21.out.mono ?_
  rintro e w2 ⟨A2, c2, rfl, o2, k2⟩
  rw [HL2.out]
  have K2 := HK1.out.trans k2 (fun _ _ h => h)
  have X2 := HX1.out.keep k2 id
  have x2 : w2.cell? ⟨w.heap.size, 0, none⟩ = some (.slice A ts.length c) := X2.cell 0
  have KE2 := Lib.hid (KE.out _ K2)
  have HK2 := Lib.hid K2
  have HX2 := Lib.hid X2
  have HY2 := Lib.hid (HY1.out.keep k2 id)
  have HO2 := Lib.hid (HO1.out.keep k2 (fun _ _ _ => id))
  have HP2 := Lib.hid o2
  clear F21 HK1 HX1 HO1 HY1 k2 o2 x1 K2 X2 KE
  go_wp2_with fail
  refine KE2.out.mono ?_
  rintro e w3 ⟨A3, c3, rfl, o3, k3⟩
  have X3 := (HX2.out.keep k3 id).alloc (.cells #[.slice A3 own.length c3] 25)
  have x3 : (w3.alloc (.cells #[.slice A3 own.length c3] 25)).cell? ⟨w.heap.size, 0, none⟩ = some (.slice A ts.length c) := X3.cell 0
  have Y3 := (HY2.out.keep k3 id).alloc (.cells #[.slice A3 own.length c3] 25)
  have W3 := Box.new w3 25 #[.slice A3 own.length c3]
  have ka3 := (Keep.refl noneOf w3).alloc (.cells #[.slice A3 own.length c3] 25)
  have k33 := k3.trans ka3 (fun _ _ h => h)
  have F33 := Lib.hid (F3.out _ _ _ _ _ _ (HK2.out.trans k33 (fun _ _ h => h)) Y3 W3 (o3.keep ka3 (fun _ _ _ => id)))
  have HK3 := Lib.hid (HK2.out.trans k33 (fun _ _ h => h))
  have HO3 := Lib.hid (HO2.out.keep k33 (fun _ _ _ => id))
  have HP3 := Lib.hid (HP2.out.keep k33 (fun _ _ _ => id))
  clear KE2 HK2 HX2 HO2 HY2 HP2 k3 o3 x2 X3 Y3 W3 ka3 k33 F3
  go_wp2_with fail
  generalize w3.alloc (.cells #[.slice A3 own.length c3] 25) = w4 at *
  refine F33.out.mono ?_
  rintro e w5 ⟨A5, c5, rfl, o5, k5⟩
  have HK5 := Lib.hid (HK3.out.trans k5 (fun _ _ h => h))
  have HO5 := Lib.hid (HO3.out.keep k5 (fun _ _ _ => id))
  have HP5 := Lib.hid (HP3.out.keep k5 (fun _ _ _ => id))
  have HQ5 := Lib.hid o5
  clear F33 HK3 HO3 HP3 k5 o5 x3
  go_wp2_with fail
  refine (alive_any w5).mono ?_
  rintro e w6 ⟨rfl, k6⟩
  have HK6 := Lib.hid (HK5.out.trans k6 (fun _ _ h => h))
  have HO6 := Lib.hid (HO5.out.keep k6 (fun _ _ _ => id))
  have HP6 := Lib.hid (HP5.out.keep k6 (fun _ _ _ => id))
  have HQ6 := Lib.hid (HQ5.out.keep k6 (fun _ _ _ => id))
  have g0 : ((fs.length : Int) != (fs.length : Int)) = false := by rw [bne_self_eq_false]
  clear HK5 HO5 HP5 HQ5 k6
  go_wp2
  generalize w6 = W6 at *
  go_loopw [41] (fun i wx => ∃ k : Nat, k ≤ fs.length ∧ i = .int .i64 k ∧ Keep noneOf W6 wx) (fun i _ => fs.length - (intOf i).toNat)
  case atStart => exact ⟨0, Nat.zero_le _, rfl, Keep.refl _ _⟩
  case round =>
    obtain ⟨k, hk, rfl, hkw⟩ := hrel
    have HKW := Lib.hid hkw
    by_cases hlt : k < fs.length
    · have HS := Lib.hid (List.getElem?_eq_getElem hlt)
      have hlt2 : k < ms.length := by rw [HL2.out]; exact hlt
      have HS2 := Lib.hid (List.getElem?_eq_getElem hlt2)
      obtain ⟨b1, o1, rfl, _, _, d1⟩ := (HO6.out.keep hkw (fun _ _ _ => id)).cell HS.out
      obtain ⟨b2, o2, rfl, _, _, d2⟩ := (HP6.out.keep hkw (fun _ _ _ => id)).cell HS2.out
      obtain ⟨b3, o3, rfl, _, _, d3⟩ := (HQ6.out.keep hkw (fun _ _ _ => id)).cell HS.out
      have HXY : Hid (fs[k] = true → ms[k] = true) := Lib.hid fun e => by
        have := HMO.out k (by rw [HS.out, e])
        rw [HS2.out] at this
        injection this
      generalize fs[k] = x at *
      generalize ms[k] = y at *
      have q1 : (0 : Int) ≤ (k : Int) := by omega
      have q2 : (k : Int) < (fs.length : Int) := by omega
      clear hkw
      cases x with
      | true =>
        have hy : y = true := HXY.out rfl
        subst hy
        clear HXY HS HS2
        go_wp2
        go_quiet (fail)
        go_wp2
        go_roundw
        case rel => exact ⟨k + 1, by omega, by go_num, HKW.out.drewN _⟩
        case measure => simp [intOf]; omega
      | false =>
        clear HXY HS HS2
        go_wp2
        go_quiet (fail)
        go_wp2
        go_roundw
        case rel => exact ⟨k + 1, by omega, by go_num, HKW.out.drewN _⟩
        case measure => simp [intOf]; omega
    · have hkn : ¬ ((k : Int) < (fs.length : Int)) := by omega
      have HK9 := Lib.hid (HK6.out.trans hkw (fun _ _ h => h))
      clear hlt hkw
      go_wp2
      go_ret
      exact ⟨rfl, HK9.out⟩

namespace StaleMore
set_option maxRecDepth 100000 in
theorem lifted (os : Os) (started : os.Started) (H : Type) (enc : TypeId × Value → H) :
    ReturnsInHanded {} Try.checked os 7 .any (Rows.staleMoreSpec.pre6 enc Try.prog Try.f7 Rows.staleMoreRow.domain false) (Rows.staleMoreSpec.post enc Try.prog Try.f7 false true false false) := by
  refine returnsInHanded_of_change_sized (C := Try.checked) own started (by kernel_rfl) Try.func7
    (ChangeSpec.witness6 (enc := enc) (C := Try.checked) false ⟨#[], #[.agg #[.slice none 0 0], .slice none 0 0, .slice none 0 0], []⟩ 8 (by kernel_rfl) (by kernel_rfl) (by kernel_rfl) (by kernel_rfl)) ?_
  intro W base args ds gs before hval0 hW hcnd hsz _
  have hval : ∀ (j : Nat) t v, Try.f7.params[j]? = some t → args[j]? = some v → Value.okWide Try.prog W .any base t v := hval0
  have hW' := hW
  obtain ⟨p, q, hA0, hV, rfl, hfz, hnd⟩ := hW
  have hA : DataW.TrodAll enc Try.prog W 0 (fun _ => true) true Try.f7.params.toList args.toList ds p := hA0
  rw [Try.params7] at hA hval
  obtain ⟨v0, vs0, d0, ds0, p0, q0, hargs, rfl, rfl, h0, r0⟩ := trodAll_cons hA
  obtain ⟨v1, vs1, d1, ds1, p1, q1, rfl, rfl, rfl, h1, r1⟩ := trodAll_cons r0
  obtain ⟨v2, vs2, d2, ds2, p2, q2, rfl, rfl, rfl, h2, r2⟩ := trodAll_cons r1
  obtain ⟨rfl, rfl, rfl⟩ := trodAll_nil r2
  obtain rfl : args = #[v0, v1, v2] := by cases args; simp_all
  obtain ⟨rfl, rfl⟩ := trodVars_none hV
  have k0 := h0
  have lt0 : ∀ x ∈ p0, x.block < W.heap.size := by obtain ⟨m, hm⟩ := k0; exact DataW.trod_lt m _ _ _ hm
  have k1 := h1
  have lt1 : ∀ x ∈ p1, x.block < W.heap.size := by obtain ⟨m, hm⟩ := k1; exact DataW.trod_lt m _ _ _ hm
  have k2 := h2
  have lt2 : ∀ x ∈ p2, x.block < W.heap.size := by obtain ⟨m, hm⟩ := k2; exact DataW.trod_lt m _ _ _ hm
  obtain ⟨A0, c0, ts0, rfl, hts0, h560, h160⟩ := open_graph (hval 0 24 v0 rfl rfl) h0 (light_arg hsz (j := 0) rfl rfl)
  obtain ⟨A1, c1, ks1, rfl, hks1, h81⟩ := open_arg_u64s (hval 1 25 v1 rfl rfl) h1 (light_arg hsz (j := 1) rfl rfl)
  obtain ⟨A2, c2, ks2, rfl, hks2, h82⟩ := open_arg_u64s (hval 2 25 v2 rfl rfl) h2 (light_arg hsz (j := 2) rfl rfl)
  clear hA0 hval0
  refine (more_walk W A0 c0 ts0 hts0 A1 c1 ks1 hks1 A2 c2 ks2 hks2).mono fun e W' ⟨he, bel0⟩ => ?_
  subst he
  have bel := bel0.all
  exact ⟨_, rfl, _, _, _, [], _, [], hW', trodAll_mk1 (shut_bool Try.underlying4 _), (trodAll_cons_mk (Below.trod laidOut (by kernel_rfl) (of_decide_eq_true (by kernel_rfl)) k0 bel lt0) (trodAll_cons_mk (Below.trod laidOut (by kernel_rfl) (of_decide_eq_true (by kernel_rfl)) k1 bel lt1) (trodAll_cons_mk (Below.trod laidOut (by kernel_rfl) (of_decide_eq_true (by kernel_rfl)) k2 bel lt2) trodAll_mk0))), rfl, bel.frame _, fun h => by cases h⟩

theorem over : Rows.staleMoreRow.holds Try.pinned (OpenSpec.ofChange Rows.staleMoreSpec) :=
  OpenClaim.holds_of_wide 7 Try.f7 rfl rfl rfl rfl rfl rfl rfl ⟨rfl, rfl, rfl, rfl, rfl⟩ rfl rfl rfl rfl rfl (by kernel_rfl) Try.func7 (by kernel_rfl)
    (of_decide_eq_true (by kernel_rfl)) (by unfold Func.isWrapper; first | (rw [if_pos (by decide +kernel)]; kernel_rfl) | (rw [if_neg (by decide +kernel)]; exact ⟨rfl, rfl⟩))
    (fun os started H enc _ => lifted os started H enc)

theorem proved : Rows.StaleMoreSaid := over
end StaleMore
end Go.Proofs.Ytndojciealkhmaa
