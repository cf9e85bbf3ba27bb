/-
  The document's graphs, read: dockyardref04.GetTargets.
-/
import Derived.Test.YtngbminjbgomgaaRefText
import Derived.Test.YtngbminjbgomgaaPlain4
import Derived.Test.YtngbminjbgomgaaSameEntry
import Derived.Laws.OwnMore
import Derived.Deep.DeepCutAuto
import Derived.Maps.AppendAt
namespace Go.Proofs.Ytngbminjbgomgaa
open Go.RowKit

/-- A target whose needs lie in a row of their own. -/
def heldT (base : Nat) (w : World) (t : Tg) : Prop := t.name.size ≤ maxLen ∧ t.cmd.size ≤ maxLen ∧ w.ownsRow base 9 1 t.nv t.needs.length (t.needs.map Value.string) ∧ ∀ s ∈ t.needs, s.size ≤ maxLen
theorem heldT.keep {base : Nat} {w w' : World} {t : Tg} {S : Nat → Prop} (h : heldT base w t) (k : Keep S w w') (hS : ∀ i, i < w.heap.size → S i → i < base ∨ ∃ cs fz, w.heap[i]? = some (.cells cs 102 fz)) : heldT base w' t := by
  refine ⟨h.1, h.2.1, own_keep h.2.2.1 k (fun j hj hs => ?_), h.2.2.2⟩
  rcases h.2.2.1.2 with ⟨hv, _⟩ | ⟨g, cap, cur, hv, hb, hg, _⟩
  · rw [hv] at hj
    cases hj
  · rw [hv] at hj
    have : g = j := by simpa [Value.ownBlock] using hj
    subst this
    rcases hS g (Array.getElem?_eq_some_iff.1 hg).1 hs with h1 | ⟨cs, fz, h1⟩
    · omega
    · rw [hg] at h1
      injection h1 with h1
      injection h1 with _ h2
      exact absurd h2 (by decide)
theorem Tgs.of_held {w : World} {base : Nat} {v : Value} {ts : List Tg} (h : w.ownsRow base 102 3 v ts.length (ts.flatMap Tg.cells)) (hl : ∀ t ∈ ts, heldT base w t) : Tgs w (fun k => base ≤ k) v ts :=
  ⟨Row.of_own h, fun t ht => ⟨(hl t ht).1, (hl t ht).2.1, Row.of_own (hl t ht).2.2.1, (hl t ht).2.2.2⟩⟩
theorem own_row {w : World} {base : Nat} {e : TypeId} {size : Nat} {v : Value} {n : Nat} {xs : List Value} (h : w.ownsRow base e size v n xs) {k : Nat} (hk : some k = v.ownBlock) : base ≤ k ∧ ∃ cs fz, w.heap[k]? = some (.cells cs e fz) := by
  rcases h.2 with ⟨rfl, _⟩ | ⟨g, cap, cur, rfl, hb, hg, _⟩
  · cases hk
  · have : k = g := by simpa [Value.ownBlock] using hk
    subst this
    exact ⟨hb, _, _, hg⟩
theorem own_base {w : World} {base base' : Nat} {e : TypeId} {size : Nat} {v : Value} {n : Nat} {xs : List Value} (h : w.ownsRow base e size v n xs) (hb : base' ≤ base) : w.ownsRow base' e size v n xs := by
  refine ⟨h.1, ?_⟩
  rcases h.2 with h0 | ⟨g, cap, cur, hv, hg, rest⟩
  · exact .inl h0
  · exact .inr ⟨g, cap, cur, hv, Nat.le_trans hb hg, rest⟩
theorem text_size (s : Rs) (most : Nat) : (strOf (s.text most).1).size ≤ most := by
  by_cases h : (s.text most).2.err = 0
  · have := (text_was s most h).2
    rw [← sb_length, sb_strOf]
    exact this
  · have e : (s.text most).1 = [] := by
      rw [text_var] at h ⊢
      split
      · rfl
      · rename_i h1
        split
        · rfl
        · rename_i h2
          rw [if_neg h1, if_neg h2] at h
          unfold Rs.take at h
          rw [if_neg (fun h => h rfl)] at h
          exfalso
          split at h
          · rename_i h3
            exact h2 h3
          · exact h rfl
    rw [e]
    exact Nat.zero_le _

/-- What is behind GetTargets. -/
def RefGotTgs (w : World) (v : Value) (bs : List UInt8) (pts : List Pt) (s : Rs) (e : Ending) (w' : World) : Prop :=
  ∃ (at' : Nat) (A : Option Addr) (c : Nat) (ts : List Tg), e = .returned (.tuple #[.agg #[v, .int .i64 at', .int .i64 s.err], .slice A ts.length c]) ∧ at' ≤ bs.length ∧ bs.drop at' = s.left ∧ Keep noneOf w w' ∧ Tgs w' (fun k => w.heap.size ≤ k) (.slice A ts.length c) ts ∧ ts.map Tg.plain = pts

set_option maxRecDepth 100000 in
set_option maxHeartbeats 8000000 in
theorem refGetTargets_any (w : World) (D : Nat → Prop) (A : Option Addr) (c : Nat) (bs : List UInt8) (p : Nat) (er : Int) (pts : List Pt) (s : Rs) (hs : Bytes w D (.slice A bs.length c) bs) (hl : bs.length ≤ lim) (hp : p ≤ bs.length) (h : rdGraph ⟨bs.drop p, er⟩ = (pts, s)) :
    Calls Try.prog 43 #[.agg #[.slice A bs.length c, .int .i64 p, .int .i64 er]] w (RefGotTgs w (.slice A bs.length c) bs pts s) := by
  obtain ⟨i9, hi9, hz9, hs9, hb9⟩ := info_parts strinfo
  obtain ⟨i39, hi39, hz39, hs39, hb39⟩ := info_parts tginfo
  obtain ⟨K0, X0, Y0⟩ := two_boxes w #[.slice A bs.length c, .int .i64 p, .int .i64 er] #[.slice none 0 0, .int .i64 0, .int .i64 0] 67
  obtain ⟨n, s1, hv⟩ : ∃ n s1, Rs.var ⟨bs.drop p, er⟩ 32 = (n, s1) := ⟨_, _, rfl⟩
  have hn32 : n ≤ 32 := by have := var_le ⟨bs.drop p, er⟩ 32; rw [hv] at this; exact this
  unfold rdGraph at h
  rw [hv] at h
  have HRD := Lib.hid h
  have GV := Lib.hid (refGetVar_any _ D A c bs p 32 er n s1 (hs.keep K0 (fun _ _ _ => id)) hl hp hv)
  have HS := Lib.hid hs
  have HL := Lib.hid hl
  have HK0 := Lib.hid K0
  have HX0 := Lib.hid X0
  have HY0 := Lib.hid Y0
  clear h hs hl K0 X0 Y0 hv
  go_enter Try.func43, Try.ntmps43
  go_wp2_with fail
  refine GV.out.mono ?_
  rintro e w1 ⟨at1, rfl, ha1, hd1, k1⟩
  have X1 := HX0.out.keep k1 id
  have x10 := X1.cell 0
  have x11 := X1.cell 1
  have x12 := X1.cell 2
  have f10 := X1.free 0
  have f11 := X1.free 1
  have f12 := X1.free 2
  simp only [List.getElem?_toArray, List.getElem?_cons_zero, List.getElem?_cons_succ] at x10 x11 x12
  have HX2 := Lib.hid (X1.put3 (.slice A bs.length c) (.int .i64 at1) (.int .i64 s1.err))
  have HY2 := Lib.hid ((HY0.out.keep k1 id).keep (Keep.put3 w.heap.size (.slice A bs.length c) (.int .i64 at1) (.int .i64 s1.err)) (by omega))
  have HK2 := Lib.hid ((HK0.out.trans k1 (fun _ _ h => h)).trans (Keep.put3 w.heap.size (.slice A bs.length c) (.int .i64 at1) (.int .i64 s1.err)) (fun i hi e => by omega))
  have HD1 := Lib.hid hd1
  have hs1 : s1 = ⟨bs.drop at1, s1.err⟩ := by rw [hd1]
  rw [hs1] at HRD
  generalize s1.err = er1 at *
  clear GV HK0 HX0 HY0 k1 X1 hd1 hs1
  go_upto_region 2 with fail
  generalize ((w1.setCell ⟨w.heap.size, 0, none⟩ (.slice A bs.length c)).setCell ⟨w.heap.size, 1, none⟩ (.int .i64 at1)).setCell ⟨w.heap.size, 2, none⟩ (.int .i64 er1) = w2 at *
  clear x10 x11 x12 f10 f11 f12
  go_wp2
  generalize hR0 : w.heap.size = R at *
  have HR0 := Lib.hid hR0
  clear hR0
  go_loopw [5, 6] (fun l i wr => ∃ (g done at' : Nat) (er' : Int) (hts : List Tg), done + g = n ∧ i = .int .u64 (done : Int) ∧ hts.length = done ∧ at' ≤ bs.length ∧ Keep noneOf w wr ∧ Box wr R 67 #[.slice A bs.length c, .int .i64 at', .int .i64 er'] ∧ Box wr (R + 1) 67 #[.slice none 0 0, .int .i64 0, .int .i64 0] ∧ wr.ownsRow (R + 2) 102 3 l hts.length (hts.flatMap Tg.cells) ∧ (∀ t ∈ hts, heldT (R + 2) wr t) ∧ hts.map Tg.plain ++ (rdTargets g ⟨bs.drop at', er'⟩).1 = pts ∧ (rdTargets g ⟨bs.drop at', er'⟩).2 = s) (fun _ i _ => n - (intOf i).toNat)
  case atStart => exact ⟨n, 0, at1, er1, [], by omega, rfl, rfl, ha1, HK2.out, HX2.out, HY2.out, World.ownsRow_nil _ _ _ _, by simp, by rw [HRD.out]; rfl, by rw [HRD.out]⟩
  case round =>
    obtain ⟨g, done, at', er', hts, hgn, rfl, hlen, hat, hkeep, hX, hY, hown, hheld, hpts, hsx⟩ := hrel
    have HKP := Lib.hid hkeep
    have HX := Lib.hid hX
    have HY := Lib.hid hY
    have HOWN := Lib.hid hown
    have HHELD := Lib.hid hheld
    have HPTS := Lib.hid hpts
    have HSX := Lib.hid hsx
    have x0 := hX.cell 0
    have x1 := hX.cell 1
    have x2 := hX.cell 2
    simp only [List.getElem?_toArray, List.getElem?_cons_zero, List.getElem?_cons_succ] at x0 x1 x2
    have hz := hX.lt
    have hz1 := hY.lt
    have HLEN := Lib.hid hlen
    have hd32 : hts.length ≤ 32 := by omega
    have hd0 : done ≤ 32 := by omega
    clear HX2 HY2 HK2 HRD hpts hsx hheld hlen
    by_cases hgo : g ≠ 0 ∧ er' = 0
    · obtain ⟨hg0, rfl⟩ := hgo
      obtain ⟨g', rfl⟩ : ∃ g', g = g' + 1 := ⟨g - 1, by omega⟩
      obtain ⟨cs1, sa, ht1⟩ : ∃ a b, Rs.text ⟨bs.drop at', 0⟩ 32 = (a, b) := ⟨_, _, rfl⟩
      obtain ⟨cs2, sb2, ht2⟩ : ∃ a b, Rs.text sa 256 = (a, b) := ⟨_, _, rfl⟩
      obtain ⟨m, sc, ht3⟩ : ∃ a b, Rs.var sb2 16 = (a, b) := ⟨_, _, rfl⟩
      obtain ⟨ns, sd, ht4⟩ : ∃ a b, rdTexts m sc = (a, b) := ⟨_, _, rfl⟩
      have hz1s : (strOf cs1).size ≤ 32 := by have := text_size ⟨bs.drop at', 0⟩ 32; rw [ht1] at this; exact this
      have hz2s : (strOf cs2).size ≤ 256 := by have := text_size sa 256; rw [ht2] at this; exact this
      have hm16 : m ≤ 16 := by have := var_le sb2 16; rw [ht3] at this; exact this
      have hrt : rdTargets (g' + 1) ⟨bs.drop at', 0⟩ = (⟨strOf cs1, strOf cs2, ns⟩ :: (rdTargets g' sd).1, (rdTargets g' sd).2) := by
        rw [rdTargets, if_neg (fun h => h rfl)]
        unfold rdTarget
        simp only [ht1, ht2, ht3, ht4]
      rw [hrt] at HPTS HSX
      have HZ1 := Lib.hid hz1s
      have HZ2 := Lib.hid hz2s
      have HT4 := Lib.hid ht4
      have ka := (Keep.refl noneOf wr).alloc (.cells #[.string ⟨#[]⟩, .string ⟨#[]⟩, .slice none 0 0] 102)
      have GT1 := Lib.hid (refGetText_any _ D A c bs cs1 at' 32 0 sa (by decide) (HS.out.keep (hkeep.trans ka (fun _ _ h => h)) (fun _ _ _ => id)) HL.out hat ht1)
      have x0a := (hX.keep ka id).cell 0
      have x1a := (hX.keep ka id).cell 1
      have x2a := (hX.keep ka id).cell 2
      simp only [List.getElem?_toArray, List.getElem?_cons_zero, List.getElem?_cons_succ] at x0a x1a x2a
      have HXA := Lib.hid (hX.keep ka id)
      have HTA := Lib.hid (Box.new wr 102 #[.string ⟨#[]⟩, .string ⟨#[]⟩, .slice none 0 0])
      have HKA := Lib.hid (ka.mono (T := fun b => b = R) (fun _ _ h => h.elim))
      have g1'' : decide (done < n) = true := decide_eq_true (by omega)
      have g1' : decide ((done : Int) < (n : Int)) = true := decide_eq_true (by omega)
      clear hrt hz1s hz2s ht1 ht4 ka hX hY hown hg0
      go_wp2_with fail
      clear x0a x1a x2a
      generalize htb : wr.heap.size = TB at *
      have HTB := Lib.hid htb
      clear htb
      generalize wr.alloc (.cells #[.string ⟨#[]⟩, .string ⟨#[]⟩, .slice none 0 0] 102) = w2a at *
      refine GT1.out.mono ?_
      rintro e w3 ⟨at3, u3, rfl, ha3, hd3, F3⟩
      obtain ⟨A3, c3, hu3⟩ := own_shape F3.own
      subst hu3
      have X3 := HXA.out.keep F3.keep id
      have x3 := X3.cell 0
      have x3' := X3.cell 1
      have x3'' := X3.cell 2
      have f3 := X3.free 0
      have f3' := X3.free 1
      have f3'' := X3.free 2
      simp only [List.getElem?_toArray, List.getElem?_cons_zero, List.getElem?_cons_succ] at x3 x3' x3''
      have kp3 := Keep.put3 (w := w3) R (.slice A bs.length c) (.int .i64 at3) (.int .i64 sa.err)
      have hRT : R ≠ TB := by have := HTB.out; omega
      have HX4 := Lib.hid (X3.put3 (.slice A bs.length c) (.int .i64 at3) (.int .i64 sa.err))
      have HT4a := Lib.hid ((HTA.out.keep F3.keep id).keep kp3 (fun e => hRT e.symm))
      have HB4 := Lib.hid (F3.bytes.keep kp3 (fun i _ hi e => by have := HXA.out.lt; omega))
      have HK4 := Lib.hid (((HKA.out.trans (F3.keep.mono (T := fun b => b = R) (fun _ _ h => h.elim)) (fun _ _ h => h))).trans kp3 (fun _ _ h => h))
      have hsa : sa = ⟨bs.drop at3, sa.err⟩ := by rw [hd3]
      rw [hsa] at ht2
      generalize sa.err = ea at *
      clear GT1 F3 X3 kp3 hsa hd3 HXA HTA HKA
      go_upto_region 9 with fail
      generalize ((w3.setCell ⟨R, 0, none⟩ (.slice A bs.length c)).setCell ⟨R, 1, none⟩ (.int .i64 at3)).setCell ⟨R, 2, none⟩ (.int .i64 ea) = w4 at *
      clear x3 x3' x3'' f3 f3' f3''
      have hstr4 := run_str HB4.out
      have t40 := HT4a.out.cell 0
      have ft40 := HT4a.out.free 0
      simp only [List.getElem?_toArray, List.getElem?_cons_zero] at t40
      have ks4 := (Keep.refl (fun b => b = TB) w4).setCell (p := ⟨TB, 0, none⟩) (fun _ => rfl) (.string (strOf cs1))
      have X5 := HX4.out.keep ks4 hRT
      have x50 := X5.cell 0
      have x51 := X5.cell 1
      have x52 := X5.cell 2
      simp only [List.getElem?_toArray, List.getElem?_cons_zero, List.getElem?_cons_succ] at x50 x51 x52
      have HX5 := Lib.hid X5
      have HT5 := Lib.hid (HT4a.out.put 0 (.string (strOf cs1)))
      have hTBw : wr.heap.size ≤ TB := by rw [HTB.out]; exact Nat.le_refl _
      have HK5 := Lib.hid (HK4.out.trans ks4 (fun i hi e => by omega))
      have K5w : Keep noneOf w (w4.setCell ⟨TB, 0, none⟩ (.string (strOf cs1))) := hkeep.trans HK5.out (fun i hi e => by have := HR0.out; omega)
      have GT2 := Lib.hid (refGetText_any _ D A c bs cs2 at3 256 ea sb2 (by decide) (HS.out.keep K5w (fun _ _ _ => id)) HL.out ha3 ht2)
      generalize hnm : strOf cs1 = nm at *
      clear HX4 HT4a HK4 HB4 X5 ks4 ht2 K5w hnm
      go_wp2_with fail
      clear hstr4 t40 ft40 x50 x51 x52
      generalize w4.setCell ⟨TB, 0, none⟩ (.string nm) = w5 at *
      refine GT2.out.mono ?_
      rintro e w6 ⟨at6, u6, rfl, ha6, hd6, F6⟩
      obtain ⟨A6, c6, hu6⟩ := own_shape F6.own
      subst hu6
      have X6 := HX5.out.keep F6.keep id
      have x6 := X6.cell 0
      have x6' := X6.cell 1
      have x6'' := X6.cell 2
      have f6 := X6.free 0
      have f6' := X6.free 1
      have f6'' := X6.free 2
      simp only [List.getElem?_toArray, List.getElem?_cons_zero, List.getElem?_cons_succ] at x6 x6' x6''
      have kp6 := Keep.put3 (w := w6) R (.slice A bs.length c) (.int .i64 at6) (.int .i64 sb2.err)
      have HX7 := Lib.hid (X6.put3 (.slice A bs.length c) (.int .i64 at6) (.int .i64 sb2.err))
      have HT7 := Lib.hid ((HT5.out.keep F6.keep id).keep kp6 (fun e => hRT e.symm))
      have HB7 := Lib.hid (F6.bytes.keep kp6 (fun i _ hi e => by have := HX5.out.lt; omega))
      have HK7 := Lib.hid (((HK5.out.trans (F6.keep.mono (T := fun b => b = R) (fun _ _ h => h.elim)) (fun _ _ h => h))).trans kp6 (fun _ _ h => h))
      have hsb : sb2 = ⟨bs.drop at6, sb2.err⟩ := by rw [hd6]
      rw [hsb] at ht3
      generalize sb2.err = eb at *
      clear GT2 F6 X6 kp6 hsb hd6 HX5 HT5 HK5
      go_upto_region 11 with fail
      generalize ((w6.setCell ⟨R, 0, none⟩ (.slice A bs.length c)).setCell ⟨R, 1, none⟩ (.int .i64 at6)).setCell ⟨R, 2, none⟩ (.int .i64 eb) = w7 at *
      clear x6 x6' x6'' f6 f6' f6''
      have hstr7 := run_str HB7.out
      have t71 := HT7.out.cell 1
      have ft71 := HT7.out.free 1
      rw [Array.getElem?_setIfInBounds] at t71
      simp only [List.getElem?_toArray, List.getElem?_cons_zero, List.getElem?_cons_succ, if_neg (show ¬ ((0 : Nat) = 1) by decide)] at t71
      have ks7 := (Keep.refl (fun b => b = TB) w7).setCell (p := ⟨TB, 1, none⟩) (fun _ => rfl) (.string (strOf cs2))
      have X8 := HX7.out.keep ks7 hRT
      have x80 := X8.cell 0
      have x81 := X8.cell 1
      have x82 := X8.cell 2
      simp only [List.getElem?_toArray, List.getElem?_cons_zero, List.getElem?_cons_succ] at x80 x81 x82
      have HX8 := Lib.hid X8
      have ht8 : Box (w7.setCell ⟨TB, 1, none⟩ (.string (strOf cs2))) TB 102 #[.string nm, .string (strOf cs2), .slice none 0 0] := HT7.out.put 1 (.string (strOf cs2))
      have HT8 := Lib.hid ht8
      have HK8 := Lib.hid (HK7.out.trans ks7 (fun i hi e => by omega))
      have K8w : Keep noneOf w (w7.setCell ⟨TB, 1, none⟩ (.string (strOf cs2))) := hkeep.trans HK8.out (fun i hi e => by have := HR0.out; omega)
      have GV3 := Lib.hid (refGetVar_any _ D A c bs at6 16 eb m sc (HS.out.keep K8w (fun _ _ _ => id)) HL.out ha6 ht3)
      generalize hcm : strOf cs2 = cm at *
      clear HX7 HT7 HK7 HB7 X8 ks7 ht3 K8w hcm ht8
      go_wp2_with fail
      clear hstr7 t71 ft71 x80 x81 x82
      generalize w7.setCell ⟨TB, 1, none⟩ (.string cm) = w8 at *
      refine GV3.out.mono ?_
      rintro e w9 ⟨at9, rfl, ha9, hd9, k9⟩
      have X9 := HX8.out.keep k9 id
      have x9 := X9.cell 0
      have x9' := X9.cell 1
      have x9'' := X9.cell 2
      have f9 := X9.free 0
      have f9' := X9.free 1
      have f9'' := X9.free 2
      simp only [List.getElem?_toArray, List.getElem?_cons_zero, List.getElem?_cons_succ] at x9 x9' x9''
      have kp9 := Keep.put3 (w := w9) R (.slice A bs.length c) (.int .i64 at9) (.int .i64 sc.err)
      have HX10 := Lib.hid (X9.put3 (.slice A bs.length c) (.int .i64 at9) (.int .i64 sc.err))
      have HT10 := Lib.hid ((HT8.out.keep k9 id).keep kp9 (fun e => hRT e.symm))
      have HK10 := Lib.hid (((HK8.out.trans (k9.mono (T := fun b => b = R) (fun _ _ h => h.elim)) (fun _ _ h => h))).trans kp9 (fun _ _ h => h))
      have hsc : sc = ⟨bs.drop at9, sc.err⟩ := by rw [hd9]
      rw [hsc] at HT4
      generalize sc.err = ec at *
      clear GV3 X9 kp9 hsc hd9 HX8 HT8 HK8 k9
      go_upto_region 14 with fail
      generalize ((w9.setCell ⟨R, 0, none⟩ (.slice A bs.length c)).setCell ⟨R, 1, none⟩ (.int .i64 at9)).setCell ⟨R, 2, none⟩ (.int .i64 ec) = w10 at *
      clear x9 x9' x9'' f9 f9' f9''
      go_wp2
      have hln := HLEN.out
      clear x0 x1 x2 hln
      generalize wr = W0 at *
      go_loopw [8, 10] (fun bb k wx => ∃ (g2 d2 at2 : Nat) (er2 : Int) (ss : List ByteArray) (nvv : Value), d2 + g2 = m ∧ k = .int .u64 (d2 : Int) ∧ ss.length = d2 ∧ at2 ≤ bs.length ∧ Keep (fun b => b = R) W0 wx ∧ Box wx R 67 #[.slice A bs.length c, .int .i64 at2, .int .i64 er2] ∧ Box wx TB 102 #[.string nm, .string cm, nvv] ∧ wx.ownsRow (TB + 1) 9 1 nvv ss.length (ss.map Value.string) ∧ (∀ x ∈ ss, x.size ≤ 32) ∧ ss ++ (rdTexts g2 ⟨bs.drop at2, er2⟩).1 = ns ∧ (rdTexts g2 ⟨bs.drop at2, er2⟩).2 = sd) (fun _ k _ => m - (intOf k).toNat)
      case atStart => exact ⟨m, 0, at9, ec, [], .slice none 0 0, by omega, rfl, rfl, ha9, HK10.out, HX10.out, HT10.out, World.ownsRow_nil _ _ _ _, by simp, by rw [HT4.out]; rfl, by rw [HT4.out]⟩
      case round =>
        obtain ⟨g2, d2, at2, er2, ss, nvv, hg2, rfl, hl2, ha2, hk2, hX2, hT2, hown2, hsz2, hns, hsd⟩ := hrel
        have HK2' := Lib.hid hk2
        have HX2' := Lib.hid hX2
        have HT2' := Lib.hid hT2
        have HO2' := Lib.hid hown2
        have HSZ2 := Lib.hid hsz2
        have HNS2 := Lib.hid hns
        have HSD2 := Lib.hid hsd
        have HL2 := Lib.hid hl2
        have hd16 : ss.length ≤ 16 := by omega
        have hd16' : d2 ≤ 16 := by omega
        have hRw := hX2.lt
        have hTw := hT2.lt
        have x0 := hX2.cell 0
        have x1 := hX2.cell 1
        have x2 := hX2.cell 2
        simp only [List.getElem?_toArray, List.getElem?_cons_zero, List.getElem?_cons_succ] at x0 x1 x2
        clear hsz2 hns hsd hl2 HX10 HT10 HK10 HT4
        by_cases hgo2 : g2 ≠ 0 ∧ er2 = 0
        · obtain ⟨hg20, rfl⟩ := hgo2
          obtain ⟨g3, rfl⟩ : ∃ g3, g2 = g3 + 1 := ⟨g2 - 1, by omega⟩
          obtain ⟨cs5, se, ht5⟩ : ∃ a b, Rs.text ⟨bs.drop at2, 0⟩ 32 = (a, b) := ⟨_, _, rfl⟩
          have hz5 : (strOf cs5).size ≤ 32 := by have := text_size ⟨bs.drop at2, 0⟩ 32; rw [ht5] at this; exact this
          have hrt2 : rdTexts (g3 + 1) ⟨bs.drop at2, 0⟩ = (strOf cs5 :: (rdTexts g3 se).1, (rdTexts g3 se).2) := by
            rw [rdTexts, if_neg (fun h => h rfl)]
            simp only [ht5]
          rw [hrt2] at HNS2 HSD2
          have K2w : Keep noneOf w wr := hkeep.trans hk2 (fun i hi e => by have := HR0.out; omega)
          have GT5 := Lib.hid (refGetText_any _ D A c bs cs5 at2 32 0 se (by decide) (HS.out.keep K2w (fun _ _ _ => id)) HL.out ha2 ht5)
          have HZ5 := Lib.hid hz5
          have q1 : decide (d2 < m) = true := decide_eq_true (by omega)
          have q1' : decide ((d2 : Int) < (m : Int)) = true := decide_eq_true (by omega)
          clear hrt2 hz5 ht5 K2w hg20
          go_wp2_with fail
          refine GT5.out.mono ?_
          rintro e w12 ⟨at12, u12, rfl, ha12, hd12, F12⟩
          obtain ⟨A12, c12, hu12⟩ := own_shape F12.own
          subst hu12
          have X12 := HX2'.out.keep F12.keep id
          have x12 := X12.cell 0
          have x12' := X12.cell 1
          have x12'' := X12.cell 2
          have f12 := X12.free 0
          have f12' := X12.free 1
          have f12'' := X12.free 2
          simp only [List.getElem?_toArray, List.getElem?_cons_zero, List.getElem?_cons_succ] at x12 x12' x12''
          have kp12 := Keep.put3 (w := w12) R (.slice A bs.length c) (.int .i64 at12) (.int .i64 se.err)
          have HX13 := Lib.hid (X12.put3 (.slice A bs.length c) (.int .i64 at12) (.int .i64 se.err))
          have HT13 := Lib.hid ((HT2'.out.keep F12.keep id).keep kp12 (fun e => hRT e.symm))
          have HB13 := Lib.hid (F12.bytes.keep kp12 (fun i _ hi e => by omega))
          have HK13 := Lib.hid ((hk2.trans (F12.keep.mono (T := fun b => b = R) (fun _ _ h => h.elim)) (fun _ _ h => h)).trans kp12 (fun _ _ h => h))
          have HO13 := Lib.hid (own_keep (own_keep HO2'.out F12.keep (fun _ _ h => h)) kp12 (fun j hj e => by have := (HO2'.out.lt j hj).1; have := HTB.out; omega))
          have hse : se = ⟨bs.drop at12, se.err⟩ := by rw [hd12]
          rw [hse] at HNS2 HSD2
          generalize se.err = ee at *
          clear GT5 F12 X12 kp12 hse hd12 hk2 hX2 hT2 hown2 x0 x1 x2
          go_upto_region 18 with fail
          generalize ((w12.setCell ⟨R, 0, none⟩ (.slice A bs.length c)).setCell ⟨R, 1, none⟩ (.int .i64 at12)).setCell ⟨R, 2, none⟩ (.int .i64 ee) = w13 at *
          clear x12 x12' x12'' f12 f12' f12''
          have hstr13 := run_str HB13.out
          obtain ⟨An, cn, hvn⟩ := own_shape HO13.out
          subst hvn
          have t132 := HT13.out.cell 2
          simp only [List.getElem?_toArray, List.getElem?_cons_zero, List.getElem?_cons_succ] at t132
          generalize hsy : strOf cs5 = sy at *
          have hRw13 := HX13.out.lt
          have hTw13 := HT13.out.lt
          have HAB : Hid (∀ w4, (w13.alloc (.cells #[.string sy] 9)).grownBy w4 (Value.slice An ss.length cn).ownBlock → Box w4 TB 102 #[.string nm, .string cm, .slice An ss.length cn]) := Lib.hid fun w4 hg => (HT13.out.alloc _).keep (Keep.of_grown hg) (fun hs => absurd (HO13.out.lt _ hs.symm).1 (by omega))
          clear hsy
          go_wp2_with (at_builtin; refine wpList_append_own _ rfl _ _ 100 rfl (TB + 1) 9 i9 _ 1 16 Try.underlying100 hi9 hz9 hs9 hb9 rfl (by decide) _ _ _ rfl (HO13.out.alloc _) ⟨w13.heap.size, 0, none⟩ 1 1 [.string sy] rfl rfl (cell_one_new _ _ _) (by simp [Value.oneCell']) (by unfold maxLen; omega) (by omega) (by simp; omega) ?_; intro v' w4 hown' hgrow _; have T4 := HAB.out w4 hgrow; obtain ⟨A4, c4, hv4⟩ := own_shape hown'; subst hv4; have t4 : w4.cell? ⟨TB, 2, none⟩ = some (.slice An ss.length cn) := T4.cell 2; have f4 := T4.free 2)
          have kg := Keep.of_grown hgrow
          have ka2 := (Keep.refl noneOf w13).alloc (.cells #[.string sy] 9)
          have hno : ∀ j, some j = (Value.slice An ss.length cn).ownBlock → TB + 1 ≤ j := fun j hj => (HO13.out.lt j hj.symm).1
          have ks := (Keep.refl (fun k => k = TB) w4).setCell (p := ⟨TB, 2, none⟩) (fun _ => rfl) (.slice A4 (ss.length + 1) c4)
          go_roundw
          case rel =>
            refine ⟨g3, d2 + 1, at12, ee, ss ++ [sy], .slice A4 (ss.length + 1) c4, by omega, by go_num, by simp [HL2.out], ha12, ?_, ?_, T4.put 2 _, ?_, ?_, ?_, HSD2.out⟩
            · exact (((HK13.out.trans (ka2.mono (T := fun b => b = R) (fun _ _ h => h.elim)) (fun _ _ h => h)).trans kg (fun j hj hs => absurd (hno j hs) (by have := HTB.out; omega))).trans ks (fun j hj hs => by have := HTB.out; omega))
            · exact ((HX13.out.keep ka2 id).keep kg (fun hs => absurd (hno _ hs) (by have := HTB.out; omega))).keep ks hRT
            · rw [List.length_append, List.map_append]
              exact own_keep hown' ks (fun j hj e => by have := (hown'.lt j hj).1; omega)
            · intro x hx
              rcases List.mem_append.1 hx with hx | hx
              · exact HSZ2.out x hx
              · have : x = sy := by simpa using hx
                rw [this]
                exact HZ5.out
            · rw [List.append_assoc]
              exact HNS2.out
          case measure => simp [intOf]; omega
        · have hstop : rdTexts g2 ⟨bs.drop at2, er2⟩ = ([], ⟨bs.drop at2, er2⟩) := by
            cases g2 with
            | zero => rfl
            | succ g =>
              rw [rdTexts, if_pos]
              intro e
              exact hgo2 ⟨by omega, e⟩
          have hns1 : ss = ns := by
            have := HNS2.out
            rw [hstop, List.append_nil] at this
            exact this
          have hsd1 : sd = ⟨bs.drop at2, er2⟩ := by rw [← HSD2.out, hstop]
          rw [← hns1, hsd1] at HPTS
          rw [hsd1] at HSX
          obtain ⟨Ah, ch, hvh⟩ := own_shape HOWN.out
          subst hvh
          obtain ⟨An, cn, hvn⟩ := own_shape hown2
          subst hvn
          have t0 := hT2.cell 0
          have t1 := hT2.cell 1
          have t2 := hT2.cell 2
          simp only [List.getElem?_toArray, List.getElem?_cons_zero, List.getElem?_cons_succ] at t0 t1 t2
          have HO1 := Lib.hid (own_keep HOWN.out hk2 (fun j hj e => by have := (HOWN.out.lt j hj).1; omega))
          have ka2 := (Keep.refl noneOf wr).alloc (.cells #[.string nm, .string cm, .slice An ss.length cn] 102)
          have HKA2 := Lib.hid ka2
          have HNO : Hid (∀ j, some j = (Value.slice Ah hts.length ch).ownBlock → R + 2 ≤ j ∧ ∃ cs fz, (wr.alloc (.cells #[.string nm, .string cm, .slice An ss.length cn] 102)).heap[j]? = some (.cells cs 102 fz)) := Lib.hid fun j hj => own_row (HO1.out.alloc _) hj
          have HR1 := Lib.hid hown2
          have hRTB : R + 2 ≤ TB := by have := HTB.out; omega
          have hnmz : nm.size ≤ maxLen := by have := HZ1.out; unfold maxLen; omega
          have hcmz : cm.size ≤ maxLen := by have := HZ2.out; unfold maxLen; omega
          have hssz : ∀ x ∈ ss, x.size ≤ maxLen := fun x hx => by have := HSZ2.out x hx; unfold maxLen; omega
          have HNMZ := Lib.hid hnmz
          have HCMZ := Lib.hid hcmz
          have HSSZ := Lib.hid hssz
          clear hstop hns1 hsd1 hX2 hT2 hown2 ka2 HO2' HNS2 HSD2 hnmz hcmz hssz
          by_cases hg20 : g2 = 0
          all_goals
            first
            | (have q1 : decide (d2 < m) = false := decide_eq_false (by omega)
               have q1' : decide ((d2 : Int) < (m : Int)) = false := decide_eq_false (by omega)
               clear hgo2 hg20)
            | (have qe : (er2 == 0) = false := by rw [beq_eq_false_iff_ne]; exact fun e => hgo2 ⟨hg20, e⟩
               have q1 : decide (d2 < m) = true := decide_eq_true (by omega)
               have q1' : decide ((d2 : Int) < (m : Int)) = true := decide_eq_true (by omega)
               clear hgo2 hg20)
            go_wp2_with (at_builtin; refine wpList_append_own _ rfl _ _ 34 rfl (R + 2) 102 i39 _ 3 56 Try.underlying34 hi39 hz39 hs39 hb39 rfl (by decide) _ _ _ rfl (HO1.out.alloc _) ⟨wr.heap.size, 0, none⟩ 1 1 [.string nm, .string cm, .slice An ss.length cn] rfl rfl (cell_three_new _ _ _ _ _) (by simp [Value.oneCell']) (by unfold maxLen; omega) (by omega) (by simp; omega) ?_; intro v' w4 hown' hgrow _)
            have HKG := Lib.hid (Keep.of_grown hgrow)
            have HO4 := Lib.hid hown'
            go_roundw
            case rel =>
              have K4 : Keep noneOf w w4 := ((hkeep.trans hk2 (fun i hi e => by have := HR0.out; omega)).trans HKA2.out (fun _ _ h => h)).trans HKG.out (fun j hj hs => absurd (HNO.out j hs).1 (by have := HR0.out; omega))
              have hgr : ∀ (t : Tg), heldT (R + 2) wr t → heldT (R + 2) w4 t := fun t ht =>
                (ht.keep HKA2.out (fun _ _ h => h.elim)).keep HKG.out (fun i _ hs => .inr (HNO.out i hs).2)
              refine ⟨g', done + 1, at2, er2, hts ++ [⟨nm, cm, .slice An ss.length cn, ss⟩], by omega, by go_num, by simp [HLEN.out], ha2, K4, ?_, ?_, ?_, ?_, ?_, HSX.out⟩
              · exact (HX2'.out.keep HKA2.out id).keep HKG.out (fun hs => absurd (HNO.out _ hs).1 (by omega))
              · exact ((HY.out.keep hk2 (by omega)).keep HKA2.out id).keep HKG.out (fun hs => absurd (HNO.out _ hs).1 (by omega))
              · rw [List.length_append, List.flatMap_append]
                exact HO4.out
              · intro t ht
                rcases List.mem_append.1 ht with ht | ht
                · exact hgr t ((HHELD.out t ht).keep hk2 (fun i _ e => .inl (by omega)))
                · simp only [List.mem_singleton] at ht
                  subst ht
                  exact hgr _ ⟨HNMZ.out, HCMZ.out, own_base HR1.out (by omega), HSSZ.out⟩
              · have := HPTS.out
                rw [List.map_append, List.append_assoc]
                exact this
            case measure => simp [intOf]; omega
    · have hstop : rdTargets g ⟨bs.drop at', er'⟩ = ([], ⟨bs.drop at', er'⟩) := by
        cases g with
        | zero => rfl
        | succ g =>
          rw [rdTargets, if_pos]
          intro e
          exact hgo ⟨by omega, e⟩
      have hp1 : hts.map Tg.plain = pts := by
        have := HPTS.out
        rw [hstop, List.append_nil] at this
        exact this
      have hs1 : s = ⟨bs.drop at', er'⟩ := by rw [← HSX.out, hstop]
      have HP1 := Lib.hid hp1
      have HS1 := Lib.hid hs1
      have TH := Tgs.of_held HOWN.out HHELD.out
      obtain ⟨Ah, ch, hvh⟩ := own_shape hown
      subst hvh
      have y0 := hY.cell 0
      have y1 := hY.cell 1
      have y2 := hY.cell 2
      have fy0 := hY.free 0
      have fy1 := hY.free 1
      have fy2 := hY.free 2
      simp only [List.getElem?_toArray, List.getElem?_cons_zero, List.getElem?_cons_succ] at y0 y1 y2
      have kp := Keep.put3 (w := wr) (R + 1) (.slice A bs.length c) (.int .i64 at') (.int .i64 er')
      have HYF := Lib.hid (hY.put3 (.slice A bs.length c) (.int .i64 at') (.int .i64 er'))
      have HKF := Lib.hid (hkeep.trans kp (fun i hi e => by have := HR0.out; omega))
      have HTF := Lib.hid ((TH.keep kp (fun i _ hi e => by omega)).mono (D' := fun k => w.heap.size ≤ k) (fun i _ hi => by have := HR0.out; omega))
      clear hstop hp1 hs1 TH hown hkeep hX hY kp HPTS HSX HOWN HHELD
      by_cases hg0 : g = 0
      · have g1 : ¬ ((done : Int) < (n : Int)) := by omega
        have g1' : decide ((done : Int) < (n : Int)) = false := decide_eq_false g1
        have g1'' : decide (done < n) = false := decide_eq_false (by omega)
        clear hgo hg0 g1
        go_wp2
        have r0 := HYF.out.cell 0
        have r1 := HYF.out.cell 1
        have r2 := HYF.out.cell 2
        simp only [List.getElem?_toArray, List.getElem?_cons_zero, List.getElem?_cons_succ] at r0 r1 r2
        exact bodyPost_ret (v := .tuple #[.agg #[.slice A bs.length c, .int .i64 at', .int .i64 er'], .slice Ah hts.length ch]) (by simp [results, Try.results43, go_sem, r0, r1, r2]) rfl ⟨at', Ah, ch, hts, by rw [HS1.out], hat, by rw [HS1.out], HKF.out, HTF.out, HP1.out⟩
      · have g1'' : decide (done < n) = true := decide_eq_true (by omega)
        have g1' : decide ((done : Int) < (n : Int)) = true := decide_eq_true (by omega)
        have ge : (er' == 0) = false := by rw [beq_eq_false_iff_ne]; exact fun e => hgo ⟨hg0, e⟩
        clear hgo hg0
        go_wp2
        have r0 := HYF.out.cell 0
        have r1 := HYF.out.cell 1
        have r2 := HYF.out.cell 2
        simp only [List.getElem?_toArray, List.getElem?_cons_zero, List.getElem?_cons_succ] at r0 r1 r2
        exact bodyPost_ret (v := .tuple #[.agg #[.slice A bs.length c, .int .i64 at', .int .i64 er'], .slice Ah hts.length ch]) (by simp [results, Try.results43, go_sem, r0, r1, r2]) rfl ⟨at', Ah, ch, hts, by rw [HS1.out], hat, by rw [HS1.out], HKF.out, HTF.out, HP1.out⟩
end Go.Proofs.Ytngbminjbgomgaa
