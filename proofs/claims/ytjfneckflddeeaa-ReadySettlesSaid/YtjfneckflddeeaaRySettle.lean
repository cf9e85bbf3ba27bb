/-
  ready.Settle.
-/
import Derived.Test.YtjfneckflddeeaaRyOut
import Derived.Test.YtjfneckflddeeaaGrCheck
namespace Go.Proofs.Ytjfneckflddeeaa
open Go.RowKit

/-- A run's step, where what is visited was not visited before. -/
theorem settle_step {ps : List Pt} {l : List Pst} {k p : Nat} (hl : (grOrder ps).length = l.length) (h : (grOrder ps)[k]? = some p) :
    (runOf (settleAt ps l) l ((grOrder ps).take k))[p]? = some (l.getD p Pst.zero) ∧ (runOf (settleAt ps l) l ((grOrder ps).take k)).length = l.length := by
  have hp := (order_some h).2
  have hq := (order_some h).1
  have hpl : p < l.length := by rw [← hl, order_len hq]; exact hp
  exact ⟨by rw [runOf_untouched _ _ _ _ (order_next h)]; exact getS_at hpl, by rw [runOf_length]⟩

/-- A state of one's own, written whole. -/
theorem Box.put3 {w : World} {g : Nat} {e : TypeId} {l : List Pst} (h : Box w g e (svs l)) (p : Nat) (y : Pst) (hp : p < l.length) :
    Box (((w.setCell ⟨g, p * 3, none⟩ (.int .i64 y.s)).setCell ⟨g, p * 3 + 1, none⟩ (.int .u64 y.t)).setCell ⟨g, p * 3 + 2, none⟩ (.int .u64 y.u)) g e (svs (l.set p y)) := by
  rw [← svs_set l p y hp]
  exact ((h.put (p * 3) _).put (p * 3 + 1) _).put (p * 3 + 2) _
theorem keep_put3 (w : World) (g p : Nat) (a b c : Value) : Keep (fun i => i = g) w (((w.setCell ⟨g, p * 3, none⟩ a).setCell ⟨g, p * 3 + 1, none⟩ b).setCell ⟨g, p * 3 + 2, none⟩ c) :=
  (((Keep.refl (fun i => i = g) w).setCell (fun _ => rfl) _).setCell (fun _ => rfl) _).setCell (fun _ => rfl) _
theorem Keep.own {w w' w'' : World} {g : Nat} (h : Keep noneOf w w') (k : Keep (fun i => i = g) w' w'') (hg : w.heap.size ≤ g) : Keep noneOf w w'' := h.trans k (fun i hi e => by omega)

set_option maxRecDepth 100000 in
set_option maxHeartbeats 4000000 in
theorem settle_any (w : World) (D Dl : Nat → Prop) (v vl : Value) (ts : List Tg) (l : List Pst) (h : Tgs w D v ts) (h' : Sts w Dl vl l) (hb : l.length * 24 ≤ reachBytes) :
    Calls Try.prog 9 #[.agg #[v], vl] w (ToldSts (grSettle (ts.map Tg.plain) l) w) := by
  have HH := Lib.hid h
  have HL := Lib.hid h'
  have HBB := Lib.hid hb
  obtain ⟨A, c, rfl, hlc, hcm, hn, hxl, hc⟩ := h.1
  obtain ⟨Al, cl, rfl⟩ := h'.shape
  have hlm := h'.few
  unfold maxLen at hcm hlm
  have ka := (Keep.refl noneOf w).alloc (.cells #[.slice A ts.length c] 24)
  have HK0 := Lib.hid ka
  have HX0 := Lib.hid (Box.new w 24 #[.slice A ts.length c])
  have HO := Lib.hid (order_any _ D _ ts (h.keep ka (fun _ _ _ => id)))
  have HAT : Hid (∀ i p, (grOrder (ts.map Tg.plain))[i]? = some p → _) := Lib.hid fun i p hp => order_some hp
  have h32 := order_32 (ts.map Tg.plain)
  have HST : Hid (∀ k p, (grOrder (ts.map Tg.plain)).length = l.length → (grOrder (ts.map Tg.plain))[k]? = some p → _) := Lib.hid fun k p hl hp => settle_step hl hp
  have HLEN := Lib.hid (show grCheck (ts.map Tg.plain) = 0 → (grOrder (ts.map Tg.plain)).length = ts.length from fun hq => by rw [order_len hq, List.length_map])
  have HFEW := Lib.hid (show grCheck (ts.map Tg.plain) = 0 → fewNeeds ts from fun hq => (fits_few (check_fits hq).1).2)
  have HR := Lib.hid (show grSettle (ts.map Tg.plain) l = if (grOrder (ts.map Tg.plain)).length = l.length then runOf (settleAt (ts.map Tg.plain) l) l (grOrder (ts.map Tg.plain)) else [] from rfl)
  generalize grSettle (ts.map Tg.plain) l = R at *
  generalize grOrder (ts.map Tg.plain) = ord at *
  clear h ka hc hxl hn h' hb
  by_cases hlen : ord.length = l.length
  · have HLN := Lib.hid hlen
    rw [if_pos hlen] at HR
    have g0 : ((ord.length : Int) != (l.length : Int)) = false := by rw [hlen, bne_self_eq_false]
    clear hlen
    go_enter Try.func9, Try.ntmps9
    go_wp2_with fail
    refine HO.out.mono ?_
    rintro e w1 ⟨v1, rfl, o1, k1⟩
    obtain ⟨A1, c1, hv1⟩ := o1.shape
    subst hv1
    have K1 := HK0.out.trans k1 (fun _ _ h => h)
    have HK1 := Lib.hid K1
    have HX1 := Lib.hid (HX0.out.keep k1 id)
    have HO1 := Lib.hid o1
    have HCP := Lib.hid (copied_any w1 Dl _ l (HL.out.keep K1 (fun _ _ _ => id)) HBB.out)
    clear HK0 HX0 HO o1 k1 K1
    go_wp2_with fail
    refine HCP.out.mono ?_
    rintro e w2 ⟨M, rfl, k2, hM, hml, hB2⟩
    have hX1 := HX1.out
    have hlt1 := hX1.lt
    have HK2 := Lib.hid (HK1.out.trans k2 (fun _ _ h => h))
    have HX2 := Lib.hid (hX1.keep k2 id)
    have HI2 := Lib.hid (Row.keep (Row.mono (D' := fun b => b ≠ M) HO1.out (fun i hi h => by omega)) k2 (fun _ _ _ => id) : Ints w2 (fun b => b ≠ M) (.slice A1 ord.length c1) ord)
    have HB2 := Lib.hid hB2
    have hGM : w.heap.size ≠ M := by omega
    have hGM' : w.heap.size < M := by omega
    clear HCP HO1 HX1 HK1 k2 hM hB2 hX1 hlt1
    go_wp2
    go_loopw [21] (fun i wr => ∃ k : Nat, k ≤ ord.length ∧ i = .int .i64 k ∧ Keep noneOf w wr ∧ Box wr w.heap.size 24 #[.slice A ts.length c] ∧ Ints wr (fun b => b ≠ M) (.slice A1 ord.length c1) ord ∧ Box wr M 32 (svs (runOf (settleAt (ts.map Tg.plain) l) l (ord.take k)))) (fun i _ => ord.length - (intOf i).toNat)
    case atStart => exact ⟨0, Nat.zero_le _, rfl, HK2.out, HX2.out, HI2.out, HB2.out⟩
    case round =>
      obtain ⟨k, hk, rfl, hkeep, hX, hO, hB⟩ := hrel
      have HKP := Lib.hid hkeep
      have HX := Lib.hid hX
      have HO := Lib.hid hO
      have HB := Lib.hid hB
      clear hX hO hB HK2 HX2 HI2 HB2
      by_cases hlt : k < ord.length
      · obtain ⟨hq, hpl⟩ := HAT.out k ord[k] (List.getElem?_eq_getElem hlt)
        rw [List.length_map] at hpl
        have hst := HST.out k ord[k] HLN.out (List.getElem?_eq_getElem hlt)
        obtain ⟨A', c', hv', hl', hm', _, _, hrow⟩ := HO.out
        obtain ⟨rfl, rfl⟩ : A1 = A' ∧ c1 = c' := by simpa using hv'
        obtain ⟨ad, rfl, hsp, hblk, hDb, hcell⟩ := hrow (by omega)
        obtain ⟨b, o, sp⟩ := ad
        simp only at hsp hblk hDb hcell
        subst hsp
        unfold maxLen at hm'
        have hck : wr.cell? ⟨b, o + k, none⟩ = some (.int .i64 (ord[k] : Int)) := hcell k _ (by rw [List.getElem?_map, List.getElem?_eq_getElem hlt]; rfl)
        have HSTEP := Lib.hid (runOf_more (settleAt (ts.map Tg.plain) l) l ord k ord[k] (List.getElem?_eq_getElem hlt))
        generalize hL : runOf (settleAt (ts.map Tg.plain) l) l (ord.take k) = L at *
        generalize ord[k] = p at *
        have HFW := Lib.hid (HFEW.out hq)
        have hol := HLEN.out hq
        have hLl : L.length = l.length := hst.2
        have hpL : p < l.length := by rw [← HLN.out, hol]; exact hpl
        have HNL : Hid (∀ n ∈ needsAt (ts.map Tg.plain) (p : Int), n < L.length) := Lib.hid fun n hn => by
          have := needsAt_lt hn
          rw [List.length_map] at this
          rw [hLl, ← HLN.out, hol]
          exact this
        have NE : Hid (∀ w', Keep noneOf wr w' → Calls Try.prog 31 #[.agg #[.slice A ts.length c], .int .i64 (p : Int)] w' (ToldInts (needsAt (ts.map Tg.plain) (p : Int)) w')) := Lib.hid fun w' k' => needs_any w' D _ ts (p : Int) (HH.out.keep (hkeep.trans k' (fun _ _ h => h)) (fun _ _ _ => id)) HFW.out
        have HLS := Lib.hid (show Sts wr (fun _ => True) (.slice (some ⟨M, 0, none⟩) l.length l.length) L by
          have := Sts.of_box (D := fun _ => True) HB.out (Nat.le_refl _) (by rw [hLl]; exact hml) trivial
          rw [hLl] at this
          exact this)
        have HAT2 : Hid (settleAt (ts.map Tg.plain) l L p = if (l.getD p Pst.zero).s = 0 ∧ outc ((needsAt (ts.map Tg.plain) (p : Int)).map (fun n => (L.getD n Pst.zero).s)) ≠ 0 then ⟨outc ((needsAt (ts.map Tg.plain) (p : Int)).map (fun n => (L.getD n Pst.zero).s)), 0, 0⟩ else l.getD p Pst.zero) := Lib.hid rfl
        generalize settleAt (ts.map Tg.plain) l L p = y at *
        generalize needsAt (ts.map Tg.plain) (p : Int) = ns at *
        have hx := hst.1
        generalize l.getD p Pst.zero = x at *
        have x0 : wr.cell? ⟨w.heap.size, 0, none⟩ = some (.slice A ts.length c) := HX.out.cell 0
        have NE0 := Lib.hid (NE.out wr (Keep.refl _ _))
        have HS := Lib.hid hx
        have HLL := Lib.hid hLl
        have HHO := Lib.hid hol
        have q0 : (0 : Int) ≤ (p : Int) := by omega
        have q1 : (p : Int) < (l.length : Int) := by omega
        clear hrow hcell hv' hq hkeep hL hst hx NE hol
        go_wp2_with fail
        refine NE0.out.mono ?_
        rintro e w5 ⟨v5, rfl, o5, k5⟩
        obtain ⟨A6, c6, hv6⟩ := o5.shape
        subst hv6
        have HOC := Lib.hid (outcome_any w5 _ _ _ _ L ns (HLS.out.keep k5 (fun _ _ _ => id)) o5 HNL.out)
        have HX5 := Lib.hid (HX.out.keep k5 id)
        have HB5 := Lib.hid (HB.out.keep k5 id)
        have HK5 := Lib.hid (HKP.out.trans k5 (fun _ _ h => h))
        have HO5 := Lib.hid (Row.keep HO.out k5 (fun _ _ _ => id))
        clear NE0 HX HB HKP HO HLS o5 k5 x0 hck
        generalize ns.map (fun n => (L.getD n Pst.zero).s) = ss at *
        have hrange := outc_range ss
        generalize outc ss = oc at *
        go_wp2_with fail
        refine HOC.out.mono ?_
        rintro e w6 ⟨rfl, k6⟩
        have HX6 := Lib.hid (HX5.out.keep k6 id)
        have HB6 := Lib.hid (HB5.out.keep k6 id)
        have HK6 := Lib.hid (HK5.out.trans k6 (fun _ _ h => h))
        have HO6 := Lib.hid (Row.keep HO5.out k6 (fun _ _ _ => id))
        clear HOC HX5 HB5 HK5 HO5 k6
        obtain ⟨c0, c1, c2⟩ := HB6.out.state HS.out
        by_cases hch : x.s = 0 ∧ oc ≠ 0
        · have hy : y = ⟨oc, 0, 0⟩ := by rw [HAT2.out, if_pos hch]
          subst hy
          have g1 : (x.s == 0) = true := by rw [hch.1]; rfl
          have g2 : (oc != 0) = true := by rw [bne_iff_ne]; exact hch.2
          have f0 := HB6.out.free (p * 3)
          have f1 := HB6.out.free (p * 3 + 1)
          have f2 := HB6.out.free (p * 3 + 2)
          clear hch hrange HAT2
          go_wp2
          have kp := keep_put3 w6 M p (.int .i64 oc) (.int .u64 0) (.int .u64 0)
          have HB7 := Lib.hid (HB6.out.put3 p ⟨oc, 0, 0⟩ (by rw [HLL.out]; exact hpL))
          have HK7 := Lib.hid (HK6.out.own kp (by omega))
          have HX7 := Lib.hid (HX6.out.keep kp hGM)
          have HO7 := Lib.hid (Row.keep HO6.out kp (fun i _ h e => h e))
          clear kp HB6 HK6 HX6 HO6 c0 c1 c2 f0 f1 f2
          go_roundw
          case rel => exact ⟨k + 1, by omega, by go_num, HK7.out, HX7.out, HO7.out, by rw [HSTEP.out]; exact HB7.out⟩
          case measure => simp [intOf]; omega
        · have hy : y = x := by rw [HAT2.out, if_neg hch]
          subst hy
          have HSM := Lib.hid (set_same L p y HS.out)
          rw [HSM.out] at HSTEP
          by_cases hs0 : y.s = 0
          · have hoc : oc = 0 := Classical.byContradiction fun h => hch ⟨hs0, h⟩
            subst hoc
            have g1 : (y.s == 0) = true := by rw [hs0]; rfl
            clear hch hrange HAT2 HSM hs0
            go_wp2
            go_roundw
            case rel => exact ⟨k + 1, by omega, by go_num, HK6.out, HX6.out, HO6.out, by rw [HSTEP.out]; exact HB6.out⟩
            case measure => simp [intOf]; omega
          · have g1 : (y.s == 0) = false := by rw [beq_eq_false_iff_ne]; exact hs0
            clear hch hrange HAT2 HSM hs0
            go_wp2
            go_roundw
            case rel => exact ⟨k + 1, by omega, by go_num, HK6.out, HX6.out, HO6.out, by rw [HSTEP.out]; exact HB6.out⟩
            case measure => simp [intOf]; omega
      · have e1 : ord.take k = ord := List.take_of_length_le (by omega)
        rw [e1, ← HR.out] at HB
        have hRl : R.length = l.length := by rw [HR.out, runOf_length]
        have HRL := Lib.hid hRl
        have hkn : ¬ ((k : Int) < (ord.length : Int)) := by omega
        clear e1 hkeep hlt hRl
        go_wp2
        go_ret
        refine ⟨_, rfl, HKP.out, .inr ⟨M, by rw [HRL.out]; rfl, by omega, by rw [HRL.out]; exact hml, HB.out⟩⟩
  · rw [if_neg hlen] at HR
    have g0 : ((ord.length : Int) != (l.length : Int)) = true := by rw [bne_iff_ne]; omega
    clear hlen HST
    go_enter Try.func9, Try.ntmps9
    go_wp2_with fail
    refine HO.out.mono ?_
    rintro e w1 ⟨v1, rfl, o1, k1⟩
    obtain ⟨A1, c1, hv1⟩ := o1.shape
    subst hv1
    have HK1 := Lib.hid (HK0.out.trans k1 (fun _ _ h => h))
    clear HK0 HX0 HO o1 k1
    go_wp2
    go_ret
    exact ⟨_, rfl, HK1.out, .inl ⟨rfl, HR.out⟩⟩
end Go.Proofs.Ytjfneckflddeeaa
