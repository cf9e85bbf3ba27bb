import Derived.BigQuiet
import Derived.Deep.QuietTactic
import Derived.Maps.AppendAt
import Derived.Test.YtkoikmdmejhhhaaGreatBs07
import Derived.Test.YtkoikmdmejhhhaaGreatBs10
import Derived.Test.YtkoikmdmejhhhaaGreatBs11
import Derived.Test.YtkoikmdmejhhhaaGreatBs13
namespace Go.Proofs.YtkoikmdmejhhhaaGreat
open Go.RowKit
theorem settle_step {ps : List Pt} {l : List Pst} {k p : Nat} (hl : (grOrder ps).length = l.length) (h : (grOrder ps)[k]? = some p) :
    (runOf (settleAt ps l) l ((grOrder ps).take k))[p]? = some (l.getD p Pst.zero) ∧ (runOf (settleAt ps l) l ((grOrder ps).take k)).length = l.length := by
  have hp := (order_some h).2
  have hq := (order_some h).1
  have hpl : p < l.length := by rw [← hl, order_len hq]; exact hp
  exact ⟨by rw [runOf_untouched _ _ _ _ (order_next h)]; exact getS_at hpl, by rw [runOf_length]⟩
theorem Box.putS {w : World} {g : Nat} {e : TypeId} {l : List Pst} (h : Box w g e (svs l)) (p : Nat) (y : Pst) (hp : p < l.length) :
    Box (((w.setCell ⟨g, p * 3, none⟩ (.int .i64 y.s)).setCell ⟨g, p * 3 + 1, none⟩ (.int .u64 y.t)).setCell ⟨g, p * 3 + 2, none⟩ (.int .u64 y.u)) g e (svs (l.set p y)) := by
  rw [← svs_set l p y hp]
  exact ((h.put (p * 3) _).put (p * 3 + 1) _).put (p * 3 + 2) _
theorem keep_put3 (w : World) (g p : Nat) (a b c : Value) : Keep (fun i => i = g) w (((w.setCell ⟨g, p * 3, none⟩ a).setCell ⟨g, p * 3 + 1, none⟩ b).setCell ⟨g, p * 3 + 2, none⟩ c) :=
  (((Keep.refl (fun i => i = g) w).setCell (fun _ => rfl) _).setCell (fun _ => rfl) _).setCell (fun _ => rfl) _
theorem Keep.own {w w' w'' : World} {g : Nat} (h : Keep noneOf w w') (k : Keep (fun i => i = g) w' w'') (hg : w.heap.size ≤ g) : Keep noneOf w w'' := h.trans k (fun i hi e => by omega)
set_option maxRecDepth 100000 in
set_option maxHeartbeats 4000000 in
theorem settle_any (w : World) (D Dl : Nat → Prop) (v vl : Value) (ts : List Tg) (l : List Pst) (h : Tgs w D v ts) (h' : Sts w Dl vl l) (hb : l.length * 24 ≤ reachBytes) :
    Calls Tryz.prog 120 #[.agg #[v], vl] w (ToldSts (grSettle (ts.map Tg.plain) l) w) := by
  have HH := Lib.hid h
  have HL := Lib.hid h'
  have HBB := Lib.hid hb
  obtain ⟨A, c, rfl, hlc, hcm, hn, hxl, hc⟩ := h.1
  obtain ⟨Al, cl, rfl⟩ := h'.shape
  have hlm := h'.few
  unfold maxLen at hcm hlm
  have ka := (Keep.refl noneOf w).alloc (.cells #[.slice A ts.length c] 35)
  have HK0 := Lib.hid ka
  have HX0 := Lib.hid (Box.new w 35 #[.slice A ts.length c])
  have HO := Lib.hid (order_any _ D _ ts (h.keep ka (fun _ _ _ => id)))
  have HAT : Hid (∀ i p, (grOrder (ts.map Tg.plain))[i]? = some p → _) := Lib.hid fun i p hp => order_some hp
  have h32 := order_32 (ts.map Tg.plain)
  have HST : Hid (∀ k p, (grOrder (ts.map Tg.plain)).length = l.length → (grOrder (ts.map Tg.plain))[k]? = some p → _) := Lib.hid fun k p hl hp => settle_step hl hp
  have HLEN := Lib.hid (show grCheck (ts.map Tg.plain) = 0 → (grOrder (ts.map Tg.plain)).length = ts.length from fun hq => by rw [order_len hq, List.length_map])
  have HFEW := Lib.hid (show grCheck (ts.map Tg.plain) = 0 → fewNeeds ts from fun hq => (fits_few (check_fits hq).1).2)
  have HR := Lib.hid (show grSettle (ts.map Tg.plain) l = if (grOrder (ts.map Tg.plain)).length = l.length then runOf (settleAt (ts.map Tg.plain) l) l (grOrder (ts.map Tg.plain)) else [] from rfl)
  generalize grSettle (ts.map Tg.plain) l = R at *
  generalize grOrder (ts.map Tg.plain) = ord at *
  clear h ka hc hxl hn h' hb
  by_cases hlen : ord.length = l.length
  · have HLN := Lib.hid hlen
    rw [if_pos hlen] at HR
    have g0 : ((ord.length : Int) != (l.length : Int)) = false := by rw [hlen, bne_self_eq_false]
    clear hlen
    go_enter Tryz.func120, Tryz.ntmps120
    go_wp2_with fail
    refine HO.out.mono ?_
    rintro e w1 ⟨v1, rfl, o1, k1⟩
    obtain ⟨A1, c1, hv1⟩ := o1.shape
    subst hv1
    have K1 := HK0.out.trans k1 (fun _ _ h => h)
    have HK1 := Lib.hid K1
    have HX1 := Lib.hid (HX0.out.keep k1 id)
    have HO1 := Lib.hid o1
    have HCP := Lib.hid (copied_any w1 Dl _ l (HL.out.keep K1 (fun _ _ _ => id)) HBB.out)
    clear HK0 HX0 HO o1 k1 K1
    go_wp2_with fail
    refine HCP.out.mono ?_
    rintro e w2 ⟨M, rfl, k2, hM, hml, hB2⟩
    have hX1 := HX1.out
    have hlt1 := hX1.lt
    have HK2 := Lib.hid (HK1.out.trans k2 (fun _ _ h => h))
    have HX2 := Lib.hid (hX1.keep k2 id)
    have HI2 := Lib.hid (Row.keep (Row.mono (D' := fun b => b ≠ M) HO1.out (fun i hi h => by omega)) k2 (fun _ _ _ => id) : Ints w2 (fun b => b ≠ M) (.slice A1 ord.length c1) ord)
    have HB2 := Lib.hid hB2
    have hGM : w.heap.size ≠ M := by omega
    have hGM' : w.heap.size < M := by omega
    clear HCP HO1 HX1 HK1 k2 hM hB2 hX1 hlt1
    go_wp2
    go_loopw [21] (fun i wr => ∃ k : Nat, k ≤ ord.length ∧ i = .int .i64 k ∧ Keep noneOf w wr ∧ Box wr w.heap.size 35 #[.slice A ts.length c] ∧ Ints wr (fun b => b ≠ M) (.slice A1 ord.length c1) ord ∧ Box wr M 64 (svs (runOf (settleAt (ts.map Tg.plain) l) l (ord.take k)))) (fun i _ => ord.length - (intOf i).toNat)
    case atStart => exact ⟨0, Nat.zero_le _, rfl, HK2.out, HX2.out, HI2.out, HB2.out⟩
    case round =>
      obtain ⟨k, hk, rfl, hkeep, hX, hO, hB⟩ := hrel
      have HKP := Lib.hid hkeep
      have HX := Lib.hid hX
      have HO := Lib.hid hO
      have HB := Lib.hid hB
      clear hX hO hB HK2 HX2 HI2 HB2
      by_cases hlt : k < ord.length
      · obtain ⟨hq, hpl⟩ := HAT.out k ord[k] (List.getElem?_eq_getElem hlt)
        rw [List.length_map] at hpl
        have hst := HST.out k ord[k] HLN.out (List.getElem?_eq_getElem hlt)
        obtain ⟨A', c', hv', hl', hm', _, _, hrow⟩ := HO.out
        obtain ⟨rfl, rfl⟩ : A1 = A' ∧ c1 = c' := by simpa using hv'
        obtain ⟨ad, rfl, hsp, hblk, hDb, hcell⟩ := hrow (by omega)
        obtain ⟨b, o, sp⟩ := ad
        simp only at hsp hblk hDb hcell
        subst hsp
        unfold maxLen at hm'
        have hck : wr.cell? ⟨b, o + k, none⟩ = some (.int .i64 (ord[k] : Int)) := hcell k _ (by rw [List.getElem?_map, List.getElem?_eq_getElem hlt]; rfl)
        have HSTEP := Lib.hid (runOf_more (settleAt (ts.map Tg.plain) l) l ord k ord[k] (List.getElem?_eq_getElem hlt))
        generalize hL : runOf (settleAt (ts.map Tg.plain) l) l (ord.take k) = L at *
        generalize ord[k] = p at *
        have HFW := Lib.hid (HFEW.out hq)
        have hol := HLEN.out hq
        have hLl : L.length = l.length := hst.2
        have hpL : p < l.length := by rw [← HLN.out, hol]; exact hpl
        have HNL : Hid (∀ n ∈ needsAt (ts.map Tg.plain) (p : Int), n < L.length) := Lib.hid fun n hn => by
          have := needsAt_lt hn
          rw [List.length_map] at this
          rw [hLl, ← HLN.out, hol]
          exact this
        have NE : Hid (∀ w', Keep noneOf wr w' → Calls Tryz.prog 144 #[.agg #[.slice A ts.length c], .int .i64 (p : Int)] w' (ToldInts (needsAt (ts.map Tg.plain) (p : Int)) w')) := Lib.hid fun w' k' => needs_any w' D _ ts (p : Int) (HH.out.keep (hkeep.trans k' (fun _ _ h => h)) (fun _ _ _ => id)) HFW.out
        have HLS := Lib.hid (show Sts wr (fun _ => True) (.slice (some ⟨M, 0, none⟩) l.length l.length) L by
          have := Sts.of_box (D := fun _ => True) HB.out (Nat.le_refl _) (by rw [hLl]; exact hml) trivial
          rw [hLl] at this
          exact this)
        have HAT2 : Hid (settleAt (ts.map Tg.plain) l L p = if (l.getD p Pst.zero).s = 0 ∧ outc ((needsAt (ts.map Tg.plain) (p : Int)).map (fun n => (L.getD n Pst.zero).s)) ≠ 0 then ⟨outc ((needsAt (ts.map Tg.plain) (p : Int)).map (fun n => (L.getD n Pst.zero).s)), 0, 0⟩ else l.getD p Pst.zero) := Lib.hid rfl
        generalize settleAt (ts.map Tg.plain) l L p = y at *
        generalize needsAt (ts.map Tg.plain) (p : Int) = ns at *
        have hx := hst.1
        generalize l.getD p Pst.zero = x at *
        have x0 : wr.cell? ⟨w.heap.size, 0, none⟩ = some (.slice A ts.length c) := HX.out.cell 0
        have NE0 := Lib.hid (NE.out wr (Keep.refl _ _))
        have HS := Lib.hid hx
        have HLL := Lib.hid hLl
        have HHO := Lib.hid hol
        have q0 : (0 : Int) ≤ (p : Int) := by omega
        have q1 : (p : Int) < (l.length : Int) := by omega
        clear hrow hcell hv' hq hkeep hL hst hx NE hol
        go_wp2_with fail
        refine NE0.out.mono ?_
        rintro e w5 ⟨v5, rfl, o5, k5⟩
        obtain ⟨A6, c6, hv6⟩ := o5.shape
        subst hv6
        have HOC := Lib.hid (outcome_any w5 _ _ _ _ L ns (HLS.out.keep k5 (fun _ _ _ => id)) o5 HNL.out)
        have HX5 := Lib.hid (HX.out.keep k5 id)
        have HB5 := Lib.hid (HB.out.keep k5 id)
        have HK5 := Lib.hid (HKP.out.trans k5 (fun _ _ h => h))
        have HO5 := Lib.hid (Row.keep HO.out k5 (fun _ _ _ => id))
        clear NE0 HX HB HKP HO HLS o5 k5 x0 hck
        generalize ns.map (fun n => (L.getD n Pst.zero).s) = ss at *
        have hrange := outc_range ss
        generalize outc ss = oc at *
        go_wp2_with fail
        refine HOC.out.mono ?_
        rintro e w6 ⟨rfl, k6⟩
        have HX6 := Lib.hid (HX5.out.keep k6 id)
        have HB6 := Lib.hid (HB5.out.keep k6 id)
        have HK6 := Lib.hid (HK5.out.trans k6 (fun _ _ h => h))
        have HO6 := Lib.hid (Row.keep HO5.out k6 (fun _ _ _ => id))
        clear HOC HX5 HB5 HK5 HO5 k6
        obtain ⟨c0, c1, c2⟩ := HB6.out.state HS.out
        by_cases hch : x.s = 0 ∧ oc ≠ 0
        · have hy : y = ⟨oc, 0, 0⟩ := by rw [HAT2.out, if_pos hch]
          subst hy
          have g1 : (x.s == 0) = true := by rw [hch.1]; rfl
          have g2 : (oc != 0) = true := by rw [bne_iff_ne]; exact hch.2
          have f0 := HB6.out.free (p * 3)
          have f1 := HB6.out.free (p * 3 + 1)
          have f2 := HB6.out.free (p * 3 + 2)
          clear hch hrange HAT2
          go_wp2
          have kp := keep_put3 w6 M p (.int .i64 oc) (.int .u64 0) (.int .u64 0)
          have HB7 := Lib.hid (HB6.out.putS p ⟨oc, 0, 0⟩ (by rw [HLL.out]; exact hpL))
          have HK7 := Lib.hid (HK6.out.own kp (by omega))
          have HX7 := Lib.hid (HX6.out.keep kp hGM)
          have HO7 := Lib.hid (Row.keep HO6.out kp (fun i _ h e => h e))
          clear kp HB6 HK6 HX6 HO6 c0 c1 c2 f0 f1 f2
          go_roundw
          case rel => exact ⟨k + 1, by omega, by go_num, HK7.out, HX7.out, HO7.out, by rw [HSTEP.out]; exact HB7.out⟩
          case measure => simp [intOf]; omega
        · have hy : y = x := by rw [HAT2.out, if_neg hch]
          subst hy
          have HSM := Lib.hid (set_same L p y HS.out)
          rw [HSM.out] at HSTEP
          by_cases hs0 : y.s = 0
          · have hoc : oc = 0 := Classical.byContradiction fun h => hch ⟨hs0, h⟩
            subst hoc
            have g1 : (y.s == 0) = true := by rw [hs0]; rfl
            clear hch hrange HAT2 HSM hs0
            go_wp2
            go_roundw
            case rel => exact ⟨k + 1, by omega, by go_num, HK6.out, HX6.out, HO6.out, by rw [HSTEP.out]; exact HB6.out⟩
            case measure => simp [intOf]; omega
          · have g1 : (y.s == 0) = false := by rw [beq_eq_false_iff_ne]; exact hs0
            clear hch hrange HAT2 HSM hs0
            go_wp2
            go_roundw
            case rel => exact ⟨k + 1, by omega, by go_num, HK6.out, HX6.out, HO6.out, by rw [HSTEP.out]; exact HB6.out⟩
            case measure => simp [intOf]; omega
      · have e1 : ord.take k = ord := List.take_of_length_le (by omega)
        rw [e1, ← HR.out] at HB
        have hRl : R.length = l.length := by rw [HR.out, runOf_length]
        have HRL := Lib.hid hRl
        have hkn : ¬ ((k : Int) < (ord.length : Int)) := by omega
        clear e1 hkeep hlt hRl
        go_wp2
        go_ret
        refine ⟨_, rfl, HKP.out, .inr ⟨M, by rw [HRL.out]; rfl, by omega, by rw [HRL.out]; exact hml, HB.out⟩⟩
  · rw [if_neg hlen] at HR
    have g0 : ((ord.length : Int) != (l.length : Int)) = true := by rw [bne_iff_ne]; omega
    clear hlen HST
    go_enter Tryz.func120, Tryz.ntmps120
    go_wp2_with fail
    refine HO.out.mono ?_
    rintro e w1 ⟨v1, rfl, o1, k1⟩
    obtain ⟨A1, c1, hv1⟩ := o1.shape
    subst hv1
    have HK1 := Lib.hid (HK0.out.trans k1 (fun _ _ h => h))
    clear HK0 HX0 HO o1 k1
    go_wp2
    go_ret
    exact ⟨_, rfl, HK1.out, .inl ⟨rfl, HR.out⟩⟩
end Go.Proofs.YtkoikmdmejhhhaaGreat
namespace Go.Proofs.YtkoikmdmejhhhaaGreat
open Go.RowKit
theorem box_made {w : World} {base g n : Nat} (h : w.ownsRow base 64 3 (.slice (some ⟨g, 0, none⟩) n n) n (madeCells #[.int .i64 0, .int .u64 0, .int .u64 0] (n * 3)).toList) : Box w g 64 (svs (List.replicate n Pst.zero)) := by
  rw [svs_none]
  rcases h.2 with ⟨e, _⟩ | ⟨g', cap, cur, e, _, hg, _, _, hsz, htk⟩
  · cases e
  · have e1 : g = g' := by simpa using congrArg (fun v => match v with | Value.slice (some a) _ _ => a.block | _ => 0) e
    have e2 : n = cap := by simpa using congrArg (fun v => match v with | Value.slice (some _) _ c => c | _ => 0) e
    subst e1
    subst e2
    have : cur = madeCells #[.int .i64 0, .int .u64 0, .int .u64 0] (n * 3) := by
      apply Array.ext'
      have h1 : cur.toList.take (n * 3) = cur.toList := List.take_of_length_le (by simp [hsz])
      rw [h1] at htk
      exact htk
    rw [← this]
    exact hg
def Begun (n : Nat) (fs : List Bool) (k : Nat) (m : List Pst) : Prop := m.length = n ∧ ∀ j, j < n → m[j]? = some (if j < k then ⟨if fs.getD j false = true then 3 else 0, 0, 0⟩ else Pst.zero)
theorem Begun.made (n : Nat) (fs : List Bool) : Begun n fs 0 (List.replicate n Pst.zero) := ⟨List.length_replicate, fun j hj => by rw [List.getElem?_replicate, if_pos hj, if_neg (Nat.not_lt_zero _)]⟩
theorem Begun.all {n k : Nat} {fs : List Bool} {m : List Pst} (h : Begun n fs k m) (hk : n ≤ k) : m = stBegin n fs := by
  apply list_ext3
  intro j
  by_cases hj : j < n
  · rw [h.2 j hj, if_pos (by omega), stBegin_at fs hj]
  · rw [List.getElem?_eq_none (by have := h.1; omega), List.getElem?_eq_none (by rw [stBegin_length]; omega)]
theorem Begun.more {n k : Nat} {fs : List Bool} {m : List Pst} (h : Begun n fs k m) (x : Pst) (hx : x = ⟨if fs.getD k false = true then 3 else 0, 0, 0⟩) : Begun n fs (k + 1) (m.set k x) := by
  refine ⟨by rw [List.length_set]; exact h.1, fun j hj => ?_⟩
  by_cases e : j = k
  · subst e
    rw [List.getElem?_set_self (by rw [h.1]; exact hj), if_pos (Nat.lt_succ_self _), hx]
  · rw [List.getElem?_set_ne (fun h => e h.symm), h.2 j hj]
    by_cases hjk : j < k
    · rw [if_pos hjk, if_pos (show j < k + 1 by omega)]
    · rw [if_neg hjk, if_neg (show ¬ j < k + 1 by omega)]
theorem Begun.same {n k : Nat} {fs : List Bool} {m : List Pst} (h : Begun n fs k m) (hx : fs.getD k false = false) : Begun n fs (k + 1) m := by
  refine ⟨h.1, fun j hj => ?_⟩
  rw [h.2 j hj]
  by_cases e : j = k
  · subst e
    rw [if_neg (Nat.lt_irrefl _), if_pos (Nat.lt_succ_self _), hx]
    rfl
  · by_cases hjk : j < k
    · rw [if_pos hjk, if_pos (show j < k + 1 by omega)]
    · rw [if_neg hjk, if_neg (show ¬ j < k + 1 by omega)]
set_option maxRecDepth 100000 in
set_option maxHeartbeats 4000000 in
theorem start_any (w : World) (D Df : Nat → Prop) (v vf : Value) (ts : List Tg) (fs : List Bool) (h : Tgs w D v ts) (h' : Bls w Df vf fs) (hb : ts.length * 56 ≤ reachBytes) :
    Calls Tryz.prog 111 #[.agg #[v], vf] w (ToldSts (grStart (ts.map Tg.plain) fs) w) := by
  have HH := Lib.hid h
  have HF := Lib.hid h'
  have hb24 : ts.length * 24 ≤ reachBytes := by rw [reach_is] at hb ⊢; omega
  have HB24 := Lib.hid hb24
  rw [reach_is] at hb
  obtain ⟨A, c, rfl, hlc, hcm, hn, hxl, hc⟩ := h.1
  obtain ⟨Af, cf, rfl, hlf, hcf, _, _, hcell0⟩ := h'
  unfold maxLen at hcm hcf
  have HFC := Lib.hid hcell0
  have ka := (Keep.refl noneOf w).alloc (.cells #[.slice A ts.length c] 35)
  obtain ⟨i1, hi1, hz1, hs1, hb1⟩ := info_parts stinfo
  have X0 := Box.new w 35 #[.slice A ts.length c]
  obtain ⟨w2, hmk, hown2, hg2⟩ := run_make_full (P := Tryz.prog) (w.alloc (.cells #[.slice A ts.length c] 35)) (w.heap.size + 1) 45 64 i1 (.agg #[.int .i64 0, .int .u64 0, .int .u64 0]) 3 Tryz.underlying45 hi1 hz1 hs1 .i64 .i64 ts.length (by rw [hb1]; omega) (by unfold maxLen; omega) (by simp)
  rw [show (w.alloc (.cells #[.slice A ts.length c] 35)).heap.size = w.heap.size + 1 from by simp] at hmk hown2
  have kk2 : Keep noneOf (w.alloc (.cells #[.slice A ts.length c] 35)) w2 := (Keep.of_grown hg2).mono (fun _ _ h => by cases h)
  have HB2 := Lib.hid (box_made hown2)
  have HK2 := Lib.hid (ka.trans kk2 (fun _ _ h => h))
  have HX2 := Lib.hid (X0.keep kk2 id)
  have hRR : grStart (ts.map Tg.plain) fs = grSettle (ts.map Tg.plain) (stBegin ts.length fs) := by unfold grStart; rw [List.length_map]
  have HRR := Lib.hid hRR
  generalize grStart (ts.map Tg.plain) fs = R at *
  clear h ka hc hxl hn hown2 hg2 kk2 hcell0 X0 hb24 hRR
  go_enter Tryz.func111, Tryz.ntmps111
  go_wp2
  go_loopw [13] (fun i wr => ∃ k : Nat, k ≤ ts.length ∧ i = .int .i64 k ∧ Keep noneOf w wr ∧ Box wr w.heap.size 35 #[.slice A ts.length c] ∧ ∃ m, Begun ts.length fs k m ∧ Box wr (w.heap.size + 1) 64 (svs m)) (fun i _ => ts.length - (intOf i).toNat)
  case atStart => exact ⟨0, Nat.zero_le _, rfl, HK2.out, HX2.out, _, Begun.made _ _, HB2.out⟩
  case round =>
    obtain ⟨k, hk, rfl, hkeep, hX, m, hm, hB⟩ := hrel
    have HKP := Lib.hid hkeep
    have HX := Lib.hid hX
    have HB := Lib.hid hB
    have HM := Lib.hid hm
    clear hX hB HK2 HX2 HB2 hm
    by_cases hlt : k < ts.length
    · have hmk := HM.out.2 k hlt
      rw [if_neg (Nat.lt_irrefl _)] at hmk
      obtain ⟨c0, -, -⟩ := HB.out.state hmk
      have f0 := HB.out.free (k * 3)
      have hb1 := HB.out.put (k * 3) (.int .i64 0)
      rw [svs_set_s m k 0 _ hmk, show (⟨0, Pst.zero.t, Pst.zero.u⟩ : Pst) = Pst.zero from rfl, set_same m k _ hmk] at hb1
      have HB1 := Lib.hid hb1
      have ks1 : Keep (fun i => i = w.heap.size + 1) wr (wr.setCell ⟨w.heap.size + 1, k * 3, none⟩ (.int .i64 0)) := (Keep.refl (fun i => i = w.heap.size + 1) _).setCell (fun _ => rfl) _
      have HK1 := Lib.hid (HKP.out.own ks1 (by omega))
      have HX1 := Lib.hid (HX.out.keep ks1 (by omega))
      have q0 : (0 : Int) ≤ (k : Int) := by omega
      have q1 : (k : Int) < (ts.length : Int) := by omega
      have HMK := Lib.hid hmk
      clear hmk hb1 ks1
      by_cases hkf : k < fs.length
      · obtain ⟨ad, rfl, hsp, hblk, _, hcell⟩ := HFC.out (by omega)
        obtain ⟨b, o, sp⟩ := ad
        simp only at hsp hblk hcell
        subst hsp
        have hcf0 : (wr.setCell ⟨w.heap.size + 1, k * 3, none⟩ (.int .i64 0)).cell? ⟨b, o + k, none⟩ = some (.bool (fs.getD k false)) := (HK1.out.cell (p := ⟨b, o + k, none⟩) hblk id).trans (hcell k _ (by rw [List.getElem?_map, getB_at hkf]; rfl))
        have r1 : (k : Int) < (fs.length : Int) := by omega
        clear hcell hkeep
        cases hfk : fs.getD k false with
        | true =>
          rw [hfk] at hcf0
          obtain ⟨e0, -, -⟩ := HB1.out.state HMK.out
          have f1 := HB1.out.free (k * 3)
          have hb2 := HB1.out.put (k * 3) (.int .i64 3)
          rw [svs_set_s m k 3 _ HMK.out] at hb2
          have HB3 := Lib.hid hb2
          have HM3 := Lib.hid (HM.out.more ⟨3, 0, 0⟩ (by rw [hfk]; rfl))
          have ks3 : Keep (fun i => i = w.heap.size + 1) (wr.setCell ⟨w.heap.size + 1, k * 3, none⟩ (.int .i64 0)) ((wr.setCell ⟨w.heap.size + 1, k * 3, none⟩ (.int .i64 0)).setCell ⟨w.heap.size + 1, k * 3, none⟩ (.int .i64 3)) := (Keep.refl (fun i => i = w.heap.size + 1) _).setCell (fun _ => rfl) _
          have HK3 := Lib.hid (HK1.out.own ks3 (by omega))
          have HX3 := Lib.hid (HX1.out.keep ks3 (by omega))
          clear hb2 ks3 hfk
          go_wp2
          go_roundw
          case rel => exact ⟨k + 1, by omega, by go_num, HK3.out, HX3.out, _, HM3.out, HB3.out⟩
          case measure => simp [intOf]; omega
        | false =>
          rw [hfk] at hcf0
          have HM3 := Lib.hid (HM.out.same hfk)
          clear hfk
          go_wp2
          go_roundw
          case rel => exact ⟨k + 1, by omega, by go_num, HK1.out, HX1.out, _, HM3.out, HB1.out⟩
          case measure => simp [intOf]; omega
      · have HM3 := Lib.hid (HM.out.same (show fs.getD k false = false by rw [List.getD_eq_getElem?_getD, List.getElem?_eq_none (by omega)]; rfl))
        have r1 : ¬ ((k : Int) < (fs.length : Int)) := by omega
        clear hkf hkeep
        go_wp2
        go_roundw
        case rel => exact ⟨k + 1, by omega, by go_num, HK1.out, HX1.out, _, HM3.out, HB1.out⟩
        case measure => simp [intOf]; omega
    · have hkn : ¬ ((k : Int) < (ts.length : Int)) := by omega
      have hmA := HM.out.all (by omega)
      subst hmA
      have hss := Sts.of_box (D := fun _ => True) HB.out (Nat.le_refl _) (by rw [stBegin_length]; unfold maxLen; omega) trivial
      have hset := settle_any wr D (fun _ => True) _ _ ts (stBegin ts.length fs) (HH.out.keep hkeep (fun _ _ _ => id)) hss (by rw [stBegin_length]; exact HB24.out)
      rw [← HRR.out, stBegin_length] at hset
      have HSET := Lib.hid hset
      have x0 : wr.cell? ⟨w.heap.size, 0, none⟩ = some (.slice A ts.length c) := HX.out.cell 0
      clear hset hss hkeep hlt
      go_wp2_with fail
      refine HSET.out.mono ?_
      rintro e w3 ⟨v3, rfl, k3, hv3⟩
      have HK3 := Lib.hid (HKP.out.trans k3 (fun _ _ h => h))
      have HV3 := Lib.hid hv3
      have hsz := HKP.out.size
      clear HSET k3 hv3 x0
      go_wp2
      go_ret
      refine ⟨_, rfl, HK3.out, ?_⟩
      rcases HV3.out with h | ⟨g, h1, h2, h3, h4⟩
      · exact .inl h
      · exact .inr ⟨g, h1, by omega, h3, h4⟩
end Go.Proofs.YtkoikmdmejhhhaaGreat
