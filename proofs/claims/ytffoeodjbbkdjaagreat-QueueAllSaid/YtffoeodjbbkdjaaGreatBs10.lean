import Derived.BigQuiet
import Derived.Deep.QuietTactic
import Derived.Laws.CopyRow
import Derived.Laws.OwnMore
import Derived.Test.YtffoeodjbbkdjaaGreatBs01
import Derived.Test.YtffoeodjbbkdjaaGreatBs06
import Derived.Test.YtffoeodjbbkdjaaGreatBs09
namespace Go.Proofs.YtffoeodjbbkdjaaGreat
open Go.RowKit
set_option maxRecDepth 100000 in
set_option maxHeartbeats 1000000 in
theorem in64_any (w : World) (D : Nat → Prop) (v : Value) (ns : List Nat) (n : Nat) (h : Kys w D v ns) :
  Calls Tryz.prog 55 #[v, .int .u64 (n : Int)] w fun e w' => e = .returned (.bool (ns.contains n)) ∧ w = w' := by
 obtain ⟨⟨A, c, rfl, hlc, hcm, hn, hxl, hc⟩, _⟩ := h
 unfold maxLen at hcm
 have HC := Lib.hid hc
 generalize hR : ns.contains n = R
 have HR := Lib.hid hR
 clear hc hxl hR
 go_enter Tryz.func55, Tryz.ntmps55
 go_wp2
 go_loop [5] (fun i => ∃ k : Nat, k ≤ ns.length ∧ i = .int .i64 k ∧ ∀ j m, j < k → ns[j]? = some m → m ≠ n) (fun i => ns.length - (intOf i).toNat)
 case atStart => exact ⟨0, Nat.zero_le _, rfl, fun j _ hj => absurd hj (by omega)⟩
 case round =>
  obtain ⟨k, hk, rfl, hall⟩ := hrel
  have HA := Lib.hid hall
  clear hall
  by_cases hlt : k < ns.length
  ·
   obtain ⟨ad, rfl, hsp, hblk, hD, hcell⟩ := HC.out (by omega)
   obtain ⟨b, o, sp⟩ := ad
   simp only at hsp hblk hD hcell
   subst hsp
   have HS := Lib.hid (List.getElem?_eq_getElem hlt)
   have c0 : w.cell? ⟨b, o + k, none⟩ = some (.int .u64 (ns[k] : Int)) := hcell k _ (by rw [List.getElem?_map, List.getElem?_eq_getElem hlt]; rfl)
   generalize ns[k] = m at *
   clear hcell
   by_cases hs : m = n
   ·
    subst hs
    have hR : R = true := by
     rw [← HR.out, List.contains_iff_mem]
     exact List.mem_of_getElem? HS.out
    subst hR
    go_wp2
    go_ret
    exact ⟨rfl, rfl⟩
   ·
    have g : ((m : Int) == (n : Int)) = false := by rw [beq_eq_false_iff_ne]; omega
    have HS2 := Lib.hid hs
    clear hs
    go_wp2
    go_round
    case rel =>
     refine ⟨k + 1, by omega, by go_num, fun j t hj e => ?_⟩
     rcases Nat.lt_or_ge j k with h | h
     ·
      exact HA.out j t h e
     ·
      have : j = k := by omega
      subst this
      rw [HS.out] at e
      injection e with e
      rw [← e]
      exact HS2.out
    case measure => simp [intOf]; omega
  ·
   have hR : R = false := by
    rw [← HR.out]
    cases hb : ns.contains n with
    | false => rfl
    | true =>
     rw [List.contains_iff_mem] at hb
     obtain ⟨j, hj⟩ := List.getElem?_of_mem hb
     exact absurd rfl (HA.out j n (by have := (List.getElem?_eq_some_iff.1 hj).1; omega) hj)
   subst hR
   go_wp2
   go_ret
   exact ⟨rfl, rfl⟩
end Go.Proofs.YtffoeodjbbkdjaaGreat
namespace Go.Proofs.YtffoeodjbbkdjaaGreat
open Go.RowKit
theorem all_take_snoc (ns : List Nat) (L : List Bool) (j : Nat) (h : j < ns.length) : (ns.take (j + 1)).all (fun n => L.getD n false) = ((ns.take j).all (fun n => L.getD n false) && L.getD ns[j] false) := by
 rw [List.take_succ_eq_append_getElem h, List.all_append]
 simp
theorem grFresh_none {ps : List Pt} (P : Nat → Bool) (h : grOrder ps = []) : grFresh ps P = [] := by
 have := grFresh_length ps P
 rw [h] at this
 exact List.eq_nil_of_length_eq_zero this
theorem check_of_order {ps : List Pt} (h : grOrder ps ≠ []) : grCheck ps = 0 := Classical.byContradiction fun hq => h (order_none hq)
set_option maxRecDepth 100000 in
set_option maxHeartbeats 4000000 in
theorem refFresh_any (w : World) (D Db : Nat → Prop) (v vb : Value) (bks : List Nat) (ts : List Tg) (h : Tgs w D v ts) (hbk : Kys w Db vb bks) :
  Calls Tryz.prog 68 #[.agg #[v], vb] w (ToldBools (grFresh (ts.map Tg.plain) (fun k => bks.contains k)) w) := by
 have HH := Lib.hid h
 have HBK := Lib.hid hbk
 obtain ⟨A, c, rfl, hlc, hcm, hn, hxl, hc⟩ := h.1
 unfold maxLen at hcm
 have ka := (Keep.refl noneOf w).alloc (.cells #[.slice A ts.length c] 35)
 have HK0 := Lib.hid ka
 have HX0 := Lib.hid (Box.new w 35 #[.slice A ts.length c])
 have HOR := Lib.hid (refOrder_any _ D _ ts (h.keep ka (fun _ _ _ => id)))
 obtain ⟨Ab, cb, rfl⟩ := hbk.shape
 by_cases hne : grOrder (ts.map Tg.plain) = []
 ·
  rw [grFresh_none _ hne]
  rw [hne] at HOR
  clear hne h ka hc hxl hn hbk
  go_enter Tryz.func68, Tryz.ntmps68
  go_wp2_with fail
  refine HOR.out.mono ?_
  rintro e w1 ⟨v1, rfl, o1, k1⟩
  obtain ⟨A1, c1, hv1⟩ := o1.shape
  subst hv1
  simp only [List.length_nil]
  have HK1 := Lib.hid (HK0.out.trans k1 (fun _ _ h => h))
  clear HOR HK0 o1 k1
  go_wp2
  go_ret
  exact ⟨none, 0, rfl, ⟨none, 0, rfl, Nat.le_refl _, Nat.zero_le _, fun _ => rfl, rfl, fun h => absurd h (by simp)⟩, HK1.out⟩
 ·
  have hq := check_of_order hne
  have hpos : 0 < (grOrder (ts.map Tg.plain)).length := List.length_pos_iff.2 hne
  have HAT : Hid (∀ i p, (grOrder (ts.map Tg.plain))[i]? = some p → _) := Lib.hid fun i p hp => order_some hp
  have HR := Lib.hid (show grFresh (ts.map Tg.plain) (fun k => bks.contains k) = runOf (freshAt (ts.map Tg.plain) (grKeys (ts.map Tg.plain)) (fun k => bks.contains k)) (List.replicate (grOrder (ts.map Tg.plain)).length false) (grOrder (ts.map Tg.plain)) from rfl)
  have HKL := Lib.hid (grKeys_length (ts.map Tg.plain))
  have HKB : Hid (∀ k ∈ grKeys (ts.map Tg.plain), (k : Int) < 18446744073709551616) := Lib.hid (keys_bound (ts.map Tg.plain) _ _)
  have h32 := order_32 (ts.map Tg.plain)
  have hol : (grOrder (ts.map Tg.plain)).length = ts.length := by rw [order_len hq, List.length_map]
  have HOL := Lib.hid hol
  have HFW := Lib.hid (fits_few (check_fits hq).1).2
  have HKE : Hid (∀ w', Keep noneOf w w' → Calls Tryz.prog 113 #[.agg #[.slice A ts.length c]] w' (ToldKeys (grKeys (ts.map Tg.plain)) w')) := Lib.hid fun w' k => refkeys_any w' D _ ts (HH.out.keep k (fun _ _ _ => id)) hq
  obtain ⟨i1, hi1, hz1, hs1, hb1⟩ := info_parts boolinfo'
  generalize grFresh (ts.map Tg.plain) (fun k => bks.contains k) = R at *
  generalize grOrder (ts.map Tg.plain) = ord at *
  generalize grKeys (ts.map Tg.plain) = ks at *
  have ht32 : ts.length ≤ 32 := by omega
  have g0 : ((ord.length : Int) == 0) = false := by rw [beq_eq_false_iff_ne]; omega
  clear h ka hc hxl hn hol hne hbk hq
  go_enter Tryz.func68, Tryz.ntmps68
  go_wp2_with fail
  refine HOR.out.mono ?_
  rintro e w1 ⟨v1, rfl, o1, k1⟩
  obtain ⟨A1, c1, hv1⟩ := o1.shape
  subst hv1
  have K1 := HK0.out.trans k1 (fun _ _ h => h)
  have X1 := HX0.out.keep k1 id
  have x1 : w1.cell? ⟨w.heap.size, 0, none⟩ = some (.slice A ts.length c) := X1.cell 0
  have HK1 := Lib.hid K1
  have HX1 := Lib.hid X1
  have HO1 := Lib.hid o1
  have HKE1 := Lib.hid (HKE.out _ K1)
  clear HOR HK0 HX0 k1 o1 X1 K1 HKE
  go_wp2_with fail
  refine HKE1.out.mono ?_
  rintro e w2 ⟨A2, c2, rfl, o2, k2⟩
  have K2 := HK1.out.trans k2 (fun _ _ h => h)
  have X2 := HX1.out.keep k2 id
  have x2 : w2.cell? ⟨w.heap.size, 0, none⟩ = some (.slice A ts.length c) := X2.cell 0
  obtain ⟨w3, hmk, hown3, hg3⟩ := run_make_full (P := Tryz.prog) w2 w2.heap.size 117 4 i1 (.bool false) 1 Tryz.underlying117 hi1 hz1 hs1 .i64 .i64 ts.length (by rw [hb1]; omega) (by unfold maxLen; omega) (Nat.le_refl _)
  have kk3 := Keep.of_grown hg3
  have hlt2 : w.heap.size < w2.heap.size := X2.lt
  have HO3 := Lib.hid (Row.keep (Row.mono (D' := fun b => b ≠ w2.heap.size) (Row.keep HO1.out k2 (fun _ _ _ => id)) (fun i hi h => by omega)) kk3 (fun _ _ _ h => by cases h) : Ints w3 (fun b => b ≠ w2.heap.size) (.slice A1 ord.length c1) ord)
  have HKS3 := Lib.hid (Kys.keep (Kys.mono (D' := fun b => b ≠ w2.heap.size) o2 (fun i hi h => by omega)) kk3 (fun _ _ _ h => by cases h))
  have HK3 := Lib.hid (show Keep noneOf w w3 from K2.trans kk3 (fun _ _ h => by cases h))
  have HX3 := Lib.hid (X2.keep kk3 (fun h => by cases h))
  have B3 := Box.of_made hown3
  rw [show (Value.cells (.bool false)) = #[.bool false] from rfl, toList_madeCells_one, Nat.mul_one, ← bvs_none, ← HOL.out] at B3
  have HB3 := Lib.hid B3
  clear HKE1 o2 k2 K2 X2 hown3 hg3 kk3 B3 HK1 HX1 HO1 x1
  go_wp2
  clear hmk x2
  generalize w2.heap.size = M at *
  go_loopw [8] (fun i wr => ∃ k : Nat, k ≤ ord.length ∧ i = .int .i64 k ∧ Keep noneOf w wr ∧ Box wr w.heap.size 35 #[.slice A ts.length c] ∧ Kys wr (fun b => b ≠ M) (.slice A2 ks.length c2) ks ∧ Ints wr (fun b => b ≠ M) (.slice A1 ord.length c1) ord ∧ Box wr M 4 (bvs (runOf (freshAt (ts.map Tg.plain) ks (fun k => bks.contains k)) (List.replicate ord.length false) (ord.take k)))) (fun i _ => ord.length - (intOf i).toNat)
  case atStart => exact ⟨0, Nat.zero_le _, rfl, HK3.out, HX3.out, HKS3.out, HO3.out, HB3.out⟩
  case round =>
   obtain ⟨k, hk, rfl, hkeep, hX, hKS, hO, hB⟩ := hrel
   have hGM : w.heap.size ≠ M := hX.ne hB (by decide)
   have hMw := hB.lt
   have x0 : wr.cell? ⟨w.heap.size, 0, none⟩ = some (.slice A ts.length c) := hX.cell 0
   have HKP := Lib.hid hkeep
   have HX := Lib.hid hX
   have HKS := Lib.hid hKS
   have HO := Lib.hid hO
   have HB := Lib.hid hB
   clear hX hKS hO hB HK3 HX3 HO3 HB3 HKS3
   by_cases hlt : k < ord.length
   ·
    obtain ⟨hq, hpl⟩ := HAT.out k ord[k] (List.getElem?_eq_getElem hlt)
    rw [List.length_map] at hpl
    obtain ⟨A', c', hv', hl', hm', _, _, hrow⟩ := HO.out
    obtain ⟨rfl, rfl⟩ : A1 = A' ∧ c1 = c' := by simpa using hv'
    obtain ⟨ad, rfl, hsp, hblk, hDb, hcell⟩ := hrow (by omega)
    obtain ⟨b, o, sp⟩ := ad
    simp only at hsp hblk hDb hcell
    subst hsp
    unfold maxLen at hm'
    have hck : wr.cell? ⟨b, o + k, none⟩ = some (.int .i64 (ord[k] : Int)) := hcell k _ (by rw [List.getElem?_map, List.getElem?_eq_getElem hlt]; rfl)
    have HSTEP := Lib.hid (runOf_more (freshAt (ts.map Tg.plain) ks (fun k => bks.contains k)) (List.replicate ord.length false) ord k ord[k] (List.getElem?_eq_getElem hlt))
    have HLL := Lib.hid (show (runOf (freshAt (ts.map Tg.plain) ks (fun k => bks.contains k)) (List.replicate ord.length false) (ord.take k)).length = ord.length by rw [runOf_length, List.length_replicate])
    generalize hL : runOf (freshAt (ts.map Tg.plain) ks (fun k => bks.contains k)) (List.replicate ord.length false) (ord.take k) = L at *
    generalize ord[k] = p at *
    have hpk : p < ks.length := by rw [HKL.out, HOL.out]; omega
    obtain ⟨⟨A5, c5, hv5, hl5, hm5, _, _, hrow5⟩, _⟩ := HKS.out
    obtain ⟨rfl, rfl⟩ : A2 = A5 ∧ c2 = c5 := by simpa using hv5
    obtain ⟨ad5, rfl, hsp5, hblk5, hDb5, hcell5⟩ := hrow5 (by omega)
    obtain ⟨b5, o5, sp5⟩ := ad5
    simp only at hsp5 hblk5 hDb5 hcell5
    subst hsp5
    unfold maxLen at hm5
    have hck5 : wr.cell? ⟨b5, o5 + p, none⟩ = some (kv (ks.getD p 0)) := hcell5 p _ (by rw [List.getElem?_map, getD_at hpk]; rfl)
    rw [show freshAt (ts.map Tg.plain) ks (fun k => bks.contains k) L p = ((needsAt (ts.map Tg.plain) (p : Int)).all (fun n => L.getD n false) && bks.contains (ks.getD p 0)) from rfl] at HSTEP
    generalize ks.getD p 0 = x at *
    unfold kv at hck5
    have HNL : Hid (∀ n ∈ needsAt (ts.map Tg.plain) (p : Int), n < L.length) := Lib.hid fun n hn => by
     have := needsAt_lt hn
     rw [List.length_map] at this
     rw [HLL.out, HOL.out]
     exact this
    have NE : Hid (∀ w', Keep noneOf wr w' → Calls Tryz.prog 93 #[.agg #[.slice A ts.length c], .int .i64 (p : Int)] w' (ToldInts (needsAt (ts.map Tg.plain) (p : Int)) w')) := Lib.hid fun w' k' => refNeeds_any w' D _ ts (p : Int) (HH.out.keep (hkeep.trans k' (fun _ _ h => h)) (fun _ _ _ => id)) HFW.out
    have hn16 : (needsAt (ts.map Tg.plain) (p : Int)).length ≤ 16 := needsAt_16 hq
    generalize needsAt (ts.map Tg.plain) (p : Int) = ns at *
    have IN := Lib.hid (in64_any wr Db (.slice Ab bks.length cb) bks x (HBK.out.keep hkeep (fun _ _ _ => id)))
    generalize bks.contains x = isb at *
    have g1 : (0 : Int) ≤ (p : Int) := by omega
    have g2 : (p : Int) < (ks.length : Int) := by omega
    have hpL : p < L.length := by rw [HLL.out]; have := HKL.out; omega
    have hpt : p < ts.length := hpl
    clear hrow hcell hv' hrow5 hcell5 hv5 hq hkeep hL
    go_wp2_with fail
    refine IN.out.mono ?_
    rintro e w4 ⟨rfl, rfl⟩
    clear IN
    have NE0 := Lib.hid (NE.out wr (Keep.refl _ _))
    clear NE
    go_wp2_with fail
    refine NE0.out.mono ?_
    rintro e w5 ⟨v5, rfl, o5', k5⟩
    obtain ⟨A6, c6, hv6⟩ := o5'.shape
    subst hv6
    have HN6 := Lib.hid o5'
    have HX6 := Lib.hid (HX.out.keep k5 id)
    have HB6 := Lib.hid (HB.out.keep k5 id)
    have HK6 := Lib.hid (HKP.out.trans k5 (fun _ _ h => h))
    have HKS6 := Lib.hid (HKS.out.keep k5 (fun _ _ _ => id))
    have HO6 := Lib.hid (Row.keep HO.out k5 (fun _ _ _ => id))
    clear o5' k5 NE0 HX HB HKP HKS HO x0 hck hck5
    go_wp2
    go_loop [10, 12] (fun is i => ∃ j : Nat, j ≤ ns.length ∧ i = .int .i64 j ∧ is = .bool (isb && (ns.take j).all (fun n => L.getD n false))) (fun _ i => ns.length - (intOf i).toNat)
    case atStart => exact ⟨0, Nat.zero_le _, rfl, by rw [List.take_zero, List.all_nil, Bool.and_true]⟩
    case round =>
     obtain ⟨j, hj, rfl, rfl⟩ := hrel
     by_cases hjl : j < ns.length
     ·
      obtain ⟨A', c', hv', hl', hm', _, _, hrow⟩ := HN6.out
      obtain ⟨rfl, rfl⟩ : A6 = A' ∧ c6 = c' := by simpa using hv'
      obtain ⟨ad6, rfl, hsp6, hblk6, _, hcell6⟩ := hrow (by omega)
      obtain ⟨b6, o6, sp6⟩ := ad6
      simp only at hsp6 hblk6 hcell6
      subst hsp6
      unfold maxLen at hm'
      have hc6 : w5.cell? ⟨b6, o6 + j, none⟩ = some (.int .i64 (ns[j] : Int)) := hcell6 j _ (by rw [List.getElem?_map, List.getElem?_eq_getElem hjl]; rfl)
      have hnl := HNL.out ns[j] (List.getElem_mem hjl)
      have HT := Lib.hid (show (isb && (ns.take (j + 1)).all (fun n => L.getD n false)) = ((isb && (ns.take j).all (fun n => L.getD n false)) && L.getD ns[j] false) by rw [all_take_snoc ns L j hjl, Bool.and_assoc])
      have hc7 : w5.cell? ⟨M, ns[j], none⟩ = some (.bool (L.getD ns[j] false)) := by rw [HB6.out.cell, bvs_at, getB_at hnl]; rfl
      generalize L.getD ns[j] false = y at *
      generalize (isb && (ns.take j).all (fun n => L.getD n false)) = bb at *
      have hnt : ns[j] < ts.length := by rw [← HOL.out, ← HLL.out]; exact hnl
      generalize ns[j] = n at *
      have q0 : (0 : Int) ≤ (n : Int) := by omega
      have q1 : (n : Int) < (ts.length : Int) := by omega
      clear hrow hcell6 hv'
      cases bb with
      | true =>
       rw [Bool.true_and] at HT
       go_wp2
       go_round
       case rel => exact ⟨j + 1, by omega, by go_num, by rw [HT.out]⟩
       case measure => simp [intOf]; omega
      | false =>
       rw [Bool.false_and] at HT
       go_wp2
       go_round
       case rel => exact ⟨j + 1, by omega, by go_num, by rw [HT.out]⟩
       case measure => simp [intOf]; omega
     ·
      have hjn : ¬ ((j : Int) < (ns.length : Int)) := by omega
      have HV := Lib.hid (show (isb && (ns.take j).all (fun n => L.getD n false)) = (ns.all (fun n => L.getD n false) && isb) by rw [List.take_of_length_le (by omega), Bool.and_comm])
      rw [← HV.out] at HSTEP
      generalize (isb && (ns.take j).all (fun n => L.getD n false)) = val at *
      have b7 : w5.cell? ⟨M, p, none⟩ = some (.bool (L.getD p false)) := by rw [HB6.out.cell, bvs_at, getB_at hpL]; rfl
      have f7 := HB6.out.free p
      generalize L.getD p false = old at *
      have hb8 := HB6.out.put p (.bool val)
      rw [bvs_set, ← HSTEP.out] at hb8
      have HB8 := Lib.hid hb8
      have ks6 : Keep (fun b => b = M) w5 (w5.setCell ⟨M, p, none⟩ (.bool val)) := (Keep.refl (fun b => b = M) w5).setCell (fun _ => rfl) _
      have hwM : w.heap.size < M := by omega
      have HK8 := Lib.hid (HK6.out.trans ks6 (fun i hi h => by omega))
      have HX8 := Lib.hid (HX6.out.keep ks6 hGM)
      have HKS8 := Lib.hid (HKS6.out.keep ks6 (fun i _ h e => h e))
      have HO8 := Lib.hid (Row.keep HO6.out ks6 (fun i _ h e => h e))
      clear hb8 ks6 HB6 HK6 HX6 HKS6 HO6 HN6 hjl
      go_wp2
      go_roundw
      case rel => exact ⟨k + 1, by omega, by go_num, HK8.out, HX8.out, HKS8.out, HO8.out, HB8.out⟩
      case measure => simp [intOf]; omega
   ·
    have e1 : ord.take k = ord := List.take_of_length_le (by omega)
    rw [e1, ← HR.out] at HB
    have hRl : R.length = ts.length := by rw [HR.out, runOf_length, List.length_replicate, HOL.out]
    have BL : Bls wr (fun b => w.heap.size ≤ b) (.slice (some ⟨M, 0, none⟩) R.length R.length) R := Bls.of_box HB.out (by rw [hRl]; unfold maxLen; omega) (by omega)
    have HBL := Lib.hid BL
    have HRL := Lib.hid hRl
    have hkn : ¬ ((k : Int) < (ord.length : Int)) := by omega
    clear BL e1 hkeep hlt hRl
    go_wp2
    go_ret
    exact ⟨some ⟨M, 0, none⟩, R.length, by rw [HRL.out]; rfl, HBL.out, HKP.out⟩
end Go.Proofs.YtffoeodjbbkdjaaGreat
namespace Go.Proofs.YtffoeodjbbkdjaaGreat
open Go.RowKit
theorem Bls.nil (w : World) (D : Nat → Prop) : Bls w D (.slice none 0 0) [] := ⟨none, 0, rfl, Nat.le_refl _, Nat.zero_le _, fun _ => rfl, rfl, fun h => absurd h (by simp)⟩
structure Pst where
 s : Int
 t : Int
 u : Int
def Pst.zero : Pst := ⟨0, 0, 0⟩
def Pst.cells (x : Pst) : List Value := [.int .i64 x.s, .int .u64 x.t, .int .u64 x.u]
def Pst.agg (x : Pst) : Value := .agg #[.int .i64 x.s, .int .u64 x.t, .int .u64 x.u]
def Pst.same (x y : Pst) : Bool := x.s == y.s && x.t == y.t && x.u == y.u
theorem Pst.same_iff (x y : Pst) : Pst.same x y = true ↔ x = y := by
 obtain ⟨a, b, c⟩ := x
 obtain ⟨a', b', c'⟩ := y
 simp [Pst.same, and_assoc]
def Sts (w : World) (D : Nat → Prop) (v : Value) (l : List Pst) : Prop := Row w D v l.length 3 (l.flatMap Pst.cells)
theorem Sts.keep {w w' : World} {S D : Nat → Prop} {v : Value} {l : List Pst} (h : Sts w D v l) (k : Keep S w w') (hs : ∀ i, i < w.heap.size → D i → ¬ S i) : Sts w' D v l := Row.keep h k hs
theorem Sts.mono {w : World} {D D' : Nat → Prop} {v : Value} {l : List Pst} (h : Sts w D v l) (hD : ∀ i, i < w.heap.size → D i → D' i) : Sts w D' v l := Row.mono h hD
theorem Sts.nil (w : World) (D : Nat → Prop) : Sts w D (.slice none 0 0) [] := ⟨none, 0, rfl, Nat.le_refl _, Nat.zero_le _, fun _ => rfl, rfl, fun h => absurd h (by simp)⟩
theorem Sts.shape {w : World} {D : Nat → Prop} {v : Value} {l : List Pst} (h : Sts w D v l) : ∃ A c, v = .slice A l.length c := by
 obtain ⟨A, c, hv, _⟩ := h
 exact ⟨A, c, hv⟩
theorem scells_length (l : List Pst) : (l.flatMap Pst.cells).length = l.length * 3 := by
 induction l with
 | nil => rfl
 | cons a l ih => rw [List.flatMap_cons, List.length_append, ih, List.length_cons]; simp [Pst.cells]; omega
theorem scells_at {l : List Pst} {k : Nat} {x : Pst} (h : l[k]? = some x) (j : Nat) (hj : j < 3) : (l.flatMap Pst.cells)[k * 3 + j]? = x.cells[j]? := by
 induction l generalizing k with
 | nil => simp at h
 | cons a l ih =>
  cases k with
  | zero =>
   simp at h
   subst h
   rw [List.flatMap_cons, List.getElem?_append_left (by simp [Pst.cells]; omega)]
   simp
  | succ k =>
   simp at h
   rw [List.flatMap_cons, List.getElem?_append_right (by simp [Pst.cells]; omega), ← ih h]
   congr 1
   simp [Pst.cells]
   omega
theorem scells_one (l : List Pst) : ∀ v ∈ l.flatMap Pst.cells, v.oneCell' = true := by
 intro v hv
 obtain ⟨x, _, hx⟩ := List.mem_flatMap.1 hv
 simp [Pst.cells] at hx
 rcases hx with rfl | rfl | rfl <;> rfl
theorem getS_at {l : List Pst} {n : Nat} (h : n < l.length) : l[n]? = some (l.getD n Pst.zero) := by
 rw [List.getD_eq_getElem?_getD, List.getElem?_eq_getElem h]
 rfl
theorem sts_at {w w' : World} {S : Nat → Prop} {b o : Nat} {l : List Pst} {k : Nat} {x : Pst} (hK : Keep S w w') (hblk : b < w.heap.size) (hb : ¬ S b)
  (hcell : ∀ j x, (l.flatMap Pst.cells)[j]? = some x → w.cell? ⟨b, o + j, none⟩ = some x) (h : l[k]? = some x) :
  w'.cell? ⟨b, o + k * 3, none⟩ = some (.int .i64 x.s) ∧ w'.cell? ⟨b, o + k * 3 + 1, none⟩ = some (.int .u64 x.t) ∧ w'.cell? ⟨b, o + k * 3 + 2, none⟩ = some (.int .u64 x.u) := by
 have hcc : ∀ j, j < 3 → ∀ y, x.cells[j]? = some y → w'.cell? ⟨b, o + (k * 3 + j), none⟩ = some y := fun j hj y hx =>
  (hK.cell (p := ⟨b, o + (k * 3 + j), none⟩) hblk hb).trans (hcell _ y ((scells_at h j hj).trans hx))
 exact ⟨hcc 0 (by decide) _ rfl, hcc 1 (by decide) _ rfl, hcc 2 (by decide) _ rfl⟩
def svs (l : List Pst) : Array Value := (l.flatMap Pst.cells).toArray
theorem svs_size (l : List Pst) : (svs l).size = l.length * 3 := by
 unfold svs
 rw [List.size_toArray, scells_length]
theorem svs_at {l : List Pst} {k : Nat} {x : Pst} (h : l[k]? = some x) (j : Nat) (hj : j < 3) : (svs l)[k * 3 + j]? = x.cells[j]? := by
 unfold svs
 rw [List.getElem?_toArray]
 exact scells_at h j hj
theorem list_ext3 {α : Type} {l m : List α} (h : ∀ i : Nat, l[i]? = m[i]?) : l = m := List.ext_getElem? h
theorem scells_set (l : List Pst) (p : Nat) (y : Pst) (hp : p < l.length) : (l.set p y).flatMap Pst.cells = (((l.flatMap Pst.cells).set (p * 3) (.int .i64 y.s)).set (p * 3 + 1) (.int .u64 y.t)).set (p * 3 + 2) (.int .u64 y.u) := by
 apply list_ext3
 intro i
 rw [List.getElem?_set, List.getElem?_set, List.getElem?_set]
 simp only [List.length_set, scells_length]
 by_cases hi : i < l.length * 3
 ·
  have hlt : i / 3 < l.length := by omega
  by_cases hq : i / 3 = p
  ·
   have hk : (l.set p y)[i / 3]? = some y := by rw [hq, List.getElem?_set_self hp]
   have := scells_at hk (i % 3) (Nat.mod_lt _ (by decide))
   rw [show i / 3 * 3 + i % 3 = i by omega] at this
   rw [this]
   have hm : i % 3 = 0 ∨ i % 3 = 1 ∨ i % 3 = 2 := by omega
   rcases hm with hm | hm | hm
   ·
    have e : i = p * 3 := by omega
    rw [hm, if_neg (by omega), if_neg (by omega), if_pos (by omega), if_pos (by omega)]
    rfl
   ·
    have e : i = p * 3 + 1 := by omega
    rw [hm, if_neg (by omega), if_pos (by omega), if_pos (by omega)]
    rfl
   ·
    have e : i = p * 3 + 2 := by omega
    rw [hm, if_pos (by omega), if_pos (by omega)]
    rfl
  ·
   have hk : (l.set p y)[i / 3]? = some l[i / 3] := by rw [List.getElem?_set_ne (by omega), List.getElem?_eq_getElem hlt]
   have h1 := scells_at hk (i % 3) (Nat.mod_lt _ (by decide))
   have h2 := scells_at (List.getElem?_eq_getElem hlt) (i % 3) (Nat.mod_lt _ (by decide))
   rw [show i / 3 * 3 + i % 3 = i by omega] at h1 h2
   rw [h1, if_neg (by omega), if_neg (by omega), if_neg (by omega), h2]
 ·
  rw [List.getElem?_eq_none (by rw [scells_length, List.length_set]; omega), if_neg (by omega), if_neg (by omega), if_neg (by omega), List.getElem?_eq_none (by rw [scells_length]; omega)]
theorem svs_set (l : List Pst) (p : Nat) (y : Pst) (hp : p < l.length) : (((svs l).setIfInBounds (p * 3) (.int .i64 y.s)).setIfInBounds (p * 3 + 1) (.int .u64 y.t)).setIfInBounds (p * 3 + 2) (.int .u64 y.u) = svs (l.set p y) := by
 unfold svs
 rw [List.setIfInBounds_toArray, List.setIfInBounds_toArray, List.setIfInBounds_toArray, ← scells_set l p y hp]
theorem set_same {α : Type} (l : List α) (i : Nat) (x : α) (h : l[i]? = some x) : l.set i x = l := by
 apply list_ext3
 intro j
 rw [List.getElem?_set]
 by_cases hj : i = j
 ·
  subst hj
  rw [if_pos rfl, if_pos (List.getElem?_eq_some_iff.1 h).1, h]
 ·
  rw [if_neg hj]
theorem svs_set_s (l : List Pst) (p : Nat) (s : Int) (x : Pst) (h : l[p]? = some x) : (svs l).setIfInBounds (p * 3) (.int .i64 s) = svs (l.set p ⟨s, x.t, x.u⟩) := by
 have hp := (List.getElem?_eq_some_iff.1 h).1
 rw [← svs_set l p ⟨s, x.t, x.u⟩ hp]
 unfold svs
 rw [List.setIfInBounds_toArray, List.setIfInBounds_toArray, List.setIfInBounds_toArray]
 congr 1
 have h1 : ((l.flatMap Pst.cells).set (p * 3) (.int .i64 s))[p * 3 + 1]? = some (.int .u64 x.t) := by
  rw [List.getElem?_set_ne (by omega)]
  exact scells_at h 1 (by decide)
 have h2 : (((l.flatMap Pst.cells).set (p * 3) (.int .i64 s)))[p * 3 + 2]? = some (.int .u64 x.u) := by
  rw [List.getElem?_set_ne (by omega)]
  exact scells_at h 2 (by decide)
 show _ = (((l.flatMap Pst.cells).set (p * 3) (.int .i64 s)).set (p * 3 + 1) (.int .u64 x.t)).set (p * 3 + 2) (.int .u64 x.u)
 rw [set_same _ _ _ h1, set_same _ _ _ h2]
theorem Sts.of_box {w : World} {D : Nat → Prop} {g : Nat} {e : TypeId} {l : List Pst} {c : Nat} (h : Box w g e (svs l)) (hc : l.length ≤ c) (hm : c ≤ maxLen) (hD : D g) : Sts w D (.slice (some ⟨g, 0, none⟩) l.length c) l := by
 refine ⟨some ⟨g, 0, none⟩, c, rfl, hc, hm, fun e => (by cases e), scells_length l, fun _ => ⟨⟨g, 0, none⟩, rfl, rfl, h.lt, hD, fun j x hx => ?_⟩⟩
 show w.cell? ⟨g, 0 + j, none⟩ = some x
 rw [Nat.zero_add, h.cell]
 unfold svs
 rw [List.getElem?_toArray]
 exact hx
theorem Box.state {w : World} {g : Nat} {e : TypeId} {l : List Pst} {k : Nat} {x : Pst} (h : Box w g e (svs l)) (hk : l[k]? = some x) :
  w.cell? ⟨g, k * 3, none⟩ = some (.int .i64 x.s) ∧ w.cell? ⟨g, k * 3 + 1, none⟩ = some (.int .u64 x.t) ∧ w.cell? ⟨g, k * 3 + 2, none⟩ = some (.int .u64 x.u) := by
 refine ⟨?_, ?_, ?_⟩
 ·
  rw [h.cell]; exact svs_at hk 0 (by decide)
 ·
  rw [h.cell]; exact svs_at hk 1 (by decide)
 ·
  rw [h.cell]; exact svs_at hk 2 (by decide)
theorem stinfo : (Tryz.prog.info? 61).map (fun i => (i.zero, i.size, i.bytes)) = some (some (.agg #[.int .i64 0, .int .u64 0, .int .u64 0]), 3, 24) := by kernel_rfl
def ToldSts (l : List Pst) (w : World) (e : Ending) (w' : World) : Prop :=
 ∃ v, e = .returned v ∧ Keep noneOf w w' ∧ ((v = .slice none 0 0 ∧ l = []) ∨ ∃ g, v = .slice (some ⟨g, 0, none⟩) l.length l.length ∧ w.heap.size ≤ g ∧ l.length ≤ maxLen ∧ Box w' g 61 (svs l))
theorem told_sts {l : List Pst} {w' : World} {v : Value} {B : Nat} (h : (v = .slice none 0 0 ∧ l = []) ∨ ∃ g, v = .slice (some ⟨g, 0, none⟩) l.length l.length ∧ B ≤ g ∧ l.length ≤ maxLen ∧ Box w' g 61 (svs l)) :
  Sts w' (fun k => B ≤ k) v l := by
 rcases h with ⟨rfl, rfl⟩ | ⟨g, rfl, hg, hm, hb⟩
 ·
  exact Sts.nil _ _
 ·
  exact Sts.of_box hb (Nat.le_refl _) hm hg
def TellsSts (l : List Pst) (w : World) (e : Ending) (w' : World) : Prop := ∃ A c, e = .returned (.slice A l.length c) ∧ Sts w' (fun k => w.heap.size ≤ k) (.slice A l.length c) l ∧ Keep noneOf w w'
theorem svs_none (n : Nat) : svs (List.replicate n Pst.zero) = madeCells #[.int .i64 0, .int .u64 0, .int .u64 0] (n * 3) := by
 apply Array.ext_getElem?
 intro i
 by_cases hi : i < n * 3
 ·
  have hlt : i / 3 < n := by omega
  have hk : (List.replicate n Pst.zero)[i / 3]? = some Pst.zero := by rw [List.getElem?_replicate, if_pos hlt]
  have := svs_at hk (i % 3) (Nat.mod_lt _ (by decide))
  rw [show i / 3 * 3 + i % 3 = i by omega] at this
  rw [this]
  unfold madeCells
  rw [Array.getElem?_map, Array.getElem?_range, if_pos hi, Option.map_some]
  have hm : i % 3 = 0 ∨ i % 3 = 1 ∨ i % 3 = 2 := by omega
  rcases hm with hm | hm | hm <;> simp [hm, Pst.cells, Pst.zero]
 ·
  rw [Array.getElem?_eq_none (by rw [svs_size, List.length_replicate]; omega), Array.getElem?_eq_none (by rw [size_madeCells]; omega)]
section
variable {P : Program}
theorem run_copy3 (w : World) (dT sT ty elem : TypeId) (g n c1 c2 : Nat) (a : Addr) (cur : Array Value) (t : TypeId) (cs : List Value)
  (hu : P.underlying dT = some (.slice elem)) (hs : (P.info? elem).map (·.size) = some 3)
  (hg : w.heap[g]? = some (.cells cur t (0, 0))) (hn : cs.length = n * 3)
  (hsrc : ∀ j v, cs[j]? = some v → w.cell? (a.add j) = some v) (hfit : cur.size = n * 3) (h1 : ∀ v ∈ cs, v.oneCell' = true) :
  (Builtin.copy_ #[dT, sT] ty #[.slice (some ⟨g, 0, none⟩) n c1, .slice (some a) n c2]).run P w = .ok (goInt n) (w.setRow g cs.toArray) := by
 have hl := run_loadCells_list (P := P) w a cs hsrc
 have hst := run_storeCells_at P g 0 t cs 0 cur w hg (by rw [hfit, hn]; omega) h1
 cases hq : P.info? elem with
 | none => simp [hq] at hs
 | some i =>
  have hi : i.size = 3 := by simpa [hq] using hs
  have hd : cur.toList.drop cs.length = [] := List.drop_eq_nil_of_le (by rw [hn]; simp [hfit])
  simp [Builtin.copy_, run_underlying hu, Builtin.lenOf, Builtin.firstCells, sizeOf, typeInfo, hq, hi, ← hn, hl, hst, hd]
end
end Go.Proofs.YtffoeodjbbkdjaaGreat
