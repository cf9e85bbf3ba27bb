import Derived.Deep.RegionHeld3
import Derived.Laws.EntriesVeiled
import Derived.Laws.OwnMore
import Derived.Test.YtffoeodjbbkdjaaGreatBs06
import Derived.Test.YtffoeodjbbkdjaaGreatBs07
import Derived.Test.YtffoeodjbbkdjaaGreatBs08
namespace Go.Proofs.YtffoeodjbbkdjaaGreat
open Go.RowKit
theorem u64info : (Tryz.prog.info? 23).map (fun i => (i.zero, i.size, i.bytes)) = some (some (.int .u64 0), 1, 8) := by kernel_rfl
def ToldKeys (ks : List Nat) (w : World) (e : Ending) (w' : World) : Prop := ∃ A c, e = .returned (.slice A ks.length c) ∧ Kys w' (fun k => w.heap.size ≤ k) (.slice A ks.length c) ks ∧ Keep noneOf w w'
def kvs (l : List Nat) : Array Value := (l.map kv).toArray
theorem kvs_size (l : List Nat) : (kvs l).size = l.length := by simp [kvs]
theorem kvs_at (l : List Nat) (i : Nat) : (kvs l)[i]? = (l[i]?).map kv := by simp [kvs]
theorem kvs_set (l : List Nat) (i k : Nat) : (kvs l).setIfInBounds i (kv k) = kvs (l.set i k) := by
 unfold kvs
 rw [List.setIfInBounds_toArray, List.map_set]
theorem kvs_none (n : Nat) : kvs (List.replicate n 0) = (List.replicate n (Value.int .u64 0)).toArray := by
 unfold kvs
 rw [List.map_replicate]
 rfl
theorem Kys.of_box {w : World} {D : Nat → Prop} {g : Nat} {e : TypeId} {l : List Nat} (h : Box w g e (kvs l)) (hm : l.length ≤ maxLen) (hb : ∀ k ∈ l, (k : Int) < 18446744073709551616) (hD : D g) : Kys w D (.slice (some ⟨g, 0, none⟩) l.length l.length) l :=
 ⟨by simpa [kvs] using Row.of_box (D := D) h (kvs_size l) hm hD, hb⟩
theorem Kys.of_own {w : World} {base : Nat} {e : TypeId} {v : Value} {l : List Nat} (h : w.ownsRow base e 1 v l.length (l.map kv)) (hb : ∀ k ∈ l, (k : Int) < 18446744073709551616) : Kys w (fun k => base ≤ k) v l := ⟨Row.of_own h, hb⟩
theorem map_take_snoc (ns l : List Nat) (j : Nat) (h : j < ns.length) : (ns.take (j + 1)).map (fun n => l.getD n 0) = (ns.take j).map (fun n => l.getD n 0) ++ [l.getD ns[j] 0] := by
 rw [List.take_succ_eq_append_getElem h, List.map_append]
 rfl
theorem getD_bound {l : List Nat} (h : ∀ k ∈ l, (k : Int) < 18446744073709551616) (n : Nat) : ((l.getD n 0 : Nat) : Int) < 18446744073709551616 := by
 rw [List.getD_eq_getElem?_getD]
 cases hn : l[n]? with
 | none => decide
 | some x => exact h x (List.mem_of_getElem? hn)
theorem getD_at {l : List Nat} {n : Nat} (h : n < l.length) : l[n]? = some (l.getD n 0) := by
 rw [List.getD_eq_getElem?_getD, List.getElem?_eq_getElem h]
 rfl
set_option maxRecDepth 100000 in
set_option maxHeartbeats 2000000 in
theorem keys_any (w : World) (D : Nat → Prop) (v : Value) (ts : List Tg) (h : Tgs w D v ts) :
  Calls Tryz.prog 107 #[.agg #[v]] w (ToldKeys (grKeys (ts.map Tg.plain)) w) := by
 have HH := Lib.hid h
 obtain ⟨A, c, rfl, hlc, hcm, hn, hxl, hc⟩ := h.1
 unfold maxLen at hcm
 have HC := Lib.hid hc
 have HT := Lib.hid h.2
 have ka := (Keep.refl noneOf w).alloc (.cells #[.slice A ts.length c] 35)
 have HK0 := Lib.hid ka
 have HX0 := Lib.hid (Box.new w 35 #[.slice A ts.length c])
 have HO := Lib.hid (order_any _ D _ ts (h.keep ka (fun _ _ _ => id)))
 have HAT : Hid (∀ i p, (grOrder (ts.map Tg.plain))[i]? = some p → _) := Lib.hid fun i p hp => order_some hp
 have HN := Lib.hid (keys_bound (ts.map Tg.plain))
 have HR := Lib.hid (show grKeys (ts.map Tg.plain) = runOf (keyAt (ts.map Tg.plain)) (List.replicate (grOrder (ts.map Tg.plain)).length 0) (grOrder (ts.map Tg.plain)) from rfl)
 have h32 := order_32 (ts.map Tg.plain)
 have HLEN := Lib.hid (show grCheck (ts.map Tg.plain) = 0 → (grOrder (ts.map Tg.plain)).length = ts.length from fun hq => by rw [order_len hq, List.length_map])
 have HFEW := Lib.hid (show grCheck (ts.map Tg.plain) = 0 → fewNeeds ts from fun hq => (fits_few (check_fits hq).1).2)
 obtain ⟨i1, hi1, hz1, hs1, hb1⟩ := info_parts u64info
 generalize grKeys (ts.map Tg.plain) = R at *
 generalize grOrder (ts.map Tg.plain) = ord at *
 clear h ka hc hxl hn
 go_enter Tryz.func107, Tryz.ntmps107
 go_wp2_with fail
 refine HO.out.mono ?_
 rintro e w1 ⟨v1, rfl, o1, k1⟩
 obtain ⟨A1, c1, hv1⟩ := o1.shape
 subst hv1
 have K1 := HK0.out.trans k1 (fun _ _ h => h)
 have X1 := HX0.out.keep k1 id
 obtain ⟨w2, hmk, hown2, hg2⟩ := run_make_full (P := Tryz.prog) w1 w1.heap.size 28 23 i1 (.int .u64 0) 1 Tryz.underlying28 hi1 hz1 hs1 .i64 .i64 ord.length (by rw [hb1]; omega) (by unfold maxLen; omega) (Nat.le_refl _)
 have kk2 := Keep.of_grown hg2
 have hlt1 : w.heap.size < w1.heap.size := X1.lt
 have O2 : Ints w2 (fun b => b < w1.heap.size) (.slice A1 ord.length c1) ord := Row.keep (Row.mono o1 (fun i hi _ => hi)) kk2 (fun _ _ _ h => by cases h)
 have HK2 := Lib.hid (show Keep noneOf w w2 from K1.trans kk2 (fun _ _ h => by cases h))
 have HX2 := Lib.hid (X1.keep kk2 (fun h => by cases h))
 have B2 := Box.of_made hown2
 rw [show (Value.cells (.int .u64 0)) = #[.int .u64 0] from rfl, toList_madeCells_one, Nat.mul_one, ← kvs_none] at B2
 have HB2 := Lib.hid B2
 have HO2 := Lib.hid O2
 clear HO HK0 HX0 o1 k1 K1 X1 hown2 hg2 kk2 O2 B2
 go_wp2
 clear hmk
 generalize w1.heap.size = M at *
 go_loopw [17] (fun i wr => ∃ k : Nat, k ≤ ord.length ∧ i = .int .i64 k ∧ Keep noneOf w wr ∧ Box wr w.heap.size 35 #[.slice A ts.length c] ∧ Ints wr (fun b => b < M) (.slice A1 ord.length c1) ord ∧ Box wr M 23 (kvs (runOf (keyAt (ts.map Tg.plain)) (List.replicate ord.length 0) (ord.take k)))) (fun i _ => ord.length - (intOf i).toNat)
 case atStart => exact ⟨0, Nat.zero_le _, rfl, HK2.out, HX2.out, HO2.out, HB2.out⟩
 case round =>
  obtain ⟨k, hk, rfl, hkeep, hX, hO, hB⟩ := hrel
  have HKP := Lib.hid hkeep
  have HX := Lib.hid hX
  have HO := Lib.hid hO
  have HB := Lib.hid hB
  have x0 : wr.cell? ⟨w.heap.size, 0, none⟩ = some (.slice A ts.length c) := hX.cell 0
  have hMw := hB.lt
  clear hX hB hO HB2 HX2 HK2 HO2
  by_cases hlt : k < ord.length
  ·
   obtain ⟨hq, hpl⟩ := HAT.out k ord[k] (List.getElem?_eq_getElem hlt)
   rw [List.length_map] at hpl
   have hord := HLEN.out hq
   obtain ⟨A', c', hv', hl', hm', _, _, hrow⟩ := HO.out
   obtain ⟨rfl, rfl⟩ : A1 = A' ∧ c1 = c' := by simpa using hv'
   obtain ⟨ad, rfl, hsp, hblk, _, hcell⟩ := hrow (by omega)
   obtain ⟨b, o, sp⟩ := ad
   simp only at hsp hblk hcell
   subst hsp
   unfold maxLen at hm'
   have hck : wr.cell? ⟨b, o + k, none⟩ = some (.int .i64 (ord[k] : Int)) := hcell k _ (by rw [List.getElem?_map, List.getElem?_eq_getElem hlt]; rfl)
   have HSTEP := Lib.hid (runOf_more (keyAt (ts.map Tg.plain)) (List.replicate ord.length 0) ord k ord[k] (List.getElem?_eq_getElem hlt))
   have HLL := Lib.hid (show (runOf (keyAt (ts.map Tg.plain)) (List.replicate ord.length 0) (ord.take k)).length = ord.length by rw [runOf_length, List.length_replicate])
   have HBD := Lib.hid (HN.out ord.length (ord.take k))
   generalize hL : runOf (keyAt (ts.map Tg.plain)) (List.replicate ord.length 0) (ord.take k) = L at *
   generalize ord[k] = p at *
   have HFW := Lib.hid (HFEW.out hq)
   have NE := Lib.hid (needs_any wr D _ ts (p : Int) (HH.out.keep hkeep (fun _ _ _ => id)) HFW.out)
   have hn16 : (needsAt (ts.map Tg.plain) (p : Int)).length ≤ 16 := needsAt_16 hq
   have HNL : Hid (∀ n ∈ needsAt (ts.map Tg.plain) (p : Int), n < L.length) := Lib.hid fun n hn => by
    have := needsAt_lt hn
    rw [List.length_map] at this
    rw [HLL.out, hord]
    exact this
   have HS := Lib.hid (List.getElem?_eq_getElem hpl)
   have HKA := Lib.hid (show keyAt (ts.map Tg.plain) L p = keyN (ts[p]).cmd ((needsAt (ts.map Tg.plain) (p : Int)).map (fun n => L.getD n 0)) by
    unfold keyAt
    rw [plain_at HS.out]
    rfl)
   have hlies := HT.out _ (List.getElem_mem hpl)
   have h256 := cmd_256 (p := p) hq (plain_at HS.out)
   generalize ts[p] = t at *
   generalize needsAt (ts.map Tg.plain) (p : Int) = ns at *
   have HORD := Lib.hid hord
   have HQ := Lib.hid hq
   rw [HKA.out] at HSTEP
   clear hcell hrow hv' hL hq hord hkeep HLEN HAT HFEW HKA
   go_wp2_with fail
   refine NE.out.mono ?_
   rintro e w3 ⟨v3, rfl, o3, k3⟩
   obtain ⟨A3, c3, hv3⟩ := o3.shape
   subst hv3
   have HK3 := Lib.hid (HKP.out.trans k3 (fun _ _ h => h))
   have HX3 := Lib.hid (HX.out.keep k3 id)
   have HO3 := Lib.hid (HO.out.keep k3 (fun _ _ _ => id))
   have HB3 := Lib.hid (HB.out.keep k3 id)
   have HN3 := Lib.hid o3
   have hM3 := HB3.out.lt
   clear NE HKP HX HO HB o3 k3 x0 hck hblk hMw
   go_wp2
   go_loopw [7, 25] (fun pl i wx => ∃ j : Nat, j ≤ ns.length ∧ i = .int .i64 j ∧ Keep noneOf w3 wx ∧ wx.ownsRow w3.heap.size 23 1 pl ((ns.take j).map (fun n => L.getD n 0)).length (((ns.take j).map (fun n => L.getD n 0)).map kv)) (fun _ i _ => ns.length - (intOf i).toNat)
   case atStart => exact ⟨0, Nat.zero_le _, rfl, Keep.refl _ _, World.ownsRow_nil _ _ _ _⟩
   case round =>
    obtain ⟨j, hj, rfl, hkx, hown⟩ := hrel
    have HKX := Lib.hid hkx
    have HOWN := Lib.hid hown
    have hlen3 : ((ns.take j).map (fun n => L.getD n 0)).length = j := by rw [List.length_map, List.length_take]; omega
    by_cases hjl : j < ns.length
    ·
     have N4 := HN3.out.keep hkx (fun _ _ _ => id)
     obtain ⟨A', c', hv', hl', hm', _, _, hrow⟩ := N4
     obtain ⟨rfl, rfl⟩ : A3 = A' ∧ c3 = c' := by simpa using hv'
     obtain ⟨ad3, rfl, hsp3, hblk3, _, hcell3⟩ := hrow (by omega)
     obtain ⟨b3, o3, sp3⟩ := ad3
     simp only at hsp3 hblk3 hcell3
     subst hsp3
     unfold maxLen at hm'
     have hc3 : wr.cell? ⟨b3, o3 + j, none⟩ = some (.int .i64 (ns[j] : Int)) := hcell3 j _ (by rw [List.getElem?_map, List.getElem?_eq_getElem hjl]; rfl)
     have hnl := HNL.out ns[j] (List.getElem_mem hjl)
     have HTK := Lib.hid (map_take_snoc ns L j hjl)
     have hc4 : wr.cell? ⟨M, ns[j], none⟩ = some (kv (L.getD ns[j] 0)) := by
      rw [(HB3.out.keep hkx id).cell, kvs_at, getD_at hnl]
      rfl
     generalize L.getD ns[j] 0 = x at *
     generalize (ns.take j).map (fun n => L.getD n 0) = xs at *
     generalize ns[j] = n at *
     have hnl2 : n < ord.length := by rw [← HLL.out]; exact hnl
     have hszx := HKX.out.size
     unfold kv at hc4
     clear hown hcell3 hrow hv' hkx
     go_wp2_with (at_builtin; refine wpList_append_own _ rfl _ _ 28 rfl w3.heap.size 23 i1 _ 1 8 Tryz.underlying28 hi1 hz1 hs1 hb1 rfl (by decide) _ _ _ rfl (HOWN.out.alloc _) ⟨wr.heap.size, 0, none⟩ 1 1 [kv x] rfl rfl (cell_one_new _ _ _) (by simp [Value.oneCell', kv]) (by unfold maxLen; omega) (by omega) (by simp; omega) ?_; intro v' w4 hown' hgrow _)
     have kg := Keep.of_grown hgrow
     have kb := (HKX.out.alloc (.cells #[.int .u64 (x : Int)] 23)).trans kg (fun i hi hs => absurd (HOWN.out.lt i hs.symm).1 (by omega))
     go_roundw
     case rel =>
      refine ⟨j + 1, by omega, by go_num, kb, ?_⟩
      rw [HTK.out, List.length_append, List.map_append]
      exact hown'
     case measure => simp [intOf]; omega
    ·
     have hjn : ¬ ((j : Int) < (ns.length : Int)) := by omega
     have e1 : (ns.take j).map (fun n => L.getD n 0) = ns.map (fun n => L.getD n 0) := by rw [List.take_of_length_le (by omega)]
     rw [e1] at HOWN
     have KY := Kys.of_own HOWN.out (fun x hx => by
      obtain ⟨n, _, rfl⟩ := List.mem_map.1 hx
      exact getD_bound HBD.out n)
     obtain ⟨A5, c5, hv5⟩ := KY.shape
     rw [List.length_map] at hv5
     subst hv5
     have K5 := HK3.out.trans hkx (fun _ _ h => h)
     have X5 := HX3.out.keep hkx id
     have x5 : wr.cell? ⟨w.heap.size, 0, none⟩ = some (.slice A ts.length c) := X5.cell 0
     obtain ⟨adt, rfl, hspt, hblkt, _, hcellt⟩ := HC.out (by omega)
     obtain ⟨bt, ot, spt⟩ := adt
     simp only at hspt hblkt hcellt
     subst hspt
     obtain ⟨_, y1, _⟩ := tgs_at K5 hblkt hcellt HS.out
     obtain ⟨nm, cm, nv, ss⟩ := t
     obtain ⟨_, hcs, _⟩ := hlies
     simp only at y1 hcs h256
     have KK := Lib.hid (key_any wr _ cm _ _ hcs KY)
     have B5 := HB3.out.keep hkx id
     have hpL : p < L.length := by rw [HLL.out]; have := HORD.out; omega
     have hpo : p < ord.length := by rw [← HLL.out]; exact hpL
     have b5 : wr.cell? ⟨M, p, none⟩ = some (kv (L.getD p 0)) := by rw [B5.cell, kvs_at, getD_at hpL]; rfl
     have f5 := B5.free p
     generalize kv (L.getD p 0) = old at *
     simp only at HSTEP
     generalize keyN cm (ns.map (fun n => L.getD n 0)) = q at *
     have HB5 := Lib.hid (B5.put p (kv q))
     rw [kvs_set, ← HSTEP.out] at HB5
     have ks : Keep (fun b => b = M) wr (wr.setCell ⟨M, p, none⟩ (kv q)) := (Keep.refl (fun b => b = M) wr).setCell (fun _ => rfl) _
     have HK6 := Lib.hid (K5.trans ks (fun i hi h => by omega))
     have HX6 := Lib.hid (X5.keep ks (fun h => by omega))
     have HO6 := Lib.hid ((HO3.out.keep hkx (fun _ _ _ => id)).keep ks (fun i _ h e => by omega))
     unfold kv at HB5 HK6 HX6 HO6
     clear KY e1 X5 B5 hcellt hown hkx ks HKX HOWN HB3 HN3 HK3 HX3 HO3 hjl
     go_wp2_with fail
     refine KK.out.mono ?_
     rintro e w6 ⟨rfl, rfl⟩
     clear KK
     go_wp2
     go_roundw
     case rel => exact ⟨k + 1, by omega, by go_num, HK6.out, HX6.out, HO6.out, HB5.out⟩
     case measure => simp [intOf]; omega
  ·
   have e1 : ord.take k = ord := List.take_of_length_le (by omega)
   rw [e1] at HB
   have KY := Kys.of_box (D := fun b => w.heap.size ≤ b) HB.out (by rw [runOf_length, List.length_replicate]; unfold maxLen; omega) (HN.out _ _) (by omega)
   rw [← HR.out] at KY
   have HL := Lib.hid (show R.length = ord.length by rw [HR.out, runOf_length, List.length_replicate])
   rw [HL.out] at KY
   have HKY := Lib.hid KY
   have hkn : ¬ ((k : Int) < (ord.length : Int)) := by omega
   clear KY e1 hkeep hlt
   go_wp2
   go_ret
   refine ⟨some ⟨M, 0, none⟩, ord.length, by rw [HL.out]; rfl, by rw [HL.out]; exact HKY.out, HKP.out⟩
end Go.Proofs.YtffoeodjbbkdjaaGreat
namespace Go.Proofs.YtffoeodjbbkdjaaGreat
open Go.RowKit
set_option maxRecDepth 100000 in
set_option maxHeartbeats 1000000 in
theorem refOrder_any (w : World) (D : Nat → Prop) (v : Value) (ts : List Tg) (h : Tgs w D v ts) :
  Calls Tryz.prog 95 #[.agg #[v]] w (ToldInts (grOrder (ts.map Tg.plain)) w) := by
 have HH := Lib.hid h
 obtain ⟨A, c, rfl, hlc, hcm, hn, hxl, hc⟩ := h.1
 unfold maxLen at hcm
 have ka := (Keep.refl noneOf w).alloc (.cells #[.slice A ts.length c] 35)
 have HK0 := Lib.hid ka
 have HX0 := Lib.hid (Box.new w 35 #[.slice A ts.length c])
 have HCK := Lib.hid (refCheck_any _ D _ ts (HH.out.keep ka (fun _ _ _ => id)))
 have EO := Lib.hid (show grOrder (ts.map Tg.plain) = if grCheck (ts.map Tg.plain) = 0 then placesOf (ts.map Tg.plain) else [] from rfl)
 clear hc h hxl hn ka
 by_cases hq : grCheck (ts.map Tg.plain) = 0
 ·
  rw [hq] at HCK
  rw [EO.out, if_pos hq]
  obtain ⟨h32, hfew⟩ := fits_few (check_fits hq).1
  have HFEW := Lib.hid hfew
  clear hq hfew EO
  go_enter Tryz.func95, Tryz.ntmps95
  go_wp2_with fail
  refine HCK.out.mono ?_
  rintro e w1 ⟨rfl, k1⟩
  have K1 := HK0.out.trans k1 (fun _ _ h => h)
  have X1 := HX0.out.keep k1 id
  have x1 : w1.cell? ⟨w.heap.size, 0, none⟩ = some (.slice A ts.length c) := X1.cell 0
  have AR := Lib.hid (refPlaces_any w1 D _ ts (HH.out.keep K1 (fun _ _ _ => id)) HFEW.out h32)
  clear HCK HK0 HX0 k1
  go_wp2_with fail
  refine AR.out.mono ?_
  rintro e w2 ⟨v2, rfl, hi2, k2⟩
  obtain ⟨A2, c2, hv2⟩ := hi2.shape
  subst hv2
  have HI2 := Lib.hid hi2
  have HZ := Lib.hid K1.size
  have HK2 := Lib.hid (K1.trans k2 (fun _ _ h => h))
  clear hi2 k2 K1 X1 x1 AR
  go_wp2
  go_ret
  exact ⟨_, rfl, Row.mono HI2.out (fun _ _ h => Nat.le_trans HZ.out h), HK2.out⟩
 ·
  rw [EO.out, if_neg hq]
  have g : (grCheck (ts.map Tg.plain) != 0) = true := by rw [bne_iff_ne]; exact hq
  have g' : (grCheck (ts.map Tg.plain) == 0) = false := by rw [beq_eq_false_iff_ne]; exact hq
  generalize grCheck (ts.map Tg.plain) = R at *
  clear hq EO
  go_enter Tryz.func95, Tryz.ntmps95
  go_wp2_with fail
  refine HCK.out.mono ?_
  rintro e w1 ⟨rfl, k1⟩
  have K1 := HK0.out.trans k1 (fun _ _ h => h)
  go_wp2
  go_ret
  exact ⟨_, rfl, Ints.of_own (World.ownsRow_nil _ _ 3 1), K1⟩
end Go.Proofs.YtffoeodjbbkdjaaGreat
namespace Go.Proofs.YtffoeodjbbkdjaaGreat
open Go.RowKit
set_option maxRecDepth 100000 in
set_option maxHeartbeats 2000000 in
theorem refkeys_any (w : World) (D : Nat → Prop) (v : Value) (ts : List Tg) (h : Tgs w D v ts) (hq : grCheck (ts.map Tg.plain) = 0) :
  Calls Tryz.prog 113 #[.agg #[v]] w (ToldKeys (grKeys (ts.map Tg.plain)) w) := by
 have HH := Lib.hid h
 obtain ⟨A, c, rfl, hlc, hcm, hn, hxl, hc⟩ := h.1
 unfold maxLen at hcm
 have HC := Lib.hid hc
 have HT := Lib.hid h.2
 have ka := (Keep.refl noneOf w).alloc (.cells #[.slice A ts.length c] 35)
 have HK0 := Lib.hid ka
 have HX0 := Lib.hid (Box.new w 35 #[.slice A ts.length c])
 have HO := Lib.hid (refOrder_any _ D _ ts (h.keep ka (fun _ _ _ => id)))
 have HAT : Hid (∀ i p, (grOrder (ts.map Tg.plain))[i]? = some p → _) := Lib.hid fun i p hp => order_some hp
 have HN := Lib.hid (keys_bound (ts.map Tg.plain))
 have HR := Lib.hid (show grKeys (ts.map Tg.plain) = runOf (keyAt (ts.map Tg.plain)) (List.replicate (grOrder (ts.map Tg.plain)).length 0) (grOrder (ts.map Tg.plain)) from rfl)
 have h32 := order_32 (ts.map Tg.plain)
 have hol : (grOrder (ts.map Tg.plain)).length = ts.length := by rw [order_len hq, List.length_map]
 have HOL := Lib.hid hol
 have HQ0 := Lib.hid hq
 have HFW := Lib.hid (fits_few (check_fits hq).1).2
 obtain ⟨i1, hi1, hz1, hs1, hb1⟩ := info_parts u64info
 generalize grKeys (ts.map Tg.plain) = R at *
 generalize grOrder (ts.map Tg.plain) = ord at *
 have ht32 : ts.length ≤ 32 := by omega
 clear h ka hc hxl hn hq hol
 go_enter Tryz.func113, Tryz.ntmps113
 go_wp2_with fail
 refine HO.out.mono ?_
 rintro e w1 ⟨v1, rfl, o1, k1⟩
 obtain ⟨A1, c1, hv1⟩ := o1.shape
 subst hv1
 have K1 := HK0.out.trans k1 (fun _ _ h => h)
 have X1 := HX0.out.keep k1 id
 obtain ⟨w2, hmk, hown2, hg2⟩ := run_make_full (P := Tryz.prog) w1 w1.heap.size 28 23 i1 (.int .u64 0) 1 Tryz.underlying28 hi1 hz1 hs1 .i64 .i64 ts.length (by rw [hb1]; omega) (by unfold maxLen; omega) (Nat.le_refl _)
 have kk2 := Keep.of_grown hg2
 have hlt1 : w.heap.size < w1.heap.size := X1.lt
 have O2 : Ints w2 (fun b => b < w1.heap.size) (.slice A1 ord.length c1) ord := Row.keep (Row.mono o1 (fun i hi _ => hi)) kk2 (fun _ _ _ h => by cases h)
 have HK2 := Lib.hid (show Keep noneOf w w2 from K1.trans kk2 (fun _ _ h => by cases h))
 have HX2 := Lib.hid (X1.keep kk2 (fun h => by cases h))
 have x1 : w1.cell? ⟨w.heap.size, 0, none⟩ = some (.slice A ts.length c) := X1.cell 0
 have B2 := Box.of_made hown2
 rw [show (Value.cells (.int .u64 0)) = #[.int .u64 0] from rfl, toList_madeCells_one, Nat.mul_one, ← kvs_none, ← HOL.out] at B2
 have HB2 := Lib.hid B2
 have HO2 := Lib.hid O2
 clear HO HK0 HX0 o1 k1 K1 X1 hown2 hg2 kk2 O2 B2
 go_wp2
 clear hmk x1
 generalize w1.heap.size = M at *
 go_loopw [5] (fun i wr => ∃ k : Nat, k ≤ ord.length ∧ i = .int .i64 k ∧ Keep noneOf w wr ∧ Box wr w.heap.size 35 #[.slice A ts.length c] ∧ Ints wr (fun b => b < M) (.slice A1 ord.length c1) ord ∧ Box wr M 23 (kvs (runOf (keyAt (ts.map Tg.plain)) (List.replicate ord.length 0) (ord.take k)))) (fun i _ => ord.length - (intOf i).toNat)
 case atStart => exact ⟨0, Nat.zero_le _, rfl, HK2.out, HX2.out, HO2.out, HB2.out⟩
 case round =>
  obtain ⟨k, hk, rfl, hkeep, hX, hO, hB⟩ := hrel
  have HKP := Lib.hid hkeep
  have HX := Lib.hid hX
  have HO := Lib.hid hO
  have HB := Lib.hid hB
  have x0 : wr.cell? ⟨w.heap.size, 0, none⟩ = some (.slice A ts.length c) := hX.cell 0
  have hMw := hB.lt
  clear hX hB hO HB2 HX2 HK2 HO2
  by_cases hlt : k < ord.length
  ·
   obtain ⟨hq, hpl⟩ := HAT.out k ord[k] (List.getElem?_eq_getElem hlt)
   rw [List.length_map] at hpl
   have hord := HOL.out
   obtain ⟨A', c', hv', hl', hm', _, _, hrow⟩ := HO.out
   obtain ⟨rfl, rfl⟩ : A1 = A' ∧ c1 = c' := by simpa using hv'
   obtain ⟨ad, rfl, hsp, hblk, _, hcell⟩ := hrow (by omega)
   obtain ⟨b, o, sp⟩ := ad
   simp only at hsp hblk hcell
   subst hsp
   unfold maxLen at hm'
   have hck : wr.cell? ⟨b, o + k, none⟩ = some (.int .i64 (ord[k] : Int)) := hcell k _ (by rw [List.getElem?_map, List.getElem?_eq_getElem hlt]; rfl)
   have HSTEP := Lib.hid (runOf_more (keyAt (ts.map Tg.plain)) (List.replicate ord.length 0) ord k ord[k] (List.getElem?_eq_getElem hlt))
   have HLL := Lib.hid (show (runOf (keyAt (ts.map Tg.plain)) (List.replicate ord.length 0) (ord.take k)).length = ord.length by rw [runOf_length, List.length_replicate])
   have HBD := Lib.hid (HN.out ord.length (ord.take k))
   generalize hL : runOf (keyAt (ts.map Tg.plain)) (List.replicate ord.length 0) (ord.take k) = L at *
   generalize ord[k] = p at *
   have NE := Lib.hid (refNeeds_any wr D _ ts (p : Int) (HH.out.keep hkeep (fun _ _ _ => id)) HFW.out)
   have hn16 : (needsAt (ts.map Tg.plain) (p : Int)).length ≤ 16 := needsAt_16 hq
   have HNL : Hid (∀ n ∈ needsAt (ts.map Tg.plain) (p : Int), n < L.length) := Lib.hid fun n hn => by
    have := needsAt_lt hn
    rw [List.length_map] at this
    rw [HLL.out, hord]
    exact this
   have HS := Lib.hid (List.getElem?_eq_getElem hpl)
   have HKA := Lib.hid (show keyAt (ts.map Tg.plain) L p = keyN (ts[p]).cmd ((needsAt (ts.map Tg.plain) (p : Int)).map (fun n => L.getD n 0)) by
    unfold keyAt
    rw [plain_at HS.out]
    rfl)
   have hlies := HT.out _ (List.getElem_mem hpl)
   have h256 := cmd_256 (p := p) hq (plain_at HS.out)
   generalize ts[p] = t at *
   generalize needsAt (ts.map Tg.plain) (p : Int) = ns at *
   have HORD := Lib.hid hord
   have HQ := Lib.hid hq
   rw [HKA.out] at HSTEP
   clear hcell hrow hv' hL hq hord hkeep HAT HKA
   go_wp2_with fail
   refine NE.out.mono ?_
   rintro e w3 ⟨v3, rfl, o3, k3⟩
   obtain ⟨A3, c3, hv3⟩ := o3.shape
   subst hv3
   have HK3 := Lib.hid (HKP.out.trans k3 (fun _ _ h => h))
   have HX3 := Lib.hid (HX.out.keep k3 id)
   have HO3 := Lib.hid (HO.out.keep k3 (fun _ _ _ => id))
   have HB3 := Lib.hid (HB.out.keep k3 id)
   have HN3 := Lib.hid o3
   have hM3 := HB3.out.lt
   clear NE HKP HX HO HB o3 k3 x0 hck hblk hMw
   go_wp2
   go_loopw [8, 9] (fun pl i wx => ∃ j : Nat, j ≤ ns.length ∧ i = .int .i64 j ∧ Keep noneOf w3 wx ∧ wx.ownsRow w3.heap.size 23 1 pl ((ns.take j).map (fun n => L.getD n 0)).length (((ns.take j).map (fun n => L.getD n 0)).map kv)) (fun _ i _ => ns.length - (intOf i).toNat)
   case atStart => exact ⟨0, Nat.zero_le _, rfl, Keep.refl _ _, World.ownsRow_nil _ _ _ _⟩
   case round =>
    obtain ⟨j, hj, rfl, hkx, hown⟩ := hrel
    have HKX := Lib.hid hkx
    have HOWN := Lib.hid hown
    have hlen3 : ((ns.take j).map (fun n => L.getD n 0)).length = j := by rw [List.length_map, List.length_take]; omega
    by_cases hjl : j < ns.length
    ·
     have N4 := HN3.out.keep hkx (fun _ _ _ => id)
     obtain ⟨A', c', hv', hl', hm', _, _, hrow⟩ := N4
     obtain ⟨rfl, rfl⟩ : A3 = A' ∧ c3 = c' := by simpa using hv'
     obtain ⟨ad3, rfl, hsp3, hblk3, _, hcell3⟩ := hrow (by omega)
     obtain ⟨b3, o3, sp3⟩ := ad3
     simp only at hsp3 hblk3 hcell3
     subst hsp3
     unfold maxLen at hm'
     have hc3 : wr.cell? ⟨b3, o3 + j, none⟩ = some (.int .i64 (ns[j] : Int)) := hcell3 j _ (by rw [List.getElem?_map, List.getElem?_eq_getElem hjl]; rfl)
     have hnl := HNL.out ns[j] (List.getElem_mem hjl)
     have HTK := Lib.hid (map_take_snoc ns L j hjl)
     have hc4 : wr.cell? ⟨M, ns[j], none⟩ = some (kv (L.getD ns[j] 0)) := by
      rw [(HB3.out.keep hkx id).cell, kvs_at, getD_at hnl]
      rfl
     generalize L.getD ns[j] 0 = x at *
     generalize (ns.take j).map (fun n => L.getD n 0) = xs at *
     generalize ns[j] = n at *
     have hnl2 : n < ts.length := by rw [← HORD.out, ← HLL.out]; exact hnl
     have hszx := HKX.out.size
     unfold kv at hc4
     clear hown hcell3 hrow hv' hkx
     go_wp2_with (at_builtin; refine wpList_append_own _ rfl _ _ 28 rfl w3.heap.size 23 i1 _ 1 8 Tryz.underlying28 hi1 hz1 hs1 hb1 rfl (by decide) _ _ _ rfl (HOWN.out.alloc _) ⟨wr.heap.size, 0, none⟩ 1 1 [kv x] rfl rfl (cell_one_new _ _ _) (by simp [Value.oneCell', kv]) (by unfold maxLen; omega) (by omega) (by simp; omega) ?_; intro v' w4 hown' hgrow _)
     have kg := Keep.of_grown hgrow
     have kb := (HKX.out.alloc (.cells #[.int .u64 (x : Int)] 23)).trans kg (fun i hi hs => absurd (HOWN.out.lt i hs.symm).1 (by omega))
     go_roundw
     case rel =>
      refine ⟨j + 1, by omega, by go_num, kb, ?_⟩
      rw [HTK.out, List.length_append, List.map_append]
      exact hown'
     case measure => simp [intOf]; omega
    ·
     have hjn : ¬ ((j : Int) < (ns.length : Int)) := by omega
     have e1 : (ns.take j).map (fun n => L.getD n 0) = ns.map (fun n => L.getD n 0) := by rw [List.take_of_length_le (by omega)]
     rw [e1] at HOWN
     have KY := Kys.of_own HOWN.out (fun x hx => by
      obtain ⟨n, _, rfl⟩ := List.mem_map.1 hx
      exact getD_bound HBD.out n)
     obtain ⟨A5, c5, hv5⟩ := KY.shape
     rw [List.length_map] at hv5
     subst hv5
     have K5 := HK3.out.trans hkx (fun _ _ h => h)
     have X5 := HX3.out.keep hkx id
     have x5 : wr.cell? ⟨w.heap.size, 0, none⟩ = some (.slice A ts.length c) := X5.cell 0
     obtain ⟨adt, rfl, hspt, hblkt, _, hcellt⟩ := HC.out (by omega)
     obtain ⟨bt, ot, spt⟩ := adt
     simp only at hspt hblkt hcellt
     subst hspt
     obtain ⟨_, y1, _⟩ := tgs_at K5 hblkt hcellt HS.out
     obtain ⟨nm, cm, nv, ss⟩ := t
     obtain ⟨_, hcs, _⟩ := hlies
     simp only at y1 hcs h256
     have KK := Lib.hid (refKey_any wr _ cm _ _ (by have h256' : cm.size ≤ 256 := h256; rw [lim_is, List.length_map]; omega) KY)
     have B5 := HB3.out.keep hkx id
     have hpL : p < L.length := by rw [HLL.out]; have := HORD.out; omega
     have hpo : p < ord.length := by rw [← HLL.out]; exact hpL
     have b5 : wr.cell? ⟨M, p, none⟩ = some (kv (L.getD p 0)) := by rw [B5.cell, kvs_at, getD_at hpL]; rfl
     have f5 := B5.free p
     generalize kv (L.getD p 0) = old at *
     simp only at HSTEP
     generalize keyN cm (ns.map (fun n => L.getD n 0)) = q at *
     have hpt : p < ts.length := by rw [← HORD.out]; exact hpo
     have HX5 := Lib.hid X5
     have HB5 := Lib.hid B5
     have HK5 := Lib.hid K5
     have HO5 := Lib.hid (HO3.out.keep hkx (fun _ _ _ => id))
     have HB0 := Lib.hid b5
     have hMx := B5.lt
     clear KY e1 X5 B5 K5 hcellt hown hkx HKX HOWN HB3 HN3 HK3 HX3 HO3 hjl b5 f5
     go_wp2_with fail
     refine KK.out.mono ?_
     rintro e w6 ⟨rfl, k6⟩
     have b6 : w6.cell? ⟨M, p, none⟩ = some old := (k6.cell (p := ⟨M, p, none⟩) hMx id).trans HB0.out
     have f6 := (HB5.out.keep k6 id).free p
     have hb6 := (HB5.out.keep k6 id).put p (kv q)
     rw [kvs_set, ← HSTEP.out] at hb6
     have HB6 := Lib.hid hb6
     have ks : Keep (fun b => b = M) w6 (w6.setCell ⟨M, p, none⟩ (kv q)) := (Keep.refl (fun b => b = M) w6).setCell (fun _ => rfl) _
     have HK6 := Lib.hid ((HK5.out.trans k6 (fun _ _ h => h)).trans ks (fun i hi h => by omega))
     have HX6 := Lib.hid ((HX5.out.keep k6 id).keep ks (fun h => by omega))
     have HO6 := Lib.hid ((HO5.out.keep k6 (fun _ _ _ => id)).keep ks (fun i _ h e => by omega))
     unfold kv at HB6 HK6 HX6 HO6
     clear KK HB0 HB5 HK5 HX5 HO5 hb6 ks k6 x5
     go_wp2
     go_roundw
     case rel => exact ⟨k + 1, by omega, by go_num, HK6.out, HX6.out, HO6.out, HB6.out⟩
     case measure => simp [intOf]; omega
  ·
   have e1 : ord.take k = ord := List.take_of_length_le (by omega)
   rw [e1] at HB
   have KY := Kys.of_box (D := fun b => w.heap.size ≤ b) HB.out (by rw [runOf_length, List.length_replicate]; unfold maxLen; omega) (HN.out _ _) (by omega)
   rw [← HR.out] at KY
   have HL := Lib.hid (show R.length = ord.length by rw [HR.out, runOf_length, List.length_replicate])
   rw [HL.out, HOL.out] at KY
   have HKY := Lib.hid KY
   have hkn : ¬ ((k : Int) < (ord.length : Int)) := by omega
   clear KY e1 hkeep hlt
   go_wp2
   go_ret
   refine ⟨some ⟨M, 0, none⟩, ts.length, by rw [HL.out, HOL.out]; rfl, by rw [HL.out, HOL.out]; exact HKY.out, HKP.out⟩
end Go.Proofs.YtffoeodjbbkdjaaGreat
namespace Go.Proofs.YtffoeodjbbkdjaaGreat
open Go.RowKit
theorem Keep.wide {S : Nat → Prop} {w w' : World} (h : Keep noneOf w w') : Keep S w w' := h.mono (fun _ _ h => False.elim h)
theorem Keep.andNone {S : Nat → Prop} {w w' w'' : World} (h : Keep S w w') (k : Keep noneOf w' w'') : Keep S w w'' := h.trans k (fun _ _ h => False.elim h)
def Bls (w : World) (D : Nat → Prop) (v : Value) (bs : List Bool) : Prop := Row w D v bs.length 1 (bs.map Value.bool)
theorem Bls.keep {w w' : World} {S D : Nat → Prop} {v : Value} {bs : List Bool} (h : Bls w D v bs) (k : Keep S w w') (hs : ∀ i, i < w.heap.size → D i → ¬ S i) : Bls w' D v bs := Row.keep h k hs
theorem Bls.mono {w : World} {D D' : Nat → Prop} {v : Value} {bs : List Bool} (h : Bls w D v bs) (hD : ∀ i, i < w.heap.size → D i → D' i) : Bls w D' v bs := Row.mono h hD
theorem Bls.shape {w : World} {D : Nat → Prop} {v : Value} {bs : List Bool} (h : Bls w D v bs) : ∃ A c, v = .slice A bs.length c := by
 obtain ⟨A, c, hv, _⟩ := h
 exact ⟨A, c, hv⟩
def bvs (l : List Bool) : Array Value := (l.map Value.bool).toArray
theorem bvs_size (l : List Bool) : (bvs l).size = l.length := by simp [bvs]
theorem bvs_at (l : List Bool) (i : Nat) : (bvs l)[i]? = (l[i]?).map Value.bool := by simp [bvs]
theorem bvs_set (l : List Bool) (i : Nat) (b : Bool) : (bvs l).setIfInBounds i (.bool b) = bvs (l.set i b) := by
 unfold bvs
 rw [List.setIfInBounds_toArray, List.map_set]
theorem bvs_none (n : Nat) : bvs (List.replicate n false) = (List.replicate n (Value.bool false)).toArray := by
 unfold bvs
 rw [List.map_replicate]
theorem Bls.of_box {w : World} {D : Nat → Prop} {g : Nat} {e : TypeId} {l : List Bool} (h : Box w g e (bvs l)) (hm : l.length ≤ maxLen) (hD : D g) : Bls w D (.slice (some ⟨g, 0, none⟩) l.length l.length) l := by
 simpa [bvs, Bls] using Row.of_box (D := D) h (bvs_size l) hm hD
theorem getB_at {l : List Bool} {n : Nat} (h : n < l.length) : l[n]? = some (l.getD n false) := by
 rw [List.getD_eq_getElem?_getD, List.getElem?_eq_getElem h]
 rfl
def Tells (g : Nat) (lb : Array Value) (Pr : Nat → Bool) (w : World) : Prop :=
 ∀ (W : World) (x : Nat), Keep noneOf w W → (x : Int) < 18446744073709551616 → Calls Tryz.prog g (#[.int .u64 (x : Int)] ++ lb) W fun e w' => e = .returned (.bool (Pr x)) ∧ W = w'
theorem Tells.later {g : Nat} {lb : Array Value} {Pr : Nat → Bool} {w w' : World} (h : Tells g lb Pr w) (k : Keep noneOf w w') : Tells g lb Pr w' :=
 fun W x k' hx => h W x (k.trans k' (fun _ _ h => h)) hx
def CanCall (g : Nat) : Prop := ∀ (args : Array Value) (w : World), (callFunc g args).run Tryz.prog w = .ok (.enter g args) w
def ToldBools (bs : List Bool) (w : World) (e : Ending) (w' : World) : Prop := ∃ A c, e = .returned (.slice A bs.length c) ∧ Bls w' (fun k => w.heap.size ≤ k) (.slice A bs.length c) bs ∧ Keep noneOf w w'
theorem boolinfo' : (Tryz.prog.info? 4).map (fun i => (i.zero, i.size, i.bytes)) = some (some (.bool false), 1, 1) := by kernel_rfl
end Go.Proofs.YtffoeodjbbkdjaaGreat
