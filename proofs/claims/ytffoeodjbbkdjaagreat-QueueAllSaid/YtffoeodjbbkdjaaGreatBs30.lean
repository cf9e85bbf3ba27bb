import Derived.Test.YtffoeodjbbkdjaaGreatBs27
import Derived.Test.YtffoeodjbbkdjaaGreatBs29
namespace Go.Proofs.YtffoeodjbbkdjaaGreat
open Go.RowKit
def TellsR (g : Nat) (pr : Value) (Pr : Nat → Bool) (w : World) : Prop :=
 ∀ (W : World) (x : Nat), Keep noneOf w W → (x : Int) < 18446744073709551616 → Calls Tryz.prog g #[pr, .int .u64 (x : Int)] W fun e w' => e = .returned (.bool (Pr x)) ∧ W = w'
theorem TellsR.later {g : Nat} {pr : Value} {Pr : Nat → Bool} {w w' : World} (h : TellsR g pr Pr w) (k : Keep noneOf w w') : TellsR g pr Pr w' :=
 fun W x k' hx => h W x (k.trans k' (fun _ _ h => h)) hx
set_option maxRecDepth 100000 in
set_option maxHeartbeats 1000000 in
theorem isFreshR_any (w : World) (D D' : Nat → Prop) (g : Nat) (pr : Value) (eg : CanCall g) (Pr : Nat → Bool) (hp : TellsR g pr Pr w) (x : Nat) (hx : (x : Int) < 18446744073709551616)
  (vb vn : Value) (bs : List Bool) (ns : List Nat) (hb : Bls w D vb bs) (hn : Ints w D' vn ns) (hl : ∀ n ∈ ns, n < bs.length) :
  Calls Tryz.prog 132 #[.agg #[.func (.func g) #[pr] #[], vb], .int .u64 (x : Int), vn] w fun e w' => e = .returned (.bool (ns.all (fun n => bs.getD n false) && Pr x)) ∧ Keep noneOf w w' := by
 obtain ⟨A, c, rfl, hlc, hcm, hnn, hxl, hc⟩ := hb
 obtain ⟨A', c', rfl, hlc', hcm', hnn', hxl', hc'⟩ := hn
 unfold maxLen at hcm hcm'
 have HC := Lib.hid hc
 have HC' := Lib.hid hc'
 have HL := Lib.hid hl
 have ka := (Keep.refl noneOf w).alloc (.cells #[.func (.func g) #[pr] #[], .slice A bs.length c] 168)
 have HK := Lib.hid ka
 have HX := Lib.hid (Box.new w 168 #[.func (.func g) #[pr] #[], .slice A bs.length c])
 have HP := Lib.hid (hp _ x ka hx)
 have HEG := Lib.hid eg
 generalize hR : (ns.all (fun n => bs.getD n false) && Pr x) = R
 have HR0 := Lib.hid hR
 clear hc hc' hl ka hp eg hx hxl hxl' hnn hnn' hR
 go_enter Tryz.func132, Tryz.ntmps132
 go_wp2
 have x0 := HX.out.cell 0
 have x1 := HX.out.cell 1
 have hkc := HK.out
 generalize w.alloc (.cells #[.func (.func g) #[pr] #[], .slice A bs.length c] 168) = w0 at *
 simp only [List.getElem?_toArray, List.getElem?_cons_zero, List.getElem?_cons_succ] at x0 x1
 go_loop [11] (fun i => ∃ k : Nat, k ≤ ns.length ∧ i = .int .i64 k ∧ ∀ j n, j < k → ns[j]? = some n → bs.getD n false = true) (fun i => ns.length - (intOf i).toNat)
 case atStart => exact ⟨0, Nat.zero_le _, rfl, fun j _ hj => absurd hj (by omega)⟩
 case round =>
  obtain ⟨k, hk, rfl, hall⟩ := hrel
  have HA := Lib.hid hall
  clear hall
  by_cases hlt : k < ns.length
  ·
   obtain ⟨ad, rfl, hsp, hblk, _, hcell⟩ := HC'.out (by omega)
   obtain ⟨b, o, sp⟩ := ad
   simp only at hsp hblk hcell
   subst hsp
   have hck : w0.cell? ⟨b, o + k, none⟩ = some (.int .i64 (ns[k] : Int)) := (hkc.cell (p := ⟨b, o + k, none⟩) hblk id).trans (hcell k _ (by rw [List.getElem?_map, List.getElem?_eq_getElem hlt]; rfl))
   have HS := Lib.hid (List.getElem?_eq_getElem hlt)
   have hnl := HL.out ns[k] (List.getElem_mem hlt)
   generalize ns[k] = n at *
   obtain ⟨ad2, rfl, hsp2, hblk2, _, hcell2⟩ := HC.out (by omega)
   obtain ⟨b2, o2, sp2⟩ := ad2
   simp only at hsp2 hblk2 hcell2
   subst hsp2
   have hcn : w0.cell? ⟨b2, o2 + n, none⟩ = some (.bool (bs.getD n false)) := (hkc.cell (p := ⟨b2, o2 + n, none⟩) hblk2 id).trans (hcell2 n _ (by rw [List.getElem?_map, getB_at hnl]; rfl))
   clear hcell hcell2
   cases hq : bs.getD n false with
   | true =>
    rw [hq] at hcn
    have HQ := Lib.hid hq
    clear hq
    go_wp2
    go_round
    case rel =>
     refine ⟨k + 1, by omega, by go_num, fun j m hj e => ?_⟩
     rcases Nat.lt_or_ge j k with h | h
     ·
      exact HA.out j m h e
     ·
      have : j = k := by omega
      subst this
      rw [HS.out] at e
      injection e with e
      rw [← e]
      exact HQ.out
    case measure => simp [intOf]; omega
   | false =>
    rw [hq] at hcn
    have HR := Lib.hid (show R = false by
     rw [← HR0.out, Bool.and_eq_false_iff]
     refine .inl ?_
     rw [List.all_eq_false]
     exact ⟨n, List.mem_of_getElem? HS.out, by rw [hq]; decide⟩)
    clear hq
    go_wp2
    go_ret
    exact ⟨by rw [HR.out]; rfl, HK.out⟩
  ·
   have HR := Lib.hid (show R = Pr x by
    rw [← HR0.out]
    have : ns.all (fun n => bs.getD n false) = true := by
     rw [List.all_eq_true]
     intro n hn
     obtain ⟨j, hj⟩ := List.getElem?_of_mem hn
     exact HA.out j n (by have := (List.getElem?_eq_some_iff.1 hj).1; omega) hj
    rw [this, Bool.true_and])
   have hkn : ¬ ((k : Int) < (ns.length : Int)) := by omega
   have eg := HEG.out
   unfold CanCall at eg
   clear hlt
   go_wp2_with fail
   refine HP.out.mono ?_
   rintro e w1 ⟨rfl, rfl⟩
   clear HP HEG eg
   go_wp2
   go_ret
   exact ⟨by rw [HR.out]; rfl, HK.out⟩
set_option maxRecDepth 100000 in
set_option maxHeartbeats 4000000 in
theorem freshR_any (w : World) (D : Nat → Prop) (v : Value) (ts : List Tg) (h : Tgs w D v ts) (g : Nat) (pr : Value) (eg : CanCall g) (Pr : Nat → Bool) (hp : TellsR g pr Pr w) :
  Calls Tryz.prog 100 #[.agg #[v], .func (.func g) #[pr] #[]] w (ToldBools (grFresh (ts.map Tg.plain) Pr) w) := by
 have HH := Lib.hid h
 have HP := Lib.hid hp
 have HEG := Lib.hid eg
 obtain ⟨A, c, rfl, hlc, hcm, hn, hxl, hc⟩ := h.1
 unfold maxLen at hcm
 have ka := (Keep.refl noneOf w).alloc (.cells #[.slice A ts.length c] 35)
 have HK0 := Lib.hid ka
 have HX0 := Lib.hid (Box.new w 35 #[.slice A ts.length c])
 have HKE := Lib.hid (keys_any _ D _ ts (h.keep ka (fun _ _ _ => id)))
 have HAT : Hid (∀ i p, (grOrder (ts.map Tg.plain))[i]? = some p → _) := Lib.hid fun i p hp => order_some hp
 have HR := Lib.hid (show grFresh (ts.map Tg.plain) Pr = runOf (freshAt (ts.map Tg.plain) (grKeys (ts.map Tg.plain)) Pr) (List.replicate (grOrder (ts.map Tg.plain)).length false) (grOrder (ts.map Tg.plain)) from rfl)
 have HKL := Lib.hid (grKeys_length (ts.map Tg.plain))
 have HKB : Hid (∀ k ∈ grKeys (ts.map Tg.plain), (k : Int) < 18446744073709551616) := Lib.hid (keys_bound (ts.map Tg.plain) _ _)
 have h32 := order_32 (ts.map Tg.plain)
 have HLEN := Lib.hid (show grCheck (ts.map Tg.plain) = 0 → (grOrder (ts.map Tg.plain)).length = ts.length from fun hq => by rw [order_len hq, List.length_map])
 have HFEW := Lib.hid (show grCheck (ts.map Tg.plain) = 0 → fewNeeds ts from fun hq => (fits_few (check_fits hq).1).2)
 have HOR : Hid (∀ w', Keep noneOf w w' → Calls Tryz.prog 131 #[.agg #[.slice A ts.length c]] w' (ToldInts (grOrder (ts.map Tg.plain)) w')) := Lib.hid fun w' k => order_any w' D _ ts (HH.out.keep k (fun _ _ _ => id))
 obtain ⟨i1, hi1, hz1, hs1, hb1⟩ := info_parts boolinfo'
 generalize grFresh (ts.map Tg.plain) Pr = R at *
 generalize hord0 : grOrder (ts.map Tg.plain) = ord at *
 generalize grKeys (ts.map Tg.plain) = ks at *
 have hkl := HKL.out
 rw [← hkl] at h32
 clear h ka hc hxl hn hp eg hord0 hkl
 go_enter Tryz.func100, Tryz.ntmps100
 go_wp2_with fail
 refine HKE.out.mono ?_
 rintro e w1 ⟨A1, c1, rfl, o1, k1⟩
 have K1 := HK0.out.trans k1 (fun _ _ h => h)
 have X1 := HX0.out.keep k1 id
 obtain ⟨w2, hmk, hown2, hg2⟩ := run_make_full (P := Tryz.prog) w1 w1.heap.size 117 4 i1 (.bool false) 1 Tryz.underlying117 hi1 hz1 hs1 .i64 .i64 ks.length (by rw [hb1]; omega) (by unfold maxLen; omega) (Nat.le_refl _)
 have kk2 := Keep.of_grown hg2
 have hlt1 : w.heap.size < w1.heap.size := X1.lt
 have O2 : Kys w2 (fun b => b ≠ w1.heap.size) (.slice A1 ks.length c1) ks := Kys.keep (Kys.mono o1 (fun i hi _ => by omega)) kk2 (fun _ _ _ h => by cases h)
 have K2 : Keep noneOf w w2 := K1.trans kk2 (fun _ _ h => by cases h)
 have X2 := X1.keep kk2 (fun h => by cases h)
 have B2 := Box.of_made hown2
 rw [show (Value.cells (.bool false)) = #[.bool false] from rfl, toList_madeCells_one, Nat.mul_one, ← bvs_none] at B2
 have hM2 := B2.lt
 have x2 : w2.cell? ⟨w.heap.size, 0, none⟩ = some (.slice A ts.length c) := X2.cell 0
 have X3 := X2.alloc (.cells #[.func (.func g) #[pr] #[], .slice (some ⟨w1.heap.size, 0, none⟩) ks.length ks.length] 168)
 have x3 := X3.cell 0
 have kj := (Keep.refl noneOf w2).alloc (.cells #[.func (.func g) #[pr] #[], .slice (some ⟨w1.heap.size, 0, none⟩) ks.length ks.length] 168)
 have K3 := K2.trans kj (fun _ _ h => h)
 have J3 := Box.new w2 168 #[.func (.func g) #[pr] #[], .slice (some ⟨w1.heap.size, 0, none⟩) ks.length ks.length]
 have HX3 := Lib.hid X3
 have HJ3 := Lib.hid J3
 have HK3 := Lib.hid K3
 have HO3 := Lib.hid (O2.keep kj (fun _ _ _ => id))
 have HB3 := Lib.hid (B2.keep kj id)
 have HO := Lib.hid (HOR.out _ K3)
 simp only [List.getElem?_toArray, List.getElem?_cons_zero] at x3
 clear O2 K2 X2 B2 hown2 hg2 kk2 K1 X1 o1 k1 X3 kj K3 J3 x2 HOR HKE HX0 HK0
 go_wp2_with fail
 clear hmk
 generalize w2.alloc (.cells #[.func (.func g) #[pr] #[], .slice (some ⟨w1.heap.size, 0, none⟩) ks.length ks.length] 168) = w3 at *
 refine HO.out.mono ?_
 rintro e w4 ⟨v4, rfl, o4, k4⟩
 obtain ⟨A4, c4, hv4⟩ := o4.shape
 subst hv4
 have hM3 := HB3.out.lt
 have HX4 := Lib.hid (HX3.out.keep k4 id)
 have HJ4 := Lib.hid (HJ3.out.keep k4 id)
 have HK4 := Lib.hid (HK3.out.trans k4 (fun _ _ h => h))
 have HO4 := Lib.hid (HO3.out.keep k4 (fun _ _ _ => id))
 have HB4 := Lib.hid (HB3.out.keep k4 id)
 have HI4 := Lib.hid (Row.mono (D' := fun b => b ≠ w1.heap.size) o4 (fun i hi h => by omega) : Ints w4 (fun b => b ≠ w1.heap.size) (.slice A4 ord.length c4) ord)
 clear o4 k4 HX3 HJ3 HK3 HO3 HB3 HO x3 hM3
 rw [HKL.out] at HB4
 go_wp2
 generalize w2.heap.size = J at *
 generalize w1.heap.size = M at *
 go_loopw [19] (fun i wr => ∃ k : Nat, k ≤ ord.length ∧ i = .int .i64 k ∧ Keep noneOf w wr ∧ Box wr w.heap.size 35 #[.slice A ts.length c] ∧ Box wr J 168 #[.func (.func g) #[pr] #[], .slice (some ⟨M, 0, none⟩) ks.length ks.length] ∧ Kys wr (fun b => b ≠ M) (.slice A1 ks.length c1) ks ∧ Ints wr (fun b => b ≠ M) (.slice A4 ord.length c4) ord ∧ Box wr M 4 (bvs (runOf (freshAt (ts.map Tg.plain) ks Pr) (List.replicate ord.length false) (ord.take k)))) (fun i _ => ord.length - (intOf i).toNat)
 case atStart => exact ⟨0, Nat.zero_le _, rfl, HK4.out, HX4.out, HJ4.out, HO4.out, HI4.out, HB4.out⟩
 case round =>
  obtain ⟨k, hk, rfl, hkeep, hX, hJ, hKS, hO, hB⟩ := hrel
  have hJM : J ≠ M := hJ.ne hB (by decide)
  have hGM : w.heap.size ≠ M := hX.ne hB (by decide)
  have hMw := hB.lt
  have HKP := Lib.hid hkeep
  have HX := Lib.hid hX
  have HJ := Lib.hid hJ
  have HKS := Lib.hid hKS
  have HO := Lib.hid hO
  have HB := Lib.hid hB
  clear hX hJ hKS hO hB HK4 HX4 HJ4 HO4 HI4 HB4
  by_cases hlt : k < ord.length
  ·
   obtain ⟨hq, hpl⟩ := HAT.out k ord[k] (List.getElem?_eq_getElem hlt)
   rw [List.length_map] at hpl
   have hord := HLEN.out hq
   obtain ⟨A', c', hv', hl', hm', _, _, hrow⟩ := HO.out
   obtain ⟨rfl, rfl⟩ : A4 = A' ∧ c4 = c' := by simpa using hv'
   obtain ⟨ad, rfl, hsp, hblk, hDb, hcell⟩ := hrow (by omega)
   obtain ⟨b, o, sp⟩ := ad
   simp only at hsp hblk hDb hcell
   subst hsp
   unfold maxLen at hm'
   have hck : wr.cell? ⟨b, o + k, none⟩ = some (.int .i64 (ord[k] : Int)) := hcell k _ (by rw [List.getElem?_map, List.getElem?_eq_getElem hlt]; rfl)
   have HSTEP := Lib.hid (runOf_more (freshAt (ts.map Tg.plain) ks Pr) (List.replicate ord.length false) ord k ord[k] (List.getElem?_eq_getElem hlt))
   have HLL := Lib.hid (show (runOf (freshAt (ts.map Tg.plain) ks Pr) (List.replicate ord.length false) (ord.take k)).length = ord.length by rw [runOf_length, List.length_replicate])
   generalize hL : runOf (freshAt (ts.map Tg.plain) ks Pr) (List.replicate ord.length false) (ord.take k) = L at *
   generalize ord[k] = p at *
   have HFW := Lib.hid (HFEW.out hq)
   have hpk : p < ks.length := by rw [HKL.out]; omega
   obtain ⟨⟨A5, c5, hv5, hl5, hm5, _, _, hrow5⟩, _⟩ := HKS.out
   obtain ⟨rfl, rfl⟩ : A1 = A5 ∧ c1 = c5 := by simpa using hv5
   obtain ⟨ad5, rfl, hsp5, hblk5, hDb5, hcell5⟩ := hrow5 (by omega)
   obtain ⟨b5, o5, sp5⟩ := ad5
   simp only at hsp5 hblk5 hDb5 hcell5
   subst hsp5
   unfold maxLen at hm5
   have hck5 : wr.cell? ⟨b5, o5 + p, none⟩ = some (kv (ks.getD p 0)) := hcell5 p _ (by rw [List.getElem?_map, getD_at hpk]; rfl)
   have hx64 := getD_bound HKB.out p
   rw [show freshAt (ts.map Tg.plain) ks Pr L p = ((needsAt (ts.map Tg.plain) (p : Int)).all (fun n => L.getD n false) && Pr (ks.getD p 0)) from rfl] at HSTEP
   generalize ks.getD p 0 = x at *
   have HX64 := Lib.hid hx64
   unfold kv at hck5
   have hnl : ∀ n ∈ needsAt (ts.map Tg.plain) (p : Int), n < L.length := fun n hn => by
    have := needsAt_lt hn
    rw [List.length_map] at this
    rw [HLL.out, hord]
    exact this
   have NE : Hid (∀ w', Keep noneOf wr w' → Calls Tryz.prog 133 #[.agg #[.slice A ts.length c], .int .i64 (p : Int)] w' (ToldInts (needsAt (ts.map Tg.plain) (p : Int)) w')) := Lib.hid fun w' k' => needs_any w' D _ ts (p : Int) (HH.out.keep (hkeep.trans k' (fun _ _ h => h)) (fun _ _ _ => id)) HFW.out
   generalize needsAt (ts.map Tg.plain) (p : Int) = ns at *
   have hbl : Bls wr (fun _ => True) (.slice (some ⟨M, 0, none⟩) L.length L.length) L := Bls.of_box HB.out (by rw [HLL.out]; unfold maxLen; have := HKL.out; omega) trivial
   rw [show L.length = ks.length by rw [HLL.out, HKL.out]] at hbl
   have HF : Hid (∀ (w' : World) A' c', Keep noneOf wr w' → Ints w' (fun _ => True) (.slice A' ns.length c') ns → Calls Tryz.prog 132 #[.agg #[.func (.func g) #[pr] #[], .slice (some ⟨M, 0, none⟩) ks.length ks.length], .int .u64 (x : Int), .slice A' ns.length c'] w' fun e w'' => e = .returned (.bool (ns.all (fun n => L.getD n false) && Pr x)) ∧ Keep noneOf w' w'') := Lib.hid fun w' A' c' k' hi' =>
    isFreshR_any w' (fun _ => True) (fun _ => True) g pr HEG.out Pr (HP.out.later (hkeep.trans k' (fun _ _ h => h))) x HX64.out _ _ L ns (by
     have h9 := hbl.keep k' (fun _ _ _ => id)
     exact h9) hi' hnl
   have MK : Hid (∀ w', Keep (fun b => b = M) wr w' → w'.cell? ⟨w.heap.size, 0, none⟩ = some (.slice A ts.length c) ∧ w'.cell? ⟨J, 0, none⟩ = some (.func (.func g) #[pr] #[]) ∧ w'.cell? ⟨J, 1, none⟩ = some (.slice (some ⟨M, 0, none⟩) ks.length ks.length) ∧ w'.cell? ⟨b5, o5 + p, none⟩ = some (.int .u64 (x : Int))) := Lib.hid fun w' k' =>
    ⟨(HX.out.keep k' hGM).cell 0, (HJ.out.keep k' hJM).cell 0, (HJ.out.keep k' hJM).cell 1, (k'.cell (p := ⟨b5, o5 + p, none⟩) hblk5 hDb5).trans hck5⟩
   have hpL : p < L.length := by rw [HLL.out, ← HKL.out]; exact hpk
   have MS : Hid (∀ w', Keep noneOf wr w' → w'.cell? ⟨M, p, none⟩ = some (.bool (L.getD p false)) ∧ w'.frozen? ⟨M, p, none⟩ = false) := Lib.hid fun w' k' =>
    ⟨by rw [(HB.out.keep k' id).cell, bvs_at, getB_at hpL]; rfl, (HB.out.keep k' id).free p⟩
   generalize L.getD p false = old at *
   generalize hval : (ns.all (fun n => L.getD n false) && Pr x) = val at *
   have K00 := Keep.refl noneOf wr
   have g1 : (0 : Int) ≤ (p : Int) := by omega
   have g2 : (p : Int) < (ks.length : Int) := by omega
   clear hrow hcell hv' hrow5 hcell5 hv5 hck5 hbl hx64 hnl hval hq hord hkeep hL hpl
   go_wp2
   go_region_held3 (fun w' => Keep (fun b => b = M) wr w' ∧ w'.cell? ⟨w.heap.size, 0, none⟩ = some (.slice A ts.length c) ∧ w'.cell? ⟨J, 0, none⟩ = some (.func (.func g) #[pr] #[]) ∧ w'.cell? ⟨J, 1, none⟩ = some (.slice (some ⟨M, 0, none⟩) ks.length ks.length) ∧ w'.cell? ⟨b5, o5 + p, none⟩ = some (.int .u64 (x : Int)))
    (first | exact ⟨K00.drew.wide, MK.out _ K00.drew.wide⟩ | (refine (fun k => ⟨k, MK.out _ k⟩) ?_; first | (with_reducible refine Keep.setCell (And.left (by assumption)) ?_ _; exact fun _ => rfl) | (with_reducible exact Keep.andNone (And.left (by assumption)) (by assumption))))
    (first | (go_at_call 133; refine (NE.out _ K00.drew).mono ?_; rintro e w' ⟨v', rfl, hi', k'⟩; obtain ⟨A', c', hv'⟩ := hi'.shape; subst hv') | (go_at_call 132; refine (HF.out _ _ _ (K00.drew.trans k' (fun _ _ h => h)) (Row.mono hi' (fun _ _ _ => trivial))).mono ?_; rintro e w'' ⟨rfl, k''⟩; obtain ⟨b7, f7⟩ := MS.out _ ((K00.drew.trans k' (fun _ _ h => h)).trans k'' (fun _ _ h => h))))
   have k5 := (K00.drew.trans k' (fun _ _ h => h)).trans k'' (fun _ _ h => h)
   have hb6 := (HB.out.keep k5 id).put p (.bool val)
   rw [bvs_set, ← HSTEP.out] at hb6
   have HB6 := Lib.hid hb6
   have ks6 : Keep (fun b => b = M) w'' (w''.setCell ⟨M, p, none⟩ (.bool val)) := (Keep.refl (fun b => b = M) w'').setCell (fun _ => rfl) _
   have hwM : w.heap.size < M := by omega
   have HK6 := Lib.hid ((HKP.out.trans k5 (fun _ _ h => h)).trans ks6 (fun i hi h => by omega))
   have HX6 := Lib.hid ((HX.out.keep k5 id).keep ks6 hGM)
   have HJ6 := Lib.hid ((HJ.out.keep k5 id).keep ks6 hJM)
   have HKS6 := Lib.hid ((HKS.out.keep k5 (fun _ _ _ => id)).keep ks6 (fun i _ h e => h e))
   have HO6 := Lib.hid (Row.keep (Row.keep HO.out k5 (fun _ _ _ => id)) ks6 (fun i _ h e => h e))
   clear hb6 ks6 k5 k' k'' hi' b7 f7 MS MK HF NE K00 HKP HX HJ HKS HO HB
   go_wp2
   go_roundw
   case rel => exact ⟨k + 1, by omega, by go_num, HK6.out, HX6.out, HJ6.out, HKS6.out, HO6.out, HB6.out⟩
   case measure => simp [intOf]; omega
  ·
   have e1 : ord.take k = ord := List.take_of_length_le (by omega)
   rw [e1, ← HR.out] at HB
   have hRl : R.length = ks.length := by rw [HR.out, runOf_length, List.length_replicate, HKL.out]
   have BL : Bls wr (fun b => w.heap.size ≤ b) (.slice (some ⟨M, 0, none⟩) R.length R.length) R := Bls.of_box HB.out (by rw [hRl]; unfold maxLen; omega) (by omega)
   have HBL := Lib.hid BL
   have HRL := Lib.hid hRl
   have j1 := HJ.out.cell 1
   simp only [List.getElem?_toArray, List.getElem?_cons_succ, List.getElem?_cons_zero] at j1
   have hkn : ¬ ((k : Int) < (ord.length : Int)) := by omega
   clear BL e1 hkeep hlt hRl
   go_wp2
   go_ret
   exact ⟨some ⟨M, 0, none⟩, R.length, by rw [HRL.out]; rfl, HBL.out, HKP.out⟩
end Go.Proofs.YtffoeodjbbkdjaaGreat
