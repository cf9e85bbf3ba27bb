import Derived.Laws.OwnMore
import Derived.Test.YtffoeodjbbkdjaaGreatBs02
import Derived.Test.YtffoeodjbbkdjaaGreatBs04
import Derived.Test.YtffoeodjbbkdjaaGreatBs05
namespace Go.Proofs.YtffoeodjbbkdjaaGreat
def Ordered (nd : List (List Nat)) (l : List Nat) : Prop := ∀ (i p : Nat), l[i]? = some p → p < nd.length ∧ p ∉ l.take i ∧ ∀ n ∈ nd.getD p [], n ∈ l.take i
theorem Ordered.nil (nd : List (List Nat)) : Ordered nd [] := fun i p h => by simp at h
theorem Ordered.more {nd : List (List Nat)} {l : List Nat} {q : Nat} (h : Ordered nd l) (hq : nextOf nd l = some q) : Ordered nd (l ++ [q]) := by
 intro i p hp
 rcases Nat.lt_or_ge i l.length with hi | hi
 ·
  rw [List.getElem?_append_left hi] at hp
  rw [List.take_append_of_le_length (by omega)]
  exact h i p hp
 ·
  rw [List.getElem?_append_right hi] at hp
  have hi0 : i - l.length = 0 := by
   have := (List.getElem?_eq_some_iff.1 hp).1
   simp at this
   omega
  rw [hi0] at hp
  have hpq : q = p := by simpa using hp
  subst hpq
  have hil : i = l.length := by omega
  subst hil
  rw [List.take_left']
  ·
   refine ⟨nextOf_lt hq, nextOf_new hq, fun n hn => ?_⟩
   have hok := nextOf_ok hq
   unfold okAt at hok
   rw [Bool.and_eq_true, List.all_eq_true] at hok
   have := hok.2 n hn
   rwa [List.contains_iff_mem] at this
  ·
   rfl
theorem Ordered.steps {nd : List (List Nat)} (k : Nat) {l : List Nat} (h : Ordered nd l) : Ordered nd (stepsOf nd k l) := by
 induction k generalizing l with
 | zero => exact h
 | succ k ih =>
  simp only [stepsOf]
  cases hq : nextOf nd l with
  | none => exact h
  | some q => exact ih (h.more hq)
theorem Ordered.places (ps : List Pt) : Ordered (ps.map (needsOf ps)) (placesOf ps) := Ordered.steps _ (Ordered.nil _)
theorem Ordered.nodup {nd : List (List Nat)} {l : List Nat} (h : Ordered nd l) : l.Nodup := by
 rw [List.nodup_iff_pairwise_ne, List.pairwise_iff_getElem]
 intro i j hi hj hij e
 have := (h j l[j] (List.getElem?_eq_getElem hj)).2.1
 exact this (e ▸ List.mem_of_getElem? (i := i) (by rw [List.getElem?_take, if_pos hij]; exact List.getElem?_eq_getElem hi))
theorem Ordered.lt {nd : List (List Nat)} {l : List Nat} (h : Ordered nd l) : ∀ x ∈ l, x < nd.length := fun x hx => by
 obtain ⟨i, hi⟩ := List.getElem?_of_mem hx
 exact (h i x hi).1
theorem places_le (ps : List Pt) : (placesOf ps).length ≤ ps.length := by
 have h := Ordered.places ps
 have := nodup_le h.nodup h.lt
 simpa using this
theorem places_at {ps : List Pt} {i p : Nat} (h : (placesOf ps)[i]? = some p) : p < ps.length ∧ p ∉ (placesOf ps).take i ∧ ∀ n ∈ needsAt ps (p : Int), n ∈ (placesOf ps).take i := by
 obtain ⟨h1, h2, h3⟩ := Ordered.places ps i p h
 rw [List.length_map] at h1
 refine ⟨h1, h2, fun n hn => h3 n ?_⟩
 unfold needsAt at hn
 rw [if_pos (by omega), Int.toNat_natCast, List.getElem?_eq_getElem h1] at hn
 rw [List.getD_eq_getElem?_getD, List.getElem?_map, List.getElem?_eq_getElem h1]
 exact hn
end Go.Proofs.YtffoeodjbbkdjaaGreat
namespace Go.Proofs.YtffoeodjbbkdjaaGreat
open Go.RowKit
theorem intsinfo : (Tryz.prog.info? 143).map (fun i => (i.zero, i.size, i.bytes)) = some (some (.slice none 0 0), 1, 24) := by kernel_rfl
theorem boolinfo : (Tryz.prog.info? 4).map (fun i => (i.zero, i.size, i.bytes)) = some (some (.bool false), 1, 1) := by kernel_rfl
theorem Box.of_made {w : World} {base g n : Nat} {e : TypeId} {xs : List Value} (h : w.ownsRow base e 1 (.slice (some ⟨g, 0, none⟩) n n) n xs) : Box w g e xs.toArray := by
 rcases h.2 with ⟨h0, _⟩ | ⟨g', cap, cur, hv, _, hg, _, _, hsz, htk⟩
 ·
  cases h0
 ·
  obtain ⟨rfl, rfl⟩ : g = g' ∧ n = cap := by simpa using hv
  rw [List.take_of_length_le (by simp; omega)] at htk
  rw [← htk]
  exact hg
theorem Row.of_box {w : World} {D : Nat → Prop} {g n : Nat} {e : TypeId} {cs : Array Value} (h : Box w g e cs) (hn : cs.size = n) (hm : n ≤ maxLen) (hD : D g) : Row w D (.slice (some ⟨g, 0, none⟩) n n) n 1 cs.toList := by
 refine ⟨some ⟨g, 0, none⟩, n, rfl, Nat.le_refl _, hm, fun e => (by cases e), by simp [hn], fun _ => ⟨⟨g, 0, none⟩, rfl, rfl, h.lt, hD, fun j x hx => ?_⟩⟩
 show w.cell? ⟨g, 0 + j, none⟩ = some x
 rw [Nat.zero_add, h.cell]
 simpa using hx
def markV (n : Nat) (l : List Nat) : Array Value := ((List.range n).map (fun i => Value.bool (l.contains i))).toArray
theorem markV_size (n : Nat) (l : List Nat) : (markV n l).size = n := by simp [markV]
theorem markV_more (n : Nat) (l : List Nat) (i : Nat) : (markV n l).setIfInBounds i (.bool true) = markV n (l ++ [i]) := by
 unfold markV
 rw [List.setIfInBounds_toArray]
 congr 1
 apply List.ext_getElem?
 intro j
 rw [List.getElem?_set]
 by_cases hij : i = j
 ·
  subst hij
  by_cases hj : i < n
  ·
   simp [hj]
  ·
   simp [hj]
 ·
  rw [if_neg hij]
  by_cases hj : j < n
  ·
   simp [hj, Ne.symm hij]
  ·
   simp [hj]
theorem markV_none (n : Nat) : markV n [] = (List.replicate n (Value.bool false)).toArray := by
 unfold markV
 congr 1
 apply List.ext_getElem?
 intro j
 by_cases hj : j < n
 ·
  simp [hj]
 ·
  simp [hj]
set_option maxRecDepth 100000 in
set_option maxHeartbeats 1000000 in
theorem arranged_any (w : World) (D : Nat → Prop) (v : Value) (ts : List Tg) (h : Tgs w D v ts) (hf : fewNeeds ts) (h32 : ts.length ≤ 32) :
  Calls Tryz.prog 130 #[.agg #[v]] w (ToldInts (placesOf (ts.map Tg.plain)) w) := by
 have HH := Lib.hid h
 have HFW := Lib.hid hf
 obtain ⟨A, c, rfl, hlc, hcm, hn, hxl, hc⟩ := h.1
 unfold maxLen at hcm
 obtain ⟨i1, hi1, hz1, hs1, hb1⟩ := info_parts intsinfo
 obtain ⟨w0, hw0⟩ : ∃ w0, w.alloc (.cells #[.slice A ts.length c] 35) = w0 := ⟨_, rfl⟩
 have HW0 := Lib.hid hw0
 have hz0 : w0.heap.size = w.heap.size + 1 := by rw [← hw0]; simp
 have K0 : Keep noneOf w w0 := by rw [← hw0]; exact (Keep.refl noneOf w).alloc _
 have X0 : Box w0 w.heap.size 35 #[.slice A ts.length c] := by rw [← hw0]; exact Box.new w _ _
 obtain ⟨w1, hmk, hown1, hg1⟩ := run_make_full (P := Tryz.prog) w0 w0.heap.size 190 143 i1 (.slice none 0 0) 1 Tryz.underlying190 hi1 hz1 hs1 .i64 .i64 ts.length (by rw [hb1]; omega) (by unfold maxLen; omega) (Nat.le_refl _)
 rw [hz0] at hmk hown1
 have kk1 := Keep.of_grown hg1
 have K1 : Keep noneOf w w1 := K0.trans kk1 (fun _ _ h => by cases h)
 have X1 := X0.keep kk1 (fun h => by cases h)
 have B1 := Box.of_made hown1
 rw [show (Value.cells (.slice none 0 0)) = #[.slice none 0 0] from rfl, toList_madeCells_one] at B1
 rw [← hw0] at hmk
 have hsz1 := X1.lt
 have HC := Lib.hid hc
 have HT := Lib.hid h.2
 have HK1 := Lib.hid K1
 have HX1 := Lib.hid X1
 have HB1 := Lib.hid B1
 have hbz := B1.lt
 clear hw0 hz0 K0 X0 hown1 hg1 kk1 K1 X1 B1 hi1 hz1 hs1 hb1 hc h hf hxl HW0
 go_enter Tryz.func130, Tryz.ntmps130
 go_wp2
 clear hmk
 go_loopw [15] (fun i wr => ∃ (k : Nat) (cs : Array Value), k ≤ ts.length ∧ i = .int .i64 k ∧ Keep noneOf w wr ∧ Box wr w.heap.size 35 #[.slice A ts.length c] ∧ Box wr (w.heap.size + 1) 143 cs ∧ cs.size = ts.length ∧ ∀ (j : Nat) (u : Value) (t : Tg), j < k → cs[j]? = some u → ts[j]? = some t → Ints wr (fun b => w.heap.size + 2 ≤ b) u (needsOf (ts.map Tg.plain) t.plain)) (fun i _ => ts.length - (intOf i).toNat)
 case atStart => exact ⟨0, _, Nat.zero_le _, rfl, HK1.out, HX1.out, HB1.out, by simp, fun j _ _ hj => absurd hj (by omega)⟩
 case round =>
  obtain ⟨k, cs, hk, rfl, hkeep, hX, hB, hcs, hall⟩ := hrel
  have x0 : wr.cell? ⟨w.heap.size, 0, none⟩ = some (.slice A ts.length c) := hX.cell 0
  have hbz := hB.lt
  have HA := Lib.hid hall
  have HKP := Lib.hid hkeep
  have HX := Lib.hid hX
  have HB := Lib.hid hB
  have HCS := Lib.hid hcs
  clear hall HK1 HX1 HB1 hX hB hcs
  by_cases hlt : k < ts.length
  ·
   have hkc : k < cs.size := by rw [HCS.out]; exact hlt
   have HS := Lib.hid (List.getElem?_eq_getElem hlt)
   have NE := needs_any wr D _ ts (k : Int) (HH.out.keep hkeep (fun _ _ _ => id)) HFW.out
   generalize ts[k] = t at *
   rw [needsAt_at HS.out] at NE
   have HNE := Lib.hid NE
   clear NE hkeep
   have hk0 : (0 : Int) ≤ (k : Int) := by omega
   have hk1 : (k : Int) < (ts.length : Int) := by omega
   go_wp2_with fail
   refine HNE.out.mono ?_
   rintro e w2 ⟨v2, rfl, hi2, k2⟩
   obtain ⟨A2, c2, hv2⟩ := hi2.shape
   subst hv2
   have K2 := HKP.out.trans k2 (fun _ _ h => h)
   have X2 := HX.out.keep k2 id
   have B2 := HB.out.keep k2 id
   have b2 : w2.cell? ⟨w.heap.size + 1, k, none⟩ = some cs[k] := (B2.cell k).trans (Array.getElem?_eq_getElem hkc)
   have f2 := B2.free k
   generalize cs[k] = old at *
   have HI2 := Lib.hid hi2
   have hwr : w.heap.size + 2 ≤ wr.heap.size := hbz
   go_wp2
   go_roundw
   case rel =>
    have ks : Keep (fun b => b = w.heap.size + 1) w2 (w2.setCell ⟨w.heap.size + 1, k, none⟩ (.slice A2 (needsOf (ts.map Tg.plain) t.plain).length c2)) := (Keep.refl (fun b => b = w.heap.size + 1) w2).setCell (fun _ => rfl) _
    refine ⟨k + 1, _, by omega, by go_num, K2.setCell (fun h => absurd h (by simp)) _, X2.far (by simp) _, B2.put k _, by rw [Array.size_setIfInBounds]; exact HCS.out, fun j u t' hj hu ht => ?_⟩
    rw [Array.getElem?_setIfInBounds] at hu
    by_cases hjk : k = j
    ·
     subst hjk
     rw [if_pos rfl, if_pos hkc] at hu
     injection hu with hu
     rw [HS.out] at ht
     injection ht with ht
     subst hu ht
     exact (HI2.out.mono (fun _ _ h => Nat.le_trans hwr h)).keep ks (fun i _ h e => by subst e; exact absurd h (by omega))
    ·
     rw [if_neg hjk] at hu
     exact ((HA.out j u t' (by omega) hu ht).keep k2 (fun _ _ _ => id)).keep ks (fun i _ h e => by subst e; exact absurd h (by omega))
   case measure => simp [intOf]; omega
  ·
   obtain ⟨i1, hi1, hz1, hs1, hb1⟩ := info_parts boolinfo
   obtain ⟨w1', hmk, hown1, hg1⟩ := run_make_full (P := Tryz.prog) wr wr.heap.size 117 4 i1 (.bool false) 1 Tryz.underlying117 hi1 hz1 hs1 .i64 .i64 ts.length (by rw [hb1]; omega) (by unfold maxLen; omega) (Nat.le_refl _)
   have kk1 := Keep.of_grown hg1
   have K1 : Keep noneOf w w1' := hkeep.trans kk1 (fun _ _ h => by cases h)
   have M1 := Box.of_made hown1
   rw [show (Value.cells (.bool false)) = #[.bool false] from rfl, toList_madeCells_one, Nat.mul_one, ← markV_none] at M1
   have L1 : Lists w1' (fun b => b < wr.heap.size) (.slice (some ⟨w.heap.size + 1, 0, none⟩) ts.length ts.length) ((ts.map Tg.plain).map (needsOf (ts.map Tg.plain))) := by
    refine ⟨cs.toList, ?_, by simp [HCS.out], fun j u ns hu hns => ?_⟩
    ·
     have := Row.of_box (D := fun b => b < wr.heap.size) (HB.out.keep kk1 (fun h => by cases h)) HCS.out (by unfold maxLen; omega) hbz
     simpa using this
    ·
     have hjl := (List.getElem?_eq_some_iff.1 hns).1
     simp at hjl
     have ht := List.getElem?_eq_getElem hjl
     have hi := HA.out j u _ (by omega) (by simpa using hu) ht
     have hns2 : ns = needsOf (ts.map Tg.plain) (ts[j]).plain := by
      rw [List.getElem?_map, List.getElem?_map, ht] at hns
      simpa using hns.symm
     subst hns2
     exact Row.keep (Row.mono hi (fun i hi _ => hi)) kk1 (fun _ _ _ h => by cases h)
   have HK1 := Lib.hid K1
   have HM1 := Lib.hid M1
   have HL1 := Lib.hid L1
   have hlen : ((ts.map Tg.plain).map (needsOf (ts.map Tg.plain))).length = ts.length := by simp
   have HLT : Hid (∀ ns ∈ (ts.map Tg.plain).map (needsOf (ts.map Tg.plain)), ∀ m ∈ ns, m < ts.length) := fun ns hns m hm => by
    obtain ⟨p, _, rfl⟩ := List.mem_map.1 hns
    simpa using needsOf_lt hm
   obtain ⟨i2, hi2, hz2, hs2, hb2⟩ := info_parts intinfo
   have HPL := Lib.hid (show stepsOf ((ts.map Tg.plain).map (needsOf (ts.map Tg.plain))) ts.length [] = placesOf (ts.map Tg.plain) by unfold placesOf; rw [List.length_map])
   generalize (ts.map Tg.plain).map (needsOf (ts.map Tg.plain)) = nd at *
   generalize placesOf (ts.map Tg.plain) = res at *
   have HLEN := Lib.hid hlen
   have hzw := HKP.out.size
   have hzM : w.heap.size ≤ wr.heap.size := hzw
   clear hlen hi1 hz1 hs1 hb1 hown1 hg1 kk1 K1 M1 L1 HA HX HB HCS hkeep x0
   go_wp2
   clear hmk HKP
   generalize wr.heap.size = M at *
   go_loopg [6] ts.length (fun g pl wx => ∃ l : List Nat, l.length + g = ts.length ∧ l.Nodup ∧ (∀ x ∈ l, x < ts.length) ∧ stepsOf nd g l = res ∧ Keep noneOf w wx ∧ Box wx M 4 (markV ts.length l) ∧ Lists wx (fun b => b < M) (.slice (some ⟨w.heap.size + 1, 0, none⟩) ts.length ts.length) nd ∧ wx.ownsRow (M + 1) 3 1 pl l.length (l.map iv))
   case atStart => exact ⟨[], by simp, List.nodup_nil, (by simp), HPL.out, HK1.out, HM1.out, HL1.out, World.ownsRow_nil _ _ _ _⟩
   case round =>
    obtain ⟨l, hlg, hnd, hlx, hst, hkeep, hM, hL, hown⟩ := hrel
    have NX := next_any wr (fun b => b < M) (fun b => b = M) _ (.slice (some ⟨M, 0, none⟩) ts.length ts.length) nd l hL (by
     rw [HLEN.out]
     have := Row.of_box (D := fun b => b = M) hM (markV_size _ _) (by unfold maxLen; omega) rfl
     simpa [markV, Marks] using this) (by rw [HLEN.out]; exact HLT.out)
    have HNX := Lib.hid NX
    have HKP2 := Lib.hid hkeep
    have HM := Lib.hid hM
    have HL := Lib.hid hL
    have HOWN := Lib.hid hown
    have HND := Lib.hid hnd
    have HLX := Lib.hid hlx
    have HST := Lib.hid hst
    have hlw := hM.lt
    have f2 := hM.free
    clear NX hkeep hM hL hown hnd hlx hst HL1 HK1 HM1 HPL
    cases hq : nextOf nd l with
    | none =>
     rw [hq] at HNX
     have hres : res = l := by
      rw [← HST.out]
      cases gk with
      | zero => rfl
      | succ g => simp only [stepsOf, hq]
     subst hres
     clear hq
     obtain ⟨A3, c3, hv3⟩ := own_shape HOWN.out
     subst hv3
     go_wp2_with fail
     refine HNX.out.mono ?_
     rintro e w2 ⟨rfl, rfl⟩
     simp only [Option.getD_none, Option.isSome_none]
     go_wp2
     go_ret
     exact ⟨_, rfl, (Ints.of_own HOWN.out).mono (fun _ _ h => by omega), HKP2.out⟩
    | some i =>
     rw [hq] at HNX
     have hin : i < ts.length := by rw [← HLEN.out]; exact nextOf_lt hq
     have HND2 := Lib.hid (nextOf_nodup HND.out hq)
     cases gk with
     | zero =>
      have := nextOf_full (nd := nd) HND.out (by rw [HLEN.out]; exact HLX.out) (by rw [HLEN.out]; omega)
      rw [hq] at this
      cases this
     | succ g =>
      have HST2 := Lib.hid (show stepsOf nd g (l ++ [i]) = res by rw [← HST.out]; simp only [stepsOf, hq])
      clear hq HST
      have b2 : wr.cell? ⟨M, i, none⟩ = some (.bool (l.contains i)) := by
       rw [HM.out.cell]
       simp [markV, hin]
      generalize Value.bool (l.contains i) = old at *
      have f2' := f2 i
      clear f2
      have hi0 : (0 : Int) ≤ (i : Int) := by omega
      have hi1 : (i : Int) < (ts.length : Int) := by omega
      go_wp2_with fail
      refine HNX.out.mono ?_
      rintro e w2 ⟨rfl, rfl⟩
      simp only [Option.getD_some, Option.isSome_some]
      have ks : Hid (Keep (fun b => b = M) wr (wr.setCell ⟨M, i, none⟩ (.bool true))) := (Keep.refl (fun b => b = M) wr).setCell (fun _ => rfl) _
      have hw3 : (wr.setCell ⟨M, i, none⟩ (.bool true)).heap.size = wr.heap.size := by simp [World.setCell]
      have HO3 := Lib.hid (own_keep HOWN.out ks.out (fun j hj e => by have := (HOWN.out.lt j hj).1; omega))
      have HM3 := Lib.hid (HM.out.put i (.bool true))
      have HL3 := Lib.hid (HL.out.keep ks.out (fun j _ h e => by omega))
      have HK3 := Lib.hid (HKP2.out.trans ks.out (fun j hj e => by omega))
      have hlw3 : M < (wr.setCell ⟨M, i, none⟩ (.bool true)).heap.size := by rw [hw3]; exact hlw
      have hc3 := cell_one_new (wr.setCell ⟨M, i, none⟩ (.bool true)) (.int .i64 (i : Int)) 3
      rw [hw3] at hc3
      have HC3 := Lib.hid hc3
      rw [hw3] at hlw3
      clear hw3 hc3 HNX ks
      go_wp2_with (at_builtin; refine wpList_append_own _ rfl _ _ 143 rfl (M + 1) 3 i2 _ 1 8 Tryz.underlying143 hi2 hz2 hs2 hb2 rfl (by decide) _ _ _ rfl (HO3.out.alloc _) ⟨wr.heap.size, 0, none⟩ 1 1 [iv i] rfl rfl HC3.out (by simp [Value.oneCell', iv]) (by unfold maxLen; omega) (by omega) (by simp; omega) ?_; intro v' w4 hown' hgrow _)
      have kg := Keep.of_grown hgrow
      have ka := (Keep.refl noneOf (wr.setCell ⟨M, i, none⟩ (.bool true))).alloc (.cells #[.int .i64 (i : Int)] 3)
      have hno : ∀ j, some j = u6.ownBlock → M + 1 ≤ j := fun j hj => (HO3.out.lt j hj.symm).1
      go_roundg g
      case measure => omega
      case rel =>
       refine ⟨l ++ [i], by simp; omega, HND2.out, ?_, HST2.out, ?_, ?_, ?_, ?_⟩
       ·
        intro x hx
        rcases List.mem_append.1 hx with hx | hx
        ·
         exact HLX.out x hx
        ·
         simp at hx
         subst hx
         exact hin
       ·
        exact (HK3.out.trans ka (fun _ _ h => h)).trans kg (fun j hj hs => absurd (hno j hs) (by omega))
       ·
        have := (HM3.out.keep ka id).keep kg (fun hs => absurd (hno _ hs) (by omega))
        rwa [markV_more] at this
       ·
        exact (HL3.out.keep ka (fun _ _ _ => id)).keep kg (fun j _ h hs => absurd (hno j hs) (by omega))
       ·
        rw [List.length_append, List.map_append]
        exact hown'
end Go.Proofs.YtffoeodjbbkdjaaGreat
namespace Go.Proofs.YtffoeodjbbkdjaaGreat
open Go.RowKit
theorem fits_few {ts : List Tg} (h : grFits (ts.map Tg.plain) = true) : ts.length ≤ 32 ∧ fewNeeds ts := by
 unfold grFits at h
 rw [Bool.and_eq_true, List.all_eq_true, decide_eq_true_eq, List.length_map] at h
 refine ⟨h.1, fun t ht => ?_⟩
 have h2 := h.2 t.plain (List.mem_map.2 ⟨t, ht, rfl⟩)
 unfold ptFits at h2
 rw [Bool.and_eq_true, Bool.and_eq_true, decide_eq_true_eq, decide_eq_true_eq, decide_eq_true_eq] at h2
 have h3 : t.needs.length ≤ 16 := h2.2
 omega
set_option maxRecDepth 100000 in
set_option maxHeartbeats 1000000 in
theorem check_any (w : World) (D : Nat → Prop) (v : Value) (ts : List Tg) (h : Tgs w D v ts) :
  Calls Tryz.prog 98 #[.agg #[v]] w fun e w' => e = .returned (.int .i64 (grCheck (ts.map Tg.plain))) ∧ Keep noneOf w w' := by
 have HH := Lib.hid h
 obtain ⟨A, c, rfl, hlc, hcm, hn, hxl, hc⟩ := h.1
 unfold maxLen at hcm
 have EC := Lib.hid (show grCheck (ts.map Tg.plain) = if grFits (ts.map Tg.plain) = false then 71 else if grFormed (ts.map Tg.plain) = false then 70 else if grClosed (ts.map Tg.plain) = false then 72 else if (placesOf (ts.map Tg.plain)).length < (ts.map Tg.plain).length then 73 else 0 from rfl)
 generalize grCheck (ts.map Tg.plain) = R at *
 have ka := (Keep.refl noneOf w).alloc (.cells #[.slice A ts.length c] 35)
 have HK0 := Lib.hid ka
 have HX0 := Lib.hid (Box.new w 35 #[.slice A ts.length c])
 have FI := grFits_any _ D _ ts (HH.out.keep ka (fun _ _ _ => id))
 clear hc h hxl hn
 cases hF : grFits (ts.map Tg.plain) with
 | false =>
  have hR : R = 71 := by rw [EC.out, if_pos hF]
  subst hR
  rw [hF] at FI
  have HFI := Lib.hid FI
  clear FI hF ka
  go_enter Tryz.func98, Tryz.ntmps98
  go_wp2_with fail
  refine HFI.out.mono ?_
  rintro e w1 ⟨rfl, k1⟩
  go_wp2
  go_ret
  exact ⟨rfl, HK0.out.trans k1 (fun _ _ h => h)⟩
 | true =>
  obtain ⟨h32, hfew⟩ := fits_few hF
  have HFEW := Lib.hid hfew
  rw [hF, if_neg (by decide)] at EC
  rw [hF] at FI
  have HFI := Lib.hid FI
  clear FI hF ka hfew
  go_enter Tryz.func98, Tryz.ntmps98
  go_wp2_with fail
  refine HFI.out.mono ?_
  rintro e w1 ⟨rfl, k1⟩
  have K1 := HK0.out.trans k1 (fun _ _ h => h)
  have X1 := HX0.out.keep k1 id
  have x1 : w1.cell? ⟨w.heap.size, 0, none⟩ = some (.slice A ts.length c) := X1.cell 0
  have FO := grFormed_any w1 D _ ts (HH.out.keep K1 (fun _ _ _ => id))
  clear HFI HK0 HX0 k1
  cases hF : grFormed (ts.map Tg.plain) with
  | false =>
   have hR : R = 70 := by rw [EC.out, if_pos hF]
   subst hR
   rw [hF] at FO
   have HFO := Lib.hid FO
   clear FO hF
   go_wp2_with fail
   refine HFO.out.mono ?_
   rintro e w2 ⟨rfl, k2⟩
   go_wp2
   go_ret
   exact ⟨rfl, K1.trans k2 (fun _ _ h => h)⟩
  | true =>
   rw [hF, if_neg (by decide)] at EC
   rw [hF] at FO
   have HFO := Lib.hid FO
   clear FO hF
   go_wp2_with fail
   refine HFO.out.mono ?_
   rintro e w2 ⟨rfl, k2⟩
   have K2 := K1.trans k2 (fun _ _ h => h)
   have X2 := X1.keep k2 id
   have x2 : w2.cell? ⟨w.heap.size, 0, none⟩ = some (.slice A ts.length c) := X2.cell 0
   have CL := grClosed_any w2 D _ ts (HH.out.keep K2 (fun _ _ _ => id)) HFEW.out
   clear HFO K1 X1 x1 k2
   cases hF : grClosed (ts.map Tg.plain) with
   | false =>
    have hR : R = 72 := by rw [EC.out, if_pos hF]
    subst hR
    rw [hF] at CL
    have HCL := Lib.hid CL
    clear CL hF
    go_wp2_with fail
    refine HCL.out.mono ?_
    rintro e w3 ⟨rfl, k3⟩
    go_wp2
    go_ret
    exact ⟨rfl, K2.trans k3 (fun _ _ h => h)⟩
   | true =>
    rw [hF, if_neg (by decide)] at EC
    rw [hF] at CL
    have HCL := Lib.hid CL
    clear CL hF
    go_wp2_with fail
    refine HCL.out.mono ?_
    rintro e w3 ⟨rfl, k3⟩
    have K3 := K2.trans k3 (fun _ _ h => h)
    have X3 := X2.keep k3 id
    clear HCL K2 X2 x2 k3
    have HX3 := Lib.hid X3
    have HK3 := Lib.hid K3
    have MK : Hid (∀ w', Keep noneOf w3 w' → w'.cell? ⟨w.heap.size, 0, none⟩ = some (.slice A ts.length c)) := fun w' k => (X3.keep k id).cell 0
    have AR : Hid (∀ w', Keep noneOf w3 w' → Calls Tryz.prog 130 #[.agg #[.slice A ts.length c]] w' (ToldInts (placesOf (ts.map Tg.plain)) w')) := fun w' k' => arranged_any w' D _ ts (HH.out.keep (HK3.out.trans k' (fun _ _ h => h)) (fun _ _ _ => id)) HFEW.out h32
    rw [List.length_map] at EC
    have hpl : (placesOf (ts.map Tg.plain)).length ≤ 32 ∨ True := .inr trivial
    generalize placesOf (ts.map Tg.plain) = pl at *
    have K00 := Keep.refl noneOf w3
    clear X3 K3 hpl
    go_wp2
    go_region_held3 (fun w' => Keep noneOf w3 w' ∧ w'.cell? ⟨w.heap.size, 0, none⟩ = some (.slice A ts.length c)) (first | exact ⟨K00.drew, MK.out _ K00.drew⟩ | (refine (fun k => ⟨k, MK.out _ k⟩) ?_; exact Keep.trans (And.left (by assumption)) (by assumption) (fun _ _ h => h)))
     (first | (go_at_call 130; refine (AR.out _ (And.left (by assumption))).mono ?_; rintro e w' ⟨v', rfl, hi', k'⟩; obtain ⟨A', c', hv'⟩ := hi'.shape; subst hv'))
    have k4 : Keep noneOf w3 w' := K00.drew.trans k' (fun _ _ h => h)
    have K4 := HK3.out.trans k4 (fun _ _ h => h)
    clear hi' k' k4 AR MK K00 HK3 HX3
    by_cases hq : pl.length < ts.length
    ·
     have hR : R = 73 := by rw [EC.out, if_pos hq]
     subst hR
     go_wp2
     go_ret
     exact ⟨rfl, K4⟩
    ·
     have hR : R = 0 := by rw [EC.out, if_neg hq]
     subst hR
     go_wp2
     go_ret
     exact ⟨rfl, K4⟩
theorem check_fits {ps : List Pt} (h : grCheck ps = 0) : grFits ps = true ∧ grFormed ps = true ∧ grClosed ps = true ∧ ¬ (placesOf ps).length < ps.length := by
 unfold grCheck at h
 cases h1 : grFits ps with
 | false => rw [h1, if_pos rfl] at h; cases h
 | true =>
  rw [h1, if_neg (by decide)] at h
  cases h2 : grFormed ps with
  | false => rw [h2, if_pos rfl] at h; cases h
  | true =>
   rw [h2, if_neg (by decide)] at h
   cases h3 : grClosed ps with
   | false => rw [h3, if_pos rfl] at h; cases h
   | true =>
    rw [h3, if_neg (by decide)] at h
    refine ⟨rfl, rfl, rfl, fun h4 => ?_⟩
    rw [if_pos h4] at h
    cases h
set_option maxRecDepth 100000 in
set_option maxHeartbeats 1000000 in
theorem order_any (w : World) (D : Nat → Prop) (v : Value) (ts : List Tg) (h : Tgs w D v ts) :
  Calls Tryz.prog 131 #[.agg #[v]] w (ToldInts (grOrder (ts.map Tg.plain)) w) := by
 have HH := Lib.hid h
 obtain ⟨A, c, rfl, hlc, hcm, hn, hxl, hc⟩ := h.1
 unfold maxLen at hcm
 have ka := (Keep.refl noneOf w).alloc (.cells #[.slice A ts.length c] 35)
 have HK0 := Lib.hid ka
 have HX0 := Lib.hid (Box.new w 35 #[.slice A ts.length c])
 have HCK := Lib.hid (check_any _ D _ ts (HH.out.keep ka (fun _ _ _ => id)))
 have EO := Lib.hid (show grOrder (ts.map Tg.plain) = if grCheck (ts.map Tg.plain) = 0 then placesOf (ts.map Tg.plain) else [] from rfl)
 clear hc h hxl hn ka
 by_cases hq : grCheck (ts.map Tg.plain) = 0
 ·
  rw [hq] at HCK
  rw [EO.out, if_pos hq]
  obtain ⟨h32, hfew⟩ := fits_few (check_fits hq).1
  have HFEW := Lib.hid hfew
  clear hq hfew EO
  go_enter Tryz.func131, Tryz.ntmps131
  go_wp2_with fail
  refine HCK.out.mono ?_
  rintro e w1 ⟨rfl, k1⟩
  have K1 := HK0.out.trans k1 (fun _ _ h => h)
  have X1 := HX0.out.keep k1 id
  have x1 : w1.cell? ⟨w.heap.size, 0, none⟩ = some (.slice A ts.length c) := X1.cell 0
  have AR := Lib.hid (arranged_any w1 D _ ts (HH.out.keep K1 (fun _ _ _ => id)) HFEW.out h32)
  clear HCK HK0 HX0 k1
  go_wp2_with fail
  refine AR.out.mono ?_
  rintro e w2 ⟨v2, rfl, hi2, k2⟩
  obtain ⟨A2, c2, hv2⟩ := hi2.shape
  subst hv2
  have HI2 := Lib.hid hi2
  have HZ := Lib.hid K1.size
  have HK2 := Lib.hid (K1.trans k2 (fun _ _ h => h))
  clear hi2 k2 K1 X1 x1 AR
  go_wp2
  go_ret
  exact ⟨_, rfl, Row.mono HI2.out (fun _ _ h => Nat.le_trans HZ.out h), HK2.out⟩
 ·
  rw [EO.out, if_neg hq]
  have g : (grCheck (ts.map Tg.plain) != 0) = true := by rw [bne_iff_ne]; exact hq
  have g' : (grCheck (ts.map Tg.plain) == 0) = false := by rw [beq_eq_false_iff_ne]; exact hq
  generalize grCheck (ts.map Tg.plain) = R at *
  clear hq EO
  go_enter Tryz.func131, Tryz.ntmps131
  go_wp2_with fail
  refine HCK.out.mono ?_
  rintro e w1 ⟨rfl, k1⟩
  have K1 := HK0.out.trans k1 (fun _ _ h => h)
  go_wp2
  go_ret
  exact ⟨_, rfl, Ints.of_own (World.ownsRow_nil _ _ 3 1), K1⟩
end Go.Proofs.YtffoeodjbbkdjaaGreat
namespace Go.Proofs.YtffoeodjbbkdjaaGreat
structure Alike (ps qs : List Pt) : Prop where
 len : qs.length = ps.length
 there : ∀ p ∈ ps, ∃ q ∈ qs, q.name = p.name ∧ q.cmd = p.cmd ∧ q.needs.length = p.needs.length ∧ (q.needs.Nodup ↔ p.needs.Nodup) ∧ ∀ m, m ∈ q.needs ↔ m ∈ p.needs
 back : ∀ q ∈ qs, ∃ p ∈ ps, q.name = p.name ∧ q.cmd = p.cmd ∧ q.needs.length = p.needs.length ∧ (q.needs.Nodup ↔ p.needs.Nodup) ∧ ∀ m, m ∈ q.needs ↔ m ∈ p.needs
 names : (qs.map Pt.name).Nodup ↔ (ps.map Pt.name).Nodup
theorem Alike.swap {ps qs : List Pt} (h : Alike ps qs) : Alike qs ps :=
 ⟨h.len.symm, fun q hq => by obtain ⟨p, hp, a, b, c, d, e⟩ := h.back q hq; exact ⟨p, hp, a.symm, b.symm, c.symm, d.symm, fun m => (e m).symm⟩,
  fun p hp => by obtain ⟨q, hq, a, b, c, d, e⟩ := h.there p hp; exact ⟨q, hq, a.symm, b.symm, c.symm, d.symm, fun m => (e m).symm⟩, h.names.symm⟩
end Go.Proofs.YtffoeodjbbkdjaaGreat
namespace Go.Proofs.YtffoeodjbbkdjaaGreat
def runOf {α : Type} (f : List α → Nat → α) (l : List α) (order : List Nat) : List α := order.foldl (fun l p => l.set p (f l p)) l
theorem runOf_more {α : Type} (f : List α → Nat → α) (l : List α) (order : List Nat) (k p : Nat) (h : order[k]? = some p) : runOf f l (order.take (k + 1)) = (runOf f l (order.take k)).set p (f (runOf f l (order.take k)) p) := by
 unfold runOf
 rw [List.take_add_one, h, List.foldl_append]
 rfl
theorem runOf_length {α : Type} (f : List α → Nat → α) (l : List α) (order : List Nat) : (runOf f l order).length = l.length := by
 unfold runOf
 induction order generalizing l with
 | nil => rfl
 | cons p os ih => rw [List.foldl_cons, ih, List.length_set]
theorem runOf_all {α : Type} {Q : α → Prop} (f : List α → Nat → α) (l : List α) (order : List Nat) (hf : ∀ l p, Q (f l p)) (hl : ∀ x ∈ l, Q x) : ∀ x ∈ runOf f l order, Q x := by
 unfold runOf
 induction order generalizing l with
 | nil => exact hl
 | cons p os ih =>
  rw [List.foldl_cons]
  refine ih _ (fun x hx => ?_)
  rcases List.mem_or_eq_of_mem_set hx with h | h
  ·
   exact hl x h
  ·
   rw [h]
   exact hf _ _
def Looks {α : Type} (nd : List (List Nat)) (f : List α → Nat → α) : Prop := ∀ (l m : List α) (p : Nat), (∀ n ∈ nd.getD p [], l[n]? = m[n]?) → f l p = f m p
theorem runOf_sol {α : Type} {nd : List (List Nat)} {f : List α → Nat → α} (hf : Looks nd f) {order : List Nat} (ho : Ordered nd order) (l : List α) (hl : l.length = nd.length) (k : Nat) :
  ∀ p ∈ order.take k, (runOf f l (order.take k))[p]? = some (f (runOf f l (order.take k)) p) := by
 induction k with
 | zero => intro p hp; simp at hp
 | succ k ih =>
  intro p hp
  cases hk : order[k]? with
  | none =>
   have e : order.take (k + 1) = order.take k := by rw [List.take_add_one, hk]; simp
   rw [e] at hp ⊢
   exact ih p hp
  | some q =>
   obtain ⟨hq1, hq2, hq3⟩ := ho k q hk
   rw [runOf_more f l order k q hk]
   have hlen : q < (runOf f l (order.take k)).length := by rw [runOf_length, hl]; exact hq1
   have hsame : ∀ r, r ∈ order.take k ∨ r = q → f ((runOf f l (order.take k)).set q (f (runOf f l (order.take k)) q)) r = f (runOf f l (order.take k)) r := by
    intro r hr
    refine hf _ _ _ (fun n hn => ?_)
    have hne : n ∈ order.take k := by
     rcases hr with hr | rfl
     ·
      obtain ⟨i, hi⟩ := List.getElem?_of_mem hr
      rw [List.getElem?_take] at hi
      split at hi
      ·
       rename_i hik
       have h3 := (ho i r hi).2.2 n hn
       exact List.take_subset_take_left order (Nat.le_of_lt hik) h3
      ·
       cases hi
     ·
      exact hq3 n hn
    rw [List.getElem?_set_ne]
    rintro rfl
    exact hq2 hne
   rw [List.take_add_one, hk] at hp
   rcases List.mem_append.1 hp with hp | hp
   ·
    rw [hsame p (.inl hp), List.getElem?_set_ne, ih p hp]
    rintro rfl
    exact hq2 hp
   ·
    have hpq : p = q := by simpa using hp
    subst hpq
    rw [hsame p (.inr rfl), List.getElem?_set_self hlen]
theorem sol_same {α : Type} {nd : List (List Nat)} {f : List α → Nat → α} (hf : Looks nd f) {order : List Nat} (ho : Ordered nd order) (l m : List α) (k : Nat)
  (hl : ∀ p ∈ order.take k, l[p]? = some (f l p)) (hm : ∀ p ∈ order.take k, m[p]? = some (f m p)) : ∀ p ∈ order.take k, l[p]? = m[p]? := by
 induction k with
 | zero => intro p hp; simp at hp
 | succ k ih =>
  intro p hp
  have hsub : ∀ r, r ∈ order.take k → r ∈ order.take (k + 1) := fun r hr => List.take_subset_take_left order (Nat.le_succ k) hr
  have hi := ih (fun r hr => hl r (hsub r hr)) (fun r hr => hm r (hsub r hr))
  rw [hl p hp, hm p hp]
  congr 1
  obtain ⟨i, hik⟩ := List.getElem?_of_mem hp
  rw [List.getElem?_take] at hik
  split at hik
  ·
   rename_i hlt
   refine hf _ _ _ (fun n hn => hi n ?_)
   exact List.take_subset_take_left order (by omega) ((ho i p hik).2.2 n hn)
  ·
   cases hik
theorem order_covers {order : List Nat} {n : Nat} (hd : order.Nodup) (hl : ∀ x ∈ order, x < n) (hn : order.length = n) : ∀ p, p < n → p ∈ order := by
 intro p hp
 refine Classical.byContradiction fun h => ?_
 have h1 : (p :: order).Nodup := List.nodup_cons.2 ⟨h, hd⟩
 have h2 := nodup_le (n := n) h1 (fun x hx => by
  rcases List.mem_cons.1 hx with rfl | hx
  ·
   exact hp
  ·
   exact hl x hx)
 rw [List.length_cons] at h2
 omega
theorem order_len {ps : List Pt} (h : grCheck ps = 0) : (grOrder ps).length = ps.length := by
 unfold grOrder
 rw [if_pos h]
 have h1 := (check_fits h).2.2.2
 have h2 := places_le ps
 omega
theorem order_none {ps : List Pt} (h : grCheck ps ≠ 0) : grOrder ps = [] := by
 unfold grOrder
 rw [if_neg h]
theorem order_is {ps : List Pt} (h : grCheck ps = 0) : grOrder ps = placesOf ps := by
 unfold grOrder
 rw [if_pos h]
theorem order_some {ps : List Pt} {i p : Nat} (h : (grOrder ps)[i]? = some p) : grCheck ps = 0 ∧ p < ps.length := by
 by_cases hq : grCheck ps = 0
 ·
  rw [order_is hq] at h
  exact ⟨hq, (places_at h).1⟩
 ·
  rw [order_none hq] at h
  simp at h
theorem order_32 (ps : List Pt) : (grOrder ps).length ≤ 32 := by
 by_cases hq : grCheck ps = 0
 ·
  rw [order_len hq]
  have := (check_fits hq).1
  unfold grFits at this
  rw [Bool.and_eq_true, decide_eq_true_eq] at this
  exact this.1
 ·
  rw [order_none hq]
  exact Nat.zero_le _
theorem needsAt_nd {ps : List Pt} {p : Nat} : (ps.map (needsOf ps)).getD p [] = needsAt ps (p : Int) := by
 unfold needsAt
 rw [if_pos (by omega), Int.toNat_natCast, List.getD_eq_getElem?_getD, List.getElem?_map]
theorem needsAt_lt {ps : List Pt} {p : Int} {n : Nat} (h : n ∈ needsAt ps p) : n < ps.length := by
 unfold needsAt at h
 split at h
 ·
  cases hp : ps[p.toNat]? with
  | none => rw [hp] at h; simp at h
  | some q =>
   rw [hp] at h
   exact needsOf_lt h
 ·
  simp at h
theorem needsAt_16 {ps : List Pt} {p : Nat} (h : grCheck ps = 0) : (needsAt ps (p : Int)).length ≤ 16 := by
 unfold needsAt
 rw [if_pos (by omega), Int.toNat_natCast]
 cases hp : ps[p]? with
 | none => simp
 | some q =>
  have h1 := (check_fits h).1
  unfold grFits at h1
  rw [Bool.and_eq_true, List.all_eq_true] at h1
  have h2 := h1.2 q (List.mem_of_getElem? hp)
  unfold ptFits at h2
  simp only [Bool.and_eq_true, decide_eq_true_eq] at h2
  exact Nat.le_trans (needsOf_le ps q) h2.2
theorem cmd_256 {ps : List Pt} {p : Nat} {q : Pt} (h : grCheck ps = 0) (hp : ps[p]? = some q) : q.cmd.size ≤ 256 := by
 have h1 := (check_fits h).1
 unfold grFits at h1
 rw [Bool.and_eq_true, List.all_eq_true] at h1
 have h2 := h1.2 q (List.mem_of_getElem? hp)
 unfold ptFits at h2
 simp only [Bool.and_eq_true, decide_eq_true_eq] at h2
 exact h2.1.2
end Go.Proofs.YtffoeodjbbkdjaaGreat
