import Derived.Laws.OwnMore
import Derived.Test.YtkoikmdmejhhhaaGreatBs03
namespace Go.Proofs.YtkoikmdmejhhhaaGreat
open Go.RowKit
theorem intsinfo : (Tryz.prog.info? 151).map (fun i => (i.zero, i.size, i.bytes)) = some (some (.slice none 0 0), 1, 24) := by kernel_rfl
theorem boolinfo : (Tryz.prog.info? 4).map (fun i => (i.zero, i.size, i.bytes)) = some (some (.bool false), 1, 1) := by kernel_rfl
theorem Box.of_made {w : World} {base g n : Nat} {e : TypeId} {xs : List Value} (h : w.ownsRow base e 1 (.slice (some ⟨g, 0, none⟩) n n) n xs) : Box w g e xs.toArray := by
  rcases h.2 with ⟨h0, _⟩ | ⟨g', cap, cur, hv, _, hg, _, _, hsz, htk⟩
  · cases h0
  · obtain ⟨rfl, rfl⟩ : g = g' ∧ n = cap := by simpa using hv
    rw [List.take_of_length_le (by simp; omega)] at htk
    rw [← htk]
    exact hg
theorem Row.of_box {w : World} {D : Nat → Prop} {g n : Nat} {e : TypeId} {cs : Array Value} (h : Box w g e cs) (hn : cs.size = n) (hm : n ≤ maxLen) (hD : D g) : Row w D (.slice (some ⟨g, 0, none⟩) n n) n 1 cs.toList := by
  refine ⟨some ⟨g, 0, none⟩, n, rfl, Nat.le_refl _, hm, fun e => (by cases e), by simp [hn], fun _ => ⟨⟨g, 0, none⟩, rfl, rfl, h.lt, hD, fun j x hx => ?_⟩⟩
  show w.cell? ⟨g, 0 + j, none⟩ = some x
  rw [Nat.zero_add, h.cell]
  simpa using hx
def markV (n : Nat) (l : List Nat) : Array Value := ((List.range n).map (fun i => Value.bool (l.contains i))).toArray
theorem markV_size (n : Nat) (l : List Nat) : (markV n l).size = n := by simp [markV]
theorem markV_more (n : Nat) (l : List Nat) (i : Nat) : (markV n l).setIfInBounds i (.bool true) = markV n (l ++ [i]) := by
  unfold markV
  rw [List.setIfInBounds_toArray]
  congr 1
  apply List.ext_getElem?
  intro j
  rw [List.getElem?_set]
  by_cases hij : i = j
  · subst hij
    by_cases hj : i < n
    · simp [hj]
    · simp [hj]
  · rw [if_neg hij]
    by_cases hj : j < n
    · simp [hj, Ne.symm hij]
    · simp [hj]
theorem markV_none (n : Nat) : markV n [] = (List.replicate n (Value.bool false)).toArray := by
  unfold markV
  congr 1
  apply List.ext_getElem?
  intro j
  by_cases hj : j < n
  · simp [hj]
  · simp [hj]
set_option maxRecDepth 100000 in
set_option maxHeartbeats 1000000 in
theorem arranged_any (w : World) (D : Nat → Prop) (v : Value) (ts : List Tg) (h : Tgs w D v ts) (hf : fewNeeds ts) (h32 : ts.length ≤ 32) :
    Calls Tryz.prog 141 #[.agg #[v]] w (ToldInts (placesOf (ts.map Tg.plain)) w) := by
  have HH := Lib.hid h
  have HFW := Lib.hid hf
  obtain ⟨A, c, rfl, hlc, hcm, hn, hxl, hc⟩ := h.1
  unfold maxLen at hcm
  obtain ⟨i1, hi1, hz1, hs1, hb1⟩ := info_parts intsinfo
  obtain ⟨w0, hw0⟩ : ∃ w0, w.alloc (.cells #[.slice A ts.length c] 35) = w0 := ⟨_, rfl⟩
  have HW0 := Lib.hid hw0
  have hz0 : w0.heap.size = w.heap.size + 1 := by rw [← hw0]; simp
  have K0 : Keep noneOf w w0 := by rw [← hw0]; exact (Keep.refl noneOf w).alloc _
  have X0 : Box w0 w.heap.size 35 #[.slice A ts.length c] := by rw [← hw0]; exact Box.new w _ _
  obtain ⟨w1, hmk, hown1, hg1⟩ := run_make_full (P := Tryz.prog) w0 w0.heap.size 197 151 i1 (.slice none 0 0) 1 Tryz.underlying197 hi1 hz1 hs1 .i64 .i64 ts.length (by rw [hb1]; omega) (by unfold maxLen; omega) (Nat.le_refl _)
  rw [hz0] at hmk hown1
  have kk1 := Keep.of_grown hg1
  have K1 : Keep noneOf w w1 := K0.trans kk1 (fun _ _ h => by cases h)
  have X1 := X0.keep kk1 (fun h => by cases h)
  have B1 := Box.of_made hown1
  rw [show (Value.cells (.slice none 0 0)) = #[.slice none 0 0] from rfl, toList_madeCells_one] at B1
  rw [← hw0] at hmk
  have hsz1 := X1.lt
  have HC := Lib.hid hc
  have HT := Lib.hid h.2
  have HK1 := Lib.hid K1
  have HX1 := Lib.hid X1
  have HB1 := Lib.hid B1
  have hbz := B1.lt
  clear hw0 hz0 K0 X0 hown1 hg1 kk1 K1 X1 B1 hi1 hz1 hs1 hb1 hc h hf hxl HW0
  go_enter Tryz.func141, Tryz.ntmps141
  go_wp2
  clear hmk
  go_loopw [15] (fun i wr => ∃ (k : Nat) (cs : Array Value), k ≤ ts.length ∧ i = .int .i64 k ∧ Keep noneOf w wr ∧ Box wr w.heap.size 35 #[.slice A ts.length c] ∧ Box wr (w.heap.size + 1) 151 cs ∧ cs.size = ts.length ∧ ∀ (j : Nat) (u : Value) (t : Tg), j < k → cs[j]? = some u → ts[j]? = some t → Ints wr (fun b => w.heap.size + 2 ≤ b) u (needsOf (ts.map Tg.plain) t.plain)) (fun i _ => ts.length - (intOf i).toNat)
  case atStart => exact ⟨0, _, Nat.zero_le _, rfl, HK1.out, HX1.out, HB1.out, by simp, fun j _ _ hj => absurd hj (by omega)⟩
  case round =>
    obtain ⟨k, cs, hk, rfl, hkeep, hX, hB, hcs, hall⟩ := hrel
    have x0 : wr.cell? ⟨w.heap.size, 0, none⟩ = some (.slice A ts.length c) := hX.cell 0
    have hbz := hB.lt
    have HA := Lib.hid hall
    have HKP := Lib.hid hkeep
    have HX := Lib.hid hX
    have HB := Lib.hid hB
    have HCS := Lib.hid hcs
    clear hall HK1 HX1 HB1 hX hB hcs
    by_cases hlt : k < ts.length
    · have hkc : k < cs.size := by rw [HCS.out]; exact hlt
      have HS := Lib.hid (List.getElem?_eq_getElem hlt)
      have NE := needs_any wr D _ ts (k : Int) (HH.out.keep hkeep (fun _ _ _ => id)) HFW.out
      generalize ts[k] = t at *
      rw [needsAt_at HS.out] at NE
      have HNE := Lib.hid NE
      clear NE hkeep
      have hk0 : (0 : Int) ≤ (k : Int) := by omega
      have hk1 : (k : Int) < (ts.length : Int) := by omega
      go_wp2_with fail
      refine HNE.out.mono ?_
      rintro e w2 ⟨v2, rfl, hi2, k2⟩
      obtain ⟨A2, c2, hv2⟩ := hi2.shape
      subst hv2
      have K2 := HKP.out.trans k2 (fun _ _ h => h)
      have X2 := HX.out.keep k2 id
      have B2 := HB.out.keep k2 id
      have b2 : w2.cell? ⟨w.heap.size + 1, k, none⟩ = some cs[k] := (B2.cell k).trans (Array.getElem?_eq_getElem hkc)
      have f2 := B2.free k
      generalize cs[k] = old at *
      have HI2 := Lib.hid hi2
      have hwr : w.heap.size + 2 ≤ wr.heap.size := hbz
      go_wp2
      go_roundw
      case rel =>
        have ks : Keep (fun b => b = w.heap.size + 1) w2 (w2.setCell ⟨w.heap.size + 1, k, none⟩ (.slice A2 (needsOf (ts.map Tg.plain) t.plain).length c2)) := (Keep.refl (fun b => b = w.heap.size + 1) w2).setCell (fun _ => rfl) _
        refine ⟨k + 1, _, by omega, by go_num, K2.setCell (fun h => absurd h (by simp)) _, X2.far (by simp) _, B2.put k _, by rw [Array.size_setIfInBounds]; exact HCS.out, fun j u t' hj hu ht => ?_⟩
        rw [Array.getElem?_setIfInBounds] at hu
        by_cases hjk : k = j
        · subst hjk
          rw [if_pos rfl, if_pos hkc] at hu
          injection hu with hu
          rw [HS.out] at ht
          injection ht with ht
          subst hu ht
          exact (HI2.out.mono (fun _ _ h => Nat.le_trans hwr h)).keep ks (fun i _ h e => by subst e; exact absurd h (by omega))
        · rw [if_neg hjk] at hu
          exact ((HA.out j u t' (by omega) hu ht).keep k2 (fun _ _ _ => id)).keep ks (fun i _ h e => by subst e; exact absurd h (by omega))
      case measure => simp [intOf]; omega
    · obtain ⟨i1, hi1, hz1, hs1, hb1⟩ := info_parts boolinfo
      obtain ⟨w1', hmk, hown1, hg1⟩ := run_make_full (P := Tryz.prog) wr wr.heap.size 77 4 i1 (.bool false) 1 Tryz.underlying77 hi1 hz1 hs1 .i64 .i64 ts.length (by rw [hb1]; omega) (by unfold maxLen; omega) (Nat.le_refl _)
      have kk1 := Keep.of_grown hg1
      have K1 : Keep noneOf w w1' := hkeep.trans kk1 (fun _ _ h => by cases h)
      have M1 := Box.of_made hown1
      rw [show (Value.cells (.bool false)) = #[.bool false] from rfl, toList_madeCells_one, Nat.mul_one, ← markV_none] at M1
      have L1 : Lists w1' (fun b => b < wr.heap.size) (.slice (some ⟨w.heap.size + 1, 0, none⟩) ts.length ts.length) ((ts.map Tg.plain).map (needsOf (ts.map Tg.plain))) := by
        refine ⟨cs.toList, ?_, by simp [HCS.out], fun j u ns hu hns => ?_⟩
        · have := Row.of_box (D := fun b => b < wr.heap.size) (HB.out.keep kk1 (fun h => by cases h)) HCS.out (by unfold maxLen; omega) hbz
          simpa using this
        · have hjl := (List.getElem?_eq_some_iff.1 hns).1
          simp at hjl
          have ht := List.getElem?_eq_getElem hjl
          have hi := HA.out j u _ (by omega) (by simpa using hu) ht
          have hns2 : ns = needsOf (ts.map Tg.plain) (ts[j]).plain := by
            rw [List.getElem?_map, List.getElem?_map, ht] at hns
            simpa using hns.symm
          subst hns2
          exact Row.keep (Row.mono hi (fun i hi _ => hi)) kk1 (fun _ _ _ h => by cases h)
      have HK1 := Lib.hid K1
      have HM1 := Lib.hid M1
      have HL1 := Lib.hid L1
      have hlen : ((ts.map Tg.plain).map (needsOf (ts.map Tg.plain))).length = ts.length := by simp
      have HLT : Hid (∀ ns ∈ (ts.map Tg.plain).map (needsOf (ts.map Tg.plain)), ∀ m ∈ ns, m < ts.length) := fun ns hns m hm => by
        obtain ⟨p, _, rfl⟩ := List.mem_map.1 hns
        simpa using needsOf_lt hm
      obtain ⟨i2, hi2, hz2, hs2, hb2⟩ := info_parts intinfo
      have HPL := Lib.hid (show stepsOf ((ts.map Tg.plain).map (needsOf (ts.map Tg.plain))) ts.length [] = placesOf (ts.map Tg.plain) by unfold placesOf; rw [List.length_map])
      generalize (ts.map Tg.plain).map (needsOf (ts.map Tg.plain)) = nd at *
      generalize placesOf (ts.map Tg.plain) = res at *
      have HLEN := Lib.hid hlen
      have hzw := HKP.out.size
      have hzM : w.heap.size ≤ wr.heap.size := hzw
      clear hlen hi1 hz1 hs1 hb1 hown1 hg1 kk1 K1 M1 L1 HA HX HB HCS hkeep x0
      go_wp2
      clear hmk HKP
      generalize wr.heap.size = M at *
      go_loopg [6] ts.length (fun g pl wx => ∃ l : List Nat, l.length + g = ts.length ∧ l.Nodup ∧ (∀ x ∈ l, x < ts.length) ∧ stepsOf nd g l = res ∧ Keep noneOf w wx ∧ Box wx M 4 (markV ts.length l) ∧ Lists wx (fun b => b < M) (.slice (some ⟨w.heap.size + 1, 0, none⟩) ts.length ts.length) nd ∧ wx.ownsRow (M + 1) 3 1 pl l.length (l.map iv))
      case atStart => exact ⟨[], by simp, List.nodup_nil, (by simp), HPL.out, HK1.out, HM1.out, HL1.out, World.ownsRow_nil _ _ _ _⟩
      case round =>
        obtain ⟨l, hlg, hnd, hlx, hst, hkeep, hM, hL, hown⟩ := hrel
        have NX := next_any wr (fun b => b < M) (fun b => b = M) _ (.slice (some ⟨M, 0, none⟩) ts.length ts.length) nd l hL (by
          rw [HLEN.out]
          have := Row.of_box (D := fun b => b = M) hM (markV_size _ _) (by unfold maxLen; omega) rfl
          simpa [markV, Marks] using this) (by rw [HLEN.out]; exact HLT.out)
        have HNX := Lib.hid NX
        have HKP2 := Lib.hid hkeep
        have HM := Lib.hid hM
        have HL := Lib.hid hL
        have HOWN := Lib.hid hown
        have HND := Lib.hid hnd
        have HLX := Lib.hid hlx
        have HST := Lib.hid hst
        have hlw := hM.lt
        have f2 := hM.free
        clear NX hkeep hM hL hown hnd hlx hst HL1 HK1 HM1 HPL
        cases hq : nextOf nd l with
        | none =>
          rw [hq] at HNX
          have hres : res = l := by
            rw [← HST.out]
            cases gk with
            | zero => rfl
            | succ g => simp only [stepsOf, hq]
          subst hres
          clear hq
          obtain ⟨A3, c3, hv3⟩ := own_shape HOWN.out
          subst hv3
          go_wp2_with fail
          refine HNX.out.mono ?_
          rintro e w2 ⟨rfl, rfl⟩
          simp only [Option.getD_none, Option.isSome_none]
          go_wp2
          go_ret
          exact ⟨_, rfl, (Ints.of_own HOWN.out).mono (fun _ _ h => by omega), HKP2.out⟩
        | some i =>
          rw [hq] at HNX
          have hin : i < ts.length := by rw [← HLEN.out]; exact nextOf_lt hq
          have HND2 := Lib.hid (nextOf_nodup HND.out hq)
          cases gk with
          | zero =>
            have := nextOf_full (nd := nd) HND.out (by rw [HLEN.out]; exact HLX.out) (by rw [HLEN.out]; omega)
            rw [hq] at this
            cases this
          | succ g =>
            have HST2 := Lib.hid (show stepsOf nd g (l ++ [i]) = res by rw [← HST.out]; simp only [stepsOf, hq])
            clear hq HST
            have b2 : wr.cell? ⟨M, i, none⟩ = some (.bool (l.contains i)) := by
              rw [HM.out.cell]
              simp [markV, hin]
            generalize Value.bool (l.contains i) = old at *
            have f2' := f2 i
            clear f2
            have hi0 : (0 : Int) ≤ (i : Int) := by omega
            have hi1 : (i : Int) < (ts.length : Int) := by omega
            go_wp2_with fail
            refine HNX.out.mono ?_
            rintro e w2 ⟨rfl, rfl⟩
            simp only [Option.getD_some, Option.isSome_some]
            have ks : Hid (Keep (fun b => b = M) wr (wr.setCell ⟨M, i, none⟩ (.bool true))) := (Keep.refl (fun b => b = M) wr).setCell (fun _ => rfl) _
            have hw3 : (wr.setCell ⟨M, i, none⟩ (.bool true)).heap.size = wr.heap.size := by simp [World.setCell]
            have HO3 := Lib.hid (own_keep HOWN.out ks.out (fun j hj e => by have := (HOWN.out.lt j hj).1; omega))
            have HM3 := Lib.hid (HM.out.put i (.bool true))
            have HL3 := Lib.hid (HL.out.keep ks.out (fun j _ h e => by omega))
            have HK3 := Lib.hid (HKP2.out.trans ks.out (fun j hj e => by omega))
            have hlw3 : M < (wr.setCell ⟨M, i, none⟩ (.bool true)).heap.size := by rw [hw3]; exact hlw
            have hc3 := cell_one_new (wr.setCell ⟨M, i, none⟩ (.bool true)) (.int .i64 (i : Int)) 3
            rw [hw3] at hc3
            have HC3 := Lib.hid hc3
            rw [hw3] at hlw3
            clear hw3 hc3 HNX ks
            go_wp2_with (at_builtin; refine wpList_append_own _ rfl _ _ 151 rfl (M + 1) 3 i2 _ 1 8 Tryz.underlying151 hi2 hz2 hs2 hb2 rfl (by decide) _ _ _ rfl (HO3.out.alloc _) ⟨wr.heap.size, 0, none⟩ 1 1 [iv i] rfl rfl HC3.out (by simp [Value.oneCell', iv]) (by unfold maxLen; omega) (by omega) (by simp; omega) ?_; intro v' w4 hown' hgrow _)
            have kg := Keep.of_grown hgrow
            have ka := (Keep.refl noneOf (wr.setCell ⟨M, i, none⟩ (.bool true))).alloc (.cells #[.int .i64 (i : Int)] 3)
            have hno : ∀ j, some j = u6.ownBlock → M + 1 ≤ j := fun j hj => (HO3.out.lt j hj.symm).1
            go_roundg g
            case measure => omega
            case rel =>
              refine ⟨l ++ [i], by simp; omega, HND2.out, ?_, HST2.out, ?_, ?_, ?_, ?_⟩
              · intro x hx
                rcases List.mem_append.1 hx with hx | hx
                · exact HLX.out x hx
                · simp at hx
                  subst hx
                  exact hin
              · exact (HK3.out.trans ka (fun _ _ h => h)).trans kg (fun j hj hs => absurd (hno j hs) (by omega))
              · have := (HM3.out.keep ka id).keep kg (fun hs => absurd (hno _ hs) (by omega))
                rwa [markV_more] at this
              · exact (HL3.out.keep ka (fun _ _ _ => id)).keep kg (fun j _ h hs => absurd (hno j hs) (by omega))
              · rw [List.length_append, List.map_append]
                exact hown'
end Go.Proofs.YtkoikmdmejhhhaaGreat
