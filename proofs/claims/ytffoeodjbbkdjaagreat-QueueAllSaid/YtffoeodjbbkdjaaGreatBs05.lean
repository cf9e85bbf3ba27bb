import Derived.Deep.LoopGhost
import Derived.Deep.RegionHeld3
import Derived.Test.YtffoeodjbbkdjaaGreatBs03
namespace Go.Proofs.YtffoeodjbbkdjaaGreat
open Go.RowKit
theorem needsAt_at {ts : List Tg} {k : Nat} {t : Tg} (h : ts[k]? = some t) : needsAt (ts.map Tg.plain) (k : Int) = needsOf (ts.map Tg.plain) t.plain := by
 unfold needsAt
 rw [if_pos (by omega), Int.toNat_natCast, List.getElem?_map, h]
 rfl
theorem Ints.shape {w : World} {D : Nat → Prop} {v : Value} {ns : List Nat} (h : Ints w D v ns) : ∃ A c, v = .slice A ns.length c := by
 obtain ⟨A, c, hv, _⟩ := h
 exact ⟨A, c, hv⟩
set_option maxRecDepth 100000 in
set_option maxHeartbeats 1000000 in
theorem grClosed_any (w : World) (D : Nat → Prop) (v : Value) (ts : List Tg) (h : Tgs w D v ts) (hf : fewNeeds ts) :
  Calls Tryz.prog 129 #[.agg #[v]] w fun e w' => e = .returned (.bool (grClosed (ts.map Tg.plain))) ∧ Keep noneOf w w' := by
 have HH := Lib.hid h
 have HFW := Lib.hid hf
 obtain ⟨A, c, rfl, hlc, hcm, hn, hxl, hc⟩ := h.1
 unfold maxLen at hcm
 generalize hR : grClosed (ts.map Tg.plain) = R
 have HR := Lib.hid hR
 have HC := Lib.hid hc
 have HT := Lib.hid h.2
 have HK0 := Lib.hid ((Keep.refl noneOf w).alloc (.cells #[.slice A ts.length c] 35))
 have HX0 := Lib.hid (Box.new w 35 #[.slice A ts.length c])
 clear hc h hxl hR hf
 go_enter Tryz.func129, Tryz.ntmps129
 go_wp2
 go_loopw [8] (fun i wr => ∃ k : Nat, k ≤ ts.length ∧ i = .int .i64 k ∧ Keep noneOf w wr ∧ Box wr w.heap.size 35 #[.slice A ts.length c] ∧ ∀ j t, j < k → ts[j]? = some t → (needsOf (ts.map Tg.plain) t.plain).length = t.needs.length) (fun i _ => ts.length - (intOf i).toNat)
 case atStart => exact ⟨0, Nat.zero_le _, rfl, HK0.out, HX0.out, fun j _ hj => absurd hj (by omega)⟩
 case round =>
  obtain ⟨k, hk, rfl, hkeep, hX, hall⟩ := hrel
  have HA := Lib.hid hall
  have HKP := Lib.hid hkeep
  have HX := Lib.hid hX
  clear hall HK0 HX0 hX
  by_cases hlt : k < ts.length
  ·
   obtain ⟨ad, rfl, hsp, hblk, hD, hcell⟩ := HC.out (by omega)
   obtain ⟨b, o, sp⟩ := ad
   simp only at hsp hblk hD hcell
   subst hsp
   have HS := Lib.hid (List.getElem?_eq_getElem hlt)
   have hlies := HT.out _ (List.getElem_mem hlt)
   generalize ts[k] = t at *
   obtain ⟨c0, c1, c2⟩ := tgs_at hkeep hblk hcell HS.out
   have hle := needsOf_le (ts.map Tg.plain) t.plain
   have HNA := Lib.hid (needsAt_at HS.out)
   obtain ⟨nm, cm, nv, ss⟩ := t
   obtain ⟨l1, l2, ⟨A2, cp2, hnv, hl2, hm2, _⟩, _⟩ := hlies
   simp only at c0 c1 c2 hnv l1 l2 hl2
   subst hnv
   unfold maxLen at hm2
   have hle' : (needsOf (ts.map Tg.plain) (Tg.plain ⟨nm, cm, .slice A2 ss.length cp2, ss⟩)).length ≤ ss.length := hle
   obtain ⟨ns, hns⟩ : ∃ ns, needsOf (ts.map Tg.plain) (Tg.plain ⟨nm, cm, .slice A2 ss.length cp2, ss⟩) = ns := ⟨_, rfl⟩
   rw [hns] at HNA hle'
   have HNS := Lib.hid hns
   have ka := (Keep.refl noneOf wr).alloc (.cells #[.string nm, .string cm, .slice A2 ss.length cp2] 64)
   have HY0 := Box.new wr 64 #[.string nm, .string cm, .slice A2 ss.length cp2]
   have HX1 := HX.out.alloc (.cells #[.string nm, .string cm, .slice A2 ss.length cp2] 64)
   have HK1 := Lib.hid (hkeep.alloc (.cells #[.string nm, .string cm, .slice A2 ss.length cp2] 64))
   have HT1 := Lib.hid ((HH.out.keep hkeep (fun _ _ _ => id)).keep ka (fun _ _ _ => id))
   have e1 : Hid ((wr.alloc (.cells #[.string nm, .string cm, .slice A2 ss.length cp2] 64)).heap.size = wr.heap.size + 1) := by unfold Hid; simp
   clear hcell hns hkeep hle
   go_wp2
   generalize hW : wr.alloc (.cells #[.string nm, .string cm, .slice A2 ss.length cp2] 64) = W at *
   clear hW
   have MK : Hid (∀ w', Keep noneOf W w' → w'.cell? ⟨w.heap.size, 0, none⟩ = some (.slice (some ⟨b, o, none⟩) ts.length c) ∧ w'.cell? ⟨wr.heap.size, 2, none⟩ = some (.slice A2 ss.length cp2)) := fun w' k => ⟨(HX1.keep k id).cell 0, (HY0.keep k id).cell 2⟩
   have NE : Hid (∀ w', Keep noneOf W w' → Calls Tryz.prog 133 #[.agg #[.slice (some ⟨b, o, none⟩) ts.length c], .int .i64 (k : Int)] w' (ToldInts ns w')) := fun w' k' => by
    have := needs_any w' D _ ts (k : Int) (HT1.out.keep k' (fun _ _ _ => id)) HFW.out
    rwa [HNA.out] at this
   have K00 := Keep.refl noneOf W
   have HXX := Lib.hid HX1
   clear HX1 HY0 HNA
   go_region_held3 (fun w' => Keep noneOf W w' ∧ w'.cell? ⟨w.heap.size, 0, none⟩ = some (.slice (some ⟨b, o, none⟩) ts.length c) ∧ w'.cell? ⟨wr.heap.size, 2, none⟩ = some (.slice A2 ss.length cp2)) (first | exact ⟨K00.drew, MK.out _ K00.drew⟩ | (refine (fun k => ⟨k, MK.out _ k⟩) ?_; exact Keep.trans (And.left (by assumption)) (by assumption) (fun _ _ h => h)))
    (first | (go_at_call 133; refine (NE.out _ (And.left (by assumption))).mono ?_; rintro e w' ⟨v', rfl, hi', k'⟩; obtain ⟨A', c', hv'⟩ := hi'.shape; subst hv'))
   have k2 : Keep noneOf W w' := K00.drew.trans k' (fun _ _ h => h)
   have K2 := HK1.out.trans k2 (fun _ _ h => h)
   have X2 := HXX.out.keep k2 id
   clear hi' k' k2 NE MK K00 HK1 HXX HT1
   by_cases hq : ns.length < ss.length
   ·
    have hR : R = false := by
     rw [← HR.out]
     unfold grClosed
     rw [List.all_eq_false]
     refine ⟨_, List.mem_map.2 ⟨_, List.mem_of_getElem? HS.out, rfl⟩, ?_⟩
     rw [HNS.out]
     intro h
     have h2 : ns.length = ss.length := of_decide_eq_true h
     exact absurd h2 (Nat.ne_of_lt hq)
    subst hR
    go_wp2
    go_ret
    exact ⟨rfl, K2⟩
   ·
    have HEQ := Lib.hid (show ns.length = ss.length by omega)
    go_wp2
    go_roundw
    case rel =>
     refine ⟨k + 1, by omega, by go_num, K2, X2, fun j t hj e => ?_⟩
     rcases Nat.lt_or_ge j k with h | h
     ·
      exact HA.out j t h e
     ·
      have : j = k := by omega
      subst this
      rw [HS.out] at e
      injection e with e
      rw [← e, HNS.out]
      exact HEQ.out
    case measure => simp [intOf]; omega
  ·
   have hR : R = true := by
    rw [← HR.out]
    unfold grClosed
    rw [List.all_eq_true]
    intro x hx
    obtain ⟨t, ht, rfl⟩ := List.mem_map.1 hx
    obtain ⟨j, hj⟩ := List.getElem?_of_mem ht
    exact decide_eq_true (HA.out j t (by have := (List.getElem?_eq_some_iff.1 hj).1; omega) hj)
   subst hR
   go_wp2
   go_ret
   exact ⟨rfl, HKP.out⟩
end Go.Proofs.YtffoeodjbbkdjaaGreat
namespace Go.Proofs.YtffoeodjbbkdjaaGreat
open Go.RowKit
def Lists (w : World) (D : Nat → Prop) (v : Value) (nd : List (List Nat)) : Prop :=
 ∃ vs : List Value, Row w D v nd.length 1 vs ∧ vs.length = nd.length ∧ ∀ (j : Nat) (u : Value) (ns : List Nat), vs[j]? = some u → nd[j]? = some ns → Ints w D u ns
theorem Lists.keep {w w' : World} {S D : Nat → Prop} {v : Value} {nd : List (List Nat)} (h : Lists w D v nd) (k : Keep S w w') (hs : ∀ i, i < w.heap.size → D i → ¬ S i) : Lists w' D v nd := by
 obtain ⟨vs, h1, h2, h3⟩ := h
 exact ⟨vs, h1.keep k hs, h2, fun j u ns hu hn => (h3 j u ns hu hn).keep k hs⟩
def Marks (w : World) (D : Nat → Prop) (v : Value) (n : Nat) (l : List Nat) : Prop := Row w D v n 1 ((List.range n).map (fun i => Value.bool (l.contains i)))
theorem okAt_listed {nd : List (List Nat)} {l : List Nat} {k : Nat} (h : l.contains k = true) : okAt nd l k = false := by
 unfold okAt
 rw [h]
 rfl
theorem okAt_lacks {nd : List (List Nat)} {l ns : List Nat} {k m : Nat} (hk : nd[k]? = some ns) (hm : m ∈ ns) (h : l.contains m = false) : okAt nd l k = false := by
 unfold okAt
 rw [Bool.and_eq_false_iff]
 right
 rw [List.all_eq_false]
 refine ⟨m, ?_, by rw [h]; decide⟩
 rw [List.getD_eq_getElem?_getD, hk]
 exact hm
theorem okAt_is {nd : List (List Nat)} {l ns : List Nat} {k : Nat} (hk : nd[k]? = some ns) (h0 : l.contains k = false) (h : ∀ (i m : Nat), ns[i]? = some m → l.contains m = true) : okAt nd l k = true := by
 unfold okAt
 rw [h0, List.getD_eq_getElem?_getD, hk]
 simp only [Bool.not_false, Bool.true_and, Option.getD_some]
 rw [List.all_eq_true]
 intro m hm
 obtain ⟨i, hi⟩ := List.getElem?_of_mem hm
 exact h i m hi
theorem more_false {p : Nat → Bool} {k : Nat} (h : ∀ j, j < k → p j = false) (hk : p k = false) : ∀ j, j < k + 1 → p j = false := fun j hj => by
 rcases Nat.lt_or_ge j k with h1 | h1
 ·
  exact h j h1
 ·
  have : j = k := by omega
  subst this
  exact hk
set_option maxRecDepth 100000 in
set_option maxHeartbeats 1000000 in
theorem next_any (w : World) (D D' : Nat → Prop) (v u : Value) (nd : List (List Nat)) (l : List Nat) (h : Lists w D v nd) (h' : Marks w D' u nd.length l) (hlt : ∀ ns ∈ nd, ∀ m ∈ ns, m < nd.length) :
  Calls Tryz.prog 161 #[v, u] w fun e w' => e = .returned (.tuple #[.int .i64 (((nextOf nd l).getD 0 : Nat) : Int), .bool (nextOf nd l).isSome]) ∧ w = w' := by
 obtain ⟨vs, ⟨A, c, rfl, hlc, hcm, hn, hxl, hc⟩, hvs, hin⟩ := h
 obtain ⟨A', c', rfl, hlc', hcm', hn', hxl', hc'⟩ := h'
 unfold maxLen at hcm hcm'
 generalize hR : nextOf nd l = R
 have HR := Lib.hid hR
 have HC := Lib.hid hc
 have HC' := Lib.hid hc'
 have HIN := Lib.hid hin
 have HLT := Lib.hid hlt
 have HVS := Lib.hid hvs
 have HM : Hid (∀ k, k < nd.length → ((List.range nd.length).map (fun i => Value.bool (l.contains i)))[k]? = some (Value.bool (l.contains k))) := fun k hk => by simp [hk]
 clear hR hc hc' hin hlt hvs hxl hxl' hn hn'
 go_enter Tryz.func161, Tryz.ntmps161
 go_wp2
 go_step3
 go_wp2
 go_step3
 go_wp2
 go_loopg [11] nd.length (fun g i wx => ∃ k : Nat, k + g = nd.length ∧ i = .int .i64 k ∧ w = wx ∧ ∀ j, j < k → okAt nd l j = false)
 case atStart => exact ⟨0, by omega, rfl, rfl, fun j hj => absurd hj (by omega)⟩
 case round =>
  obtain ⟨k, hkg, rfl, rfl, hall⟩ := hrel
  have HA := Lib.hid hall
  clear hall
  cases gk with
  | zero =>
   have hR : R = none := by
    rw [← HR.out]
    exact nextOf_none (fun j hj => HA.out j (by omega))
   subst hR
   have hkz : ¬ ((k : Int) < (nd.length : Int)) := by omega
   go_wp2
   try rw [Exit.noGoto_ret]
   go_ret2
   exact ⟨rfl, rfl⟩
  | succ g =>
   have hkz : (k : Int) < (nd.length : Int) := by omega
   have hkn : k < nd.length := by omega
   obtain ⟨ad, rfl, hsp, hblk, hD, hcell⟩ := HC.out (by omega)
   obtain ⟨b, o, sp⟩ := ad
   obtain ⟨ad', rfl, hsp', hblk', hD', hcell'⟩ := HC'.out (by omega)
   obtain ⟨b', o', sp'⟩ := ad'
   simp only at hsp hblk hD hcell hsp' hblk' hD' hcell'
   subst hsp hsp'
   have HCELL' : Hid (∀ m, m < nd.length → w.cell? ⟨b', o' + m, none⟩ = some (.bool (l.contains m))) := fun m hm => hcell' m _ (HM.out m hm)
   have c1 := HCELL'.out k hkn
   have hvk : k < vs.length := by rw [HVS.out]; exact hkn
   have c2 : w.cell? ⟨b, o + k, none⟩ = some vs[k] := hcell k _ (List.getElem?_eq_getElem hvk)
   have hints := HIN.out k _ _ (List.getElem?_eq_getElem hvk) (List.getElem?_eq_getElem hkn)
   have HNS := Lib.hid (List.getElem?_eq_getElem hkn)
   have HLL := Lib.hid (HLT.out nd[k] (List.getElem_mem hkn))
   generalize vs[k] = x at *
   generalize nd[k] = ns at *
   obtain ⟨A2, cp2, rfl, hl2, hm2, _, _, hrow⟩ := hints
   unfold maxLen at hm2
   have HROW := Lib.hid hrow
   clear hcell hcell' hrow hvk
   cases hq : l.contains k with
   | true =>
    have HN := Lib.hid (more_false HA.out (okAt_listed (nd := nd) hq))
    rw [hq] at c1
    clear hq
    go_wp2
    go_roundg g
    case measure => omega
    case rel => exact ⟨k + 1, by omega, by go_num, rfl, HN.out⟩
   | false =>
    have HQ := Lib.hid hq
    rw [hq] at c1
    clear hq
    go_wp2
    go_loopg [23] ns.length (fun g2 i wx => ∃ j : Nat, j + g2 = ns.length ∧ i = .int .i64 j ∧ w = wx ∧ ∀ i' m, i' < j → ns[i']? = some m → l.contains m = true)
    case atStart => exact ⟨0, by omega, rfl, rfl, fun j _ hj => absurd hj (by omega)⟩
    case round =>
     obtain ⟨j, hjg, rfl, rfl, hall2⟩ := hrel
     have HA2 := Lib.hid hall2
     clear hall2
     cases gk with
     | zero =>
      have hR : R = some k := by
       rw [← HR.out]
       exact nextOf_some hkn (okAt_is HNS.out HQ.out (fun i m hi => HA2.out i m (by have := (List.getElem?_eq_some_iff.1 hi).1; omega) hi)) HA.out
      subst hR
      have hjz : ¬ ((j : Int) < (ns.length : Int)) := by omega
      go_wp2
      try rw [Exit.noGoto_ret]
      go_ret2
      exact ⟨rfl, rfl⟩
     | succ g2 =>
      have hjz : (j : Int) < (ns.length : Int) := by omega
      have hjn : j < ns.length := by omega
      obtain ⟨ad2, rfl, hsp2, hblk2, _, hcell2⟩ := HROW.out (by omega)
      obtain ⟨bb, oo, sp2⟩ := ad2
      simp only at hsp2 hblk2 hcell2
      subst hsp2
      have c3 : w.cell? ⟨bb, oo + j, none⟩ = some (.int .i64 (ns[j] : Int)) := hcell2 j _ (by rw [List.getElem?_map, List.getElem?_eq_getElem hjn]; rfl)
      have HS2 := Lib.hid (List.getElem?_eq_getElem hjn)
      have hmn := HLL.out ns[j] (List.getElem_mem hjn)
      generalize ns[j] = m at *
      have c4 := HCELL'.out m hmn
      clear hcell2
      cases hq : l.contains m with
      | true =>
       have HQ2 := Lib.hid hq
       rw [hq] at c4
       clear hq
       go_wp2
       go_roundg g2
       case measure => omega
       case rel =>
        refine ⟨j + 1, by omega, by go_num, rfl, fun i m' hi e => ?_⟩
        rcases Nat.lt_or_ge i j with h | h
        ·
         exact HA2.out i m' h e
        ·
         have : i = j := by omega
         subst this
         rw [HS2.out] at e
         injection e with e
         rw [← e]
         exact HQ2.out
      | false =>
       have HN := Lib.hid (more_false HA.out (okAt_lacks HNS.out (List.mem_of_getElem? HS2.out) hq))
       rw [hq] at c4
       clear hq
       go_wp2
       go_roundg g
       case measure => omega
       case rel => exact ⟨k + 1, by omega, by go_num, rfl, HN.out⟩
end Go.Proofs.YtffoeodjbbkdjaaGreat
namespace Go.Proofs.YtffoeodjbbkdjaaGreat
open Go.RowKit
def LeastOk (nd : List (List Nat)) (l : List Nat) (n m : Nat) (nx : Int) : Prop :=
 (nx = -1 ∧ ∀ j, m ≤ j → j < n → okAt nd l j = false) ∨ (∃ q : Nat, nx = q ∧ m ≤ q ∧ q < n ∧ okAt nd l q = true ∧ ∀ j, m ≤ j → j < q → okAt nd l j = false)
theorem LeastOk.yes {nd : List (List Nat)} {l : List Nat} {n m : Nat} (hm : m < n) (h : okAt nd l m = true) : LeastOk nd l n m m := .inr ⟨m, rfl, Nat.le_refl _, hm, h, fun j h1 h2 => by omega⟩
theorem LeastOk.no {nd : List (List Nat)} {l : List Nat} {n m : Nat} {nx : Int} (h : LeastOk nd l n (m + 1) nx) (hm : okAt nd l m = false) : LeastOk nd l n m nx := by
 rcases h with ⟨h1, h2⟩ | ⟨q, h1, h2, h3, h4, h5⟩
 ·
  refine .inl ⟨h1, fun j hj hjn => ?_⟩
  by_cases e : j = m
  ·
   subst e; exact hm
  ·
   exact h2 j (by omega) hjn
 ·
  refine .inr ⟨q, h1, by omega, h3, h4, fun j hj hjn => ?_⟩
  by_cases e : j = m
  ·
   subst e; exact hm
  ·
   exact h5 j (by omega) hjn
theorem LeastOk.next {nd : List (List Nat)} {l : List Nat} {nx : Int} (h : LeastOk nd l nd.length 0 nx) : (nx = -1 ∧ nextOf nd l = none) ∨ ∃ q : Nat, nx = q ∧ nextOf nd l = some q := by
 rcases h with ⟨h1, h2⟩ | ⟨q, h1, _, h3, h4, h5⟩
 ·
  exact .inl ⟨h1, nextOf_none (fun j hj => h2 j (Nat.zero_le _) hj)⟩
 ·
  exact .inr ⟨q, h1, nextOf_some h3 h4 (fun j hj => h5 j (Nat.zero_le _) hj)⟩
theorem all_more {p : Nat → Bool} {ns : List Nat} {a m : Nat} (h : ns[a]? = some m) : (ns.take (a + 1)).all p = ((ns.take a).all p && p m) := by
 rw [List.take_add_one, h, List.all_append]
 simp
theorem okAt_eq {nd : List (List Nat)} {l ns : List Nat} {k : Nat} (hk : nd[k]? = some ns) : okAt nd l k = (!l.contains k && ns.all (fun n => l.contains n)) := by
 unfold okAt
 rw [List.getD_eq_getElem?_getD, hk]
 rfl
set_option maxRecDepth 100000 in
set_option maxHeartbeats 2000000 in
theorem refPlaces_any (w : World) (D : Nat → Prop) (v : Value) (ts : List Tg) (h : Tgs w D v ts) (hf : fewNeeds ts) (h32 : ts.length ≤ 32) :
  Calls Tryz.prog 94 #[.agg #[v]] w (ToldInts (placesOf (ts.map Tg.plain)) w) := by
 have HH := Lib.hid h
 have HFW := Lib.hid hf
 obtain ⟨A, c, rfl, hlc, hcm, hn, hxl, hc⟩ := h.1
 unfold maxLen at hcm
 have HK0 := Lib.hid ((Keep.refl noneOf w).alloc (.cells #[.slice A ts.length c] 35))
 have HX0 := Lib.hid (Box.new w 35 #[.slice A ts.length c])
 have HLEN := Lib.hid (show ((ts.map Tg.plain).map (needsOf (ts.map Tg.plain))).length = ts.length by simp)
 have HND : Hid (∀ (q : Nat), q < ts.length → ∃ ns, needsAt (ts.map Tg.plain) (q : Int) = ns ∧ ((ts.map Tg.plain).map (needsOf (ts.map Tg.plain)))[q]? = some ns) := fun q hq => by
  refine ⟨_, rfl, ?_⟩
  rw [needsAt_at (List.getElem?_eq_getElem hq), List.getElem?_map, List.getElem?_map, List.getElem?_eq_getElem hq]
  rfl
 have HPL := Lib.hid (show stepsOf ((ts.map Tg.plain).map (needsOf (ts.map Tg.plain))) ts.length [] = placesOf (ts.map Tg.plain) by unfold placesOf; rw [List.length_map])
 have NE : Hid (∀ (w' : World) (q : Nat), Keep noneOf w w' → Calls Tryz.prog 93 #[.agg #[.slice A ts.length c], .int .i64 (q : Int)] w' (ToldInts (needsAt (ts.map Tg.plain) (q : Int)) w')) := fun w' q k' => refNeeds_any w' _ _ ts (q : Int) (HH.out.keep k' (fun _ _ _ => id)) HFW.out
 generalize (ts.map Tg.plain).map (needsOf (ts.map Tg.plain)) = nd at *
 generalize placesOf (ts.map Tg.plain) = res at *
 generalize needsAt (ts.map Tg.plain) = na at *
 obtain ⟨i2, hi2, hz2, hs2, hb2⟩ := info_parts intinfo
 clear hc h hf hxl hn HH HFW
 go_enter Tryz.func94, Tryz.ntmps94
 go_wp2
 go_loopw [3, 4] (fun pl i wr => ∃ l : List Nat, l.length ≤ ts.length ∧ i = .int .i64 (l.length : Int) ∧ (∀ x ∈ l, x < ts.length) ∧ stepsOf nd (ts.length - l.length) l = res ∧ Keep noneOf w wr ∧ Box wr w.heap.size 35 #[.slice A ts.length c] ∧ wr.ownsRow (w.heap.size + 1) 3 1 pl l.length (l.map iv)) (fun _ i _ => ts.length - (intOf i).toNat)
 case atStart => exact ⟨[], Nat.zero_le _, rfl, by simp, by simpa using HPL.out, HK0.out, HX0.out, World.ownsRow_nil _ _ _ _⟩
 case round =>
  obtain ⟨l, hll, rfl, hlx, hst, hkeep, hX, hown⟩ := hrel
  have x0 : wr.cell? ⟨w.heap.size, 0, none⟩ = some (.slice A ts.length c) := hX.cell 0
  have hz := hX.lt
  have HLX := Lib.hid hlx
  have HST := Lib.hid hst
  have HKP := Lib.hid hkeep
  have HX := Lib.hid hX
  have HOWN := Lib.hid hown
  clear hlx hst hkeep hX hown HPL HK0 HX0
  by_cases hlt : l.length < ts.length
  ·
   obtain ⟨Al, cl, hvl⟩ := own_shape HOWN.out
   subst hvl
   go_wp2
   generalize wr = W1 at *
   go_loopw [5, 6] (fun nx i wx => ∃ (m : Nat) (z : Int), m ≤ ts.length ∧ i = .int .i64 ((m : Int) - 1) ∧ nx = .int .i64 z ∧ LeastOk nd l ts.length m z ∧ Keep noneOf W1 wx) (fun _ i _ => (intOf i + 1).toNat)
   case atStart => exact ⟨ts.length, -1, Nat.le_refl _, rfl, rfl, .inl ⟨rfl, fun j h1 h2 => by omega⟩, Keep.refl _ _⟩
   case round =>
    obtain ⟨m, z, hm, rfl, rfl, hlo, hk1⟩ := hrel
    have HLO := Lib.hid hlo
    have HX2 := Lib.hid (HX.out.keep hk1 id)
    have HOWN2 := Lib.hid (own_keep HOWN.out hk1 (fun _ _ h => h))
    have HK2 := Lib.hid hk1
    have hzX := HX2.out.lt
    have x2 : wr.cell? ⟨w.heap.size, 0, none⟩ = some (.slice A ts.length c) := HX2.out.cell 0
    clear hlo hk1
    cases m with
    | zero =>
     rw [show (((0 : Nat) : Int) - 1) = (-1 : Int) from rfl]
     have hnx := LeastOk.next (by have := HLO.out; rwa [← HLEN.out] at this)
     have hg : ∃ g, ts.length - l.length = g + 1 := ⟨ts.length - l.length - 1, by omega⟩
     obtain ⟨g, hg⟩ := hg
     have HST2 := HST.out
     rw [hg] at HST2
     simp only [stepsOf] at HST2
     rcases hnx with ⟨rfl, hn⟩ | ⟨q, rfl, hn⟩
     ·
      rw [hn] at HST2
      simp only at HST2
      subst HST2
      clear hn HLO HST hg
      go_wp2
      go_ret
      exact ⟨_, rfl, (Ints.of_own HOWN2.out).mono (fun _ _ h => by omega), HKP.out.trans HK2.out (fun _ _ h => h)⟩
     ·
      rw [hn] at HST2
      simp only at HST2
      have hqn : q < ts.length := by have := nextOf_lt hn; rw [HLEN.out] at this; exact this
      have hg2 : ts.length - (l ++ [q]).length = g := by simp; omega
      have HST3 := Lib.hid (show stepsOf nd (ts.length - (l ++ [q]).length) (l ++ [q]) = res by rw [hg2]; exact HST2)
      clear hn HLO HST hg hg2 HST2 HX
      have hq0 : (0 : Int) ≤ (q : Int) := by omega
      go_wp2_with (at_builtin; refine wpList_append_own _ rfl _ _ 143 rfl (w.heap.size + 1) 3 i2 _ 1 8 Tryz.underlying143 hi2 hz2 hs2 hb2 rfl (by decide) _ _ _ rfl (HOWN2.out.alloc _) ⟨wr.heap.size, 0, none⟩ 1 1 [iv q] rfl rfl (cell_one_new _ _ _) (by simp [Value.oneCell', iv]) (by unfold maxLen; omega) (by omega) (by simp; omega) ?_; intro v' w4 hown' hgrow _)
      have kg := Keep.of_grown hgrow
      have ka := (Keep.refl noneOf wr).alloc (.cells #[.int .i64 (q : Int)] 3)
      have hno : ∀ j, some j = (Value.slice Al l.length cl).ownBlock → w.heap.size + 1 ≤ j := fun j hj => (HOWN2.out.lt j hj.symm).1
      have hlq : (l ++ [q]).length = l.length + 1 := by simp
      go_wp2
      go_roundw
      case rel =>
       refine ⟨l ++ [q], by omega, by rw [hlq]; go_num, ?_, HST3.out, ?_, ?_, ?_⟩
       ·
        intro x hx
        rcases List.mem_append.1 hx with hx | hx
        ·
         exact HLX.out x hx
        ·
         simp at hx
         subst hx
         exact hqn
       ·
        exact ((HKP.out.trans HK2.out (fun _ _ h => h)).trans ka (fun _ _ h => h)).trans kg (fun j hj hs => absurd (hno j hs) (by omega))
       ·
        exact (HX2.out.keep ka id).keep kg (fun hs => absurd (hno _ hs) (by omega))
       ·
        rw [List.length_append, List.map_append]
        exact hown'
      case measure => simp [intOf]; omega
    | succ q =>
     rw [show (((q + 1 : Nat) : Int) - 1) = (q : Int) from by omega]
     have hq : q < ts.length := by omega
     obtain ⟨ns, hns, hnd⟩ := HND.out q hq
     have IN := in_any wr _ _ l q (Ints.of_own HOWN2.out)
     have HIN := Lib.hid IN
     have NN := NE.out
     have g0 : decide ((0 : Int) ≤ (q : Int)) = true := by simp
     have HNQ := Lib.hid hns
     have HNDQ := Lib.hid hnd
     clear IN hns hnd NN
     generalize hb0 : l.contains q = b0 at HIN
     have HB0 := Lib.hid hb0
     clear hb0
     go_wp2_with fail
     refine HIN.out.mono ?_
     rintro e w2 ⟨rfl, rfl⟩
     have NQ := NE.out wr q (HKP.out.trans HK2.out (fun _ _ h => h))
     rw [HNQ.out] at NQ
     have HNQ2 := Lib.hid NQ
     clear NQ HIN
     go_wp2_with fail
     refine HNQ2.out.mono ?_
     rintro e w2 ⟨v2, rfl, hi2', k2⟩
     have K2 := HK2.out.trans k2 (fun _ _ h => h)
     have LI := Ints.of_own (own_keep HOWN2.out k2 (fun _ _ h => h))
     obtain ⟨A2, c2, rfl, hl2, hm2, _, _, hrow⟩ := hi2'
     unfold maxLen at hm2
     have HROW := Lib.hid hrow
     have HLI := Lib.hid LI
     have HK3 := Lib.hid K2
     have HOK := Lib.hid (okAt_eq (l := l) HNDQ.out)
     rw [HB0.out] at HOK
     clear hrow LI K2 k2 HNQ2 HX2 HOWN2 HK2 x2
     go_wp2
     generalize w2 = W2 at *
     go_loopw [8, 10] (fun ok i wx => ∃ a : Nat, a ≤ ns.length ∧ i = .int .i64 a ∧ ok = .bool (!b0 && (ns.take a).all (fun n => l.contains n)) ∧ W2 = wx) (fun _ i _ => ns.length - (intOf i).toNat)
     case atStart => exact ⟨0, Nat.zero_le _, rfl, by simp, rfl⟩
     case round =>
      obtain ⟨a, ha, rfl, rfl, rfl⟩ := hrel
      by_cases hal : a < ns.length
      ·
       obtain ⟨ad2, rfl, hsp2, hblk2, _, hcell2⟩ := HROW.out (by omega)
       obtain ⟨bb, oo, sp2⟩ := ad2
       simp only at hsp2 hblk2 hcell2
       subst hsp2
       have hck : W2.cell? ⟨bb, oo + a, none⟩ = some (.int .i64 (ns[a] : Int)) := hcell2 a _ (by rw [List.getElem?_map, List.getElem?_eq_getElem hal]; rfl)
       have HAM := Lib.hid (all_more (p := fun n => l.contains n) (List.getElem?_eq_getElem hal))
       have HIN := Lib.hid (in_any W2 _ _ l ns[a] HLI.out)
       generalize ns[a] = mm at *
       generalize l.contains mm = bm at *
       generalize hp : (ns.take a).all (fun n => l.contains n) = pa at *
       clear hcell2 hp
       generalize hB : (!b0 && pa) = B
       have HB := Lib.hid hB
       clear hB
       have gi : (0 : Int) ≤ (a : Int) := by omega
       cases B with
       | true =>
        go_wp2_with fail
        refine HIN.out.mono ?_
        rintro e w3 ⟨rfl, rfl⟩
        go_wp2
        go_roundw
        case rel => exact ⟨a + 1, by omega, by go_num, by rw [HAM.out, ← Bool.and_assoc, HB.out]; simp, by first | rfl | trivial⟩
        case measure => simp [intOf]; omega
       | false =>
        go_wp2_with fail
        refine HIN.out.mono ?_
        rintro e w3 ⟨rfl, rfl⟩
        go_wp2
        go_roundw
        case rel => exact ⟨a + 1, by omega, by go_num, by rw [HAM.out, ← Bool.and_assoc, HB.out]; simp, by first | rfl | trivial⟩
        case measure => simp [intOf]; omega
      ·
       have hte : ns.take a = ns := List.take_of_length_le (by omega)
       rw [hte, ← HOK.out]
       clear hte
       cases hok : okAt nd l q with
       | true =>
        have HN := Lib.hid (LeastOk.yes (n := ts.length) hq hok)
        clear hok
        go_wp2
        go_roundw
        case rel => exact ⟨q, q, by omega, rfl, rfl, HN.out, HK3.out⟩
        case measure => simp [intOf]
       | false =>
        have HN := Lib.hid (LeastOk.no HLO.out hok)
        clear hok
        go_wp2
        go_roundw
        case rel => exact ⟨q, z, by omega, rfl, rfl, HN.out, HK3.out⟩
        case measure => simp [intOf]
  ·
   have hl0 : ts.length - l.length = 0 := by omega
   have hres : res = l := by rw [← HST.out, hl0]; rfl
   subst hres
   obtain ⟨A3, c3, hv3⟩ := own_shape HOWN.out
   subst hv3
   clear hl0
   go_wp2
   go_ret
   exact ⟨_, rfl, (Ints.of_own HOWN.out).mono (fun _ _ h => by omega), HKP.out⟩
end Go.Proofs.YtffoeodjbbkdjaaGreat
