import Derived.Deep.LoopGhost
import Derived.Deep.QuietTactic
import Derived.Deep.RegionHeld
import Derived.Deep.RegionHeld3
import Derived.Maps.AppendAt
import Derived.Test.YtkoikmdmejhhhaaGreatBs01
import Derived.Test.YtkoikmdmejhhhaaGreatBs02
namespace Go.Proofs.YtkoikmdmejhhhaaGreat
open Go.RowKit
theorem intinfo : (Tryz.prog.info? 3).map (fun i => (i.zero, i.size, i.bytes)) = some (some (.int .i64 0), 1, 8) := by kernel_rfl
def fewNeeds (ts : List Tg) : Prop := ∀ t ∈ ts, t.needs.length ≤ 17592186044416
def ToldInts (ns : List Nat) (w : World) (e : Ending) (w' : World) : Prop := ∃ v, e = .returned v ∧ Ints w' (fun k => w.heap.size ≤ k) v ns ∧ Keep noneOf w w'
theorem take_filterMap {α β : Type} (f : α → Option β) (l : List α) (k : Nat) (x : α) (h : l[k]? = some x) : (l.take (k + 1)).filterMap f = (l.take k).filterMap f ++ (f x).toList := by
  rw [List.take_add_one, List.filterMap_append, h]
  cases hf : f x <;> simp [hf]
set_option maxRecDepth 100000 in
set_option maxHeartbeats 1000000 in
theorem needs_any (w : World) (D : Nat → Prop) (v : Value) (ts : List Tg) (i : Int) (h : Tgs w D v ts) (hf : fewNeeds ts) :
    Calls Tryz.prog 144 #[.agg #[v], .int .i64 i] w (ToldInts (needsAt (ts.map Tg.plain) i) w) := by
  obtain ⟨A, c, rfl, hlc, hcm, hn, hxl, hc⟩ := h.1
  unfold maxLen at hcm
  have HT := Lib.hid h.2
  have HH := Lib.hid h
  have HK0 := Lib.hid ((Keep.refl noneOf w).alloc (.cells #[.slice A ts.length c] 35))
  have HX0 := Lib.hid (Box.new w 35 #[.slice A ts.length c])
  have HFW := Lib.hid hf
  clear hxl h hf
  by_cases hi : 0 ≤ i ∧ i < (ts.length : Int)
  · obtain ⟨k0, rfl⟩ := Int.eq_ofNat_of_zero_le hi.1
    have hlt : k0 < ts.length := by omega
    obtain ⟨ad, rfl, hsp, hblk, hD, hcell⟩ := hc (by omega)
    obtain ⟨b, o, sp⟩ := ad
    simp only at hsp hblk hD hcell
    subst hsp
    have HS := Lib.hid (List.getElem?_eq_getElem hlt)
    have hlies := HT.out _ (List.getElem_mem hlt)
    have hfw := HFW.out _ (List.getElem_mem hlt)
    generalize ts[k0] = t at *
    obtain ⟨_, _, c2⟩ := tgs_at HK0.out hblk hcell HS.out
    obtain ⟨nm, cm, nv, ss⟩ := t
    obtain ⟨_, _, ⟨A2, cp2, hnv, hl2, hm2, _, _, hrow⟩, hsz⟩ := hlies
    simp only at c2 hnv hl2 hrow hsz hfw
    subst hnv
    unfold maxLen at hm2
    have HROW := Lib.hid hrow
    obtain ⟨ns, hns⟩ : ∃ ns, needsAt (ts.map Tg.plain) (k0 : Int) = ns := ⟨_, rfl⟩
    have hns2 : ns = ss.filterMap (findIx (ts.map Tg.plain)) := by
      rw [← hns]
      unfold needsAt
      rw [if_pos (by omega), Int.toNat_natCast, plain_at HS.out]
      rfl
    rw [hns]
    have HNS := Lib.hid hns2
    obtain ⟨i0, hi0, hz0, hz1, hz2⟩ := info_parts intinfo
    clear hcell hc hrow hns hns2 hsz HT HFW hi
    have hil : ((k0 : Int) < (ts.length : Int)) := by omega
    have hi00 : (0 : Int) ≤ (k0 : Int) := by omega
    go_enter Tryz.func144, Tryz.ntmps144
    go_wp2
    go_loopw [5, 26] (fun pl i wr => ∃ k : Nat, k ≤ ss.length ∧ i = .int .i64 k ∧ Keep noneOf w wr ∧ Box wr w.heap.size 35 #[.slice (some ⟨b, o, none⟩) ts.length c] ∧ wr.ownsRow (w.heap.size + 1) 3 1 pl ((ss.take k).filterMap (findIx (ts.map Tg.plain))).length (((ss.take k).filterMap (findIx (ts.map Tg.plain))).map iv)) (fun _ i _ => ss.length - (intOf i).toNat)
    case atStart => exact ⟨0, Nat.zero_le _, rfl, HK0.out, HX0.out, World.ownsRow_nil _ _ _ _⟩
    case round =>
      obtain ⟨k, hk, rfl, hkeep, hX, hown⟩ := hrel
      have x0 : wr.cell? ⟨w.heap.size, 0, none⟩ = some (.slice (some ⟨b, o, none⟩) ts.length c) := hX.cell 0
      have hz := hX.lt
      by_cases hlt2 : k < ss.length
      · obtain ⟨ad2, rfl, hsp2, hblk2, _, hcell2⟩ := HROW.out (by omega)
        obtain ⟨bb, oo, sp2⟩ := ad2
        simp only at hsp2 hblk2 hcell2
        subst hsp2
        have hck : wr.cell? ⟨bb, oo + k, none⟩ = some (.string ss[k]) := (hkeep.cell (p := ⟨bb, oo + k, none⟩) hblk2 id).trans (hcell2 k _ (by simp [List.getElem?_eq_getElem hlt2]))
        have HF := Lib.hid (find_any wr D _ ts ss[k] (HH.out.keep hkeep (fun _ _ _ => id)))
        have HTK := Lib.hid (take_filterMap (findIx (ts.map Tg.plain)) ss k ss[k] (List.getElem?_eq_getElem hlt2))
        have hfl : ((ss.take k).filterMap (findIx (ts.map Tg.plain))).length ≤ k := Nat.le_trans (List.length_filterMap_le _ _) (List.length_take_le _ _)
        generalize hE1 : (ss.take (k + 1)).filterMap (findIx (ts.map Tg.plain)) = ms at *
        have HE1 := Lib.hid hE1
        generalize (ss.take k).filterMap (findIx (ts.map Tg.plain)) = ls at *
        generalize findIx (ts.map Tg.plain) ss[k] = r at *
        generalize ss[k] = s at *
        have HOWN := Lib.hid hown
        have HX := Lib.hid hX
        have HKP := Lib.hid hkeep
        clear hcell2 hown hX hkeep HX0 HK0 hE1
        go_wp2_with fail
        refine HF.out.mono ?_
        rintro e w1 ⟨rfl, k1⟩
        have K1 := HKP.out.trans k1 (fun _ _ h => h)
        have X1 := HX.out.keep k1 id
        have O1 := own_keep HOWN.out k1 (fun _ _ h => h)
        cases r with
        | none =>
          have hms : ms = ls := by rw [HTK.out]; simp
          subst hms
          go_wp2
          go_roundw
          case rel => exact ⟨k + 1, by omega, by go_num, K1, X1, by rw [HE1.out]; exact O1⟩
          case measure => simp [intOf]; omega
        | some n =>
          have hms : ms = ls ++ [n] := by rw [HTK.out]; simp
          subst hms
          simp only [Option.getD_some, Option.isSome_some]
          have hz1' : w.heap.size < w1.heap.size := X1.lt
          have HK1 := Lib.hid K1
          have HX1 := Lib.hid X1
          have HO1 := Lib.hid O1
          clear K1 X1 O1 HF HTK HOWN k1
          go_wp2_with (at_builtin; refine wpList_append_own _ rfl _ _ 151 rfl (w.heap.size + 1) 3 i0 _ 1 8 Tryz.underlying151 hi0 hz0 hz1 hz2 rfl (by decide) _ _ _ rfl (HO1.out.alloc _) ⟨w1.heap.size, 0, none⟩ 1 1 [iv n] rfl rfl (cell_one_new _ _ _) (by simp [Value.oneCell', iv]) (by unfold maxLen; omega) (by omega) (by simp; omega) ?_; intro v' w2 hown' hgrow _)
          have kg := Keep.of_grown hgrow
          have ka : Keep noneOf w1 (w1.alloc (.cells #[.int .i64 (n : Int)] 3)) := (Keep.refl noneOf w1).alloc _
          have hno : ∀ j, some j = u5.ownBlock → w.heap.size + 1 ≤ j := fun j hj => (HO1.out.lt j hj.symm).1
          have K2 : Keep noneOf w w2 := (HK1.out.trans ka (fun _ _ h => h)).trans kg (fun j hj hs => absurd (hno j hs) (by omega))
          go_roundw
          case rel =>
            refine ⟨k + 1, by omega, by go_num, K2, ?_, ?_⟩
            · exact (HX1.out.keep ka id).keep kg (fun hs => absurd (hno _ hs) (by omega))
            · rw [HE1.out, List.length_append, List.map_append]
              exact hown'
          case measure => simp [intOf]; omega
      · have hE : (ss.take k).filterMap (findIx (ts.map Tg.plain)) = ns := by rw [HNS.out, List.take_of_length_le (by omega)]
        rw [hE] at hown
        obtain ⟨A3, c3, hv3⟩ := own_shape hown
        subst hv3
        have HOWN := Lib.hid hown
        have HKP := Lib.hid hkeep
        clear hown hkeep hE
        go_wp2
        go_ret
        exact ⟨_, rfl, (Ints.of_own HOWN.out).mono (fun _ _ h => Nat.le_of_succ_le h), HKP.out⟩
  · have hns : needsAt (ts.map Tg.plain) i = [] := by
      unfold needsAt
      by_cases h0 : 0 ≤ i
      · rw [if_pos h0, List.getElem?_eq_none (by simp; omega)]
        rfl
      · rw [if_neg h0]
    rw [hns]
    clear hns hc
    by_cases h0 : i < 0
    · go_enter Tryz.func144, Tryz.ntmps144
      go_wp2
      go_ret
      exact ⟨_, rfl, Ints.of_own (World.ownsRow_nil _ _ 3 1), HK0.out⟩
    · have h1 : (ts.length : Int) ≤ i := by omega
      clear hi
      go_enter Tryz.func144, Tryz.ntmps144
      go_wp2
      go_ret
      exact ⟨_, rfl, Ints.of_own (World.ownsRow_nil _ _ 3 1), HK0.out⟩
end Go.Proofs.YtkoikmdmejhhhaaGreat
namespace Go.Proofs.YtkoikmdmejhhhaaGreat
open Go.RowKit
theorem needsAt_at {ts : List Tg} {k : Nat} {t : Tg} (h : ts[k]? = some t) : needsAt (ts.map Tg.plain) (k : Int) = needsOf (ts.map Tg.plain) t.plain := by
  unfold needsAt
  rw [if_pos (by omega), Int.toNat_natCast, List.getElem?_map, h]
  rfl
theorem Ints.shape {w : World} {D : Nat → Prop} {v : Value} {ns : List Nat} (h : Ints w D v ns) : ∃ A c, v = .slice A ns.length c := by
  obtain ⟨A, c, hv, _⟩ := h
  exact ⟨A, c, hv⟩
set_option maxRecDepth 100000 in
set_option maxHeartbeats 1000000 in
theorem grClosed_any (w : World) (D : Nat → Prop) (v : Value) (ts : List Tg) (h : Tgs w D v ts) (hf : fewNeeds ts) :
    Calls Tryz.prog 140 #[.agg #[v]] w fun e w' => e = .returned (.bool (grClosed (ts.map Tg.plain))) ∧ Keep noneOf w w' := by
  have HH := Lib.hid h
  have HFW := Lib.hid hf
  obtain ⟨A, c, rfl, hlc, hcm, hn, hxl, hc⟩ := h.1
  unfold maxLen at hcm
  generalize hR : grClosed (ts.map Tg.plain) = R
  have HR := Lib.hid hR
  have HC := Lib.hid hc
  have HT := Lib.hid h.2
  have HK0 := Lib.hid ((Keep.refl noneOf w).alloc (.cells #[.slice A ts.length c] 35))
  have HX0 := Lib.hid (Box.new w 35 #[.slice A ts.length c])
  clear hc h hxl hR hf
  go_enter Tryz.func140, Tryz.ntmps140
  go_wp2
  go_loopw [8] (fun i wr => ∃ k : Nat, k ≤ ts.length ∧ i = .int .i64 k ∧ Keep noneOf w wr ∧ Box wr w.heap.size 35 #[.slice A ts.length c] ∧ ∀ j t, j < k → ts[j]? = some t → (needsOf (ts.map Tg.plain) t.plain).length = t.needs.length) (fun i _ => ts.length - (intOf i).toNat)
  case atStart => exact ⟨0, Nat.zero_le _, rfl, HK0.out, HX0.out, fun j _ hj => absurd hj (by omega)⟩
  case round =>
    obtain ⟨k, hk, rfl, hkeep, hX, hall⟩ := hrel
    have HA := Lib.hid hall
    have HKP := Lib.hid hkeep
    have HX := Lib.hid hX
    clear hall HK0 HX0 hX
    by_cases hlt : k < ts.length
    · obtain ⟨ad, rfl, hsp, hblk, hD, hcell⟩ := HC.out (by omega)
      obtain ⟨b, o, sp⟩ := ad
      simp only at hsp hblk hD hcell
      subst hsp
      have HS := Lib.hid (List.getElem?_eq_getElem hlt)
      have hlies := HT.out _ (List.getElem_mem hlt)
      generalize ts[k] = t at *
      obtain ⟨c0, c1, c2⟩ := tgs_at hkeep hblk hcell HS.out
      have hle := needsOf_le (ts.map Tg.plain) t.plain
      have HNA := Lib.hid (needsAt_at HS.out)
      obtain ⟨nm, cm, nv, ss⟩ := t
      obtain ⟨l1, l2, ⟨A2, cp2, hnv, hl2, hm2, _⟩, _⟩ := hlies
      simp only at c0 c1 c2 hnv l1 l2 hl2
      subst hnv
      unfold maxLen at hm2
      have hle' : (needsOf (ts.map Tg.plain) (Tg.plain ⟨nm, cm, .slice A2 ss.length cp2, ss⟩)).length ≤ ss.length := hle
      obtain ⟨ns, hns⟩ : ∃ ns, needsOf (ts.map Tg.plain) (Tg.plain ⟨nm, cm, .slice A2 ss.length cp2, ss⟩) = ns := ⟨_, rfl⟩
      rw [hns] at HNA hle'
      have HNS := Lib.hid hns
      have ka := (Keep.refl noneOf wr).alloc (.cells #[.string nm, .string cm, .slice A2 ss.length cp2] 68)
      have HY0 := Box.new wr 68 #[.string nm, .string cm, .slice A2 ss.length cp2]
      have HX1 := HX.out.alloc (.cells #[.string nm, .string cm, .slice A2 ss.length cp2] 68)
      have HK1 := Lib.hid (hkeep.alloc (.cells #[.string nm, .string cm, .slice A2 ss.length cp2] 68))
      have HT1 := Lib.hid ((HH.out.keep hkeep (fun _ _ _ => id)).keep ka (fun _ _ _ => id))
      have e1 : Hid ((wr.alloc (.cells #[.string nm, .string cm, .slice A2 ss.length cp2] 68)).heap.size = wr.heap.size + 1) := by unfold Hid; simp
      clear hcell hns hkeep hle
      go_wp2
      generalize hW : wr.alloc (.cells #[.string nm, .string cm, .slice A2 ss.length cp2] 68) = W at *
      clear hW
      have MK : Hid (∀ w', Keep noneOf W w' → w'.cell? ⟨w.heap.size, 0, none⟩ = some (.slice (some ⟨b, o, none⟩) ts.length c) ∧ w'.cell? ⟨wr.heap.size, 2, none⟩ = some (.slice A2 ss.length cp2)) := fun w' k => ⟨(HX1.keep k id).cell 0, (HY0.keep k id).cell 2⟩
      have NE : Hid (∀ w', Keep noneOf W w' → Calls Tryz.prog 144 #[.agg #[.slice (some ⟨b, o, none⟩) ts.length c], .int .i64 (k : Int)] w' (ToldInts ns w')) := fun w' k' => by
        have := needs_any w' D _ ts (k : Int) (HT1.out.keep k' (fun _ _ _ => id)) HFW.out
        rwa [HNA.out] at this
      have K00 := Keep.refl noneOf W
      have HXX := Lib.hid HX1
      clear HX1 HY0 HNA
      go_region_held3 (fun w' => Keep noneOf W w' ∧ w'.cell? ⟨w.heap.size, 0, none⟩ = some (.slice (some ⟨b, o, none⟩) ts.length c) ∧ w'.cell? ⟨wr.heap.size, 2, none⟩ = some (.slice A2 ss.length cp2)) (first | exact ⟨K00.drew, MK.out _ K00.drew⟩ | (refine (fun k => ⟨k, MK.out _ k⟩) ?_; exact Keep.trans (And.left (by assumption)) (by assumption) (fun _ _ h => h)))
        (first | (go_at_call 144; refine (NE.out _ (And.left (by assumption))).mono ?_; rintro e w' ⟨v', rfl, hi', k'⟩; obtain ⟨A', c', hv'⟩ := hi'.shape; subst hv'))
      have k2 : Keep noneOf W w' := K00.drew.trans k' (fun _ _ h => h)
      have K2 := HK1.out.trans k2 (fun _ _ h => h)
      have X2 := HXX.out.keep k2 id
      clear hi' k' k2 NE MK K00 HK1 HXX HT1
      by_cases hq : ns.length < ss.length
      · have hR : R = false := by
          rw [← HR.out]
          unfold grClosed
          rw [List.all_eq_false]
          refine ⟨_, List.mem_map.2 ⟨_, List.mem_of_getElem? HS.out, rfl⟩, ?_⟩
          rw [HNS.out]
          intro h
          have h2 : ns.length = ss.length := of_decide_eq_true h
          exact absurd h2 (Nat.ne_of_lt hq)
        subst hR
        go_wp2
        go_ret
        exact ⟨rfl, K2⟩
      · have HEQ := Lib.hid (show ns.length = ss.length by omega)
        go_wp2
        go_roundw
        case rel =>
          refine ⟨k + 1, by omega, by go_num, K2, X2, fun j t hj e => ?_⟩
          rcases Nat.lt_or_ge j k with h | h
          · exact HA.out j t h e
          · have : j = k := by omega
            subst this
            rw [HS.out] at e
            injection e with e
            rw [← e, HNS.out]
            exact HEQ.out
        case measure => simp [intOf]; omega
    · have hR : R = true := by
        rw [← HR.out]
        unfold grClosed
        rw [List.all_eq_true]
        intro x hx
        obtain ⟨t, ht, rfl⟩ := List.mem_map.1 hx
        obtain ⟨j, hj⟩ := List.getElem?_of_mem ht
        exact decide_eq_true (HA.out j t (by have := (List.getElem?_eq_some_iff.1 hj).1; omega) hj)
      subst hR
      go_wp2
      go_ret
      exact ⟨rfl, HKP.out⟩
end Go.Proofs.YtkoikmdmejhhhaaGreat
namespace Go.Proofs.YtkoikmdmejhhhaaGreat
open Go.RowKit
def Lists (w : World) (D : Nat → Prop) (v : Value) (nd : List (List Nat)) : Prop :=
  ∃ vs : List Value, Row w D v nd.length 1 vs ∧ vs.length = nd.length ∧ ∀ (j : Nat) (u : Value) (ns : List Nat), vs[j]? = some u → nd[j]? = some ns → Ints w D u ns
theorem Lists.keep {w w' : World} {S D : Nat → Prop} {v : Value} {nd : List (List Nat)} (h : Lists w D v nd) (k : Keep S w w') (hs : ∀ i, i < w.heap.size → D i → ¬ S i) : Lists w' D v nd := by
  obtain ⟨vs, h1, h2, h3⟩ := h
  exact ⟨vs, h1.keep k hs, h2, fun j u ns hu hn => (h3 j u ns hu hn).keep k hs⟩
def Marks (w : World) (D : Nat → Prop) (v : Value) (n : Nat) (l : List Nat) : Prop := Row w D v n 1 ((List.range n).map (fun i => Value.bool (l.contains i)))
theorem okAt_listed {nd : List (List Nat)} {l : List Nat} {k : Nat} (h : l.contains k = true) : okAt nd l k = false := by
  unfold okAt
  rw [h]
  rfl
theorem okAt_lacks {nd : List (List Nat)} {l ns : List Nat} {k m : Nat} (hk : nd[k]? = some ns) (hm : m ∈ ns) (h : l.contains m = false) : okAt nd l k = false := by
  unfold okAt
  rw [Bool.and_eq_false_iff]
  right
  rw [List.all_eq_false]
  refine ⟨m, ?_, by rw [h]; decide⟩
  rw [List.getD_eq_getElem?_getD, hk]
  exact hm
theorem okAt_is {nd : List (List Nat)} {l ns : List Nat} {k : Nat} (hk : nd[k]? = some ns) (h0 : l.contains k = false) (h : ∀ (i m : Nat), ns[i]? = some m → l.contains m = true) : okAt nd l k = true := by
  unfold okAt
  rw [h0, List.getD_eq_getElem?_getD, hk]
  simp only [Bool.not_false, Bool.true_and, Option.getD_some]
  rw [List.all_eq_true]
  intro m hm
  obtain ⟨i, hi⟩ := List.getElem?_of_mem hm
  exact h i m hi
theorem more_false {p : Nat → Bool} {k : Nat} (h : ∀ j, j < k → p j = false) (hk : p k = false) : ∀ j, j < k + 1 → p j = false := fun j hj => by
  rcases Nat.lt_or_ge j k with h1 | h1
  · exact h j h1
  · have : j = k := by omega
    subst this
    exact hk
set_option maxRecDepth 100000 in
set_option maxHeartbeats 1000000 in
theorem next_any (w : World) (D D' : Nat → Prop) (v u : Value) (nd : List (List Nat)) (l : List Nat) (h : Lists w D v nd) (h' : Marks w D' u nd.length l) (hlt : ∀ ns ∈ nd, ∀ m ∈ ns, m < nd.length) :
    Calls Tryz.prog 172 #[v, u] w fun e w' => e = .returned (.tuple #[.int .i64 (((nextOf nd l).getD 0 : Nat) : Int), .bool (nextOf nd l).isSome]) ∧ w = w' := by
  obtain ⟨vs, ⟨A, c, rfl, hlc, hcm, hn, hxl, hc⟩, hvs, hin⟩ := h
  obtain ⟨A', c', rfl, hlc', hcm', hn', hxl', hc'⟩ := h'
  unfold maxLen at hcm hcm'
  generalize hR : nextOf nd l = R
  have HR := Lib.hid hR
  have HC := Lib.hid hc
  have HC' := Lib.hid hc'
  have HIN := Lib.hid hin
  have HLT := Lib.hid hlt
  have HVS := Lib.hid hvs
  have HM : Hid (∀ k, k < nd.length → ((List.range nd.length).map (fun i => Value.bool (l.contains i)))[k]? = some (Value.bool (l.contains k))) := fun k hk => by simp [hk]
  clear hR hc hc' hin hlt hvs hxl hxl' hn hn'
  go_enter Tryz.func172, Tryz.ntmps172
  go_wp2
  go_step3
  go_wp2
  go_step3
  go_wp2
  go_loopg [11] nd.length (fun g i wx => ∃ k : Nat, k + g = nd.length ∧ i = .int .i64 k ∧ w = wx ∧ ∀ j, j < k → okAt nd l j = false)
  case atStart => exact ⟨0, by omega, rfl, rfl, fun j hj => absurd hj (by omega)⟩
  case round =>
    obtain ⟨k, hkg, rfl, rfl, hall⟩ := hrel
    have HA := Lib.hid hall
    clear hall
    cases gk with
    | zero =>
      have hR : R = none := by
        rw [← HR.out]
        exact nextOf_none (fun j hj => HA.out j (by omega))
      subst hR
      have hkz : ¬ ((k : Int) < (nd.length : Int)) := by omega
      go_wp2
      try rw [Exit.noGoto_ret]
      go_ret2
      exact ⟨rfl, rfl⟩
    | succ g =>
      have hkz : (k : Int) < (nd.length : Int) := by omega
      have hkn : k < nd.length := by omega
      obtain ⟨ad, rfl, hsp, hblk, hD, hcell⟩ := HC.out (by omega)
      obtain ⟨b, o, sp⟩ := ad
      obtain ⟨ad', rfl, hsp', hblk', hD', hcell'⟩ := HC'.out (by omega)
      obtain ⟨b', o', sp'⟩ := ad'
      simp only at hsp hblk hD hcell hsp' hblk' hD' hcell'
      subst hsp hsp'
      have HCELL' : Hid (∀ m, m < nd.length → w.cell? ⟨b', o' + m, none⟩ = some (.bool (l.contains m))) := fun m hm => hcell' m _ (HM.out m hm)
      have c1 := HCELL'.out k hkn
      have hvk : k < vs.length := by rw [HVS.out]; exact hkn
      have c2 : w.cell? ⟨b, o + k, none⟩ = some vs[k] := hcell k _ (List.getElem?_eq_getElem hvk)
      have hints := HIN.out k _ _ (List.getElem?_eq_getElem hvk) (List.getElem?_eq_getElem hkn)
      have HNS := Lib.hid (List.getElem?_eq_getElem hkn)
      have HLL := Lib.hid (HLT.out nd[k] (List.getElem_mem hkn))
      generalize vs[k] = x at *
      generalize nd[k] = ns at *
      obtain ⟨A2, cp2, rfl, hl2, hm2, _, _, hrow⟩ := hints
      unfold maxLen at hm2
      have HROW := Lib.hid hrow
      clear hcell hcell' hrow hvk
      cases hq : l.contains k with
      | true =>
        have HN := Lib.hid (more_false HA.out (okAt_listed (nd := nd) hq))
        rw [hq] at c1
        clear hq
        go_wp2
        go_roundg g
        case measure => omega
        case rel => exact ⟨k + 1, by omega, by go_num, rfl, HN.out⟩
      | false =>
        have HQ := Lib.hid hq
        rw [hq] at c1
        clear hq
        go_wp2
        go_loopg [23] ns.length (fun g2 i wx => ∃ j : Nat, j + g2 = ns.length ∧ i = .int .i64 j ∧ w = wx ∧ ∀ i' m, i' < j → ns[i']? = some m → l.contains m = true)
        case atStart => exact ⟨0, by omega, rfl, rfl, fun j _ hj => absurd hj (by omega)⟩
        case round =>
          obtain ⟨j, hjg, rfl, rfl, hall2⟩ := hrel
          have HA2 := Lib.hid hall2
          clear hall2
          cases gk with
          | zero =>
            have hR : R = some k := by
              rw [← HR.out]
              exact nextOf_some hkn (okAt_is HNS.out HQ.out (fun i m hi => HA2.out i m (by have := (List.getElem?_eq_some_iff.1 hi).1; omega) hi)) HA.out
            subst hR
            have hjz : ¬ ((j : Int) < (ns.length : Int)) := by omega
            go_wp2
            try rw [Exit.noGoto_ret]
            go_ret2
            exact ⟨rfl, rfl⟩
          | succ g2 =>
            have hjz : (j : Int) < (ns.length : Int) := by omega
            have hjn : j < ns.length := by omega
            obtain ⟨ad2, rfl, hsp2, hblk2, _, hcell2⟩ := HROW.out (by omega)
            obtain ⟨bb, oo, sp2⟩ := ad2
            simp only at hsp2 hblk2 hcell2
            subst hsp2
            have c3 : w.cell? ⟨bb, oo + j, none⟩ = some (.int .i64 (ns[j] : Int)) := hcell2 j _ (by rw [List.getElem?_map, List.getElem?_eq_getElem hjn]; rfl)
            have HS2 := Lib.hid (List.getElem?_eq_getElem hjn)
            have hmn := HLL.out ns[j] (List.getElem_mem hjn)
            generalize ns[j] = m at *
            have c4 := HCELL'.out m hmn
            clear hcell2
            cases hq : l.contains m with
            | true =>
              have HQ2 := Lib.hid hq
              rw [hq] at c4
              clear hq
              go_wp2
              go_roundg g2
              case measure => omega
              case rel =>
                refine ⟨j + 1, by omega, by go_num, rfl, fun i m' hi e => ?_⟩
                rcases Nat.lt_or_ge i j with h | h
                · exact HA2.out i m' h e
                · have : i = j := by omega
                  subst this
                  rw [HS2.out] at e
                  injection e with e
                  rw [← e]
                  exact HQ2.out
            | false =>
              have HN := Lib.hid (more_false HA.out (okAt_lacks HNS.out (List.mem_of_getElem? HS2.out) hq))
              rw [hq] at c4
              clear hq
              go_wp2
              go_roundg g
              case measure => omega
              case rel => exact ⟨k + 1, by omega, by go_num, rfl, HN.out⟩
end Go.Proofs.YtkoikmdmejhhhaaGreat
