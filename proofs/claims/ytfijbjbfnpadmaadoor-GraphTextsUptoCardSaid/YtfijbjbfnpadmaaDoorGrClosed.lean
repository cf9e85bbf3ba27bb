/-
  graph.closed, next, arranged.
-/
import Derived.Test.YtfijbjbfnpadmaaDoorGrNeeds
import Derived.Deep.RegionHeld3
namespace Go.Proofs.YtfijbjbfnpadmaaDoor
open Go.RowKit

theorem needsAt_at {ts : List Tg} {k : Nat} {t : Tg} (h : ts[k]? = some t) : needsAt (ts.map Tg.plain) (k : Int) = needsOf (ts.map Tg.plain) t.plain := by
  unfold needsAt
  rw [if_pos (by omega), Int.toNat_natCast, List.getElem?_map, h]
  rfl

theorem Ints.shape {w : World} {D : Nat → Prop} {v : Value} {ns : List Nat} (h : Ints w D v ns) : ∃ A c, v = .slice A ns.length c := by
  obtain ⟨A, c, hv, _⟩ := h
  exact ⟨A, c, hv⟩

set_option maxRecDepth 100000 in
set_option maxHeartbeats 1000000 in
theorem grClosed_any (w : World) (D : Nat → Prop) (v : Value) (ts : List Tg) (h : Tgs w D v ts) (hf : fewNeeds ts) :
    Calls Tryd.prog 21 #[.agg #[v]] w fun e w' => e = .returned (.bool (grClosed (ts.map Tg.plain))) ∧ Keep noneOf w w' := by
  have HH := Lib.hid h
  have HFW := Lib.hid hf
  obtain ⟨A, c, rfl, hlc, hcm, hn, hxl, hc⟩ := h.1
  unfold maxLen at hcm
  generalize hR : grClosed (ts.map Tg.plain) = R
  have HR := Lib.hid hR
  have HC := Lib.hid hc
  have HT := Lib.hid h.2
  have HK0 := Lib.hid ((Keep.refl noneOf w).alloc (.cells #[.slice A ts.length c] 24))
  have HX0 := Lib.hid (Box.new w 24 #[.slice A ts.length c])
  clear hc h hxl hR hf
  go_enter Tryd.func21, Tryd.ntmps21
  go_wp2
  go_loopw [8] (fun i wr => ∃ k : Nat, k ≤ ts.length ∧ i = .int .i64 k ∧ Keep noneOf w wr ∧ Box wr w.heap.size 24 #[.slice A ts.length c] ∧ ∀ j t, j < k → ts[j]? = some t → (needsOf (ts.map Tg.plain) t.plain).length = t.needs.length) (fun i _ => ts.length - (intOf i).toNat)
  case atStart => exact ⟨0, Nat.zero_le _, rfl, HK0.out, HX0.out, fun j _ hj => absurd hj (by omega)⟩
  case round =>
    obtain ⟨k, hk, rfl, hkeep, hX, hall⟩ := hrel
    have HA := Lib.hid hall
    have HKP := Lib.hid hkeep
    have HX := Lib.hid hX
    clear hall HK0 HX0 hX
    by_cases hlt : k < ts.length
    · obtain ⟨ad, rfl, hsp, hblk, hD, hcell⟩ := HC.out (by omega)
      obtain ⟨b, o, sp⟩ := ad
      simp only at hsp hblk hD hcell
      subst hsp
      have HS := Lib.hid (List.getElem?_eq_getElem hlt)
      have hlies := HT.out _ (List.getElem_mem hlt)
      generalize ts[k] = t at *
      obtain ⟨c0, c1, c2⟩ := tgs_at hkeep hblk hcell HS.out
      have hle := needsOf_le (ts.map Tg.plain) t.plain
      have HNA := Lib.hid (needsAt_at HS.out)
      obtain ⟨nm, cm, nv, ss⟩ := t
      obtain ⟨l1, l2, ⟨A2, cp2, hnv, hl2, hm2, _⟩, _⟩ := hlies
      simp only at c0 c1 c2 hnv l1 l2 hl2
      subst hnv
      unfold maxLen at hm2
      have hle' : (needsOf (ts.map Tg.plain) (Tg.plain ⟨nm, cm, .slice A2 ss.length cp2, ss⟩)).length ≤ ss.length := hle
      obtain ⟨ns, hns⟩ : ∃ ns, needsOf (ts.map Tg.plain) (Tg.plain ⟨nm, cm, .slice A2 ss.length cp2, ss⟩) = ns := ⟨_, rfl⟩
      rw [hns] at HNA hle'
      have HNS := Lib.hid hns
      have ka := (Keep.refl noneOf wr).alloc (.cells #[.string nm, .string cm, .slice A2 ss.length cp2] 40)
      have HY0 := Box.new wr 40 #[.string nm, .string cm, .slice A2 ss.length cp2]
      have HX1 := HX.out.alloc (.cells #[.string nm, .string cm, .slice A2 ss.length cp2] 40)
      have HK1 := Lib.hid (hkeep.alloc (.cells #[.string nm, .string cm, .slice A2 ss.length cp2] 40))
      have HT1 := Lib.hid ((HH.out.keep hkeep (fun _ _ _ => id)).keep ka (fun _ _ _ => id))
      have e1 : Hid ((wr.alloc (.cells #[.string nm, .string cm, .slice A2 ss.length cp2] 40)).heap.size = wr.heap.size + 1) := by unfold Hid; simp
      clear hcell hns hkeep hle
      go_wp2
      generalize hW : wr.alloc (.cells #[.string nm, .string cm, .slice A2 ss.length cp2] 40) = W at *
      clear hW
      have MK : Hid (∀ w', Keep noneOf W w' → w'.cell? ⟨w.heap.size, 0, none⟩ = some (.slice (some ⟨b, o, none⟩) ts.length c) ∧ w'.cell? ⟨wr.heap.size, 2, none⟩ = some (.slice A2 ss.length cp2)) := fun w' k => ⟨(HX1.keep k id).cell 0, (HY0.keep k id).cell 2⟩
      have NE : Hid (∀ w', Keep noneOf W w' → Calls Tryd.prog 37 #[.agg #[.slice (some ⟨b, o, none⟩) ts.length c], .int .i64 (k : Int)] w' (ToldInts ns w')) := fun w' k' => by
        have := needs_any w' D _ ts (k : Int) (HT1.out.keep k' (fun _ _ _ => id)) HFW.out
        rwa [HNA.out] at this
      have K00 := Keep.refl noneOf W
      have HXX := Lib.hid HX1
      clear HX1 HY0 HNA
      go_region_held3 (fun w' => Keep noneOf W w' ∧ w'.cell? ⟨w.heap.size, 0, none⟩ = some (.slice (some ⟨b, o, none⟩) ts.length c) ∧ w'.cell? ⟨wr.heap.size, 2, none⟩ = some (.slice A2 ss.length cp2)) (first | exact ⟨K00.drew, MK.out _ K00.drew⟩ | (refine (fun k => ⟨k, MK.out _ k⟩) ?_; exact Keep.trans (And.left (by assumption)) (by assumption) (fun _ _ h => h)))
        (first | (go_at_call 37; refine (NE.out _ (And.left (by assumption))).mono ?_; rintro e w' ⟨v', rfl, hi', k'⟩; obtain ⟨A', c', hv'⟩ := hi'.shape; subst hv'))
      have k2 : Keep noneOf W w' := K00.drew.trans k' (fun _ _ h => h)
      have K2 := HK1.out.trans k2 (fun _ _ h => h)
      have X2 := HXX.out.keep k2 id
      clear hi' k' k2 NE MK K00 HK1 HXX HT1
      by_cases hq : ns.length < ss.length
      · have hR : R = false := by
          rw [← HR.out]
          unfold grClosed
          rw [List.all_eq_false]
          refine ⟨_, List.mem_map.2 ⟨_, List.mem_of_getElem? HS.out, rfl⟩, ?_⟩
          rw [HNS.out]
          intro h
          have h2 : ns.length = ss.length := of_decide_eq_true h
          exact absurd h2 (Nat.ne_of_lt hq)
        subst hR
        go_wp2
        go_ret
        exact ⟨rfl, K2⟩
      · have HEQ := Lib.hid (show ns.length = ss.length by omega)
        go_wp2
        go_roundw
        case rel =>
          refine ⟨k + 1, by omega, by go_num, K2, X2, fun j t hj e => ?_⟩
          rcases Nat.lt_or_ge j k with h | h
          · exact HA.out j t h e
          · have : j = k := by omega
            subst this
            rw [HS.out] at e
            injection e with e
            rw [← e, HNS.out]
            exact HEQ.out
        case measure => simp [intOf]; omega
    · have hR : R = true := by
        rw [← HR.out]
        unfold grClosed
        rw [List.all_eq_true]
        intro x hx
        obtain ⟨t, ht, rfl⟩ := List.mem_map.1 hx
        obtain ⟨j, hj⟩ := List.getElem?_of_mem ht
        exact decide_eq_true (HA.out j t (by have := (List.getElem?_eq_some_iff.1 hj).1; omega) hj)
      subst hR
      go_wp2
      go_ret
      exact ⟨rfl, HKP.out⟩
end Go.Proofs.YtfijbjbfnpadmaaDoor
