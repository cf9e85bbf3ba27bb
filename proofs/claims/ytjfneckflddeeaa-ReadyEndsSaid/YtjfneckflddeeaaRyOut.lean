/-
  ready.outcome.
-/
import Derived.Test.YtjfneckflddeeaaRySettleM
namespace Go.Proofs.Ytjfneckflddeeaa
open Go.RowKit

set_option maxRecDepth 100000 in
set_option maxHeartbeats 1000000 in
theorem outcome_any (w : World) (D D' : Nat → Prop) (v v' : Value) (l : List Pst) (ns : List Nat) (h : Sts w D v l) (h' : Ints w D' v' ns) (hl : ∀ n ∈ ns, n < l.length) :
    Calls Try.prog 30 #[v, v'] w fun e w' => e = .returned (.int .i64 (outc (ns.map (fun n => (l.getD n Pst.zero).s)))) ∧ Keep noneOf w w' := by
  obtain ⟨A, c, rfl, hlc, hcm, hn, hxl, hc⟩ := h
  obtain ⟨A', c', rfl, hlc', hcm', hn', hxl', hc'⟩ := h'
  unfold maxLen at hcm hcm'
  have HC := Lib.hid hc
  have HC' := Lib.hid hc'
  have HL := Lib.hid hl
  generalize hss : ns.map (fun n => (l.getD n Pst.zero).s) = ss
  generalize hR : outc ss = R
  have HR := Lib.hid hR
  have HSS : Hid (∀ (j n : Nat), ns[j]? = some n → ss[j]? = some (l.getD n Pst.zero).s) := Lib.hid fun j n e => by rw [← hss, List.getElem?_map, e]; rfl
  have hsl : ss.length = ns.length := by rw [← hss, List.length_map]
  have HSL := Lib.hid hsl
  clear hc hxl hR hc' hxl' hn hn' hl hss hsl
  go_enter Try.func30, Try.ntmps30
  go_wp2
  go_loopw [5, 10] (fun nx i wr => ∃ k : Nat, k ≤ ns.length ∧ i = .int .i64 k ∧ nx = .int .i64 (if (ss.take k).all (fun s => s == 3) = true then 1 else 0) ∧ Keep noneOf w wr ∧ ∀ j s, j < k → ss[j]? = some s → lostS s = false) (fun _ i _ => ns.length - (intOf i).toNat)
  case atStart => exact ⟨0, Nat.zero_le _, rfl, by rw [List.take_zero, List.all_nil]; rfl, Keep.refl _ _, fun j _ hj => absurd hj (by omega)⟩
  case round =>
    obtain ⟨k, hk, rfl, rfl, hkeep, hall⟩ := hrel
    have HA := Lib.hid hall
    have HKP := Lib.hid hkeep
    clear hall
    by_cases hlt : k < ns.length
    · obtain ⟨ad', rfl, hsp', hblk', hD', hcell'⟩ := HC'.out (by omega)
      obtain ⟨b', o', sp'⟩ := ad'
      simp only at hsp' hblk' hD' hcell'
      subst hsp'
      have hck : wr.cell? ⟨b', o' + k, none⟩ = some (.int .i64 (ns[k] : Int)) := (hkeep.cell (p := ⟨b', o' + k, none⟩) hblk' id).trans (hcell' k _ (by rw [List.getElem?_map, List.getElem?_eq_getElem hlt]; rfl))
      have hnl := HL.out ns[k] (List.getElem_mem hlt)
      have hs0 := HSS.out k ns[k] (List.getElem?_eq_getElem hlt)
      generalize ns[k] = n at *
      obtain ⟨ad, rfl, hsp, hblk, hD, hcell⟩ := HC.out (by omega)
      obtain ⟨b, o, sp⟩ := ad
      simp only at hsp hblk hD hcell
      subst hsp
      obtain ⟨c0, c1, c2⟩ := sts_at hkeep hblk id hcell (getS_at hnl)
      generalize l.getD n Pst.zero = x at *
      have HS0 := Lib.hid hs0
      have q0 : (0 : Int) ≤ (n : Int) := by omega
      have q1 : (n : Int) < (l.length : Int) := by omega
      have HF := Lib.hid (final_any (wr.alloc (.cells #[.int .i64 x.s, .int .u64 x.t, .int .u64 x.u] 32)) x)
      have HK1 := Lib.hid (HKP.out.alloc (.cells #[.int .i64 x.s, .int .u64 x.t, .int .u64 x.u] 32))
      have hall : ∀ (b : Bool), b = (x.s == 3) → ∀ nx', nx' = (if (ss.take k).all (fun s => s == 3) && b = true then (1 : Int) else 0) → nx' = (if (ss.take (k + 1)).all (fun s => s == 3) = true then (1 : Int) else 0) := by
        rintro b rfl nx' rfl
        rw [List.take_add_one, HS0.out, List.all_append]
        simp
      have HALL := Lib.hid hall
      clear hcell hcell' hkeep hs0 HKP hall
      have hx : x.s = 3 ∨ lostS x.s = true ∨ (lostS x.s = false ∧ finB x.s = false) := by
        unfold lostS finB
        simp only [Bool.and_eq_true, Bool.and_eq_false_iff, decide_eq_true_eq, decide_eq_false_iff_not]
        omega
      rcases hx with hx | hx | ⟨hx, hf⟩
      · have g : (x.s == 3) = true := by rw [hx]; rfl
        have HG := Lib.hid g
        have HX := Lib.hid hx
        clear hx
        generalize hnx : (if (ss.take k).all (fun s => s == 3) = true then (1 : Int) else 0) = nx at *
        have HNX := Lib.hid hnx
        clear hnx
        go_wp2
        go_roundw
        case rel =>
          refine ⟨k + 1, by omega, by go_num, ?_, HK1.out, fun j s hj e => ?_⟩
          · congr 1
            exact HALL.out true HG.out.symm nx (by simpa using HNX.out.symm)
          · rcases Nat.lt_or_ge j k with h | h
            · exact HA.out j s h e
            · have : j = k := by omega
              subst this
              rw [HS0.out] at e
              injection e with e
              rw [← e, HX.out]
              decide
        case measure => simp [intOf]; omega
      · have g : (x.s == 3) = false := by
          rw [beq_eq_false_iff_ne]
          intro e
          rw [e] at hx
          exact absurd hx (by decide)
        have hf : finB x.s = true := by
          unfold lostS at hx
          unfold finB
          simp only [Bool.and_eq_true, decide_eq_true_eq] at hx ⊢
          omega
        have hR5 : R = 5 := by
          rw [← HR.out]
          exact outc_lost (List.mem_of_getElem? HS0.out) hx
        subst hR5
        rw [hf] at HF
        generalize (if (ss.take k).all (fun s => s == 3) = true then (1 : Int) else 0) = nx at *
        clear hx hf HALL HR
        go_wp2_with fail
        refine HF.out.mono ?_
        rintro e w1 ⟨rfl, k1⟩
        have HK2 := Lib.hid (HK1.out.trans k1 (fun _ _ h => h))
        clear HF k1 HK1 c0 c1 c2 hck
        go_wp2
        go_ret
        exact ⟨rfl, HK2.out⟩
      · have g : (x.s == 3) = false := by
          rw [beq_eq_false_iff_ne]
          intro e
          rw [e] at hf
          exact absurd hf (by decide)
        have HG := Lib.hid g
        have HX := Lib.hid hx
        rw [hf] at HF
        generalize (if (ss.take k).all (fun s => s == 3) = true then (1 : Int) else 0) = nx at *
        clear hx hf
        go_wp2_with fail
        refine HF.out.mono ?_
        rintro e w1 ⟨rfl, k1⟩
        have HK2 := Lib.hid (HK1.out.trans k1 (fun _ _ h => h))
        clear HF k1 HK1 c0 c1 c2 hck
        go_wp2
        go_roundw
        case rel =>
          refine ⟨k + 1, by omega, by go_num, ?_, HK2.out, fun j s hj e => ?_⟩
          · congr 1
            exact HALL.out false HG.out.symm 0 (by simp)
          · rcases Nat.lt_or_ge j k with h | h
            · exact HA.out j s h e
            · have : j = k := by omega
              subst this
              rw [HS0.out] at e
              injection e with e
              rw [← e]
              exact HX.out
        case measure => simp [intOf]; omega
    · have hRn : R = (if (ss.take k).all (fun s => s == 3) = true then 1 else 0) := by
        rw [← HR.out, List.take_of_length_le (by rw [HSL.out]; omega)]
        refine outc_else (fun s hs => ?_)
        obtain ⟨j, hj⟩ := List.getElem?_of_mem hs
        exact HA.out j s (by have := (List.getElem?_eq_some_iff.1 hj).1; rw [HSL.out] at this; omega) hj
      rw [← hRn]
      have hkn : ¬ ((k : Int) < (ns.length : Int)) := by omega
      clear hlt hkeep hRn
      go_wp2
      go_ret
      exact ⟨rfl, HKP.out⟩
end Go.Proofs.Ytjfneckflddeeaa
