/-
  dockyardlaw09.needs: who needs whom, over however many.
-/
import Derived.Test.YtjfneckflddeeaaRyLaw
import Derived.Test.YtjfneckflddeeaaGrClosed
namespace Go.Proofs.Ytjfneckflddeeaa
open Go.RowKit

/-- Does a target need another one, over so many? -/
def reachB (ps : List Pt) (o : Nat) : Nat → Nat → Bool
  | 0, i => (needsAt ps (i : Int)).any (fun n => decide (n = o))
  | d + 1, i => (needsAt ps (i : Int)).any (fun n => decide (n = o) || reachB ps o d n)

theorem reach_no {ps : List Pt} {o d i n : Nat} (h : reachB ps o (d + 1) i = false) (hn : n ∈ needsAt ps (i : Int)) : n ≠ o ∧ reachB ps o d n = false := by
  unfold reachB at h
  rw [List.any_eq_false] at h
  have := h n hn
  simpa using this

/-- What one need tells. -/
def hitB (ps : List Pt) (o d n : Nat) : Bool := decide (n = o) || (match d with | 0 => false | d + 1 => reachB ps o d n)
theorem reach_hit (ps : List Pt) (o d i : Nat) : reachB ps o d i = (needsAt ps (i : Int)).any (hitB ps o d) := by
  cases d with
  | zero =>
    unfold reachB
    congr 1
    funext n
    simp [hitB]
  | succ d =>
    unfold reachB
    congr 1

set_option maxRecDepth 100000 in
set_option maxHeartbeats 2000000 in
theorem reach_any (ts : List Tg) (hf : fewNeeds ts) (h32 : ∀ i : Nat, (needsAt (ts.map Tg.plain) (i : Int)).length ≤ 16) (o : Nat) (d : Nat) : ∀ (w : World) (D : Nat → Prop) (v : Value) (i : Nat), d ≤ 1000 → Tgs w D v ts →
    Calls Try.prog 27 #[.agg #[v], .int .i64 (i : Int), .int .i64 (o : Int), .int .i64 (d : Int)] w fun e w' => e = .returned (.bool (reachB (ts.map Tg.plain) o d i)) ∧ Keep noneOf w w' := by
  induction d with
  | zero =>
    intro w D v i _ h
    have HH := Lib.hid h
    obtain ⟨A, c, rfl, hlc, hcm, hn, hxl, hc⟩ := h.1
    unfold maxLen at hcm
    have ka := (Keep.refl noneOf w).alloc (.cells #[.slice A ts.length c] 24)
    have HK0 := Lib.hid ka
    have HX0 := Lib.hid (Box.new w 24 #[.slice A ts.length c])
    have NE := Lib.hid (refNeeds_any _ D _ ts (i : Int) (h.keep ka (fun _ _ _ => id)) hf)
    have h16 := h32 i
    generalize hR : reachB (ts.map Tg.plain) o 0 i = R
    rw [reach_hit] at hR
    have HR := Lib.hid hR
    generalize needsAt (ts.map Tg.plain) (i : Int) = ns at *
    clear h ka hc hxl hn hR h32
    go_enter Try.func27, Try.ntmps27
    go_wp2_with fail
    refine NE.out.mono ?_
    rintro e w1 ⟨v1, rfl, i1, k1⟩
    obtain ⟨A1, c1, hv1⟩ := i1.shape
    subst hv1
    have HK1 := Lib.hid (HK0.out.trans k1 (fun _ _ h => h))
    have HI1 := Lib.hid i1
    clear NE HK0 HX0 k1 i1
    go_wp2
    go_loopw [15] (fun i wx => ∃ k : Nat, k ≤ ns.length ∧ i = .int .i64 k ∧ w1 = wx ∧ ∀ j n, j < k → ns[j]? = some n → hitB (ts.map Tg.plain) o 0 n = false) (fun i _ => ns.length - (intOf i).toNat)
    case atStart => exact ⟨0, Nat.zero_le _, rfl, rfl, fun j _ hj => absurd hj (by omega)⟩
    case round =>
      obtain ⟨k, hk, rfl, rfl, hall⟩ := hrel
      have HA := Lib.hid hall
      clear hall
      by_cases hlt : k < ns.length
      · have HS := Lib.hid (List.getElem?_eq_getElem hlt)
        obtain ⟨b, p, rfl, hblk, _, hck⟩ := HI1.out.cell HS.out
        generalize ns[k] = n at *
        by_cases hno : n = o
        · subst hno
          have g : ((n : Int) == (n : Int)) = true := by rw [beq_self_eq_true]
          have HRT := Lib.hid (show R = true by
            rw [← HR.out, List.any_eq_true]
            exact ⟨n, List.mem_of_getElem? HS.out, by simp [hitB]⟩)
          go_wp2
          go_ret
          exact ⟨by rw [HRT.out]; rfl, HK1.out⟩
        · have g : ((n : Int) == (o : Int)) = false := by rw [beq_eq_false_iff_ne]; omega
          have HNO := Lib.hid hno
          clear hno
          go_wp2
          go_roundw
          case rel =>
            refine ⟨k + 1, by omega, by go_num, by first | rfl | trivial, fun j m hj e => ?_⟩
            rcases Nat.lt_or_ge j k with h | h
            · exact HA.out j m h e
            · have : j = k := by omega
              subst this
              rw [HS.out] at e
              injection e with e
              subst e
              have := HNO.out
              simp [hitB, this]
          case measure => simp [intOf]; omega
      · have HRF := Lib.hid (show R = false by
          rw [← HR.out, List.any_eq_false]
          intro n hn
          obtain ⟨j, hj⟩ := List.getElem?_of_mem hn
          rw [HA.out j n (by have := (List.getElem?_eq_some_iff.1 hj).1; omega) hj]
          decide)
        have hkn : ¬ ((k : Int) < (ns.length : Int)) := by omega
        clear hlt
        go_wp2
        go_ret
        exact ⟨by rw [HRF.out]; rfl, HK1.out⟩
  | succ d ih =>
    intro w D v i hd h
    have IH : Hid (∀ (w' : World) (j : Nat), Keep noneOf w w' → Calls Try.prog 27 #[.agg #[v], .int .i64 (j : Int), .int .i64 (o : Int), .int .i64 (d : Int)] w' fun e w'' => e = .returned (.bool (reachB (ts.map Tg.plain) o d j)) ∧ Keep noneOf w' w'') := Lib.hid fun w' j k => ih w' D v j (by omega) (h.keep k (fun _ _ _ => id))
    obtain ⟨A, c, rfl, hlc, hcm, hn, hxl, hc⟩ := h.1
    unfold maxLen at hcm
    have ka := (Keep.refl noneOf w).alloc (.cells #[.slice A ts.length c] 24)
    have HK0 := Lib.hid ka
    have HX0 := Lib.hid (Box.new w 24 #[.slice A ts.length c])
    have NE := Lib.hid (refNeeds_any _ D _ ts (i : Int) (h.keep ka (fun _ _ _ => id)) hf)
    have h16 := h32 i
    generalize hR : reachB (ts.map Tg.plain) o (d + 1) i = R
    rw [reach_hit] at hR
    have HR := Lib.hid hR
    generalize needsAt (ts.map Tg.plain) (i : Int) = ns at *
    clear h ka hc hxl hn hR h32 ih
    rw [show (((d + 1 : Nat)) : Int) = (d : Int) + 1 from by omega]
    go_enter Try.func27, Try.ntmps27
    go_wp2_with fail
    refine NE.out.mono ?_
    rintro e w1 ⟨v1, rfl, i1, k1⟩
    obtain ⟨A1, c1, hv1⟩ := i1.shape
    subst hv1
    have HK1 := Lib.hid (HK0.out.trans k1 (fun _ _ h => h))
    have HX1 := Lib.hid (HX0.out.keep k1 id)
    have HI1 := Lib.hid i1
    clear NE HK0 HX0 k1 i1
    go_wp2
    go_loopw [15] (fun i wx => ∃ k : Nat, k ≤ ns.length ∧ i = .int .i64 k ∧ Keep noneOf w1 wx ∧ ∀ j n, j < k → ns[j]? = some n → hitB (ts.map Tg.plain) o (d + 1) n = false) (fun i _ => ns.length - (intOf i).toNat)
    case atStart => exact ⟨0, Nat.zero_le _, rfl, Keep.refl _ _, fun j _ hj => absurd hj (by omega)⟩
    case round =>
      obtain ⟨k, hk, rfl, hkw, hall⟩ := hrel
      have HA := Lib.hid hall
      have HKW := Lib.hid hkw
      have HK2 := Lib.hid (HK1.out.trans hkw (fun _ _ h => h))
      clear hall
      by_cases hlt : k < ns.length
      · have HS := Lib.hid (List.getElem?_eq_getElem hlt)
        obtain ⟨b, p, rfl, hblk, _, hck⟩ := (HI1.out.keep hkw (fun _ _ _ => id)).cell HS.out
        have x0 : wr.cell? ⟨w.heap.size, 0, none⟩ = some (.slice A ts.length c) := (HX1.out.keep hkw id).cell 0
        generalize ns[k] = n at *
        by_cases hno : n = o
        · subst hno
          have g : ((n : Int) == (n : Int)) = true := by rw [beq_self_eq_true]
          have HRT := Lib.hid (show R = true by
            rw [← HR.out, List.any_eq_true]
            exact ⟨n, List.mem_of_getElem? HS.out, by simp [hitB]⟩)
          clear hkw
          go_wp2
          go_ret
          exact ⟨by rw [HRT.out]; rfl, HK2.out⟩
        · have g : ((n : Int) == (o : Int)) = false := by rw [beq_eq_false_iff_ne]; omega
          have HNO := Lib.hid hno
          have IH1 := Lib.hid (IH.out wr n HK2.out)
          have HHIT := Lib.hid (show hitB (ts.map Tg.plain) o (d + 1) n = reachB (ts.map Tg.plain) o d n by simp [hitB, hno])
          clear hno hkw
          go_wp2_with fail
          refine IH1.out.mono ?_
          rintro e w2 ⟨rfl, k2⟩
          have HK3 := Lib.hid (HK2.out.trans k2 (fun _ _ h => h))
          have HKW3 := Lib.hid (HKW.out.trans k2 (fun _ _ h => h))
          clear IH1 k2 x0 hck
          cases hq : reachB (ts.map Tg.plain) o d n with
          | true =>
            have HRT := Lib.hid (show R = true by
              rw [← HR.out, List.any_eq_true]
              exact ⟨n, List.mem_of_getElem? HS.out, by rw [HHIT.out, hq]⟩)
            clear hq
            go_wp2
            go_ret
            exact ⟨by rw [HRT.out]; rfl, HK3.out⟩
          | false =>
            have HHF := Lib.hid (HHIT.out.trans hq)
            clear hq
            go_wp2
            go_roundw
            case rel =>
              refine ⟨k + 1, by omega, by go_num, HKW3.out, fun j m hj e => ?_⟩
              rcases Nat.lt_or_ge j k with h | h
              · exact HA.out j m h e
              · have : j = k := by omega
                subst this
                rw [HS.out] at e
                injection e with e
                subst e
                exact HHF.out
            case measure => simp [intOf]; omega
      · have HRF := Lib.hid (show R = false by
          rw [← HR.out, List.any_eq_false]
          intro n hn
          obtain ⟨j, hj⟩ := List.getElem?_of_mem hn
          rw [HA.out j n (by have := (List.getElem?_eq_some_iff.1 hj).1; omega) hj]
          decide)
        have hkn : ¬ ((k : Int) < (ns.length : Int)) := by omega
        clear hlt hkw
        go_wp2
        go_ret
        exact ⟨by rw [HRF.out]; rfl, HK2.out⟩
end Go.Proofs.Ytjfneckflddeeaa
