/-
  entry.readGraph: a graph, read.
-/
import Derived.Test.YtngbminjbgomgaaItems2
namespace Go.Proofs.Ytngbminjbgomgaa
open Go.RowKit

theorem rdTargets_eq (n : Nat) (s : Rs) : rdTargets n s = rdL rdTarget n s := by
  induction n generalizing s with
  | zero => rfl
  | succ n ih =>
    rw [rdTargets, rdL]
    split
    · rfl
    · rw [ih]

theorem Row.of_own {w : World} {base : Nat} {e : TypeId} {size : Nat} {v : Value} {n : Nat} {xs : List Value} (h : w.ownsRow base e size v n xs) : Row w (fun k => base ≤ k) v n size xs := by
  rcases h.2 with ⟨rfl, rfl⟩ | ⟨g, cap, cur, rfl, hb, hg, hle, hmx, hsz, htk⟩
  · exact ⟨none, 0, rfl, Nat.le_refl _, Nat.zero_le _, fun _ => rfl, h.1, fun h0 => absurd h0 (by simp)⟩
  · refine ⟨some ⟨g, 0, none⟩, cap, rfl, hle, hmx, fun e => (by cases e), h.1, fun _ => ⟨⟨g, 0, none⟩, rfl, rfl, (Array.getElem?_eq_some_iff.1 hg).1, hb, fun j b hb => ?_⟩⟩
    rw [← htk, List.getElem?_take] at hb
    split at hb
    · show w.cell? ⟨g, 0 + j, none⟩ = _
      rw [Nat.zero_add, cell_of_row w g j cur e (0, 0) hg]
      simpa using hb
    · cases hb
theorem Tgs.of_own {w : World} {base : Nat} {v : Value} {ts : List Tg} (h : w.ownsRow base 102 3 v ts.length (ts.flatMap Tg.cells)) (hl : ∀ t ∈ ts, Tg.held base w t) : Tgs w (fun k => base ≤ k) v ts :=
  ⟨Row.of_own h, fun t ht => ⟨Nat.le_trans (hl t ht).1 (by unfold maxLen; decide), Nat.le_trans (hl t ht).2.1 (by unfold maxLen; decide), Row.of_own (hl t ht).2.2.1, fun x hx => Nat.le_trans ((hl t ht).2.2.2 x hx) (by unfold maxLen; decide)⟩⟩

/-- What readGraph makes of what is left. -/
def gotPts (s : Rs) : List Pt := if (rdGraph s).2.err = 0 then (rdGraph s).1 else []

set_option maxRecDepth 100000 in
set_option maxHeartbeats 1000000 in
theorem readGraph_to (w : World) (p : Nat) (D : Nat → Prop) (u : Value) (s : Rs) (hD : ∀ i, D i → i < w.heap.size) (h : Rd w p D u s.left s.err) :
    Calls Try.prog 64 #[.pointer (some ⟨p, 0, none⟩)] w (GotGraph w p D (gotPts s) (rdGraph s).2) := by
  obtain ⟨n, s1, hv⟩ : ∃ n s1, s.var 32 = (n, s1) := ⟨_, _, rfl⟩
  obtain ⟨fin, hfin⟩ : ∃ fin, rdL rdTarget n s1 = fin := ⟨_, rfl⟩
  have hG : rdGraph s = fin := by unfold rdGraph; rw [hv, rdTargets_eq]; exact hfin
  obtain ⟨ss, hss⟩ : ∃ ss, (if fin.2.err = 0 then fin.1 else []) = ss := ⟨_, rfl⟩
  have hgp : gotPts s = ss := by unfold gotPts; rw [hG]; exact hss
  rw [hgp, hG]
  have hp := h.box.lt
  have k0 := (Keep.refl noneOf w).alloc (.cells #[.func (.func 75) #[] #[]] 117)
  have x1 := Box.new w 117 #[.func (.func 75) #[] #[]]
  have h0 := h.keep k0 id (fun _ _ => id)
  have LT := Lib.hid (list_target _ p w.heap.size D u s s1 n fin (fun i hi => Nat.lt_of_lt_of_le (hD i hi) k0.size) h0 hv hfin ss x1 hss)
  have HK := Lib.hid k0
  have hsz : (w.alloc (.cells #[.func (.func 75) #[] #[]] 117)).heap.size = w.heap.size + 1 := by simp
  clear x1 k0 h0 h hv hfin hG hss hgp
  go_enter Try.func64, Try.ntmps64
  go_wp2_with fail
  refine LT.out.mono ?_
  rintro e w1 ⟨v, ts, rfl, k1, ⟨u1, r1⟩, ho, hh, hpt⟩
  obtain ⟨A, c, hva⟩ := own_shape ho
  subst hva
  have K1 : Keep (fun k => k = p) w w1 := (HK.out.mono (fun _ _ h => h.elim)).trans k1 (fun _ _ h => h)
  have T := Tgs.of_own ho hh
  have R : GotGraph w p D ss fin.2 (.returned (.slice A ts.length c)) w1 :=
    ⟨_, ts, rfl, K1, ⟨u1, r1⟩, T.mono (fun i _ hi => by omega), hpt⟩
  have HR := Lib.hid R
  clear LT HK k1 r1 ho hh hpt K1 T R
  go_wp2
  go_ret
  exact HR.out
end Go.Proofs.Ytngbminjbgomgaa
