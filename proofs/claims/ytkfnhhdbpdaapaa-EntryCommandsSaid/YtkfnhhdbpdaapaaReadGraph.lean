/-
  entry.readGraph: a graph, read.
-/
import Derived.Test.YtkfnhhdbpdaapaaItems2
namespace Go.Proofs.Ytkfnhhdbpdaapaa
open Go.RowKit

theorem rdTargets_eq (n : Nat) (s : Rs) : rdTargets n s = rdL rdTarget n s := by
  induction n generalizing s with
  | zero => rfl
  | succ n ih =>
    rw [rdTargets, rdL]
    split
    · rfl
    · rw [ih]

theorem Row.of_own {w : World} {base : Nat} {e : TypeId} {size : Nat} {v : Value} {n : Nat} {xs : List Value} (h : w.ownsRow base e size v n xs) : Row w (fun k => base ≤ k) v n size xs := by
  rcases h.2 with ⟨rfl, rfl⟩ | ⟨g, cap, cur, rfl, hb, hg, hle, hmx, hsz, htk⟩
  · exact ⟨none, 0, rfl, Nat.le_refl _, Nat.zero_le _, fun _ => rfl, h.1, fun h0 => absurd h0 (by simp)⟩
  · refine ⟨some ⟨g, 0, none⟩, cap, rfl, hle, hmx, fun e => (by cases e), h.1, fun _ => ⟨⟨g, 0, none⟩, rfl, rfl, (Array.getElem?_eq_some_iff.1 hg).1, hb, fun j b hb => ?_⟩⟩
    rw [← htk, List.getElem?_take] at hb
    split at hb
    · show w.cell? ⟨g, 0 + j, none⟩ = _
      rw [Nat.zero_add, cell_of_row w g j cur e (0, 0) hg]
      simpa using hb
    · cases hb
theorem Tgs.of_own {w : World} {base : Nat} {v : Value} {ts : List Tg} (h : w.ownsRow base 96 3 v ts.length (ts.flatMap Tg.cells)) (hl : ∀ t ∈ ts, Tg.held base w t) : Tgs w (fun k => base ≤ k) v ts :=
  ⟨Row.of_own h, fun t ht => ⟨Nat.le_trans (hl t ht).1 (by unfold maxLen; decide), Nat.le_trans (hl t ht).2.1 (by unfold maxLen; decide), Row.of_own (hl t ht).2.2.1, fun x hx => Nat.le_trans ((hl t ht).2.2.2 x hx) (by unfold maxLen; decide)⟩⟩

/-- What readGraph makes of what is left. -/
def gotPts (s : Rs) : List Pt := if (rdGraph s).2.err = 0 then (rdGraph s).1 else []

set_option maxRecDepth 100000 in
set_option maxHeartbeats 1000000 in
theorem readGraph_to (w : World) (p : Nat) (D : Nat → Prop) (u : Value) (s : Rs) (hD : ∀ i, D i → i < w.heap.size) (h : Rd w p D u s.left s.err) :
    Calls Try.prog 60 #[.pointer (some ⟨p, 0, none⟩)] w (GotGraph w p D (gotPts s) (rdGraph s).2) := by
  obtain ⟨n, s1, hv⟩ : ∃ n s1, s.var 32 = (n, s1) := ⟨_, _, rfl⟩
  obtain ⟨fin, hfin⟩ : ∃ fin, rdL rdTarget n s1 = fin := ⟨_, rfl⟩
  have hG : rdGraph s = fin := by unfold rdGraph; rw [hv, rdTargets_eq]; exact hfin
  obtain ⟨ss, hss⟩ : ∃ ss, (if fin.2.err = 0 then fin.1 else []) = ss := ⟨_, rfl⟩
  have hgp : gotPts s = ss := by unfold gotPts; rw [hG]; exact hss
  rw [hgp, hG]
  have hp := h.box.lt
  have k0 := (((Keep.refl noneOf w).alloc (.cells #[.slice none 0 0] 36)).alloc (.cells #[.func (.func 71) #[] #[]] 111))
  have x0 := (Box.new w 36 #[.slice none 0 0]).alloc (.cells #[.func (.func 71) #[] #[]] 111)
  have x1 := Box.new (w.alloc (.cells #[.slice none 0 0] 36)) 111 #[.func (.func 71) #[] #[]]
  rw [World.size_alloc] at x1
  have h0 := h.keep k0 id (fun _ _ => id)
  have LT := Lib.hid (list_target _ p (w.heap.size + 1) D u s s1 n fin (fun i hi => Nat.lt_of_lt_of_le (hD i hi) k0.size) h0 hv hfin ss x1 hss)
  have HX := Lib.hid x0
  have HK := Lib.hid k0
  have hsz : ((w.alloc (.cells #[.slice none 0 0] 36)).alloc (.cells #[.func (.func 71) #[] #[]] 111)).heap.size = w.heap.size + 2 := by simp
  clear x0 x1 k0 h0 h hv hfin hG hss hgp
  go_enter Try.func60, Try.ntmps60
  go_wp2_with fail
  refine LT.out.mono ?_
  rintro e w1 ⟨v, ts, rfl, k1, ⟨u1, r1⟩, ho, hh, hpt⟩
  obtain ⟨A, c, hva⟩ := own_shape ho
  subst hva
  have X1 := HX.out.keep k1 (by omega)
  have y0 : w1.cell? ⟨w.heap.size, 0, none⟩ = some (.slice none 0 0) := X1.cell 0
  have z0 := X1.free 0
  have K1 : Keep (fun k => k = p) w w1 := (HK.out.mono (fun _ _ h => h.elim)).trans k1 (fun _ _ h => h)
  have kr : Keep (fun k => k = w.heap.size) w1 (w1.setCell ⟨w.heap.size, 0, none⟩ (.slice A ts.length c)) := (Keep.refl (fun k => k = w.heap.size) w1).setCell (p := ⟨w.heap.size, 0, none⟩) (fun _ => rfl) _
  have B : Box (w1.setCell ⟨w.heap.size, 0, none⟩ (.slice A ts.length c)) w.heap.size 36 #[.slice A ts.length c] := by simpa using X1.put 0 (.slice A ts.length c)
  have T := (Tgs.of_own ho hh).keep kr (fun i _ hi e => by omega)
  have R : GotGraph w p D ss fin.2 (.returned (.agg #[.slice A ts.length c])) (w1.setCell ⟨w.heap.size, 0, none⟩ (.slice A ts.length c)) :=
    ⟨_, ts, rfl, K1.trans kr (fun i hi e => by omega), ⟨u1, r1.keep kr (by omega) (fun i hi e => by have := hD i hi; omega)⟩, T.mono (fun i _ hi => by omega), hpt⟩
  clear LT HX HK k1 r1 ho hh hpt X1 K1 kr T
  go_wp2
  generalize w1.setCell ⟨w.heap.size, 0, none⟩ (.slice A ts.length c) = wf at *
  have t0 : wf.cell? ⟨w.heap.size, 0, none⟩ = some (.slice A ts.length c) := B.cell 0
  exact bodyPost_ret (v := .agg #[.slice A ts.length c]) (by simp [results, Try.results60, go_sem, t0]) rfl R
end Go.Proofs.Ytkfnhhdbpdaapaa
