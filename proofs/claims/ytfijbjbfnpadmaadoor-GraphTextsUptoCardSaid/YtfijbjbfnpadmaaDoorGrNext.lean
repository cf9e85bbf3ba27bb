/-
  graph.next: which target comes next.
-/
import Derived.Test.YtfijbjbfnpadmaaDoorGrClosed
import Derived.Deep.LoopGhost
namespace Go.Proofs.YtfijbjbfnpadmaaDoor
open Go.RowKit

/-- A slice of lists of places. -/
def Lists (w : World) (D : Nat → Prop) (v : Value) (nd : List (List Nat)) : Prop :=
  ∃ vs : List Value, Row w D v nd.length 1 vs ∧ vs.length = nd.length ∧ ∀ (j : Nat) (u : Value) (ns : List Nat), vs[j]? = some u → nd[j]? = some ns → Ints w D u ns
theorem Lists.keep {w w' : World} {S D : Nat → Prop} {v : Value} {nd : List (List Nat)} (h : Lists w D v nd) (k : Keep S w w') (hs : ∀ i, i < w.heap.size → D i → ¬ S i) : Lists w' D v nd := by
  obtain ⟨vs, h1, h2, h3⟩ := h
  exact ⟨vs, h1.keep k hs, h2, fun j u ns hu hn => (h3 j u ns hu hn).keep k hs⟩
/-- A slice of marks: which of n places are listed. -/
def Marks (w : World) (D : Nat → Prop) (v : Value) (n : Nat) (l : List Nat) : Prop := Row w D v n 1 ((List.range n).map (fun i => Value.bool (l.contains i)))

theorem okAt_listed {nd : List (List Nat)} {l : List Nat} {k : Nat} (h : l.contains k = true) : okAt nd l k = false := by
  unfold okAt
  rw [h]
  rfl
theorem okAt_lacks {nd : List (List Nat)} {l ns : List Nat} {k m : Nat} (hk : nd[k]? = some ns) (hm : m ∈ ns) (h : l.contains m = false) : okAt nd l k = false := by
  unfold okAt
  rw [Bool.and_eq_false_iff]
  right
  rw [List.all_eq_false]
  refine ⟨m, ?_, by rw [h]; decide⟩
  rw [List.getD_eq_getElem?_getD, hk]
  exact hm
theorem okAt_is {nd : List (List Nat)} {l ns : List Nat} {k : Nat} (hk : nd[k]? = some ns) (h0 : l.contains k = false) (h : ∀ (i m : Nat), ns[i]? = some m → l.contains m = true) : okAt nd l k = true := by
  unfold okAt
  rw [h0, List.getD_eq_getElem?_getD, hk]
  simp only [Bool.not_false, Bool.true_and, Option.getD_some]
  rw [List.all_eq_true]
  intro m hm
  obtain ⟨i, hi⟩ := List.getElem?_of_mem hm
  exact h i m hi
theorem more_false {p : Nat → Bool} {k : Nat} (h : ∀ j, j < k → p j = false) (hk : p k = false) : ∀ j, j < k + 1 → p j = false := fun j hj => by
  rcases Nat.lt_or_ge j k with h1 | h1
  · exact h j h1
  · have : j = k := by omega
    subst this
    exact hk

set_option maxRecDepth 100000 in
set_option maxHeartbeats 1000000 in
theorem next_any (w : World) (D D' : Nat → Prop) (v u : Value) (nd : List (List Nat)) (l : List Nat) (h : Lists w D v nd) (h' : Marks w D' u nd.length l) (hlt : ∀ ns ∈ nd, ∀ m ∈ ns, m < nd.length) :
    Calls Tryd.prog 38 #[v, u] w fun e w' => e = .returned (.tuple #[.int .i64 (((nextOf nd l).getD 0 : Nat) : Int), .bool (nextOf nd l).isSome]) ∧ w = w' := by
  obtain ⟨vs, ⟨A, c, rfl, hlc, hcm, hn, hxl, hc⟩, hvs, hin⟩ := h
  obtain ⟨A', c', rfl, hlc', hcm', hn', hxl', hc'⟩ := h'
  unfold maxLen at hcm hcm'
  generalize hR : nextOf nd l = R
  have HR := Lib.hid hR
  have HC := Lib.hid hc
  have HC' := Lib.hid hc'
  have HIN := Lib.hid hin
  have HLT := Lib.hid hlt
  have HVS := Lib.hid hvs
  have HM : Hid (∀ k, k < nd.length → ((List.range nd.length).map (fun i => Value.bool (l.contains i)))[k]? = some (Value.bool (l.contains k))) := fun k hk => by simp [hk]
  clear hR hc hc' hin hlt hvs hxl hxl' hn hn'
  go_enter Tryd.func38, Tryd.ntmps38
  go_wp2
  go_step3
  go_wp2
  go_step3
  go_wp2
  go_loopg [11] nd.length (fun g i wx => ∃ k : Nat, k + g = nd.length ∧ i = .int .i64 k ∧ w = wx ∧ ∀ j, j < k → okAt nd l j = false)
  case atStart => exact ⟨0, by omega, rfl, rfl, fun j hj => absurd hj (by omega)⟩
  case round =>
    obtain ⟨k, hkg, rfl, rfl, hall⟩ := hrel
    have HA := Lib.hid hall
    clear hall
    cases gk with
    | zero =>
      have hR : R = none := by
        rw [← HR.out]
        exact nextOf_none (fun j hj => HA.out j (by omega))
      subst hR
      have hkz : ¬ ((k : Int) < (nd.length : Int)) := by omega
      go_wp2
      try rw [Exit.noGoto_ret]
      go_ret2
      exact ⟨rfl, rfl⟩
    | succ g =>
      have hkz : (k : Int) < (nd.length : Int) := by omega
      have hkn : k < nd.length := by omega
      obtain ⟨ad, rfl, hsp, hblk, hD, hcell⟩ := HC.out (by omega)
      obtain ⟨b, o, sp⟩ := ad
      obtain ⟨ad', rfl, hsp', hblk', hD', hcell'⟩ := HC'.out (by omega)
      obtain ⟨b', o', sp'⟩ := ad'
      simp only at hsp hblk hD hcell hsp' hblk' hD' hcell'
      subst hsp hsp'
      have HCELL' : Hid (∀ m, m < nd.length → w.cell? ⟨b', o' + m, none⟩ = some (.bool (l.contains m))) := fun m hm => hcell' m _ (HM.out m hm)
      have c1 := HCELL'.out k hkn
      have hvk : k < vs.length := by rw [HVS.out]; exact hkn
      have c2 : w.cell? ⟨b, o + k, none⟩ = some vs[k] := hcell k _ (List.getElem?_eq_getElem hvk)
      have hints := HIN.out k _ _ (List.getElem?_eq_getElem hvk) (List.getElem?_eq_getElem hkn)
      have HNS := Lib.hid (List.getElem?_eq_getElem hkn)
      have HLL := Lib.hid (HLT.out nd[k] (List.getElem_mem hkn))
      generalize vs[k] = x at *
      generalize nd[k] = ns at *
      obtain ⟨A2, cp2, rfl, hl2, hm2, _, _, hrow⟩ := hints
      unfold maxLen at hm2
      have HROW := Lib.hid hrow
      clear hcell hcell' hrow hvk
      cases hq : l.contains k with
      | true =>
        have HN := Lib.hid (more_false HA.out (okAt_listed (nd := nd) hq))
        rw [hq] at c1
        clear hq
        go_wp2
        go_roundg g
        case measure => omega
        case rel => exact ⟨k + 1, by omega, by go_num, rfl, HN.out⟩
      | false =>
        have HQ := Lib.hid hq
        rw [hq] at c1
        clear hq
        go_wp2
        go_loopg [23] ns.length (fun g2 i wx => ∃ j : Nat, j + g2 = ns.length ∧ i = .int .i64 j ∧ w = wx ∧ ∀ i' m, i' < j → ns[i']? = some m → l.contains m = true)
        case atStart => exact ⟨0, by omega, rfl, rfl, fun j _ hj => absurd hj (by omega)⟩
        case round =>
          obtain ⟨j, hjg, rfl, rfl, hall2⟩ := hrel
          have HA2 := Lib.hid hall2
          clear hall2
          cases gk with
          | zero =>
            have hR : R = some k := by
              rw [← HR.out]
              exact nextOf_some hkn (okAt_is HNS.out HQ.out (fun i m hi => HA2.out i m (by have := (List.getElem?_eq_some_iff.1 hi).1; omega) hi)) HA.out
            subst hR
            have hjz : ¬ ((j : Int) < (ns.length : Int)) := by omega
            go_wp2
            try rw [Exit.noGoto_ret]
            go_ret2
            exact ⟨rfl, rfl⟩
          | succ g2 =>
            have hjz : (j : Int) < (ns.length : Int) := by omega
            have hjn : j < ns.length := by omega
            obtain ⟨ad2, rfl, hsp2, hblk2, _, hcell2⟩ := HROW.out (by omega)
            obtain ⟨bb, oo, sp2⟩ := ad2
            simp only at hsp2 hblk2 hcell2
            subst hsp2
            have c3 : w.cell? ⟨bb, oo + j, none⟩ = some (.int .i64 (ns[j] : Int)) := hcell2 j _ (by rw [List.getElem?_map, List.getElem?_eq_getElem hjn]; rfl)
            have HS2 := Lib.hid (List.getElem?_eq_getElem hjn)
            have hmn := HLL.out ns[j] (List.getElem_mem hjn)
            generalize ns[j] = m at *
            have c4 := HCELL'.out m hmn
            clear hcell2
            cases hq : l.contains m with
            | true =>
              have HQ2 := Lib.hid hq
              rw [hq] at c4
              clear hq
              go_wp2
              go_roundg g2
              case measure => omega
              case rel =>
                refine ⟨j + 1, by omega, by go_num, rfl, fun i m' hi e => ?_⟩
                rcases Nat.lt_or_ge i j with h | h
                · exact HA2.out i m' h e
                · have : i = j := by omega
                  subst this
                  rw [HS2.out] at e
                  injection e with e
                  rw [← e]
                  exact HQ2.out
            | false =>
              have HN := Lib.hid (more_false HA.out (okAt_lacks HNS.out (List.mem_of_getElem? HS2.out) hq))
              rw [hq] at c4
              clear hq
              go_wp2
              go_roundg g
              case measure => omega
              case rel => exact ⟨k + 1, by omega, by go_num, rfl, HN.out⟩
end Go.Proofs.YtfijbjbfnpadmaaDoor
