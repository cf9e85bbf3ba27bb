/-
  dockyardref07.places: as many places as can stand behind their needs.
-/
import Derived.Test.YtfijbjbfnpadmaaDoorGrClosed
namespace Go.Proofs.YtfijbjbfnpadmaaDoor
open Go.RowKit

/-- The least place from m on that may come next is known: nx. -/
def LeastOk (nd : List (List Nat)) (l : List Nat) (n m : Nat) (nx : Int) : Prop :=
  (nx = -1 ∧ ∀ j, m ≤ j → j < n → okAt nd l j = false) ∨ (∃ q : Nat, nx = q ∧ m ≤ q ∧ q < n ∧ okAt nd l q = true ∧ ∀ j, m ≤ j → j < q → okAt nd l j = false)
theorem LeastOk.yes {nd : List (List Nat)} {l : List Nat} {n m : Nat} (hm : m < n) (h : okAt nd l m = true) : LeastOk nd l n m m := .inr ⟨m, rfl, Nat.le_refl _, hm, h, fun j h1 h2 => by omega⟩
theorem LeastOk.no {nd : List (List Nat)} {l : List Nat} {n m : Nat} {nx : Int} (h : LeastOk nd l n (m + 1) nx) (hm : okAt nd l m = false) : LeastOk nd l n m nx := by
  rcases h with ⟨h1, h2⟩ | ⟨q, h1, h2, h3, h4, h5⟩
  · refine .inl ⟨h1, fun j hj hjn => ?_⟩
    by_cases e : j = m
    · subst e; exact hm
    · exact h2 j (by omega) hjn
  · refine .inr ⟨q, h1, by omega, h3, h4, fun j hj hjn => ?_⟩
    by_cases e : j = m
    · subst e; exact hm
    · exact h5 j (by omega) hjn
theorem LeastOk.next {nd : List (List Nat)} {l : List Nat} {nx : Int} (h : LeastOk nd l nd.length 0 nx) : (nx = -1 ∧ nextOf nd l = none) ∨ ∃ q : Nat, nx = q ∧ nextOf nd l = some q := by
  rcases h with ⟨h1, h2⟩ | ⟨q, h1, _, h3, h4, h5⟩
  · exact .inl ⟨h1, nextOf_none (fun j hj => h2 j (Nat.zero_le _) hj)⟩
  · exact .inr ⟨q, h1, nextOf_some h3 h4 (fun j hj => h5 j (Nat.zero_le _) hj)⟩

theorem all_more {p : Nat → Bool} {ns : List Nat} {a m : Nat} (h : ns[a]? = some m) : (ns.take (a + 1)).all p = ((ns.take a).all p && p m) := by
  rw [List.take_add_one, h, List.all_append]
  simp
theorem okAt_eq {nd : List (List Nat)} {l ns : List Nat} {k : Nat} (hk : nd[k]? = some ns) : okAt nd l k = (!l.contains k && ns.all (fun n => l.contains n)) := by
  unfold okAt
  rw [List.getD_eq_getElem?_getD, hk]
  rfl

set_option maxRecDepth 100000 in
set_option maxHeartbeats 2000000 in
theorem refPlaces_any (w : World) (D : Nat → Prop) (v : Value) (ts : List Tg) (h : Tgs w D v ts) (hf : fewNeeds ts) (h32 : ts.length ≤ 32) :
    Calls Tryd.prog 29 #[.agg #[v]] w (ToldInts (placesOf (ts.map Tg.plain)) w) := by
  have HH := Lib.hid h
  have HFW := Lib.hid hf
  obtain ⟨A, c, rfl, hlc, hcm, hn, hxl, hc⟩ := h.1
  unfold maxLen at hcm
  have HK0 := Lib.hid ((Keep.refl noneOf w).alloc (.cells #[.slice A ts.length c] 24))
  have HX0 := Lib.hid (Box.new w 24 #[.slice A ts.length c])
  have HLEN := Lib.hid (show ((ts.map Tg.plain).map (needsOf (ts.map Tg.plain))).length = ts.length by simp)
  have HND : Hid (∀ (q : Nat), q < ts.length → ∃ ns, needsAt (ts.map Tg.plain) (q : Int) = ns ∧ ((ts.map Tg.plain).map (needsOf (ts.map Tg.plain)))[q]? = some ns) := fun q hq => by
    refine ⟨_, rfl, ?_⟩
    rw [needsAt_at (List.getElem?_eq_getElem hq), List.getElem?_map, List.getElem?_map, List.getElem?_eq_getElem hq]
    rfl
  have HPL := Lib.hid (show stepsOf ((ts.map Tg.plain).map (needsOf (ts.map Tg.plain))) ts.length [] = placesOf (ts.map Tg.plain) by unfold placesOf; rw [List.length_map])
  have NE : Hid (∀ (w' : World) (q : Nat), Keep noneOf w w' → Calls Tryd.prog 28 #[.agg #[.slice A ts.length c], .int .i64 (q : Int)] w' (ToldInts (needsAt (ts.map Tg.plain) (q : Int)) w')) := fun w' q k' => refNeeds_any w' _ _ ts (q : Int) (HH.out.keep k' (fun _ _ _ => id)) HFW.out
  generalize (ts.map Tg.plain).map (needsOf (ts.map Tg.plain)) = nd at *
  generalize placesOf (ts.map Tg.plain) = res at *
  generalize needsAt (ts.map Tg.plain) = na at *
  obtain ⟨i2, hi2, hz2, hs2, hb2⟩ := info_parts intinfo
  clear hc h hf hxl hn HH HFW
  go_enter Tryd.func29, Tryd.ntmps29
  go_wp2
  go_loopw [3, 4] (fun pl i wr => ∃ l : List Nat, l.length ≤ ts.length ∧ i = .int .i64 (l.length : Int) ∧ (∀ x ∈ l, x < ts.length) ∧ stepsOf nd (ts.length - l.length) l = res ∧ Keep noneOf w wr ∧ Box wr w.heap.size 24 #[.slice A ts.length c] ∧ wr.ownsRow (w.heap.size + 1) 3 1 pl l.length (l.map iv)) (fun _ i _ => ts.length - (intOf i).toNat)
  case atStart => exact ⟨[], Nat.zero_le _, rfl, by simp, by simpa using HPL.out, HK0.out, HX0.out, World.ownsRow_nil _ _ _ _⟩
  case round =>
    obtain ⟨l, hll, rfl, hlx, hst, hkeep, hX, hown⟩ := hrel
    have x0 : wr.cell? ⟨w.heap.size, 0, none⟩ = some (.slice A ts.length c) := hX.cell 0
    have hz := hX.lt
    have HLX := Lib.hid hlx
    have HST := Lib.hid hst
    have HKP := Lib.hid hkeep
    have HX := Lib.hid hX
    have HOWN := Lib.hid hown
    clear hlx hst hkeep hX hown HPL HK0 HX0
    by_cases hlt : l.length < ts.length
    · obtain ⟨Al, cl, hvl⟩ := own_shape HOWN.out
      subst hvl
      go_wp2
      generalize wr = W1 at *
      go_loopw [5, 6] (fun nx i wx => ∃ (m : Nat) (z : Int), m ≤ ts.length ∧ i = .int .i64 ((m : Int) - 1) ∧ nx = .int .i64 z ∧ LeastOk nd l ts.length m z ∧ Keep noneOf W1 wx) (fun _ i _ => (intOf i + 1).toNat)
      case atStart => exact ⟨ts.length, -1, Nat.le_refl _, rfl, rfl, .inl ⟨rfl, fun j h1 h2 => by omega⟩, Keep.refl _ _⟩
      case round =>
        obtain ⟨m, z, hm, rfl, rfl, hlo, hk1⟩ := hrel
        have HLO := Lib.hid hlo
        have HX2 := Lib.hid (HX.out.keep hk1 id)
        have HOWN2 := Lib.hid (own_keep HOWN.out hk1 (fun _ _ h => h))
        have HK2 := Lib.hid hk1
        have hzX := HX2.out.lt
        have x2 : wr.cell? ⟨w.heap.size, 0, none⟩ = some (.slice A ts.length c) := HX2.out.cell 0
        clear hlo hk1
        cases m with
        | zero =>
          rw [show (((0 : Nat) : Int) - 1) = (-1 : Int) from rfl]
          have hnx := LeastOk.next (by have := HLO.out; rwa [← HLEN.out] at this)
          have hg : ∃ g, ts.length - l.length = g + 1 := ⟨ts.length - l.length - 1, by omega⟩
          obtain ⟨g, hg⟩ := hg
          have HST2 := HST.out
          rw [hg] at HST2
          simp only [stepsOf] at HST2
          rcases hnx with ⟨rfl, hn⟩ | ⟨q, rfl, hn⟩
          · rw [hn] at HST2
            simp only at HST2
            subst HST2
            clear hn HLO HST hg
            go_wp2
            go_ret
            exact ⟨_, rfl, (Ints.of_own HOWN2.out).mono (fun _ _ h => by omega), HKP.out.trans HK2.out (fun _ _ h => h)⟩
          · rw [hn] at HST2
            simp only at HST2
            have hqn : q < ts.length := by have := nextOf_lt hn; rw [HLEN.out] at this; exact this
            have hg2 : ts.length - (l ++ [q]).length = g := by simp; omega
            have HST3 := Lib.hid (show stepsOf nd (ts.length - (l ++ [q]).length) (l ++ [q]) = res by rw [hg2]; exact HST2)
            clear hn HLO HST hg hg2 HST2 HX
            have hq0 : (0 : Int) ≤ (q : Int) := by omega
            go_wp2_with (at_builtin; refine wpList_append_own _ rfl _ _ 50 rfl (w.heap.size + 1) 3 i2 _ 1 8 Tryd.underlying50 hi2 hz2 hs2 hb2 rfl (by decide) _ _ _ rfl (HOWN2.out.alloc _) ⟨wr.heap.size, 0, none⟩ 1 1 [iv q] rfl rfl (cell_one_new _ _ _) (by simp [Value.oneCell', iv]) (by unfold maxLen; omega) (by omega) (by simp; omega) ?_; intro v' w4 hown' hgrow _)
            have kg := Keep.of_grown hgrow
            have ka := (Keep.refl noneOf wr).alloc (.cells #[.int .i64 (q : Int)] 3)
            have hno : ∀ j, some j = (Value.slice Al l.length cl).ownBlock → w.heap.size + 1 ≤ j := fun j hj => (HOWN2.out.lt j hj.symm).1
            have hlq : (l ++ [q]).length = l.length + 1 := by simp
            go_wp2
            go_roundw
            case rel =>
              refine ⟨l ++ [q], by omega, by rw [hlq]; go_num, ?_, HST3.out, ?_, ?_, ?_⟩
              · intro x hx
                rcases List.mem_append.1 hx with hx | hx
                · exact HLX.out x hx
                · simp at hx
                  subst hx
                  exact hqn
              · exact ((HKP.out.trans HK2.out (fun _ _ h => h)).trans ka (fun _ _ h => h)).trans kg (fun j hj hs => absurd (hno j hs) (by omega))
              · exact (HX2.out.keep ka id).keep kg (fun hs => absurd (hno _ hs) (by omega))
              · rw [List.length_append, List.map_append]
                exact hown'
            case measure => simp [intOf]; omega
        | succ q =>
          rw [show (((q + 1 : Nat) : Int) - 1) = (q : Int) from by omega]
          have hq : q < ts.length := by omega
          obtain ⟨ns, hns, hnd⟩ := HND.out q hq
          have IN := in_any wr _ _ l q (Ints.of_own HOWN2.out)
          have HIN := Lib.hid IN
          have NN := NE.out
          have g0 : decide ((0 : Int) ≤ (q : Int)) = true := by simp
          have HNQ := Lib.hid hns
          have HNDQ := Lib.hid hnd
          clear IN hns hnd NN
          generalize hb0 : l.contains q = b0 at HIN
          have HB0 := Lib.hid hb0
          clear hb0
          go_wp2_with fail
          refine HIN.out.mono ?_
          rintro e w2 ⟨rfl, rfl⟩
          have NQ := NE.out wr q (HKP.out.trans HK2.out (fun _ _ h => h))
          rw [HNQ.out] at NQ
          have HNQ2 := Lib.hid NQ
          clear NQ HIN
          go_wp2_with fail
          refine HNQ2.out.mono ?_
          rintro e w2 ⟨v2, rfl, hi2', k2⟩
          have K2 := HK2.out.trans k2 (fun _ _ h => h)
          have LI := Ints.of_own (own_keep HOWN2.out k2 (fun _ _ h => h))
          obtain ⟨A2, c2, rfl, hl2, hm2, _, _, hrow⟩ := hi2'
          unfold maxLen at hm2
          have HROW := Lib.hid hrow
          have HLI := Lib.hid LI
          have HK3 := Lib.hid K2
          have HOK := Lib.hid (okAt_eq (l := l) HNDQ.out)
          rw [HB0.out] at HOK
          clear hrow LI K2 k2 HNQ2 HX2 HOWN2 HK2 x2
          go_wp2
          generalize w2 = W2 at *
          go_loopw [8, 10] (fun ok i wx => ∃ a : Nat, a ≤ ns.length ∧ i = .int .i64 a ∧ ok = .bool (!b0 && (ns.take a).all (fun n => l.contains n)) ∧ W2 = wx) (fun _ i _ => ns.length - (intOf i).toNat)
          case atStart => exact ⟨0, Nat.zero_le _, rfl, by simp, rfl⟩
          case round =>
            obtain ⟨a, ha, rfl, rfl, rfl⟩ := hrel
            by_cases hal : a < ns.length
            · obtain ⟨ad2, rfl, hsp2, hblk2, _, hcell2⟩ := HROW.out (by omega)
              obtain ⟨bb, oo, sp2⟩ := ad2
              simp only at hsp2 hblk2 hcell2
              subst hsp2
              have hck : W2.cell? ⟨bb, oo + a, none⟩ = some (.int .i64 (ns[a] : Int)) := hcell2 a _ (by rw [List.getElem?_map, List.getElem?_eq_getElem hal]; rfl)
              have HAM := Lib.hid (all_more (p := fun n => l.contains n) (List.getElem?_eq_getElem hal))
              have HIN := Lib.hid (in_any W2 _ _ l ns[a] HLI.out)
              generalize ns[a] = mm at *
              generalize l.contains mm = bm at *
              generalize hp : (ns.take a).all (fun n => l.contains n) = pa at *
              clear hcell2 hp
              generalize hB : (!b0 && pa) = B
              have HB := Lib.hid hB
              clear hB
              have gi : (0 : Int) ≤ (a : Int) := by omega
              cases B with
              | true =>
                go_wp2_with fail
                refine HIN.out.mono ?_
                rintro e w3 ⟨rfl, rfl⟩
                go_wp2
                go_roundw
                case rel => exact ⟨a + 1, by omega, by go_num, by rw [HAM.out, ← Bool.and_assoc, HB.out]; simp, by first | rfl | trivial⟩
                case measure => simp [intOf]; omega
              | false =>
                go_wp2_with fail
                refine HIN.out.mono ?_
                rintro e w3 ⟨rfl, rfl⟩
                go_wp2
                go_roundw
                case rel => exact ⟨a + 1, by omega, by go_num, by rw [HAM.out, ← Bool.and_assoc, HB.out]; simp, by first | rfl | trivial⟩
                case measure => simp [intOf]; omega
            · have hte : ns.take a = ns := List.take_of_length_le (by omega)
              rw [hte, ← HOK.out]
              clear hte
              cases hok : okAt nd l q with
              | true =>
                have HN := Lib.hid (LeastOk.yes (n := ts.length) hq hok)
                clear hok
                go_wp2
                go_roundw
                case rel => exact ⟨q, q, by omega, rfl, rfl, HN.out, HK3.out⟩
                case measure => simp [intOf]
              | false =>
                have HN := Lib.hid (LeastOk.no HLO.out hok)
                clear hok
                go_wp2
                go_roundw
                case rel => exact ⟨q, z, by omega, rfl, rfl, HN.out, HK3.out⟩
                case measure => simp [intOf]
    · have hl0 : ts.length - l.length = 0 := by omega
      have hres : res = l := by rw [← HST.out, hl0]; rfl
      subst hres
      obtain ⟨A3, c3, hv3⟩ := own_shape HOWN.out
      subst hv3
      clear hl0
      go_wp2
      go_ret
      exact ⟨_, rfl, (Ints.of_own HOWN.out).mono (fun _ _ h => by omega), HKP.out⟩
end Go.Proofs.YtfijbjbfnpadmaaDoor
