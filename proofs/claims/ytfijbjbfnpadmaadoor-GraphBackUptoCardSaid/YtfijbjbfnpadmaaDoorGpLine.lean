/-
  dockyardref07.line.
-/
import Derived.Test.YtfijbjbfnpadmaaDoorGpWord
import Derived.Test.YtfijbjbfnpadmaaDoorTgOwn
import Derived.IntWalk
import Derived.Deep.AppendLies
import Derived.Deep.RegionLaw
namespace Go.Proofs.YtfijbjbfnpadmaaDoor
open Go.RowKit

theorem line_as (l : List UInt8) : lineP l = (match l.drop (l.takeWhile wordB).length with
  | b :: r => if b = 58 ∧ l.takeWhile wordB ≠ [] then (restP r).map (fun ws => (l.takeWhile wordB, ws)) else none
  | [] => none) := rfl

/-- What of a text's bytes a cut has. -/
theorem bl_cut (s : ByteArray) (i j : Nat) : bl (s.extract i j) = ((bl s).take j).drop i := by
  unfold bl
  rw [ByteArray.data_extract, Array.toList_extract, List.extract_eq_drop_take']
theorem strinfo' : (Tryd.prog.info? 9).map (fun i => (i.zero, i.size, i.bytes)) = some (some (.string ⟨#[]⟩), 1, 16) := by kernel_rfl
theorem wlen_take (s : ByteArray) (p : Nat) : ((bl s).drop p).take (wlen s p) = ((bl s).drop p).takeWhile wordB := by
  unfold wlen
  generalize (bl s).drop p = l
  have h := congrArg (List.take (l.takeWhile wordB).length) (takeWhile_append_drop wordB l)
  rw [List.take_left] at h
  exact h.symm

/-- A target's three cells, written whole. -/
theorem tcells_box {w : World} {g : Nat} {t : TypeId} {a b c : Value} (h : Box w g t #[a, b, c]) (x y z : Value) : Box (((w.setCell ⟨g, 0, none⟩ x).setCell ⟨g, 1, none⟩ y).setCell ⟨g, 2, none⟩ z) g t #[x, y, z] := by
  have := ((h.put 0 x).put 1 y).put 2 z
  simpa using this
theorem tcells_keep (w : World) (g : Nat) (x y z : Value) : Keep (fun i => i = g) w (((w.setCell ⟨g, 0, none⟩ x).setCell ⟨g, 1, none⟩ y).setCell ⟨g, 2, none⟩ z) :=
  (((Keep.refl (fun i => i = g) w).setCell (fun _ => rfl) _).setCell (fun _ => rfl) _).setCell (fun _ => rfl) _
theorem keep_own {w w' w'' : World} {g : Nat} (h : Keep noneOf w w') (k : Keep (fun i => i = g) w' w'') (hg : w.heap.size ≤ g) : Keep noneOf w w'' := h.trans k (fun i hi e => by omega)

set_option maxRecDepth 100000 in
set_option maxHeartbeats 2000000 in
theorem refLine_any (w : World) (s : ByteArray) (hs : s.size ≤ 2097152) :
    Calls Tryd.prog 16 #[.string s] w fun e w' => ∃ t : Tg, e = .returned (.tuple #[.agg #[.string t.name, .string t.cmd, t.nv], .bool (lineP (bl s)).isSome]) ∧ (∃ A n c, t.nv = .slice A n c) ∧ Keep noneOf w w' ∧
      ∀ p, lineP (bl s) = some p → t.plain = ⟨mk p.1, ⟨#[]⟩, p.2.map mk⟩ ∧ heldT w.heap.size w' t := by
  have HW : Hid (∀ w' p, p ≤ s.size → Calls Tryd.prog 32 #[.string s, .int .i64 (p : Int)] w' fun e w'' => e = .returned (.int .i64 (wlen s p : Int)) ∧ w' = w'') := Lib.hid fun w' p hp => refWord_any w' s (by unfold maxLen; omega) p hp
  have HW0 := Lib.hid (HW.out (w.alloc (.cells #[.string ⟨#[]⟩, .string ⟨#[]⟩, .slice none 0 0] 40)) 0 (Nat.zero_le _))
  have hw0 : wlen s 0 ≤ s.size := by
    unfold wlen
    rw [← bl_length]
    exact Nat.le_trans (List.takeWhile_sublist _).length_le (by simp)
  have hl0 : ((bl s).takeWhile wordB).length = wlen s 0 := rfl
  have htk0 : (bl s).take (wlen s 0) = (bl s).takeWhile wordB := wlen_take s 0
  have hline := line_as (bl s)
  rw [hl0, ← htk0] at hline
  generalize hn : wlen s 0 = n at *
  generalize lineP (bl s) = R at *
  have HLP := Lib.hid hline
  clear hline hl0 htk0
  go_enter Tryd.func16, Tryd.ntmps16
  go_wp2_with fail
  refine HW0.out.mono ?_
  rintro e w1 ⟨rfl, rfl⟩
  clear HW0
  have q0 : (0 : Int) ≤ (n : Int) := by omega
  have q1 : (n : Int) ≤ (s.size : Int) := by omega
  have HK0 : Hid (∀ o1 o2, Keep noneOf w ((w.alloc o1).alloc o2)) := Lib.hid fun o1 o2 => ((Keep.refl noneOf w).alloc o1).alloc o2
  by_cases hz : n = 0
  · have hRn : R = none := by
      rw [HLP.out, hz]
      split
      · rw [if_neg (fun h => h.2 (by simp))]
      · rfl
    subst hRn
    subst hz
    clear HLP HW hn
    go_wp2
    have r := (Box.new w 40 #[.string ByteArray.empty, .string ⟨#[]⟩, .slice none 0 0]).alloc (.cells #[.string ByteArray.empty, .string ⟨#[]⟩, .slice none 0 0] 40)
    have r0 := r.cell 0
    have r1 := r.cell 1
    have r2 := r.cell 2
    simp only [List.getElem?_toArray, List.getElem?_cons_zero, List.getElem?_cons_succ] at r0 r1 r2
    exact bodyPost_ret (v := .tuple #[.agg #[.string ByteArray.empty, .string ⟨#[]⟩, .slice none 0 0], .bool false]) (by simp [results, Tryd.results16, go_sem, r0, r1, r2]) rfl ⟨⟨_, _, _, []⟩, rfl, ⟨_, _, _, rfl⟩, HK0.out _ _, fun p hp => by cases hp⟩
  · have g0 : ((n : Int) == 0) = false := by rw [beq_eq_false_iff_ne]; omega
    have hnz : 0 < n := Nat.pos_of_ne_zero hz
    have hne : (bl s).take n ≠ [] := fun h => hz (by
      have := congrArg List.length h
      rw [List.length_take, bl_length, List.length_nil] at this
      omega)
    have HNE := Lib.hid hne
    by_cases he : n = s.size
    · have hRn : R = none := by
        rw [HLP.out, List.drop_eq_nil_of_le (by rw [bl_length]; omega)]
      subst hRn
      have g1 : ((n : Int) == (s.size : Int)) = true := by rw [beq_iff_eq]; omega
      clear HLP HW hn hz hne he
      go_wp2
      have r := (Box.new w 40 #[.string (s.extract 0 n), .string ⟨#[]⟩, .slice none 0 0]).alloc (.cells #[.string (s.extract 0 n), .string ⟨#[]⟩, .slice none 0 0] 40)
      have r0 := r.cell 0
      have r1 := r.cell 1
      have r2 := r.cell 2
      simp only [List.getElem?_toArray, List.getElem?_cons_zero, List.getElem?_cons_succ] at r0 r1 r2
      exact bodyPost_ret (v := .tuple #[.agg #[.string (s.extract 0 n), .string ⟨#[]⟩, .slice none 0 0], .bool false]) (by simp [results, Tryd.results16, go_sem, r0, r1, r2]) rfl ⟨⟨_, _, _, []⟩, rfl, ⟨_, _, _, rfl⟩, HK0.out _ _, fun p hp => by cases hp⟩
    · have g1 : ((n : Int) == (s.size : Int)) = false := by rw [beq_eq_false_iff_ne]; omega
      have hlt : n < s.size := by omega
      have hat : (bl s)[n]? = some s[n] := byte_at hlt
      have hdrop : (bl s).drop n = s[n] :: (bl s).drop (n + 1) := by
        obtain ⟨h1, h2⟩ := List.getElem?_eq_some_iff.1 hat
        rw [List.drop_eq_getElem_cons h1, h2]
      rw [hdrop] at HLP
      by_cases hc : s[n].toNat = 58
      · have hc' : s[n] = 58 := UInt8.toNat_inj.1 hc
        have hR : R = (restP ((bl s).drop (n + 1))).map (fun ws => ((bl s).take n, ws)) := by
          rw [HLP.out]
          show (if s[n] = 58 ∧ _ then _ else _) = _
          rw [if_pos ⟨hc', HNE.out⟩]
        have HR := Lib.hid hR
        have g2 : ((s[n].toNat : Int) != 58) = false := by rw [bne_eq_false_iff_eq]; omega
        clear HLP hn hz he hne hat hdrop hc hc' hR
        go_wp2
        have hnm : bl (s.extract 0 n) = (bl s).take n := by rw [bl_cut]; rfl
        have hnms : (s.extract 0 n).size ≤ 2097152 := by
          rw [← bl_length, hnm, List.length_take, bl_length]
          omega
        generalize s.extract 0 n = nm at *
        rw [← hnm] at HR
        have HNMS := Lib.hid hnms
        have HNM := Lib.hid (show mk (bl nm) = nm from rfl)
        have hY0 := Box.new (w.alloc (.cells #[.string ⟨#[]⟩, .string ⟨#[]⟩, .slice none 0 0] 40)) 40 #[.string nm, .string ⟨#[]⟩, .slice none 0 0]
        rw [show (w.alloc (.cells #[.string ⟨#[]⟩, .string ⟨#[]⟩, .slice none 0 0] 40)).heap.size = w.heap.size + 1 from by simp] at hY0
        have HY0 := Lib.hid hY0
        have HX0 := Lib.hid ((Box.new w 40 #[.string ⟨#[]⟩, .string ⟨#[]⟩, .slice none 0 0]).alloc (.cells #[.string nm, .string ⟨#[]⟩, .slice none 0 0] 40))
        have HK1 := Lib.hid (HK0.out (.cells #[.string ⟨#[]⟩, .string ⟨#[]⟩, .slice none 0 0] 40) (.cells #[.string nm, .string ⟨#[]⟩, .slice none 0 0] 40))
        generalize (w.alloc (.cells #[.string ⟨#[]⟩, .string ⟨#[]⟩, .slice none 0 0] 40)).alloc (.cells #[.string nm, .string ⟨#[]⟩, .slice none 0 0] 40) = W1 at *
        clear hY0 hnm hnms HK0 HNE
        obtain ⟨i1, hi1, hz1, hs1, hb1⟩ := info_parts strinfo'
        go_loopw [4, 6] (fun m i wr => ∃ (p : Nat) (m' : Nat) (A : Option Addr) (c : Nat) (ns : List (List UInt8)), n + 1 ≤ p ∧ p ≤ s.size ∧ ns.length ≤ p ∧ i = .int .i64 p ∧ m = .int .i64 m' ∧ Keep noneOf w wr ∧ Box wr w.heap.size 40 #[.string ⟨#[]⟩, .string ⟨#[]⟩, .slice none 0 0] ∧ Box wr (w.heap.size + 1) 40 #[.string nm, .string ⟨#[]⟩, .slice A ns.length c] ∧ wr.ownsRow (w.heap.size + 2) 9 1 (.slice A ns.length c) ns.length ((ns.map mk).map Value.string) ∧ (∀ x ∈ ns, x.length ≤ 2097152) ∧ restP ((bl s).drop (n + 1)) = (restP ((bl s).drop p)).map (fun ws => ns ++ ws)) (fun _ i _ => s.size - (intOf i).toNat)
        case atStart => exact ⟨n + 1, n, none, 0, [], Nat.le_refl _, by omega, Nat.zero_le _, by go_num, rfl, HK1.out, HX0.out, HY0.out, World.ownsRow_nil _ _ _ _, (fun x hx => by cases hx), (by cases restP ((bl s).drop (n + 1)) <;> rfl)⟩
        case round =>
          obtain ⟨p, m', A, c, ns, hp1, hp2, hnl, rfl, rfl, hkeep, hX, hY, hown, hns, hrest⟩ := hrel
          have HKP := Lib.hid hkeep
          have HX := Lib.hid hX
          have HY := Lib.hid hY
          have HO := Lib.hid hown
          have HNS := Lib.hid hns
          have HRS := Lib.hid hrest
          clear hkeep hX hY hown hns hrest HK1 HX0 HY0
          have r0 : (0 : Int) ≤ (p : Int) := by omega
          by_cases hlt : p < s.size
          · have hat : (bl s)[p]? = some s[p] := byte_at hlt
            have hdrop : (bl s).drop p = s[p] :: (bl s).drop (p + 1) := by
              obtain ⟨h1, h2⟩ := List.getElem?_eq_some_iff.1 hat
              rw [List.drop_eq_getElem_cons h1, h2]
            by_cases h32 : s[p].toNat = 32
            · have h32' : s[p] = 32 := UInt8.toNat_inj.1 h32
              rw [hdrop, h32', rest_step] at HRS
              have g3 : ((s[p].toNat : Int) != 32) = false := by rw [bne_eq_false_iff_eq]; omega
              have HW1 := Lib.hid (HW.out wr (p + 1) (by omega))
              have hwl : ((bl s).drop (p + 1)).takeWhile wordB = ((bl s).drop (p + 1)).take (wlen s (p + 1)) := (wlen_take s (p + 1)).symm
              have hwl2 : (((bl s).drop (p + 1)).takeWhile wordB).length = wlen s (p + 1) := rfl
              have hwle : p + 1 + wlen s (p + 1) ≤ s.size := by
                have := (List.takeWhile_sublist wordB (l := (bl s).drop (p + 1))).length_le
                rw [hwl2, List.length_drop, bl_length] at this
                omega
              rw [hwl2, hwl, List.drop_drop] at HRS
              generalize wlen s (p + 1) = m at *
              rw [show (((p + 1 : Nat)) : Int) = (p : Int) + 1 from by omega] at HW1
              clear hat hdrop h32 h32' hwl hwl2
              go_wp2_with fail
              refine HW1.out.mono ?_
              rintro e w2 ⟨rfl, rfl⟩
              clear HW1
              have s0 : (0 : Int) ≤ (m : Int) := by omega
              by_cases hm0 : m = 0
              · subst hm0
                have hRn : R = none := by
                  rw [HR.out, HRS.out, List.take_zero, if_pos rfl]
                  rfl
                subst hRn
                clear HR HRS HW HO HNS
                have hX9 := HX.out
                have hY9 := HY.out
                have c0 := hY9.cell 0
                have c1 := hY9.cell 1
                have c2 := hY9.cell 2
                have d0 := hX9.cell 0
                have d1 := hX9.cell 1
                have d2 := hX9.cell 2
                have f0 := hX9.free 0
                have f1 := hX9.free 1
                have f2 := hX9.free 2
                simp only [List.getElem?_toArray, List.getElem?_cons_zero, List.getElem?_cons_succ] at c0 c1 c2 d0 d1 d2
                have HKF := Lib.hid (keep_own HKP.out (tcells_keep wr w.heap.size (.string nm) (.string ⟨#[]⟩) (.slice A ns.length c)) (Nat.le_refl _))
                have HXF := Lib.hid (tcells_box hX9 (.string nm) (.string ⟨#[]⟩) (.slice A ns.length c))
                clear hX9 hY9
                clear HX HY HKP
                go_wp2
                have r0 := HXF.out.cell 0
                have r1 := HXF.out.cell 1
                have r2 := HXF.out.cell 2
                simp only [List.getElem?_toArray, List.getElem?_cons_zero, List.getElem?_cons_succ] at r0 r1 r2
                exact bodyPost_ret (v := .tuple #[.agg #[.string nm, .string ⟨#[]⟩, .slice A ns.length c], .bool false]) (by simp [results, Tryd.results16, go_sem, r0, r1, r2]) rfl ⟨⟨_, _, _, []⟩, rfl, ⟨_, _, _, rfl⟩, HKF.out, fun p hp => by cases hp⟩
              · have g4 : ((m : Int) == 0) = false := by rw [beq_eq_false_iff_ne]; omega
                have hne2 : ((bl s).drop (p + 1)).take m ≠ [] := fun h => hm0 (by
                  have := congrArg List.length h
                  rw [List.length_take, List.length_drop, bl_length, List.length_nil] at this
                  omega)
                rw [if_neg hne2] at HRS
                have e1 : IntKind.i64.wrap ((p : Int) + 1) = (p : Int) + 1 := IntWalk.i64_in _ (by omega)
                have e2 : IntKind.i64.wrap ((p : Int) + 1 + (m : Int)) = (p : Int) + 1 + (m : Int) := IntWalk.i64_in _ (by omega)
                have e3 : (0 : Int) ≤ (p : Int) + 1 := by omega
                have e4 : (p : Int) + 1 ≤ (p : Int) + 1 + (m : Int) := by omega
                have e5 : (p : Int) + 1 + (m : Int) ≤ (s.size : Int) := by omega
                have e6 : ((p : Int) + 1).toNat = p + 1 := by omega
                have e7 : ((p : Int) + 1 + (m : Int)).toNat = p + 1 + m := by omega
                have hY9 := HY.out
                have c2 := hY9.cell 2
                simp only [List.getElem?_toArray, List.getElem?_cons_zero, List.getElem?_cons_succ] at c2
                clear hne2 hm0 hY9
                go_wp2
                have hpc : bl (s.extract (p + 1) (p + 1 + m)) = ((bl s).drop (p + 1)).take m := by
                  rw [bl_cut, List.drop_take]
                  congr 1
                  omega
                have hpcs : (s.extract (p + 1) (p + 1 + m)).size ≤ 2097152 := by
                  rw [← bl_length, hpc, List.length_take, List.length_drop, bl_length]
                  omega
                have HPC := Lib.hid hpc
                have HPS := Lib.hid hpcs
                have hlw := HX.out.lt
                have hlw2 := HY.out.lt
                have HAB : Hid (∀ w4, ((wr.alloc (.cells #[.string (s.extract (p + 1) (p + 1 + m))] 9)).drew).grownBy w4 (Value.slice A ns.length c).ownBlock → Box w4 (w.heap.size + 1) 40 #[.string nm, .string ⟨#[]⟩, .slice A ns.length c] ∧ Box w4 w.heap.size 40 #[.string ⟨#[]⟩, .string ⟨#[]⟩, .slice none 0 0]) := Lib.hid fun w4 hg =>
                  have hb : ∀ k, some k = (Value.slice A ns.length c).ownBlock → w.heap.size + 2 ≤ k := fun k hk => (own_row HO.out hk).1
                  ⟨((HY.out.alloc _).drew).keep (Keep.of_grown hg) (fun e => by have := hb _ e; omega), ((HX.out.alloc _).drew).keep (Keep.of_grown hg) (fun e => by have := hb _ e; omega)⟩
                have HOA : Hid ((wr.alloc (.cells #[.string (s.extract (p + 1) (p + 1 + m))] 9)).drew.ownsRow (w.heap.size + 2) 9 1 (.slice A ns.length c) ns.length ((ns.map mk).map Value.string)) := Lib.hid (own_keep (HO.out.alloc _) ((Keep.refl noneOf _).drew) (fun _ _ h => h))
                have fy := HY.out.free 2
                clear hpc hpcs
                go_region_law (refine step_append_lies _ (by rfl) _ _ _ (by rfl) (w.heap.size + 2) 9 i1 _ 1 16 Tryd.underlying38 hi1 hz1 hs1 hb1 rfl (by decide) (.slice A ns.length c) ns.length ((ns.map mk).map Value.string) (by rfl) HOA.out ⟨wr.heap.size, 0, none⟩ 1 1 [.string (s.extract (p + 1) (p + 1 + m))] (by rfl) (by rfl) (World.news_of_block (cs := #[.string (s.extract (p + 1) (p + 1 + m))]) (t := 9) (fr := (0, 0)) (heap_alloc_new wr _)) (by simp [Value.oneCell']) (by omega) (by unfold maxLen; omega) (by omega) (by simp; omega) (wr.heap.size + 1) (by simp) ?_; intro gg cap w4 hown' hgrow hat hlt4; obtain ⟨Y4, X4⟩ := HAB.out w4 hgrow; have y4 : w4.cell? ⟨w.heap.size + 1, 2, none⟩ = some (.slice A ns.length c) := Y4.cell 2; have f4 := Y4.free 2)
                all_goals
                  clear e1 e2 e3 e6 e7 y4 f4 fy c2
                  have kg : Keep noneOf w w4 := (HKP.out.alloc (.cells #[.string (s.extract (p + 1) (p + 1 + m))] 9)).drew.trans (Keep.of_grown hgrow) (fun i hi e => by
                    have := (own_row HO.out e).1
                    omega)
                  have ks := (Keep.refl (fun k => k = w.heap.size + 1) w4).setCell (p := ⟨w.heap.size + 1, 2, none⟩) (fun _ => rfl) (.slice (some ⟨gg, 0, none⟩) (ns.length + 1) cap)
                  obtain ⟨x, hx⟩ : ∃ x, x = ((bl s).drop (p + 1)).take m := ⟨_, rfl⟩
                  have hpx : mk x = s.extract (p + 1) (p + 1 + m) := by rw [hx, ← HPC.out]; rfl
                  have hxl : x.length ≤ 2097152 := by rw [← mk_size, hpx]; exact HPS.out
                  have hl2 : (ns ++ [x]).length = ns.length + 1 := by rw [List.length_append]; rfl
                  have HK5 := Lib.hid (keep_own kg ks (by omega))
                  have HX5 := Lib.hid (X4.keep ks (by omega))
                  have HY5 := Lib.hid (show Box (w4.setCell ⟨w.heap.size + 1, 2, none⟩ (.slice (some ⟨gg, 0, none⟩) (ns.length + 1) cap)) (w.heap.size + 1) 40 #[.string nm, .string ⟨#[]⟩, .slice (some ⟨gg, 0, none⟩) (ns ++ [x]).length cap] by rw [hl2]; exact Y4.put 2 _)
                  have HO5 := Lib.hid (show (w4.setCell ⟨w.heap.size + 1, 2, none⟩ (.slice (some ⟨gg, 0, none⟩) (ns.length + 1) cap)).ownsRow (w.heap.size + 2) 9 1 (.slice (some ⟨gg, 0, none⟩) (ns ++ [x]).length cap) (ns ++ [x]).length (((ns ++ [x]).map mk).map Value.string) by
                    rw [hl2, List.map_append, List.map_append, List.map_cons, List.map_nil, List.map_cons, List.map_nil, hpx]
                    exact own_keep hown' ks (fun j hj e => by have := (hown'.lt j hj).1; omega))
                  have HN5 := Lib.hid (show ∀ y ∈ ns ++ [x], y.length ≤ 2097152 from fun y hy => by
                    rcases List.mem_append.1 hy with h | h
                    · exact HNS.out y h
                    · rw [List.mem_singleton.1 h]; exact hxl)
                  have HR5 := Lib.hid (show restP ((bl s).drop (n + 1)) = (restP ((bl s).drop (p + 1 + m))).map (fun ws => (ns ++ [x]) ++ ws) by
                    rw [HRS.out, hx]
                    cases restP ((bl s).drop (p + 1 + m)) <;> simp)
                  have HLL := Lib.hid hl2
                  clear kg ks hown' hgrow Y4 X4 HAB HOA HKP HX HY HO HNS HRS HPC HPS hx hpx hxl hl2 hat
                  go_wp2
                  go_roundw
                  case rel => exact ⟨p + 1 + m, m, some ⟨gg, 0, none⟩, cap, ns ++ [x], by omega, hwle, by rw [HLL.out]; omega, by go_num, rfl, HK5.out, HX5.out, HY5.out, HO5.out, HN5.out, HR5.out⟩
                  case measure => simp [intOf]; omega
            · have h32' : s[p] ≠ 32 := fun e => h32 (by rw [e]; rfl)
              have hRn : R = none := by
                rw [HR.out, HRS.out, hdrop, rest_other h32']
                rfl
              subst hRn
              have g3 : ((s[p].toNat : Int) != 32) = true := by rw [bne_iff_ne]; omega
              clear HR HRS HW HO HNS hat hdrop h32 h32'
              have hX9 := HX.out
              have hY9 := HY.out
              have c0 := hY9.cell 0
              have c1 := hY9.cell 1
              have c2 := hY9.cell 2
              have d0 := hX9.cell 0
              have d1 := hX9.cell 1
              have d2 := hX9.cell 2
              have f0 := hX9.free 0
              have f1 := hX9.free 1
              have f2 := hX9.free 2
              simp only [List.getElem?_toArray, List.getElem?_cons_zero, List.getElem?_cons_succ] at c0 c1 c2 d0 d1 d2
              have HKF := Lib.hid (keep_own HKP.out (tcells_keep wr w.heap.size (.string nm) (.string ⟨#[]⟩) (.slice A ns.length c)) (Nat.le_refl _))
              have HXF := Lib.hid (tcells_box hX9 (.string nm) (.string ⟨#[]⟩) (.slice A ns.length c))
              clear hX9 hY9
              clear HX HY HKP
              go_wp2
              have r0 := HXF.out.cell 0
              have r1 := HXF.out.cell 1
              have r2 := HXF.out.cell 2
              simp only [List.getElem?_toArray, List.getElem?_cons_zero, List.getElem?_cons_succ] at r0 r1 r2
              exact bodyPost_ret (v := .tuple #[.agg #[.string nm, .string ⟨#[]⟩, .slice A ns.length c], .bool false]) (by simp [results, Tryd.results16, go_sem, r0, r1, r2]) rfl ⟨⟨_, _, _, []⟩, rfl, ⟨_, _, _, rfl⟩, HKF.out, fun p hp => by cases hp⟩
          · have hpn : p = s.size := by omega
            have hd : (bl s).drop p = [] := List.drop_eq_nil_of_le (by rw [bl_length]; omega)
            rw [hd, rest_nil] at HRS
            have hRn : R = some (bl nm, ns) := by
              rw [HR.out, HRS.out]
              simp
            subst hRn
            have hkn : ¬ ((p : Int) < (s.size : Int)) := by omega
            clear HR HRS HW hd hpn hlt
            have hX9 := HX.out
            have hY9 := HY.out
            have c0 := hY9.cell 0
            have c1 := hY9.cell 1
            have c2 := hY9.cell 2
            have d0 := hX9.cell 0
            have d1 := hX9.cell 1
            have d2 := hX9.cell 2
            have f0 := hX9.free 0
            have f1 := hX9.free 1
            have f2 := hX9.free 2
            simp only [List.getElem?_toArray, List.getElem?_cons_zero, List.getElem?_cons_succ] at c0 c1 c2 d0 d1 d2
            have kt := tcells_keep wr w.heap.size (.string nm) (.string ⟨#[]⟩) (.slice A ns.length c)
            have HKF := Lib.hid (keep_own HKP.out kt (Nat.le_refl _))
            have HXF := Lib.hid (tcells_box hX9 (.string nm) (.string ⟨#[]⟩) (.slice A ns.length c))
            have HOF := Lib.hid (own_keep HO.out kt (fun j hj e => by have := (HO.out.lt j hj).1; omega))
            clear hX9 hY9 kt HX HY HKP HO
            go_wp2
            have r0 := HXF.out.cell 0
            have r1 := HXF.out.cell 1
            have r2 := HXF.out.cell 2
            simp only [List.getElem?_toArray, List.getElem?_cons_zero, List.getElem?_cons_succ] at r0 r1 r2
            refine bodyPost_ret (v := .tuple #[.agg #[.string nm, .string ⟨#[]⟩, .slice A ns.length c], .bool true]) (by simp [results, Tryd.results16, go_sem, r0, r1, r2]) rfl ⟨⟨nm, ⟨#[]⟩, .slice A ns.length c, ns.map mk⟩, rfl, ⟨_, _, _, rfl⟩, HKF.out, ?_⟩
            refine ⟨by rw [HNM.out]; rfl, ⟨show nm.size ≤ maxLen by unfold maxLen; have := HNMS.out; omega, Nat.zero_le _, by rw [List.length_map]; exact own_base HOF.out (by omega), fun y hy => ?_⟩⟩
            obtain ⟨x, hx, rfl⟩ := List.mem_map.1 hy
            have := HNS.out x hx
            rw [mk_size]
            unfold maxLen
            omega
      · have hc' : s[n] ≠ 58 := fun e => hc (by rw [e]; rfl)
        have hRn : R = none := by
          rw [HLP.out]
          show (if s[n] = 58 ∧ _ then _ else _) = _
          rw [if_neg (fun h => hc' h.1)]
        subst hRn
        have g2 : ((s[n].toNat : Int) != 58) = true := by rw [bne_iff_ne]; omega
        clear HLP HW hn hz he hne hat hdrop hc hc'
        go_wp2
        have r := (Box.new w 40 #[.string (s.extract 0 n), .string ⟨#[]⟩, .slice none 0 0]).alloc (.cells #[.string (s.extract 0 n), .string ⟨#[]⟩, .slice none 0 0] 40)
        have r0 := r.cell 0
        have r1 := r.cell 1
        have r2 := r.cell 2
        simp only [List.getElem?_toArray, List.getElem?_cons_zero, List.getElem?_cons_succ] at r0 r1 r2
        exact bodyPost_ret (v := .tuple #[.agg #[.string (s.extract 0 n), .string ⟨#[]⟩, .slice none 0 0], .bool false]) (by simp [results, Tryd.results16, go_sem, r0, r1, r2]) rfl ⟨⟨_, _, _, []⟩, rfl, ⟨_, _, _, rfl⟩, HK0.out _ _, fun p hp => by cases hp⟩
end Go.Proofs.YtfijbjbfnpadmaaDoor
