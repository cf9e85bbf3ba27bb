/-
  dockyardref07.Parse.
-/
import Derived.Test.YtfijbjbfnpadmaaDoorGpLine
import Derived.Test.YtfijbjbfnpadmaaDoorGpParseM
import Derived.Test.YtfijbjbfnpadmaaDoorGrRCheck
import Derived.Deep.DeepCutAuto
namespace Go.Proofs.YtfijbjbfnpadmaaDoor
open Go.RowKit

section
variable {P : Program} (w : World)
/-- An append of whatever many elements, none too, to a slice that is not nil. -/
theorem step_append_some {ops : Array Oper} {o : Oper} {a : Act} {K : Act → World → Prop} {Q : Exit → Act → World → Prop} {E : Prop} (hgd : o.guard = none) (s x : Operand) (t : TypeId)
    (ho : o.op = .call { callee := .builtin .append, args := #[s, x], argTypes := #[t, t] })
    (base : Nat) (e : TypeId) (i : TypeInfo) (z : Value) (size bytes : Nat) (ht : P.underlying t = some (.slice e)) (hi : P.info? e = some i) (hz : i.zero = some z)
    (hsize : i.size = size) (hby : i.bytes = bytes) (hzs : z.cells.size = size) (hsz : 0 < size)
    (v : Value) (n : Nat) (xs : List Value) (hs : a.eval s = v) (hown : w.ownsRow base e size v n xs)
    (ad : Addr) (m c : Nat) (news : List Value) (hx : a.eval x = .slice (some ad) m c) (hl : news.length = m * size) (hnews : ∀ j u, news[j]? = some u → w.cell? (ad.add j) = some u) (h1 : ∀ u ∈ news, u.oneCell' = true)
    (hm : v ≠ .slice none 0 0) (h63 : n + m ≤ maxLen) (hbytes : (n + m) * bytes ≤ 140737488355328) (hbase : base ≤ w.heap.size) (H : Nat) (hH : w.heap.size = H)
    (h : ∀ g cap w', w'.ownsRow base e size (.slice (some ⟨g, 0, none⟩) (n + m) cap) (n + m) (xs ++ news) → w.grownBy w' v.ownBlock → (v.ownBlock = some g ∨ g = H) → g < w'.heap.size → K (a.put o.dst (.slice (some ⟨g, 0, none⟩) (n + m) cap)) w') :
    if Region.wanted o (yielded ops a.tmps) = true then Oper.wp P o a w K Q else E := by
  have hw : Region.wanted o (yielded ops a.tmps) = true := by simp [Region.wanted, hgd]
  rw [if_pos hw]
  obtain ⟨v', w', hr, h2, h3, h4, h5⟩ := run_append_own_at (P := P) w base t o.type e i z size bytes ht hi hz hsize hby hzs hsz v n xs hown ad m c news hl hnews h1 h63 hbytes hbase
  have h6 : ∃ g cap, v' = .slice (some ⟨g, 0, none⟩) (n + m) cap ∧ g < w'.heap.size := by
    rcases h2.2 with ⟨hn, _⟩ | ⟨g, cap, cur, hv, _, hg, _⟩
    · exact absurd (h4.1 hn).1 hm
    · exact ⟨g, cap, hv, (Array.getElem?_eq_some_iff.1 hg).1⟩
  obtain ⟨g, cap, rfl, hlt⟩ := h6
  have h7 : v.ownBlock = some g ∨ g = H := by
    rcases h5 with h5 | h5
    · exact .inl (by rw [← h5]; rfl)
    · right
      have : g = w.heap.size := by simpa [Value.ownBlock] using h5
      rw [this, hH]
  unfold Oper.wp execOp
  simp only [ho, resolve, invoke, builtin, Sem.run_bind, Sem.run_pure, Result.andThen_ok, List.map_toArray, List.map_cons, List.map_nil, hs, hx, hr]
  exact h g cap w' h2 h3 h7 hlt
end

/-- What is behind a call that reads a text. -/
def ToldGraph (r : List Pt × Int) (w : World) (e : Ending) (w' : World) : Prop := ∃ A c ts, e = .returned (.tuple #[.agg #[.slice A ts.length c], .int .i64 r.2]) ∧ ts.map Tg.plain = r.1 ∧ Tgs w' (fun k => w.heap.size ≤ k) (.slice A ts.length c) ts ∧ Keep noneOf w w'
theorem told_none {r : List Pt × Int} {w w' : World} (h : r.1 = []) (k : Keep noneOf w w') : ToldGraph r w (.returned (.tuple #[.agg #[.slice none 0 0], .int .i64 r.2])) w' :=
  ⟨none, 0, [], rfl, h.symm, ⟨⟨none, 0, rfl, Nat.le_refl _, Nat.zero_le _, fun _ => rfl, rfl, fun h => absurd h (by simp)⟩, fun t ht => by cases ht⟩, k⟩
theorem Tgs.mono' {w : World} {D D' : Nat → Prop} {v : Value} {ts : List Tg} (h : Tgs w D v ts) (hD : ∀ i, i < w.heap.size → D i → D' i) : Tgs w D' v ts :=
  ⟨h.1.mono hD, fun t ht => ⟨(h.2 t ht).1, (h.2 t ht).2.1, (h.2 t ht).2.2.1.mono hD, (h.2 t ht).2.2.2⟩⟩
theorem gput {w : World} {g : Nat} {t : TypeId} {a : Value} (h : Box w g t #[a]) (x : Value) : Box (w.setCell ⟨g, 0, none⟩ x) g t #[x] := by
  have := h.put 0 x
  simpa using this
theorem gkeep (w : World) (g : Nat) (x : Value) : Keep (fun i => i = g) w (w.setCell ⟨g, 0, none⟩ x) := (Keep.refl (fun i => i = g) w).setCell (fun _ => rfl) _

theorem box_news {w : World} {g : Nat} {t : TypeId} {x y z : Value} (hb : Box w g t #[x, y, z]) : ∀ j u, [x, y, z][j]? = some u → w.cell? ((⟨g, 0, none⟩ : Addr).add j) = some u := by
  intro j u hu
  rw [Addr.add]
  split
  · rename_i h0
    subst h0
    rw [hb.cell]
    simpa using hu
  · show w.cell? ⟨g, 0 + j, none⟩ = some u
    rw [Nat.zero_add, hb.cell]
    simpa using hu
theorem box3t (w : World) (t : TypeId) (x y z : Value) :
    (w.alloc (.cells #[x, y, z] t)).cell? ⟨w.heap.size, 0, none⟩ = some x ∧ (w.alloc (.cells #[x, y, z] t)).cell? ⟨w.heap.size, 1, none⟩ = some y ∧ (w.alloc (.cells #[x, y, z] t)).cell? ⟨w.heap.size, 2, none⟩ = some z := by
  have h := Box.new w t #[x, y, z]
  exact ⟨h.cell 0, h.cell 1, h.cell 2⟩

set_option maxRecDepth 100000 in
set_option maxHeartbeats 4000000 in
theorem refParse_any (w : World) (s : ByteArray) (hs : s.size ≤ 2097152) : Calls Tryd.prog 8 #[.string s] w (ToldGraph (parseRes (bl s)) w) := by
  have HRES := Lib.hid (show parseRes (bl s) = (match parseP (bl s) with
    | none => ([], 70)
    | some ps => if grCheck ps = 0 then (ps, 0) else ([], grCheck ps)) from rfl)
  have HP0 := Lib.hid (show parseP (bl s) = parseL (splitB 10 ((bl s).drop 0)) (([] : List Tg).map Tg.plain) from rfl)
  generalize parseRes (bl s) = RS at *
  generalize parseP (bl s) = PP at *
  obtain ⟨i39, hi39, hz39, hs39, hb39⟩ := info_parts tginfo
  have HX0 := Lib.hid ((Box.new w 24 #[.slice none 0 0]).alloc (.cells #[.slice none 0 0] 24))
  have hY0 := Box.new (w.alloc (.cells #[.slice none 0 0] 24)) 24 #[.slice none 0 0]
  rw [show (w.alloc (.cells #[.slice none 0 0] 24)).heap.size = w.heap.size + 1 from by simp] at hY0
  have HY0 := Lib.hid hY0
  have HK0 := Lib.hid (((Keep.refl noneOf w).alloc (.cells #[.slice none 0 0] 24)).alloc (.cells #[.slice none 0 0] 24))
  clear hY0
  go_enter Tryd.func8, Tryd.ntmps8
  go_wp2
  generalize (w.alloc (.cells #[.slice none 0 0] 24)).alloc (.cells #[.slice none 0 0] 24) = W1 at *
  go_loopw [5] (fun i wr => ∃ (p : Nat) (A : Option Addr) (c : Nat) (ts : List Tg), p ≤ s.size ∧ ts.length ≤ p ∧ i = .int .i64 p ∧ Keep noneOf w wr ∧ Box wr w.heap.size 24 #[.slice none 0 0] ∧ Box wr (w.heap.size + 1) 24 #[.slice A ts.length c] ∧ wr.ownsRow (w.heap.size + 2) 40 3 (.slice A ts.length c) ts.length (ts.flatMap Tg.cells) ∧ (∀ t ∈ ts, heldT (w.heap.size + 2) wr t) ∧ PP = parseL (splitB 10 ((bl s).drop p)) (ts.map Tg.plain)) (fun i _ => s.size - (intOf i).toNat)
  case atStart => exact ⟨0, none, 0, [], Nat.zero_le _, Nat.zero_le _, rfl, HK0.out, HX0.out, HY0.out, World.ownsRow_nil _ _ _ _, (fun t ht => by cases ht), HP0.out⟩
  case round =>
    obtain ⟨p, A, c, ts, hp, hts, rfl, hkeep, hX, hY, hown, hheld, hPP⟩ := hrel
    have HKP := Lib.hid hkeep
    have HX := Lib.hid hX
    have HY := Lib.hid hY
    have HO := Lib.hid hown
    have HHE := Lib.hid hheld
    have HPP := Lib.hid hPP
    clear hkeep hX hY hown hheld hPP HX0 HY0 HK0 HP0
    have r0 : (0 : Int) ≤ (p : Int) := by omega
    by_cases hlt : p < s.size
    · go_wp2
      go_loop [6] (fun i => ∃ e : Nat, p ≤ e ∧ e ≤ s.size ∧ i = .int .i64 e ∧ ∀ j b, j < e - p → ((bl s).drop p)[j]? = some b → b ≠ 10) (fun i => s.size - (intOf i).toNat)
      case atStart => exact ⟨p, Nat.le_refl _, hp, rfl, fun j b hj _ => absurd hj (by omega)⟩
      case round =>
        obtain ⟨e, he1, he2, rfl, hno⟩ := hrel
        have HNO := Lib.hid hno
        clear hno
        have t0 : (0 : Int) ≤ (e : Int) := by omega
        by_cases hel : e < s.size
        · have hat : (bl s)[e]? = some s[e] := byte_at hel
          have hat2 : ((bl s).drop p)[e - p]? = some s[e] := by
            rw [List.getElem?_drop, show p + (e - p) = e by omega]
            exact hat
          by_cases h10 : s[e].toNat = 10
          · have h10' : s[e] = 10 := UInt8.toNat_inj.1 h10
            rw [h10'] at hat2
            have hstep := parse_line (ts.map Tg.plain) HNO.out hat2
            rw [← HPP.out, List.drop_drop, show p + (e - p + 1) = e + 1 by omega] at hstep
            have hcut : bl (s.extract p e) = ((bl s).drop p).take (e - p) := by rw [bl_cut, List.drop_take]
            rw [← hcut] at hstep
            have hcs : (s.extract p e).size = e - p := by
              rw [← bl_length, hcut, List.length_take, List.length_drop, bl_length]
              omega
            have g1 : ((s[e].toNat : Int) != 10) = false := by rw [bne_eq_false_iff_eq]; omega
            have g2 : ((e : Int) == (s.size : Int)) = false := by rw [beq_eq_false_iff_ne]; omega
            have HSTEP := Lib.hid hstep
            have u0 : (p : Int) ≤ (e : Int) := by omega
            have u1 : (e : Int) ≤ (s.size : Int) := by omega
            clear hat hat2 h10 h10' hstep hcut HNO HPP
            have HCS := Lib.hid hcs
            have hemp : (s.extract p e).toList.isEmpty = decide (e - p = 0) := by
              rw [Bool.eq_iff_iff, decide_eq_true_eq, ← hcs, ByteArray.toList_eq, List.isEmpty_iff, ← bl_length]
              exact List.length_eq_zero_iff.symm
            by_cases hep : e - p = 0
            · rw [decide_eq_true hep] at hemp
              have hPn : PP = none := by
                rw [HSTEP.out]
                have hl : bl (s.extract p e) = [] := List.eq_nil_of_length_eq_zero (by rw [bl_length, hcs, hep])
                rw [hl]
                rfl
              subst hPn
              have hRS : RS = ([], 70) := HRES.out
              subst hRS
              clear HRES HSTEP hcs HCS hep
              have hX9 := HX.out
              have d0 := hX9.cell 0
              have f0 := hX9.free 0
              simp only [List.getElem?_toArray, List.getElem?_cons_zero] at d0
              have HKF := Lib.hid (keep_own HKP.out (gkeep wr w.heap.size (.slice none 0 0)) (Nat.le_refl _))
              have HXF := Lib.hid (gput hX9 (.slice none 0 0))
              clear hX9 HX HKP HY HO HHE
              go_wp2
              have r9 := HXF.out.cell 0
              simp only [List.getElem?_toArray, List.getElem?_cons_zero] at r9
              exact bodyPost_ret (v := .tuple #[.agg #[.slice none 0 0], .int .i64 70]) (by simp [results, Tryd.results8, go_sem, r9]) rfl (told_none rfl HKF.out)
            · rw [decide_eq_false hep] at hemp
              have hpe : p < e := by omega
              have HCN := Lib.hid (show bl (s.extract p e) = bl (s.extract p e) from rfl)
              clear hcs hep
              go_upto_region 11 with fail
              generalize s.extract p e = ln at *
              have hls : 0 < ln.size := by rw [HCS.out]; omega
              have hl0 : ((0 : Nat) : Int) < (ln.size : Int) := by omega
              have hlb : bl ln = ln[0] :: (bl ln).drop 1 := by
                have h1 : (bl ln)[0]? = some ln[0] := byte_at hls
                obtain ⟨h2, h3⟩ := List.getElem?_eq_some_iff.1 h1
                rw [← h3, ← List.drop_eq_getElem_cons h2, List.drop_zero]
              by_cases h9 : ln[0].toNat = 9
              · have g3 : ((ln[0].toNat : Int) == 9) = true := by rw [beq_iff_eq]; omega
                have h9' : ln[0] = 9 := UInt8.toNat_inj.1 h9
                have hadd : addLineP (ts.map Tg.plain) (bl ln) = (match (ts.map Tg.plain).getLast? with
                    | none => none
                    | some t => if (bl ln).drop 1 = [] ∨ t.cmd.size ≠ 0 then none else some ((ts.map Tg.plain).dropLast ++ [⟨t.name, mk ((bl ln).drop 1), t.needs⟩])) := by
                  conv => lhs; rw [hlb]
                  show (if ln[0] = 9 then _ else _) = _
                  rw [if_pos h9']
                  rfl
                have HADD := Lib.hid hadd
                have y0 := HY.out.cell 0
                simp only [List.getElem?_toArray, List.getElem?_cons_zero] at y0
                clear hadd hlb h9 h9'
                by_cases hz : ts.length = 0
                · have hts0 : ts = [] := List.eq_nil_of_length_eq_zero hz
                  have q3 : ((ts.length : Int) - 1 < 0) := by omega
                  have hPn : PP = none := by
                    rw [HSTEP.out, HADD.out, hts0]
                    rfl
                  subst hPn
                  have hRS : RS = ([], 70) := HRES.out
                  subst hRS
                  clear HRES HSTEP HADD hts0 hz
                  have hX9 := HX.out
                  have d0 := hX9.cell 0
                  have f0 := hX9.free 0
                  simp only [List.getElem?_toArray, List.getElem?_cons_zero] at d0
                  have HKF := Lib.hid (keep_own HKP.out (gkeep wr w.heap.size (.slice none 0 0)) (Nat.le_refl _))
                  have HXF := Lib.hid (gput hX9 (.slice none 0 0))
                  clear hX9 HX HKP HY HO HHE
                  go_wp2
                  have r9 := HXF.out.cell 0
                  simp only [List.getElem?_toArray, List.getElem?_cons_zero] at r9
                  exact bodyPost_ret (v := .tuple #[.agg #[.slice none 0 0], .int .i64 70]) (by simp [results, Tryd.results8, go_sem, r9]) rfl (told_none rfl HKF.out)
                · have hlast : (ts.map Tg.plain).getLast? = some (ts.getD (ts.length - 1) ⟨⟨#[]⟩, ⟨#[]⟩, .slice none 0 0, []⟩).plain := by
                    rw [List.getLast?_eq_getElem?, List.getElem?_map, List.length_map, List.getD_eq_getElem?_getD, List.getElem?_eq_getElem (by omega)]
                    rfl
                  have htm : ts[ts.length - 1]? = some (ts.getD (ts.length - 1) ⟨⟨#[]⟩, ⟨#[]⟩, .slice none 0 0, []⟩) := by
                    rw [List.getD_eq_getElem?_getD, List.getElem?_eq_getElem (by omega)]
                    rfl
                  generalize ts.getD (ts.length - 1) ⟨⟨#[]⟩, ⟨#[]⟩, .slice none 0 0, []⟩ = t at *
                  have HTM := Lib.hid htm
                  have HLA := Lib.hid hlast
                  obtain ⟨m, hm⟩ : ∃ m, m = ts.length - 1 := ⟨_, rfl⟩
                  have HM := Lib.hid (show ts.length = m + 1 by omega)
                  rw [← hm] at HTM
                  have q3 : ¬ ((ts.length : Int) - 1 < 0) := by omega
                  have q4 : (m : Int) = (ts.length : Int) - 1 := by omega
                  clear hlast htm
                  by_cases h1 : ln.size = 1
                  · have g4 : ((ln.size : Int) == 1) = true := by rw [beq_iff_eq]; omega
                    have hd : (bl ln).drop 1 = [] := List.drop_eq_nil_of_le (by rw [bl_length]; omega)
                    have hPn : PP = none := by
                      rw [HSTEP.out, HADD.out, HLA.out, hd]
                      rfl
                    subst hPn
                    have hRS : RS = ([], 70) := HRES.out
                    subst hRS
                    clear HRES HSTEP HADD hd h1 hz HTM HLA hm HM q4
                    have hX9 := HX.out
                    have d0 := hX9.cell 0
                    have f0 := hX9.free 0
                    simp only [List.getElem?_toArray, List.getElem?_cons_zero] at d0
                    have HKF := Lib.hid (keep_own HKP.out (gkeep wr w.heap.size (.slice none 0 0)) (Nat.le_refl _))
                    have HXF := Lib.hid (gput hX9 (.slice none 0 0))
                    clear hX9 HX HKP HY HO HHE
                    go_wp2
                    have r9 := HXF.out.cell 0
                    simp only [List.getElem?_toArray, List.getElem?_cons_zero] at r9
                    exact bodyPost_ret (v := .tuple #[.agg #[.slice none 0 0], .int .i64 70]) (by simp [results, Tryd.results8, go_sem, r9]) rfl (told_none rfl HKF.out)
                  · have g4 : ((ln.size : Int) == 1) = false := by rw [beq_eq_false_iff_ne]; omega
                    have hTG := Tgs.of_held HO.out HHE.out
                    obtain ⟨A', c', hv', hl', hm', _, _, hrow⟩ := hTG.1
                    obtain ⟨rfl, rfl⟩ : A = A' ∧ c = c' := by simpa using hv'
                    obtain ⟨ad, rfl, hsp, hblk, hDb, hcell⟩ := hrow (by omega)
                    obtain ⟨b, o, sp⟩ := ad
                    simp only at hsp hblk hDb hcell
                    subst hsp
                    unfold maxLen at hm'
                    obtain ⟨c0, c1, c2⟩ := tgs_at (Keep.refl noneOf wr) hblk hcell HTM.out
                    have hth := HHE.out t (List.mem_of_getElem? HTM.out)
                    obtain ⟨nm, cm, nv, ss⟩ := t
                    obtain ⟨A5, c5, hnv⟩ := own_shape hth.2.2.1
                    simp only at hnv c0 c1 c2
                    subst hnv
                    have z0 : (0 : Int) ≤ (ts.length : Int) - 1 := by omega
                    have z1 : (ts.length : Int) - 1 < (ts.length : Int) := by omega
                    have z2 : ((ts.length : Int) - 1).toNat = m := by omega
                    have HTH := Lib.hid hth
                    clear hrow hcell hv' hTG hth
                    by_cases hcm : cm.size = 0
                    · have g5 : cm.toList.isEmpty = true := by
                        cases hx : cm.toList.isEmpty with
                        | true => rfl
                        | false =>
                          have := str_some cm
                          rw [hx, decide_eq_false (fun h => h hcm)] at this
                          cases this
                      have hdne : (bl ln).drop 1 ≠ [] := fun h => h1 (by
                        have := congrArg List.length h
                        rw [List.length_drop, bl_length, List.length_nil] at this
                        omega)
                      have hPP : PP = parseL (splitB 10 ((bl s).drop (e + 1))) ((ts.map Tg.plain).dropLast ++ [⟨nm, mk ((bl ln).drop 1), ss⟩]) := by
                        rw [HSTEP.out, HADD.out, HLA.out]
                        show Option.bind (if _ then _ else _) _ = _
                        rw [if_neg (fun h => h.elim hdne (fun h => h hcm))]
                        rfl
                      have HPP := Lib.hid hPP
                      clear hPP hdne HADD HSTEP hm q4 hz h1 hcm HLA
                      have hnew := Box.new wr 40 #[.string nm, .string (ln.extract 1 ln.size), .slice A5 ss.length c5]
                      have HNEW := Lib.hid hnew
                      have HKW := Lib.hid (HKP.out.alloc (.cells #[.string nm, .string (ln.extract 1 ln.size), .slice A5 ss.length c5] 40))
                      have HYW := Lib.hid (HY.out.alloc (.cells #[.string nm, .string (ln.extract 1 ln.size), .slice A5 ss.length c5] 40))
                      have HXW := Lib.hid (HX.out.alloc (.cells #[.string nm, .string (ln.extract 1 ln.size), .slice A5 ss.length c5] 40))
                      have hwy := HY.out.lt
                      have hcw : ∀ j u, ((ts.take m).flatMap Tg.cells)[j]? = some u → (wr.alloc (.cells #[.string nm, .string (ln.extract 1 ln.size), .slice A5 ss.length c5] 40)).cell? ⟨b, o + j, none⟩ = some u := fun j u hu => by
                        obtain ⟨A', c', hv', _, _, _, _, hrow⟩ := (Tgs.of_held HO.out HHE.out).1
                        obtain ⟨e1, rfl⟩ : some (⟨b, o, none⟩ : Addr) = A' ∧ c = c' := by simpa using hv'
                        obtain ⟨ad, hA, _, hblk2, _, hcell2⟩ := hrow (by omega)
                        rw [← e1] at hA
                        injection hA with hA
                        subst hA
                        have hle : ((ts.take m).flatMap Tg.cells).length ≤ j → False := fun h => by
                          rw [List.getElem?_eq_none h] at hu
                          cases hu
                        have hpre : (ts.flatMap Tg.cells)[j]? = some u := by
                          have e2 : ts.flatMap Tg.cells = (ts.take m).flatMap Tg.cells ++ (ts.drop m).flatMap Tg.cells := by rw [← List.flatMap_append, List.take_append_drop]
                          rw [e2, List.getElem?_append_left (Nat.lt_of_not_le hle)]
                          exact hu
                        exact (((Keep.refl noneOf wr).alloc (.cells #[.string nm, .string (ln.extract 1 ln.size), .slice A5 ss.length c5] 40)).cell (p := ⟨b, o + j, none⟩) hblk2 id).trans (hcell2 j u hpre)
                      have HHW := Lib.hid (show ∀ x ∈ ts, heldT (w.heap.size + 2) (wr.alloc (.cells #[.string nm, .string (ln.extract 1 ln.size), .slice A5 ss.length c5] 40)) x from fun x hx => (HHE.out x hx).keep ((Keep.refl noneOf wr).alloc (.cells #[.string nm, .string (ln.extract 1 ln.size), .slice A5 ss.length c5] 40)) (fun _ _ h => h.elim))
                      have hbW : b < (wr.alloc (.cells #[.string nm, .string (ln.extract 1 ln.size), .slice A5 ss.length c5] 40)).heap.size := Nat.lt_of_lt_of_le hblk ((Keep.refl noneOf wr).alloc (.cells #[.string nm, .string (ln.extract 1 ln.size), .slice A5 ss.length c5] 40)).size
                      have hwr2 : w.heap.size + 2 ≤ (wr.alloc (.cells #[.string nm, .string (ln.extract 1 ln.size), .slice A5 ss.length c5] 40)).heap.size := by
                        simp
                        omega
                      have HCW := Lib.hid hcw
                      clear hnew hcw
                      go_wp2
                      generalize wr.alloc (.cells #[.string nm, .string (ln.extract 1 ln.size), .slice A5 ss.length c5] 40) = W at *
                      have t0 := HNEW.out.cell 0
                      have t1 := HNEW.out.cell 1
                      have t2 := HNEW.out.cell 2
                      have y5 := HYW.out.cell 0
                      have f5 := HYW.out.free 0
                      simp only [List.getElem?_toArray, List.getElem?_cons_zero, List.getElem?_cons_succ] at t0 t1 t2 y5
                      have hT9 := HNEW.out.lt
                      have hB1 := HYW.out.lt
                      generalize wr.heap.size = T9 at *
                      have z3 : (ts.length : Int) - 1 ≤ (c : Int) := by omega
                      have z6 : (1 : Int) ≤ (ts.length : Int) := by omega
                      have MKC : ∀ w', Keep noneOf W w' → w'.cell? ⟨w.heap.size + 1, 0, none⟩ = some (.slice (some ⟨b, o, none⟩) ts.length c) ∧ w'.cell? ⟨T9, 0, none⟩ = some (.string nm) ∧ w'.cell? ⟨T9, 1, none⟩ = some (.string (ln.extract 1 ln.size)) ∧ w'.cell? ⟨T9, 2, none⟩ = some (.slice A5 ss.length c5) := fun w' k' => ⟨(k'.cell (p := ⟨w.heap.size + 1, 0, none⟩) hB1 id).trans y5, (k'.cell (p := ⟨T9, 0, none⟩) hT9 id).trans t0, (k'.cell (p := ⟨T9, 1, none⟩) hT9 id).trans t1, (k'.cell (p := ⟨T9, 2, none⟩) hT9 id).trans t2⟩
                      obtain ⟨m0, m1, m2, m3⟩ := MKC _ ((Keep.refl noneOf W).alloc (.cells #[] 40))
                      obtain ⟨n0, n1, n2, n3⟩ := MKC _ ((Keep.refl noneOf W).alloc (.cells #[.string nm, .string (ln.extract 1 ln.size), .slice A5 ss.length c5] 40))
                      obtain ⟨p0, p1, p2, p3⟩ := MKC _ (((Keep.refl noneOf W).alloc (.cells #[] 40)).alloc (.cells #[.string nm, .string (ln.extract 1 ln.size), .slice A5 ss.length c5] 40))
                      obtain ⟨q0', q1', q2', q3'⟩ := MKC _ (((Keep.refl noneOf W).alloc (.cells #[.string nm, .string (ln.extract 1 ln.size), .slice A5 ss.length c5] 40)).alloc (.cells #[] 40))
                      clear MKC
                      clear c0 c1 c2 y0 HKP HX HY
                      have HFIN : Hid (∀ (w5 : World) (g2 cap2 : Nat), Keep noneOf W w5 → w5.ownsRow W.heap.size 40 3 (.slice (some ⟨g2, 0, none⟩) (m + 1) cap2) (m + 1) ((ts.take m).flatMap Tg.cells ++ [.string nm, .string (ln.extract 1 ln.size), .slice A5 ss.length c5]) →
                          ∃ ts2 : List Tg, ts2.length = m + 1 ∧ Keep noneOf w (w5.setCell ⟨w.heap.size + 1, 0, none⟩ (.slice (some ⟨g2, 0, none⟩) (m + 1) cap2)) ∧ Box (w5.setCell ⟨w.heap.size + 1, 0, none⟩ (.slice (some ⟨g2, 0, none⟩) (m + 1) cap2)) w.heap.size 24 #[.slice none 0 0] ∧ Box (w5.setCell ⟨w.heap.size + 1, 0, none⟩ (.slice (some ⟨g2, 0, none⟩) (m + 1) cap2)) (w.heap.size + 1) 24 #[.slice (some ⟨g2, 0, none⟩) ts2.length cap2] ∧ (w5.setCell ⟨w.heap.size + 1, 0, none⟩ (.slice (some ⟨g2, 0, none⟩) (m + 1) cap2)).ownsRow (w.heap.size + 2) 40 3 (.slice (some ⟨g2, 0, none⟩) ts2.length cap2) ts2.length (ts2.flatMap Tg.cells) ∧ (∀ x ∈ ts2, heldT (w.heap.size + 2) (w5.setCell ⟨w.heap.size + 1, 0, none⟩ (.slice (some ⟨g2, 0, none⟩) (m + 1) cap2)) x) ∧ PP = parseL (splitB 10 ((bl s).drop (e + 1))) (ts2.map Tg.plain)) := Lib.hid fun w5 g2 cap2 k5 hown2 => by
                        have hlm : (ts.take m).length = m := by rw [List.length_take]; omega
                        have hl2 : (ts.take m ++ [(⟨nm, ln.extract 1 ln.size, .slice A5 ss.length c5, ss⟩ : Tg)]).length = m + 1 := by rw [List.length_append, hlm]; rfl
                        have ks := gkeep w5 (w.heap.size + 1) (.slice (some ⟨g2, 0, none⟩) (m + 1) cap2)
                        have hY5 := HYW.out.keep k5 id
                        have hset : ∀ i, i < w5.heap.size → i = w.heap.size + 1 → ∃ cs fz, w5.heap[i]? = some (.cells cs 40 fz) ∨ w5.heap[i]? = some (.cells cs 24 fz) := fun i hi e => by
                          subst e
                          exact ⟨_, _, .inr hY5⟩
                        refine ⟨ts.take m ++ [(⟨nm, ln.extract 1 ln.size, .slice A5 ss.length c5, ss⟩ : Tg)], hl2, keep_own (HKW.out.trans k5 (fun _ _ h => h)) ks (by omega), (HXW.out.keep k5 id).keep ks (by omega), ?_, ?_, fun x hx => ?_, ?_⟩
                        · rw [hl2]; exact gput hY5 _
                        · rw [hl2, List.flatMap_append]
                          exact own_base (own_keep hown2 ks (fun j hj e => by have := (hown2.lt j hj).1; omega)) hwr2
                        · have hx2 : heldT (w.heap.size + 2) W x := by
                            rcases List.mem_append.1 hx with h | h
                            · exact HHW.out x (List.mem_of_mem_take h)
                            · rw [List.mem_singleton.1 h]
                              have ht := HHW.out _ (List.mem_of_getElem? HTM.out)
                              refine ⟨ht.1, ?_, ht.2.2.1, ht.2.2.2⟩
                              show (ln.extract 1 ln.size).size ≤ maxLen
                              have hsz : (ln.extract 1 ln.size).size ≤ ln.size := by
                                rw [← bl_length, bl_cut, List.length_drop, List.length_take, bl_length]
                                omega
                              have := HCS.out
                              unfold maxLen
                              omega
                          exact (hx2.keep k5 (fun _ _ h => h.elim)).keep ks hset
                        · rw [HPP.out]
                          congr 1
                          rw [List.map_append, List.map_cons, List.map_nil, List.dropLast_eq_take, List.length_map, List.map_take]
                          have e1 : ts.length - 1 = m := by have := HM.out; omega
                          rw [e1]
                          congr 2
                          show (⟨nm, mk ((bl ln).drop 1), ss⟩ : Pt) = ⟨nm, ln.extract 1 ln.size, ss⟩
                          have e2 : bl (ln.extract 1 ln.size) = (bl ln).drop 1 := by rw [bl_cut, List.take_of_length_le (by rw [bl_length]; exact Nat.le_refl _)]
                          rw [← e2, mk_bl]
                      have HLM := Lib.hid (show ((ts.take m).flatMap Tg.cells).length = m * 3 by rw [cells_length, List.length_take]; omega)
                      have HOC := Lib.hid (show ∀ u ∈ (ts.take m).flatMap Tg.cells, u.oneCell' = true from fun u hu => by
                        obtain ⟨x, hx, hxu⟩ := List.mem_flatMap.1 hu
                        obtain ⟨A9, c9, h9⟩ := own_shape (HHW.out x (List.mem_of_mem_take hx)).2.2.1
                        simp [Tg.cells, h9] at hxu
                        rcases hxu with rfl | rfl | rfl <;> rfl)
                      have HCK : Hid (∀ w', Keep noneOf W w' → ∀ j u, ((ts.take m).flatMap Tg.cells)[j]? = some u → w'.cell? ((⟨b, o, none⟩ : Addr).add j) = some u) := Lib.hid fun w' k' j u hu => by
                        have ha : (⟨b, o, none⟩ : Addr).add j = ⟨b, o + j, none⟩ := by
                          unfold Addr.add
                          split
                          · rename_i h0; subst h0; rfl
                          · rfl
                        rw [ha]
                        exact (k'.cell (p := ⟨b, o + j, none⟩) hbW id).trans (HCW.out j u hu)
                      have KE1 := Lib.hid ((Keep.refl noneOf W).alloc (.cells #[] 40))
                      have KE2 := Lib.hid (((Keep.refl noneOf W).alloc (.cells #[] 40)).alloc (.cells #[.string nm, .string (ln.extract 1 ln.size), .slice A5 ss.length c5] 40))
                      have KE3 := Lib.hid (((Keep.refl noneOf W).alloc (.cells #[.string nm, .string (ln.extract 1 ln.size), .slice A5 ss.length c5] 40)).alloc (.cells #[] 40))
                      have OE1 : Hid ((W.alloc (.cells #[] 40)).ownsRow W.heap.size 40 3 (.slice (some ⟨W.heap.size, 0, none⟩) 0 0) 0 []) := Lib.hid (World.ownsRow_lit W #[] 0 (Nat.le_refl _) (Nat.zero_le _) rfl)
                      have OE2 := Lib.hid (OE1.out.alloc (.cells #[.string nm, .string (ln.extract 1 ln.size), .slice A5 ss.length c5] 40))
                      have OE3 : Hid (((W.alloc (.cells #[.string nm, .string (ln.extract 1 ln.size), .slice A5 ss.length c5] 40)).alloc (.cells #[] 40)).ownsRow W.heap.size 40 3 (.slice (some ⟨W.heap.size + 1, 0, none⟩) 0 0) 0 []) := Lib.hid (by
                        have h := World.ownsRow_lit (base := W.heap.size) (e := 40) (size := 3) (W.alloc (.cells #[.string nm, .string (ln.extract 1 ln.size), .slice A5 ss.length c5] 40)) #[] 0 (by simp) (Nat.zero_le _) rfl
                        rw [show (W.alloc (.cells #[.string nm, .string (ln.extract 1 ln.size), .slice A5 ss.length c5] 40)).heap.size = W.heap.size + 1 from by simp] at h
                        exact h)
                      have HB2 : Hid (Box ((W.alloc (.cells #[] 40)).alloc (.cells #[.string nm, .string (ln.extract 1 ln.size), .slice A5 ss.length c5] 40)) (W.heap.size + 1) 40 #[.string nm, .string (ln.extract 1 ln.size), .slice A5 ss.length c5]) := Lib.hid (by
                        have h := Box.new (W.alloc (.cells #[] 40)) 40 #[.string nm, .string (ln.extract 1 ln.size), .slice A5 ss.length c5]
                        rw [show (W.alloc (.cells #[] 40)).heap.size = W.heap.size + 1 from by simp] at h
                        exact h)
                      have HB3 : Hid (Box ((W.alloc (.cells #[.string nm, .string (ln.extract 1 ln.size), .slice A5 ss.length c5] 40)).alloc (.cells #[] 40)) W.heap.size 40 #[.string nm, .string (ln.extract 1 ln.size), .slice A5 ss.length c5]) := Lib.hid ((Box.new W 40 #[.string nm, .string (ln.extract 1 ln.size), .slice A5 ss.length c5]).alloc (.cells #[] 40))
                      go_region_law (first | (refine step_append_some _ (by rfl) _ _ _ (by rfl) W.heap.size 40 i39 _ 3 56 Tryd.underlying22 hi39 hz39 hs39 hb39 rfl (by decide) _ 0 [] (by rfl) (OE1.out.drew) ⟨b, o, none⟩ m c ((ts.take m).flatMap Tg.cells) (by rfl) HLM.out (HCK.out _ KE1.out.drew) HOC.out (by simp) (by unfold maxLen; omega) (by omega) (KE1.out.drew.size) _ rfl ?_; intro g1 cap1 w4 hown1 hgrow1 hat1 hlt1; rw [Nat.zero_add, List.nil_append] at hown1; have K4 : Keep noneOf W w4 := KE1.out.drew.trans (Keep.of_grown hgrow1) (fun i hi e => by have e2 : some i = some (W.heap.size) := e; injection e2 with e2; omega); have t0 := (K4.cell (p := ⟨T9, 0, none⟩) hT9 id).trans t0; have t1 := (K4.cell (p := ⟨T9, 1, none⟩) hT9 id).trans t1; have t2 := (K4.cell (p := ⟨T9, 2, none⟩) hT9 id).trans t2) | (refine step_append_some _ (by rfl) _ _ _ (by rfl) W.heap.size 40 i39 _ 3 56 Tryd.underlying22 hi39 hz39 hs39 hb39 rfl (by decide) _ 0 [] (by rfl) (OE2.out.drew) ⟨b, o, none⟩ m c ((ts.take m).flatMap Tg.cells) (by rfl) HLM.out (HCK.out _ KE2.out.drew) HOC.out (by simp) (by unfold maxLen; omega) (by omega) (KE2.out.drew.size) _ rfl ?_; intro g1 cap1 w4 hown1 hgrow1 hat1 hlt1; rw [Nat.zero_add, List.nil_append] at hown1; have K4 : Keep noneOf W w4 := KE2.out.drew.trans (Keep.of_grown hgrow1) (fun i hi e => by have e2 : some i = some (W.heap.size) := e; injection e2 with e2; omega); have B7 : Box w4 (W.heap.size + 1) 40 #[.string nm, .string (ln.extract 1 ln.size), .slice A5 ss.length c5] := HB2.out.drew.keep (Keep.of_grown hgrow1) (fun e => by have e2 : some (W.heap.size + 1) = some W.heap.size := e; injection e2 with e2; omega); have t0 := (K4.cell (p := ⟨T9, 0, none⟩) hT9 id).trans t0; have t1 := (K4.cell (p := ⟨T9, 1, none⟩) hT9 id).trans t1; have t2 := (K4.cell (p := ⟨T9, 2, none⟩) hT9 id).trans t2) | (refine step_append_some _ (by rfl) _ _ _ (by rfl) W.heap.size 40 i39 _ 3 56 Tryd.underlying22 hi39 hz39 hs39 hb39 rfl (by decide) _ 0 [] (by rfl) (OE3.out.drew) ⟨b, o, none⟩ m c ((ts.take m).flatMap Tg.cells) (by rfl) HLM.out (HCK.out _ KE3.out.drew) HOC.out (by simp) (by unfold maxLen; omega) (by omega) (KE3.out.drew.size) _ rfl ?_; intro g1 cap1 w4 hown1 hgrow1 hat1 hlt1; rw [Nat.zero_add, List.nil_append] at hown1; have K4 : Keep noneOf W w4 := KE3.out.drew.trans (Keep.of_grown hgrow1) (fun i hi e => by have e2 : some i = some (W.heap.size + 1) := e; injection e2 with e2; omega); have B7 : Box w4 W.heap.size 40 #[.string nm, .string (ln.extract 1 ln.size), .slice A5 ss.length c5] := HB3.out.drew.keep (Keep.of_grown hgrow1) (fun e => by have e2 : some W.heap.size = some (W.heap.size + 1) := e; injection e2 with e2; omega); have t0 := (K4.cell (p := ⟨T9, 0, none⟩) hT9 id).trans t0; have t1 := (K4.cell (p := ⟨T9, 1, none⟩) hT9 id).trans t1; have t2 := (K4.cell (p := ⟨T9, 2, none⟩) hT9 id).trans t2) | (refine step_append_lies _ (by rfl) _ _ _ (by rfl) W.heap.size 40 i39 _ 3 56 Tryd.underlying22 hi39 hz39 hs39 hb39 rfl (by decide) _ m ((ts.take m).flatMap Tg.cells) (by rfl) (hown1.alloc _) _ 1 1 [.string nm, .string (ln.extract 1 ln.size), .slice A5 ss.length c5] (by rfl) (by rfl) (cell_three_new w4 _ _ _ _) (by simp [Value.oneCell']) (by omega) (by unfold maxLen; omega) (by omega) (Nat.le_trans K4.size (by simp)) _ rfl ?_; intro g2 cap2 w5 hown2 hgrow2 hat2 hlt2; have K5 : Keep noneOf W w5 := Keep.trans (K4.alloc _) (Keep.of_grown hgrow2) (fun i hi e => by have := (own_row hown1 (show some i = (Value.slice (some ⟨g1, 0, none⟩) m cap1).ownBlock from e)).1; omega); have y5 := (K5.cell (p := ⟨w.heap.size + 1, 0, none⟩) hB1 id).trans y5; have f5 : w5.frozen? ⟨w.heap.size + 1, 0, none⟩ = false := (HYW.out.keep K5 id).free 0) | (refine step_append_lies _ (by rfl) _ _ _ (by rfl) W.heap.size 40 i39 _ 3 56 Tryd.underlying22 hi39 hz39 hs39 hb39 rfl (by decide) _ m ((ts.take m).flatMap Tg.cells) (by rfl) (hown1) _ 1 1 [.string nm, .string (ln.extract 1 ln.size), .slice A5 ss.length c5] (by rfl) (by rfl) (box_news B7) (by simp [Value.oneCell']) (by omega) (by unfold maxLen; omega) (by omega) (K4.size) _ rfl ?_; intro g2 cap2 w5 hown2 hgrow2 hat2 hlt2; have K5 : Keep noneOf W w5 := Keep.trans (K4) (Keep.of_grown hgrow2) (fun i hi e => by have := (own_row hown1 (show some i = (Value.slice (some ⟨g1, 0, none⟩) m cap1).ownBlock from e)).1; omega); have y5 := (K5.cell (p := ⟨w.heap.size + 1, 0, none⟩) hB1 id).trans y5; have f5 : w5.frozen? ⟨w.heap.size + 1, 0, none⟩ = false := (HYW.out.keep K5 id).free 0))
                      all_goals
                        have HF := Lib.hid (HFIN.out w5 g2 cap2 K5 hown2)
                        clear hgrow1 hgrow2 hat1 hat2 hown1 hown2 K4 K5 y5 f5 HFIN
                        go_wp2
                        obtain ⟨ts2, hl2, h1', h2', h3', h4', h5', h6'⟩ := HF.out
                        have HH1 := Lib.hid h1'
                        have HH2 := Lib.hid h2'
                        have HH3 := Lib.hid h3'
                        have HH4 := Lib.hid h4'
                        have HH5 := Lib.hid h5'
                        have HH6 := Lib.hid h6'
                        have HLL := Lib.hid hl2
                        clear h1' h2' h3' h4' h5' h6' HF hl2
                        go_roundw
                        case rel => exact ⟨e + 1, some ⟨g2, 0, none⟩, cap2, ts2, by omega, by rw [HLL.out]; have := HM.out; omega, by go_num, HH1.out, HH2.out, HH3.out, HH4.out, HH5.out, HH6.out⟩
                        case measure => simp [intOf]; omega
                    · have g5 : cm.toList.isEmpty = false := by
                        cases hx : cm.toList.isEmpty with
                        | false => rfl
                        | true =>
                          have := str_some cm
                          rw [hx, decide_eq_true hcm] at this
                          cases this
                      have hne : (if (bl ln).drop 1 = [] ∨ cm.size ≠ 0 then none else some ((ts.map Tg.plain).dropLast ++ [(⟨nm, mk ((bl ln).drop 1), ss⟩ : Pt)])) = none := if_pos (.inr hcm)
                      have HNE := Lib.hid hne
                      clear hne
                      have hPn : PP = none := by
                        rw [HSTEP.out, HADD.out, HLA.out]
                        show Option.bind (if _ then _ else _) _ = _
                        rw [show (Tg.plain ⟨nm, cm, .slice A5 ss.length c5, ss⟩).cmd = cm from rfl, if_pos (.inr hcm)]
                        rfl
                      subst hPn
                      have hRS : RS = ([], 70) := HRES.out
                      subst hRS
                      clear HRES HSTEP HADD HNE hcm h1 hz HTM HLA hm HM HTH q4
                      have hX9 := HX.out
                      have d0 := hX9.cell 0
                      have f0 := hX9.free 0
                      simp only [List.getElem?_toArray, List.getElem?_cons_zero] at d0
                      have HKF := Lib.hid (keep_own HKP.out (gkeep wr w.heap.size (.slice none 0 0)) (Nat.le_refl _))
                      have HXF := Lib.hid (gput hX9 (.slice none 0 0))
                      clear hX9 HX HKP HY HO HHE
                      go_wp2
                      have r9 := HXF.out.cell 0
                      simp only [List.getElem?_toArray, List.getElem?_cons_zero] at r9
                      exact bodyPost_ret (v := .tuple #[.agg #[.slice none 0 0], .int .i64 70]) (by simp [results, Tryd.results8, go_sem, r9]) rfl (told_none rfl HKF.out)
              · have g3 : ((ln[0].toNat : Int) == 9) = false := by rw [beq_eq_false_iff_ne]; omega
                have h9' : ln[0] ≠ 9 := fun h => h9 (by rw [h]; rfl)
                have hadd : addLineP (ts.map Tg.plain) (bl ln) = (lineP (bl ln)).map (fun q => ts.map Tg.plain ++ [⟨mk q.1, ⟨#[]⟩, q.2.map mk⟩]) := by
                  rw [hlb]
                  show (if ln[0] = 9 then _ else _) = _
                  rw [if_neg h9']
                rw [hadd] at HSTEP
                have HLN := Lib.hid (refLine_any wr ln (by rw [HCS.out]; omega))
                clear hlb h9 h9' hadd
                go_wp2_with fail
                refine HLN.out.mono ?_
                rintro e' w2 ⟨t, rfl, ⟨A5, n5, c5, hnv⟩, k2, ht⟩
                obtain ⟨nm, cm, nv, ss⟩ := t
                simp only at hnv
                subst hnv
                have HK2 := Lib.hid (HKP.out.trans k2 (fun _ _ h => h))
                have HX2 := Lib.hid (HX.out.keep k2 id)
                have HY2 := Lib.hid (HY.out.keep k2 id)
                have HO2 := Lib.hid (own_keep HO.out k2 (fun _ _ h => h))
                have HH2 := Lib.hid (show ∀ x ∈ ts, heldT (w.heap.size + 2) w2 x from fun x hx => (HHE.out x hx).keep k2 (fun _ _ h => h.elim))
                have hwr : w.heap.size + 2 ≤ wr.heap.size := by
                  have := HY.out.lt
                  omega
                have HT2 := Lib.hid ht
                have HLW := Lib.hid k2.size
                clear HLN k2 ht HKP HX HY HO HHE
                cases hlp : lineP (bl ln) with
                | none =>
                  have hPn : PP = none := by
                    rw [HSTEP.out, hlp]
                    rfl
                  subst hPn
                  have hRS : RS = ([], 70) := HRES.out
                  subst hRS
                  clear HRES HSTEP hlp HT2
                  simp only [Option.isSome_none]
                  have HX3 := Lib.hid (HX2.out.alloc (.cells #[.string nm, .string cm, (.slice A5 n5 c5)] 40))
                  have HK3 := Lib.hid (HK2.out.alloc (.cells #[.string nm, .string cm, (.slice A5 n5 c5)] 40))
                  have hX9 := HX3.out
                  have d0 := hX9.cell 0
                  have f0 := hX9.free 0
                  simp only [List.getElem?_toArray, List.getElem?_cons_zero] at d0
                  have HKF := Lib.hid (keep_own HK3.out (gkeep (w2.alloc (.cells #[.string nm, .string cm, (.slice A5 n5 c5)] 40)) w.heap.size (.slice none 0 0)) (Nat.le_refl _))
                  have HXF := Lib.hid (gput hX9 (.slice none 0 0))
                  clear hX9 HX3 HK3 HX2 HK2 HY2 HO2 HH2
                  go_wp2
                  have r9 := HXF.out.cell 0
                  simp only [List.getElem?_toArray, List.getElem?_cons_zero] at r9
                  exact bodyPost_ret (v := .tuple #[.agg #[.slice none 0 0], .int .i64 70]) (by simp [results, Tryd.results8, go_sem, r9]) rfl (told_none rfl HKF.out)
                | some q =>
                  obtain ⟨htp, hth⟩ := HT2.out q hlp
                  have hPP : PP = parseL (splitB 10 ((bl s).drop (e + 1))) ((ts ++ [(⟨nm, cm, .slice A5 n5 c5, ss⟩ : Tg)]).map Tg.plain) := by
                    rw [HSTEP.out, hlp, List.map_append, List.map_cons, List.map_nil, htp]
                    rfl
                  have HPP := Lib.hid hPP
                  have HTH := Lib.hid hth
                  clear hlp hPP htp hth HT2 HSTEP
                  simp only [Option.isSome_some]
                  have HY3 := Lib.hid (HY2.out.alloc (.cells #[.string nm, .string cm, (.slice A5 n5 c5)] 40))
                  have HX3 := Lib.hid (HX2.out.alloc (.cells #[.string nm, .string cm, (.slice A5 n5 c5)] 40))
                  have HK3 := Lib.hid (HK2.out.alloc (.cells #[.string nm, .string cm, (.slice A5 n5 c5)] 40))
                  have HO3 := Lib.hid (HO2.out.alloc (.cells #[.string nm, .string cm, (.slice A5 n5 c5)] 40))
                  have y0 := HY3.out.cell 0
                  obtain ⟨z0, z1, z2⟩ := box3t w2 40 (.string nm) (.string cm) (.slice A5 n5 c5)
                  simp only [List.getElem?_toArray, List.getElem?_cons_zero] at y0
                  have hsz3 : (w2.alloc (.cells #[.string nm, .string cm, (.slice A5 n5 c5)] 40)).heap.size = w2.heap.size + 1 := by simp
                  have hcn := cell_three_new (w2.alloc (.cells #[.string nm, .string cm, (.slice A5 n5 c5)] 40)) (.string nm) (.string cm) (.slice A5 n5 c5) 40
                  rw [hsz3] at hcn
                  have HCN := Lib.hid hcn
                  have HOA := Lib.hid (HO3.out.alloc (.cells #[.string nm, .string cm, (.slice A5 n5 c5)] 40))
                  have HAB : Hid (∀ w4, ((w2.alloc (.cells #[.string nm, .string cm, (.slice A5 n5 c5)] 40)).alloc (.cells #[.string nm, .string cm, (.slice A5 n5 c5)] 40)).grownBy w4 (Value.slice A ts.length c).ownBlock → Box w4 (w.heap.size + 1) 24 #[.slice A ts.length c]) := Lib.hid fun w4 hg =>
                    (HY3.out.alloc _).keep (Keep.of_grown hg) (fun e => by have := (own_row HO3.out e).1; omega)
                  clear hcn
                  go_wp2_with (at_builtin; refine wpList_append_own _ rfl _ _ 22 rfl (w.heap.size + 2) 40 i39 _ 3 56 Tryd.underlying22 hi39 hz39 hs39 hb39 rfl (by decide) _ _ _ rfl HOA.out ⟨w2.heap.size + 1, 0, none⟩ 1 1 [.string nm, .string cm, (.slice A5 n5 c5)] rfl rfl HCN.out (by simp [Value.oneCell']) (by unfold maxLen; omega) (by omega) (by have := HLW.out; simp; omega) ?_; intro v' w4 hown' hgrow _; have Y4 := HAB.out w4 hgrow; obtain ⟨A4, c4, hv4⟩ := own_shape hown'; subst hv4; have y4 : w4.cell? ⟨w.heap.size + 1, 0, none⟩ = some (.slice A ts.length c) := Y4.cell 0; have f4 := Y4.free 0)
                  have kg : Keep (fun k => some k = (Value.slice A ts.length c).ownBlock) ((w2.alloc (.cells #[.string nm, .string cm, .slice A5 n5 c5] 40)).alloc (.cells #[.string nm, .string cm, .slice A5 n5 c5] 40)) w4 := Keep.of_grown hgrow
                  have kw : Keep noneOf w w4 := (HK3.out.alloc (.cells #[.string nm, .string cm, .slice A5 n5 c5] 40)).trans kg (fun i hi e => by
                    have := (own_row HO3.out e).1
                    omega)
                  have hB0 := HX3.out.lt
                  have X4 : Box w4 w.heap.size 24 #[.slice none 0 0] := (HX3.out.alloc (.cells #[.string nm, .string cm, .slice A5 n5 c5] 40)).keep kg (fun e => by
                    have := (own_row HO3.out e).1
                    omega)
                  have ks := gkeep w4 (w.heap.size + 1) (.slice A4 (ts.length + 1) c4)
                  obtain ⟨ts2, hts2⟩ : ∃ ts2, ts2 = ts ++ [(⟨nm, cm, .slice A5 n5 c5, ss⟩ : Tg)] := ⟨_, rfl⟩
                  have hl2 : ts2.length = ts.length + 1 := by rw [hts2, List.length_append]; rfl
                  have hc2 : ts2.flatMap Tg.cells = ts.flatMap Tg.cells ++ [.string nm, .string cm, .slice A5 n5 c5] := by
                    rw [hts2, List.flatMap_append]
                    rfl
                  have hrow : ∀ i, i < ((w2.alloc (.cells #[.string nm, .string cm, .slice A5 n5 c5] 40)).alloc (.cells #[.string nm, .string cm, .slice A5 n5 c5] 40)).heap.size → some i = (Value.slice A ts.length c).ownBlock → ∃ cs fz, ((w2.alloc (.cells #[.string nm, .string cm, .slice A5 n5 c5] 40)).alloc (.cells #[.string nm, .string cm, .slice A5 n5 c5] 40)).heap[i]? = some (.cells cs 40 fz) ∨ ((w2.alloc (.cells #[.string nm, .string cm, .slice A5 n5 c5] 40)).alloc (.cells #[.string nm, .string cm, .slice A5 n5 c5] 40)).heap[i]? = some (.cells cs 24 fz) := fun i hi e => by
                    obtain ⟨_, cs, fz, h⟩ := own_row HOA.out e
                    exact ⟨cs, fz, .inl h⟩
                  have hset : ∀ i, i < w4.heap.size → i = w.heap.size + 1 → ∃ cs fz, w4.heap[i]? = some (.cells cs 40 fz) ∨ w4.heap[i]? = some (.cells cs 24 fz) := fun i hi e => by
                    subst e
                    exact ⟨_, _, .inr Y4⟩
                  have hall : ∀ x ∈ ts2, heldT (w.heap.size + 2) (w4.setCell ⟨w.heap.size + 1, 0, none⟩ (.slice A4 (ts.length + 1) c4)) x := fun x hx => by
                    have h2 : heldT (w.heap.size + 2) w2 x := by
                      rw [hts2] at hx
                      rcases List.mem_append.1 hx with h | h
                      · exact HH2.out x h
                      · rw [List.mem_singleton.1 h]
                        exact ⟨HTH.out.1, HTH.out.2.1, own_base HTH.out.2.2.1 hwr, HTH.out.2.2.2⟩
                    have h3 : heldT (w.heap.size + 2) ((w2.alloc (.cells #[.string nm, .string cm, .slice A5 n5 c5] 40)).alloc (.cells #[.string nm, .string cm, .slice A5 n5 c5] 40)) x := h2.keep (((Keep.refl noneOf w2).alloc (.cells #[.string nm, .string cm, .slice A5 n5 c5] 40)).alloc (.cells #[.string nm, .string cm, .slice A5 n5 c5] 40)) (fun _ _ h => h.elim)
                    exact (h3.keep kg hrow).keep ks hset
                  have HH5 := Lib.hid hall
                  have HK5 := Lib.hid (keep_own kw ks (by omega))
                  have HX5 := Lib.hid (X4.keep ks (by omega))
                  have HY5 := Lib.hid (show Box (w4.setCell ⟨w.heap.size + 1, 0, none⟩ (.slice A4 (ts.length + 1) c4)) (w.heap.size + 1) 24 #[.slice A4 ts2.length c4] by rw [hl2]; exact gput Y4 _)
                  have HO5 := Lib.hid (show (w4.setCell ⟨w.heap.size + 1, 0, none⟩ (.slice A4 (ts.length + 1) c4)).ownsRow (w.heap.size + 2) 40 3 (.slice A4 ts2.length c4) ts2.length (ts2.flatMap Tg.cells) by
                    rw [hl2, hc2]
                    exact own_keep hown' ks (fun j hj e => by have := (hown'.lt j hj).1; omega))
                  rw [← hts2] at HPP
                  have HLL := Lib.hid hl2
                  clear kg kw ks hts2 hl2 hc2 hrow hset hall X4 hB0 Y4 y4 f4 hown' hgrow HAB HOA HCN HO3 HK3 HX3 HY3 HTH HH2 HO2 HY2 HX2 HK2
                  go_roundw
                  case rel => exact ⟨e + 1, A4, c4, ts2, by omega, by rw [HLL.out]; omega, by go_num, HK5.out, HX5.out, HY5.out, HO5.out, HH5.out, HPP.out⟩
                  case measure => simp [intOf]; omega
          · have h10' : s[e] ≠ 10 := fun h => h10 (by rw [h]; rfl)
            have HN2 := Lib.hid (show ∀ j b, j < e + 1 - p → ((bl s).drop p)[j]? = some b → b ≠ 10 from fun j b hj hb => by
              rcases Nat.lt_or_ge j (e - p) with h | h
              · exact HNO.out j b h hb
              · have : j = e - p := by omega
                subst this
                rw [hat2] at hb
                injection hb with hb
                rw [← hb]
                exact h10')
            have g1 : ((s[e].toNat : Int) != 10) = true := by rw [bne_iff_ne]; omega
            clear hat hat2 h10 h10' HNO
            go_wp2
            go_round
            case rel => exact ⟨e + 1, by omega, by omega, by go_num, HN2.out⟩
            case measure => simp [intOf]; omega
        · have hee : e = s.size := by omega
          have hPn : PP = none := by
            rw [HPP.out]
            refine parse_end _ (fun b hb => ?_) (fun h => ?_)
            · obtain ⟨j, hj⟩ := List.getElem?_of_mem hb
              have := (List.getElem?_eq_some_iff.1 hj).1
              rw [List.length_drop, bl_length] at this
              exact HNO.out j b (by omega) hj
            · have := congrArg List.length h
              rw [List.length_drop, bl_length, List.length_nil] at this
              omega
          subst hPn
          have hRS : RS = ([], 70) := HRES.out
          subst hRS
          have g2 : ((e : Int) == (s.size : Int)) = true := by rw [beq_iff_eq]; omega
          have q : ¬ ((e : Int) < (s.size : Int)) := by omega
          have u0 : (p : Int) ≤ (e : Int) := by omega
          have u1 : (e : Int) ≤ (s.size : Int) := by omega
          clear HPP HNO HRES hee hel
          have hX9 := HX.out
          have d0 := hX9.cell 0
          have f0 := hX9.free 0
          simp only [List.getElem?_toArray, List.getElem?_cons_zero] at d0
          have HKF := Lib.hid (keep_own HKP.out (gkeep wr w.heap.size (.slice none 0 0)) (Nat.le_refl _))
          have HXF := Lib.hid (gput hX9 (.slice none 0 0))
          clear hX9 HX HKP HY HO HHE
          go_wp2
          have r9 := HXF.out.cell 0
          simp only [List.getElem?_toArray, List.getElem?_cons_zero] at r9
          exact bodyPost_ret (v := .tuple #[.agg #[.slice none 0 0], .int .i64 70]) (by simp [results, Tryd.results8, go_sem, r9]) rfl (told_none rfl HKF.out)
    · have hpe : p = s.size := by omega
      have hPn : PP = some (ts.map Tg.plain) := by
        rw [HPP.out, List.drop_eq_nil_of_le (by rw [bl_length]; omega)]
        rfl
      subst hPn
      have q : ¬ ((p : Int) < (s.size : Int)) := by omega
      have y0 := HY.out.cell 0
      simp only [List.getElem?_toArray, List.getElem?_cons_zero] at y0
      have HTG := Lib.hid (Tgs.of_held HO.out HHE.out)
      have CK := Lib.hid (refCheck_any wr _ _ ts HTG.out)
      clear HPP hpe hlt
      go_wp2_with fail
      refine CK.out.mono ?_
      rintro e w2 ⟨rfl, k2⟩
      have HX2 := Lib.hid (HX.out.keep k2 id)
      have HK2 := Lib.hid (HKP.out.trans k2 (fun _ _ h => h))
      have HY2 := Lib.hid (HY.out.keep k2 id)
      have HT2 := Lib.hid (HTG.out.keep k2 (fun _ _ _ => id))
      clear CK k2 HX HKP HY HO HHE HTG y0
      have hX9 := HX2.out
      have hY9 := HY2.out
      have d0 := hX9.cell 0
      have f0 := hX9.free 0
      have y0 := hY9.cell 0
      simp only [List.getElem?_toArray, List.getElem?_cons_zero] at d0 y0
      by_cases hq : grCheck (ts.map Tg.plain) = 0
      · have hRS : RS = (ts.map Tg.plain, 0) := by
          rw [HRES.out]
          show (if _ then _ else _) = _
          rw [if_pos hq]
        subst hRS
        rw [hq]
        have g1 : ((0 : Int) != 0) = false := rfl
        have ks := gkeep w2 w.heap.size (.slice A ts.length c)
        have HKF := Lib.hid (keep_own HK2.out ks (Nat.le_refl _))
        have HXF := Lib.hid (gput hX9 (.slice A ts.length c))
        have HTF := Lib.hid ((HT2.out.keep ks (fun i _ hi e => by omega)).mono' (D' := fun k => w.heap.size ≤ k) (fun i _ hi => by omega))
        clear hX9 hY9 ks HRES hq HX2 HK2 HY2 HT2
        go_wp2
        have r9 := HXF.out.cell 0
        simp only [List.getElem?_toArray, List.getElem?_cons_zero] at r9
        exact bodyPost_ret (v := .tuple #[.agg #[.slice A ts.length c], .int .i64 0]) (by simp [results, Tryd.results8, go_sem, r9]) rfl ⟨A, c, ts, rfl, rfl, HTF.out, HKF.out⟩
      · have hRS : RS = ([], grCheck (ts.map Tg.plain)) := by
          rw [HRES.out]
          show (if _ then _ else _) = _
          rw [if_neg hq]
        subst hRS
        have g1 : (grCheck (ts.map Tg.plain) != 0) = true := by rw [bne_iff_ne]; exact hq
        have HKF := Lib.hid (keep_own HK2.out (gkeep w2 w.heap.size (.slice none 0 0)) (Nat.le_refl _))
        have HXF := Lib.hid (gput hX9 (.slice none 0 0))
        clear hX9 hY9 HRES hq HX2 HK2 HY2 HT2
        generalize grCheck (ts.map Tg.plain) = ck at *
        go_wp2
        have r9 := HXF.out.cell 0
        simp only [List.getElem?_toArray, List.getElem?_cons_zero] at r9
        exact bodyPost_ret (v := .tuple #[.agg #[.slice none 0 0], .int .i64 ck]) (by simp [results, Tryd.results8, go_sem, r9]) rfl (told_none (r := ([], ck)) rfl HKF.out)
end Go.Proofs.YtfijbjbfnpadmaaDoor
