import Derived.Maps.AppendAt
import Derived.Test.YtffoeodjbbkdjaaGreatBs09
import Derived.Test.YtffoeodjbbkdjaaGreatBs10
import Derived.Test.YtffoeodjbbkdjaaGreatBs12
namespace Go.Proofs.YtffoeodjbbkdjaaGreat
open Go.RowKit
def svt (l : List Pst) (tl : List Value) : Array Value := (l.flatMap Pst.cells ++ tl).toArray
theorem svt_at {l : List Pst} (tl : List Value) {k : Nat} {x : Pst} (h : l[k]? = some x) (j : Nat) (hj : j < 3) : (svt l tl)[k * 3 + j]? = x.cells[j]? := by
 have hk := (List.getElem?_eq_some_iff.1 h).1
 unfold svt
 rw [List.getElem?_toArray, List.getElem?_append_left (by rw [scells_length]; omega)]
 exact scells_at h j hj
theorem svt_set (l : List Pst) (tl : List Value) (p : Nat) (y : Pst) (hp : p < l.length) : (((svt l tl).setIfInBounds (p * 3) (.int .i64 y.s)).setIfInBounds (p * 3 + 1) (.int .u64 y.t)).setIfInBounds (p * 3 + 2) (.int .u64 y.u) = svt (l.set p y) tl := by
 unfold svt
 rw [List.setIfInBounds_toArray, List.setIfInBounds_toArray, List.setIfInBounds_toArray, scells_set l p y hp]
 rw [List.set_append_left _ _ (by rw [scells_length]; omega), List.set_append_left _ _ (by rw [List.length_set, scells_length]; omega), List.set_append_left _ _ (by rw [List.length_set, List.length_set, scells_length]; omega)]
theorem Box.statet {w : World} {g : Nat} {e : TypeId} {l : List Pst} {tl : List Value} {k : Nat} {x : Pst} (h : Box w g e (svt l tl)) (hk : l[k]? = some x) :
  w.cell? ⟨g, k * 3, none⟩ = some (.int .i64 x.s) ∧ w.cell? ⟨g, k * 3 + 1, none⟩ = some (.int .u64 x.t) ∧ w.cell? ⟨g, k * 3 + 2, none⟩ = some (.int .u64 x.u) := by
 refine ⟨?_, ?_, ?_⟩
 ·
  rw [h.cell]; exact svt_at tl hk 0 (by decide)
 ·
  rw [h.cell]; exact svt_at tl hk 1 (by decide)
 ·
  rw [h.cell]; exact svt_at tl hk 2 (by decide)
theorem Box.put3t {w : World} {g : Nat} {e : TypeId} {l : List Pst} {tl : List Value} (h : Box w g e (svt l tl)) (p : Nat) (y : Pst) (hp : p < l.length) :
  Box (((w.setCell ⟨g, p * 3, none⟩ (.int .i64 y.s)).setCell ⟨g, p * 3 + 1, none⟩ (.int .u64 y.t)).setCell ⟨g, p * 3 + 2, none⟩ (.int .u64 y.u)) g e (svt (l.set p y) tl) := by
 rw [← svt_set l tl p y hp]
 exact ((h.put (p * 3) _).put (p * 3 + 1) _).put (p * 3 + 2) _
theorem Sts.of_boxt {w : World} {D : Nat → Prop} {g : Nat} {e : TypeId} {l : List Pst} {tl : List Value} {c : Nat} (h : Box w g e (svt l tl)) (hc : l.length ≤ c) (hm : c ≤ maxLen) (hD : D g) : Sts w D (.slice (some ⟨g, 0, none⟩) l.length c) l := by
 refine ⟨some ⟨g, 0, none⟩, c, rfl, hc, hm, fun e => (by cases e), scells_length l, fun _ => ⟨⟨g, 0, none⟩, rfl, rfl, h.lt, hD, fun j x hx => ?_⟩⟩
 show w.cell? ⟨g, 0 + j, none⟩ = some x
 rw [Nat.zero_add, h.cell]
 unfold svt
 rw [List.getElem?_toArray, List.getElem?_append_left (List.getElem?_eq_some_iff.1 hx).1]
 exact hx
theorem own_svt {w : World} {base : Nat} {v : Value} {l : List Pst} (h : w.ownsRow base 61 3 v l.length (l.flatMap Pst.cells)) (hp : 0 < l.length) :
  ∃ g c tl, v = .slice (some ⟨g, 0, none⟩) l.length c ∧ base ≤ g ∧ l.length ≤ c ∧ c ≤ maxLen ∧ Box w g 61 (svt l tl) := by
 rcases h.2 with ⟨rfl, h0⟩ | ⟨g, cap, cur, rfl, hb, hg, hle, hmx, hsz, htk⟩
 ·
  omega
 ·
  refine ⟨g, cap, cur.toList.drop (l.length * 3), rfl, hb, hle, hmx, ?_⟩
  unfold svt Box
  rw [← htk, List.take_append_drop]
  exact hg
set_option maxRecDepth 100000 in
theorem run_append_sts (w : World) (base : Nat) (ty : TypeId) (v s : Value) (l m : List Pst) (D : Nat → Prop) (hown : w.ownsRow base 61 3 v l.length (l.flatMap Pst.cells)) (hs : Sts w D s m) (hb : (l.length + m.length) * 24 ≤ 140737488355328) (hbase : base ≤ w.heap.size) :
  ∃ v' w', (Builtin.append_ #[45, 45] ty #[v, s]).run Tryz.prog w = .ok v' w' ∧ w'.ownsRow base 61 3 v' (l ++ m).length ((l ++ m).flatMap Pst.cells) ∧ w.grownBy w' v.ownBlock ∧ (v'.ownBlock = v.ownBlock ∨ v'.ownBlock = some w.heap.size) := by
 obtain ⟨i1, hi1, hz1, hs1, hb1⟩ := info_parts stinfo
 obtain ⟨A, c, rfl, hlc, _, hn, hlen, hc⟩ := hs
 have hfl : (l ++ m).flatMap Pst.cells = l.flatMap Pst.cells ++ m.flatMap Pst.cells := List.flatMap_append
 cases A with
 | none =>
  have h0 : m = [] := List.eq_nil_of_length_eq_zero (by have := hn rfl; omega)
  subst h0
  refine ⟨v, w, ?_, by simpa using hown, World.grownBy.refl w _, .inl rfl⟩
  rcases hown.2 with ⟨rfl, _⟩ | ⟨g, cap, cur, rfl, _, _, hnc, _⟩
  ·
   simp [Builtin.append_, run_underlying Tryz.underlying45, sizeOf, typeInfo, hi1, Builtin.lenOf, Builtin.firstCells]
  ·
   simp [Builtin.append_, run_underlying Tryz.underlying45, sizeOf, typeInfo, hi1, Builtin.lenOf, Builtin.firstCells, hnc, storeCells]
 | some ad =>
  obtain ⟨v', w', hr, ho, hg, _, hat⟩ := run_append_own_at (P := Tryz.prog) w base 45 ty 61 i1 (.agg #[.int .i64 0, .int .u64 0, .int .u64 0]) 3 24 Tryz.underlying45 hi1 hz1 hs1 hb1 (by rfl) (by decide) v l.length (l.flatMap Pst.cells) hown ad m.length c (m.flatMap Pst.cells) (scells_length m)
   (fun j u hu => by
    have hj := (List.getElem?_eq_some_iff.1 hu).1
    rw [scells_length] at hj
    obtain ⟨ad', e, hsp, _, _, hcell⟩ := hc (by omega)
    injection e with e
    subst e
    rw [add_at ad hsp]
    exact hcell j u hu)
   (scells_one m) (by unfold maxLen; omega) hb hbase
  exact ⟨v', w', hr, by rw [List.length_append, hfl]; exact ho, hg, hat⟩
theorem wpList_append_sts (w : World) {ops : Array Oper} {rest : List Oper} {o : Oper} {a : Act} {Q : Exit → Act → World → Prop} (hgd : o.guard = none) (s x : Operand)
  (ho : o.op = .call { callee := .builtin .append, args := #[s, x], argTypes := #[45, 45] }) (base : Nat)
  (v u : Value) (l m : List Pst) (D : Nat → Prop) (hv : a.eval s = v) (hu : a.eval x = u) (hown : w.ownsRow base 61 3 v l.length (l.flatMap Pst.cells)) (hs : Sts w D u m) (hl : (l.length + m.length) * 24 ≤ 140737488355328) (hbase : base ≤ w.heap.size)
  (h : ∀ v' w', w'.ownsRow base 61 3 v' (l ++ m).length ((l ++ m).flatMap Pst.cells) → w.grownBy w' v.ownBlock → (v'.ownBlock = v.ownBlock ∨ v'.ownBlock = some w.heap.size) → wpList Tryz.prog ops Q rest (a.put o.dst v') w') : wpList Tryz.prog ops Q (o :: rest) a w := by
 refine wpList_plain hgd fun K hK => ?_
 obtain ⟨v', w', hr, h3, h4, h5⟩ := run_append_sts w base o.type v u l m D hown hs hl hbase
 unfold Oper.wp execOp
 simp only [ho, resolve, invoke, builtin, Sem.run_bind, Sem.run_pure, Result.andThen_ok, List.map_toArray, List.map_cons, List.map_nil, hv, hu, hr]
 exact hK _ _ (h v' w' h3 h4 h5)
theorem order_ne {ps : List Pt} (h : grOrder ps ≠ []) : grCheck ps = 0 := Classical.byContradiction fun hq => h (order_none hq)
theorem settle_nil {ps : List Pt} {l : List Pst} (h : grOrder ps = [] ∨ l.length ≠ ps.length) : grSettle ps l = [] := by
 rcases h with h | h
 ·
  unfold grSettle
  rw [h]
  split
  ·
   rename_i hl
   have : l = [] := List.eq_nil_of_length_eq_zero (by simpa using hl.symm)
   rw [this]
   rfl
  ·
   rfl
 ·
  exact grSettle_other h
theorem count_all {l : List Int} {f : Int → Bool} (h : l.countP f = l.length) : l.all f = true := by
 rw [List.all_eq_true]
 exact List.countP_eq_length.1 h
theorem count_take (ss : List Int) (f : Int → Bool) (j : Nat) (s : Int) (h : ss[j]? = some s) : (ss.take (j + 1)).countP f = (ss.take j).countP f + (if f s = true then 1 else 0) := by
 rw [List.take_add_one, h, List.countP_append]
 simp [List.countP_cons]
set_option maxRecDepth 100000 in
set_option maxHeartbeats 4000000 in
theorem refSettle_any (w : World) (D Dl : Nat → Prop) (v vl : Value) (ts : List Tg) (l : List Pst) (h : Tgs w D v ts) (h' : Sts w Dl vl l) :
  Calls Tryz.prog 54 #[.agg #[v], vl] w (TellsSts (grSettle (ts.map Tg.plain) l) w) := by
 have HH := Lib.hid h
 have HL := Lib.hid h'
 obtain ⟨A, c, rfl, hlc, hcm, hn, hxl, hc⟩ := h.1
 obtain ⟨Al, cl, rfl⟩ := h'.shape
 have hlm := h'.few
 unfold maxLen at hcm hlm
 have ka := (Keep.refl noneOf w).alloc (.cells #[.slice A ts.length c] 35)
 have HK0 := Lib.hid ka
 have HX0 := Lib.hid (Box.new w 35 #[.slice A ts.length c])
 have HO := Lib.hid (refOrder_any _ D _ ts (h.keep ka (fun _ _ _ => id)))
 have h32 := order_32 (ts.map Tg.plain)
 by_cases hnil : grOrder (ts.map Tg.plain) = [] ∨ l.length ≠ ts.length
 ·
  have hR := settle_nil (ps := ts.map Tg.plain) (l := l) (by rw [List.length_map]; exact hnil)
  rw [hR]
  generalize grOrder (ts.map Tg.plain) = ord at *
  clear h ka hc hxl hn h' hR
  have x0 : ∀ w', Keep noneOf (w.alloc (.cells #[.slice A ts.length c] 35)) w' → w'.cell? ⟨w.heap.size, 0, none⟩ = some (.slice A ts.length c) := fun w' k' => (HX0.out.keep k' id).cell 0
  have HX := Lib.hid x0
  clear x0
  by_cases hz : ord.length = 0
  ·
   have g0 : ((ord.length : Int) == 0) = true := by rw [hz]; rfl
   clear hnil hz
   go_enter Tryz.func54, Tryz.ntmps54
   go_wp2_with fail
   refine HO.out.mono ?_
   rintro e w1 ⟨v1, rfl, o1, k1⟩
   obtain ⟨A1, c1, hv1⟩ := o1.shape
   subst hv1
   have HK1 := Lib.hid (HK0.out.trans k1 (fun _ _ h => h))
   clear HK0 HX0 HO o1 k1
   go_wp2
   go_ret
   exact ⟨none, 0, rfl, Sts.nil _ _, HK1.out⟩
  ·
   have g0 : ((ord.length : Int) == 0) = false := by rw [beq_eq_false_iff_ne]; omega
   have hne : l.length ≠ ts.length := by
    rcases hnil with h | h
    ·
     rw [h] at hz
     exact absurd rfl hz
    ·
     exact h
   have g1 : ((l.length : Int) != (ts.length : Int)) = true := by rw [bne_iff_ne]; omega
   clear hnil hz hne
   go_enter Tryz.func54, Tryz.ntmps54
   go_wp2_with fail
   refine HO.out.mono ?_
   rintro e w1 ⟨v1, rfl, o1, k1⟩
   obtain ⟨A1, c1, hv1⟩ := o1.shape
   subst hv1
   have HK1 := Lib.hid (HK0.out.trans k1 (fun _ _ h => h))
   have x1 := HX.out _ k1
   clear HK0 HX0 HO o1 k1 HX
   go_wp2
   go_ret
   exact ⟨none, 0, rfl, Sts.nil _ _, HK1.out⟩
 ·
  have hne : grOrder (ts.map Tg.plain) ≠ [] := fun e => hnil (.inl e)
  have hll : l.length = ts.length := Classical.byContradiction fun e => hnil (.inr e)
  have hq := order_ne hne
  have hpos : 0 < (grOrder (ts.map Tg.plain)).length := List.length_pos_iff.2 hne
  have hol : (grOrder (ts.map Tg.plain)).length = ts.length := by rw [order_len hq, List.length_map]
  have HFW := Lib.hid (fits_few (check_fits hq).1).2
  have HAT : Hid (∀ i p, (grOrder (ts.map Tg.plain))[i]? = some p → _) := Lib.hid fun i p hp => order_some hp
  have HST : Hid (∀ k p, (grOrder (ts.map Tg.plain)).length = l.length → (grOrder (ts.map Tg.plain))[k]? = some p → _) := Lib.hid fun k p hl hp => settle_step hl hp
  have HR := Lib.hid (show grSettle (ts.map Tg.plain) l = runOf (settleAt (ts.map Tg.plain) l) l (grOrder (ts.map Tg.plain)) by unfold grSettle; rw [if_pos (by rw [hol, hll])])
  generalize grSettle (ts.map Tg.plain) l = R at *
  generalize grOrder (ts.map Tg.plain) = ord at *
  rw [← hol] at hll
  have HLN := Lib.hid hll.symm
  have HOL := Lib.hid hol
  have ht32 : ord.length ≤ 32 := h32
  have g0 : ((ord.length : Int) == 0) = false := by rw [beq_eq_false_iff_ne]; omega
  have g1 : ((l.length : Int) != (ts.length : Int)) = false := by rw [hll, hol, bne_self_eq_false]
  have hlp : 0 < l.length := by omega
  have hl32 : l.length ≤ 32 := by omega
  have ht33 : ts.length ≤ 32 := by omega
  have HLO := Lib.hid hll
  clear hll hol
  clear h ka hc hxl hn h' hnil hne hq h32
  go_enter Tryz.func54, Tryz.ntmps54
  go_wp2_with fail
  refine HO.out.mono ?_
  rintro e w1 ⟨v1, rfl, o1, k1⟩
  obtain ⟨A1, c1, hv1⟩ := o1.shape
  subst hv1
  have K1 := HK0.out.trans k1 (fun _ _ h => h)
  have X1 := HX0.out.keep k1 id
  have x1 : w1.cell? ⟨w.heap.size, 0, none⟩ = some (.slice A ts.length c) := X1.cell 0
  -- the empty row, and what is appended onto it
  have kb : Keep noneOf w1 (w1.alloc (.cells #[] 61)) := (Keep.refl noneOf w1).alloc _
  have hown : (w1.alloc (.cells #[] 61)).ownsRow w1.heap.size 61 3 (.slice (some ⟨w1.heap.size, 0, none⟩) 0 0) ([] : List Pst).length (([] : List Pst).flatMap Pst.cells) := World.ownsRow_lit w1 #[] 0 (Nat.le_refl _) (Nat.zero_le _) rfl
  have HOE := Lib.hid hown
  have HSE := Lib.hid ((HL.out.keep K1 (fun _ _ _ => id)).keep kb (fun _ _ _ => id))
  have HK1 := Lib.hid K1
  have HX1 := Lib.hid X1
  have HO1 := Lib.hid o1
  have HKB := Lib.hid kb
  clear HK0 HX0 HO o1 k1 K1 X1 kb hown
  go_wp2_with (at_builtin; refine wpList_append_sts _ rfl _ _ rfl w1.heap.size _ _ [] l Dl rfl rfl HOE.out HSE.out (by rw [List.length_nil]; omega) (by simp) ?_; intro v2 w2 hown2 hg2' _; have hg2 : World.grownBy (w1.alloc (.cells #[] 61)) w2 (some w1.heap.size) := hg2'; clear hg2'; rw [List.nil_append] at hown2; obtain ⟨M, cM, tl, rfl, hM, hcl, hcM, hbx⟩ := own_svt hown2 hlp)
  have hX1 := HX1.out
  have hlt1 := hX1.lt
  have kk2 : Keep noneOf w1 w2 := HKB.out.trans (Keep.of_grown hg2) (fun i hi e => by
   have : i = w1.heap.size := by simpa using e
   omega)
  have HK2 := Lib.hid (HK1.out.trans kk2 (fun _ _ h => h))
  have HX2 := Lib.hid (hX1.keep kk2 id)
  have HI2 := Lib.hid (Row.keep (Row.mono (D' := fun b => b ≠ M) HO1.out (fun i hi h => by omega)) kk2 (fun _ _ _ => id) : Ints w2 (fun b => b ≠ M) (.slice A1 ord.length c1) ord)
  have HB2 := Lib.hid hbx
  have hGM : w.heap.size ≠ M := by omega
  have hGM' : w.heap.size < M := by omega
  have HCM := Lib.hid hcM
  unfold maxLen at hcM
  have HNM : Hid (M ≠ w.heap.size) := Lib.hid (Ne.symm hGM)
  clear hown2 hg2 hbx kk2 hM hlt1 HOE HSE HK1 HX1 HO1 HKB hX1 x1
  go_loopw [7] (fun i wr => ∃ k : Nat, k ≤ ord.length ∧ i = .int .i64 k ∧ Keep noneOf w wr ∧ Box wr w.heap.size 35 #[.slice A ts.length c] ∧ Ints wr (fun b => b ≠ M) (.slice A1 ord.length c1) ord ∧ Box wr M 61 (svt (runOf (settleAt (ts.map Tg.plain) l) l (ord.take k)) tl)) (fun i _ => ord.length - (intOf i).toNat)
  case atStart => exact ⟨0, Nat.zero_le _, rfl, HK2.out, HX2.out, HI2.out, HB2.out⟩
  case round =>
   obtain ⟨k, hk, rfl, hkeep, hX, hO, hB⟩ := hrel
   have HKP := Lib.hid hkeep
   have HX := Lib.hid hX
   have HO := Lib.hid hO
   have HB := Lib.hid hB
   clear hX hO hB HK2 HX2 HI2 HB2
   by_cases hlt : k < ord.length
   ·
    obtain ⟨hq, hpl⟩ := HAT.out k ord[k] (List.getElem?_eq_getElem hlt)
    rw [List.length_map] at hpl
    have hst := HST.out k ord[k] HLN.out (List.getElem?_eq_getElem hlt)
    obtain ⟨A', c', hv', hl', hm', _, _, hrow⟩ := HO.out
    obtain ⟨rfl, rfl⟩ : A1 = A' ∧ c1 = c' := by simpa using hv'
    obtain ⟨ad, rfl, hsp, hblk, hDb, hcell⟩ := hrow (by omega)
    obtain ⟨b, o, sp⟩ := ad
    simp only at hsp hblk hDb hcell
    subst hsp
    unfold maxLen at hm'
    have hck : wr.cell? ⟨b, o + k, none⟩ = some (.int .i64 (ord[k] : Int)) := hcell k _ (by rw [List.getElem?_map, List.getElem?_eq_getElem hlt]; rfl)
    have HSTEP := Lib.hid (runOf_more (settleAt (ts.map Tg.plain) l) l ord k ord[k] (List.getElem?_eq_getElem hlt))
    generalize hL : runOf (settleAt (ts.map Tg.plain) l) l (ord.take k) = L at *
    generalize ord[k] = p at *
    have hLl : L.length = l.length := hst.2
    have hpL : p < l.length := by rw [HLO.out, HOL.out]; exact hpl
    have HNL : Hid (∀ n ∈ needsAt (ts.map Tg.plain) (p : Int), n < L.length) := Lib.hid fun n hn => by
     have := needsAt_lt hn
     rw [List.length_map] at this
     rw [hLl, HLO.out, HOL.out]
     exact this
    have NE : Hid (∀ w', Keep noneOf wr w' → Calls Tryz.prog 93 #[.agg #[.slice A ts.length c], .int .i64 (p : Int)] w' (ToldInts (needsAt (ts.map Tg.plain) (p : Int)) w')) := Lib.hid fun w' k' => refNeeds_any w' D _ ts (p : Int) (HH.out.keep (hkeep.trans k' (fun _ _ h => h)) (fun _ _ _ => id)) HFW.out
    have HAT2 : Hid (settleAt (ts.map Tg.plain) l L p = if (l.getD p Pst.zero).s = 0 ∧ outc ((needsAt (ts.map Tg.plain) (p : Int)).map (fun n => (L.getD n Pst.zero).s)) ≠ 0 then ⟨outc ((needsAt (ts.map Tg.plain) (p : Int)).map (fun n => (L.getD n Pst.zero).s)), 0, 0⟩ else l.getD p Pst.zero) := Lib.hid rfl
    have hn16 : (needsAt (ts.map Tg.plain) (p : Int)).length ≤ 16 := needsAt_16 hq
    generalize settleAt (ts.map Tg.plain) l L p = y at *
    generalize needsAt (ts.map Tg.plain) (p : Int) = ns at *
    have hx := hst.1
    generalize l.getD p Pst.zero = x at *
    have x0 : wr.cell? ⟨w.heap.size, 0, none⟩ = some (.slice A ts.length c) := HX.out.cell 0
    have NE0 := Lib.hid (NE.out wr (Keep.refl _ _))
    have HS := Lib.hid hx
    have HLL := Lib.hid hLl
    have q0 : (0 : Int) ≤ (p : Int) := by omega
    have q1 : (p : Int) < (l.length : Int) := by omega
    obtain ⟨d0, d1, d2⟩ := HB.out.statet hx
    clear hrow hcell hv' hq hkeep hL hst hx NE d1 d2 hLl
    by_cases hs0 : x.s = 0
    ·
     have g3 : (x.s != 0) = false := by rw [hs0]; rfl
     have HS0 := Lib.hid hs0
     clear hs0
     go_wp2_with fail
     refine NE0.out.mono ?_
     rintro e w5 ⟨v5, rfl, o5, k5⟩
     obtain ⟨A6, c6, hv6⟩ := o5.shape
     subst hv6
     have HN5 := Lib.hid o5
     have HX5 := Lib.hid (HX.out.keep k5 id)
     have HB5 := Lib.hid (HB.out.keep k5 id)
     have HK5 := Lib.hid (HKP.out.trans k5 (fun _ _ h => h))
     have HO5 := Lib.hid (Row.keep HO.out k5 (fun _ _ _ => id))
     clear NE0 HX HB HKP HO o5 k5 x0 hck d0
     go_wp2
     have HSS : Hid (∀ (j n : Nat), ns[j]? = some n → (ns.map (fun n => (L.getD n Pst.zero).s))[j]? = some (L.getD n Pst.zero).s) := Lib.hid fun j n e => by rw [List.getElem?_map, e]; rfl
     have HSL : Hid ((ns.map (fun n => (L.getD n Pst.zero).s)).length = ns.length) := Lib.hid (List.length_map _)
     generalize ns.map (fun n => (L.getD n Pst.zero).s) = ss at *
     go_loop [10, 11, 12] (fun dn ls i => ∃ j : Nat, j ≤ ns.length ∧ i = .int .i64 j ∧ dn = .int .i64 ((ss.take j).countP (fun s => s == 3) : Nat) ∧ ls = .int .i64 ((ss.take j).countP lostS : Nat)) (fun _ _ i => ns.length - (intOf i).toNat)
     case atStart => exact ⟨0, Nat.zero_le _, rfl, rfl, rfl⟩
     case round =>
      obtain ⟨j, hj, rfl, rfl, rfl⟩ := hrel
      have hc3 : (ss.take j).countP (fun s => s == 3) ≤ j := Nat.le_trans List.countP_le_length (by rw [List.length_take]; omega)
      have hcl3 : (ss.take j).countP lostS ≤ j := Nat.le_trans List.countP_le_length (by rw [List.length_take]; omega)
      by_cases hjl : j < ns.length
      ·
       obtain ⟨A', c', hv', hl', hm', _, _, hrow⟩ := HN5.out
       obtain ⟨rfl, rfl⟩ : A6 = A' ∧ c6 = c' := by simpa using hv'
       obtain ⟨ad6, rfl, hsp6, hblk6, _, hcell6⟩ := hrow (by omega)
       obtain ⟨b6, o6, sp6⟩ := ad6
       simp only at hsp6 hblk6 hcell6
       subst hsp6
       unfold maxLen at hm'
       have hc6 : w5.cell? ⟨b6, o6 + j, none⟩ = some (.int .i64 (ns[j] : Int)) := hcell6 j _ (by rw [List.getElem?_map, List.getElem?_eq_getElem hjl]; rfl)
       have hnl := HNL.out ns[j] (List.getElem_mem hjl)
       have hsj := HSS.out j ns[j] (List.getElem?_eq_getElem hjl)
       generalize ns[j] = n at *
       obtain ⟨e0, e1, e2⟩ := HB5.out.statet (getS_at hnl)
       generalize (L.getD n Pst.zero).s = s at *
       have HD := Lib.hid (count_take ss (fun s => s == 3) j s hsj)
       have HLO2 := Lib.hid (count_take ss lostS j s hsj)
       generalize (ss.take j).countP (fun s => s == 3) = cd at *
       generalize (ss.take j).countP lostS = cl2 at *
       have r0 : (0 : Int) ≤ (n : Int) := by omega
       have r1 : (n : Int) < (l.length : Int) := by rw [← HLL.out]; omega
       clear hrow hcell6 hv' hsj e1 e2
       have hx3 : s = 3 ∨ (4 ≤ s ∧ s ≤ 6) ∨ s < 3 ∨ 6 < s := by omega
       rcases hx3 with hs | ⟨hs4, hs6⟩ | hs | hs
       ·
        subst hs
        rw [if_pos (show ((3 : Int) == 3) = true from rfl)] at HD
        rw [if_neg (show ¬ lostS 3 = true by decide), Nat.add_zero] at HLO2
        go_wp2
        go_round
        case rel => exact ⟨j + 1, by omega, by go_num, by rw [HD.out]; go_num, by rw [HLO2.out]; rfl⟩
        case measure => simp [intOf]; omega
       ·
        have g : (s == 3) = false := by rw [beq_eq_false_iff_ne]; omega
        rw [if_neg (by rw [g]; decide), Nat.add_zero] at HD
        rw [if_pos (show lostS s = true by unfold lostS; rw [decide_eq_true hs4, decide_eq_true hs6]; rfl)] at HLO2
        go_wp2
        go_round
        case rel => exact ⟨j + 1, by omega, by go_num, by rw [HD.out]; rfl, by rw [HLO2.out]; go_num⟩
        case measure => simp [intOf]; omega
       ·
        have g : (s == 3) = false := by rw [beq_eq_false_iff_ne]; omega
        have g4 : ¬ (4 ≤ s) := by omega
        rw [if_neg (by rw [g]; decide), Nat.add_zero] at HD
        rw [if_neg (show ¬ lostS s = true by unfold lostS; rw [decide_eq_false g4, Bool.false_and]; decide), Nat.add_zero] at HLO2
        go_wp2
        go_round
        case rel => exact ⟨j + 1, by omega, by go_num, by rw [HD.out]; rfl, by rw [HLO2.out]; rfl⟩
        case measure => simp [intOf]; omega
       ·
        have g : (s == 3) = false := by rw [beq_eq_false_iff_ne]; omega
        have g4 : 4 ≤ s := by omega
        have g6 : ¬ (s ≤ 6) := by omega
        rw [if_neg (by rw [g]; decide), Nat.add_zero] at HD
        rw [if_neg (show ¬ lostS s = true by unfold lostS; rw [decide_eq_false g6, Bool.and_false]; decide), Nat.add_zero] at HLO2
        go_wp2
        go_round
        case rel => exact ⟨j + 1, by omega, by go_num, by rw [HD.out]; rfl, by rw [HLO2.out]; rfl⟩
        case measure => simp [intOf]; omega
      ·
       have hjn : ¬ ((j : Int) < (ns.length : Int)) := by omega
       have htk : ss.take j = ss := List.take_of_length_le (by rw [HSL.out]; omega)
       have f0 := HB5.out.free (p * 3)
       have f1 := HB5.out.free (p * 3 + 1)
       have f2 := HB5.out.free (p * 3 + 2)
       obtain ⟨e0, e1, e2⟩ := HB5.out.statet HS.out
       have HPL : Hid (p < L.length) := Lib.hid (by rw [HLL.out]; exact hpL)
       rw [htk] at hc3 hcl3 ⊢
       clear hjl htk
       by_cases hlost : ss.countP lostS = 0
       ·
        have hnl : ∀ s ∈ ss, lostS s = false := fun s hs => by
         have := List.countP_eq_zero.1 hlost s hs
         simpa using this
        have hoc := outc_else hnl
        rw [hlost]
        by_cases hall : ss.countP (fun s => s == 3) = ns.length
        ·
         rw [if_pos (count_all (by rw [HSL.out]; exact hall))] at hoc
         have hy : y = ⟨1, 0, 0⟩ := by rw [HAT2.out, hoc, if_pos ⟨HS0.out, by decide⟩]
         subst hy
         have g5 : ((ns.length : Int) == (ns.length : Int)) = true := by rw [beq_self_eq_true]
         rw [hall]
         clear hnl hoc hlost hall HAT2 hc3 hcl3
         go_wp2
         have kp := keep_put3 w5 M p (.int .i64 1) (.int .u64 0) (.int .u64 0)
         have HB7 := Lib.hid (HB5.out.put3t p ⟨1, 0, 0⟩ HPL.out)
         have HK7 := Lib.hid (HK5.out.own kp (by omega))
         have HX7 := Lib.hid (HX5.out.keep kp hGM)
         have HO7 := Lib.hid (Row.keep HO5.out kp (fun i _ h e => h e))
         clear kp HB5 HK5 HX5 HO5 e0 e1 e2 f0 f1 f2
         go_roundw
         case rel => exact ⟨k + 1, by omega, by go_num, HK7.out, HX7.out, HO7.out, by rw [HSTEP.out]; exact HB7.out⟩
         case measure => simp [intOf]; omega
        ·
         have hna : ¬ ss.all (fun s => s == 3) = true := fun h => hall (by rw [← HSL.out]; exact List.countP_eq_length.2 (List.all_eq_true.1 h))
         rw [if_neg hna] at hoc
         have hy : y = x := by rw [HAT2.out, hoc, if_neg (fun h => h.2 rfl)]
         subst hy
         have HSM := Lib.hid (set_same L p y HS.out)
         rw [HSM.out] at HSTEP
         generalize ss.countP (fun s => s == 3) = cd at *
         have g5 : ((cd : Int) == (ns.length : Int)) = false := by rw [beq_eq_false_iff_ne]; omega
         clear hnl hoc hlost hall hna HAT2 hc3 hcl3 HSM
         go_wp2
         go_roundw
         case rel => exact ⟨k + 1, by omega, by go_num, HK5.out, HX5.out, HO5.out, by rw [HSTEP.out]; exact HB5.out⟩
         case measure => simp [intOf]; omega
       ·
        have hoc : outc ss = 5 := by
         obtain ⟨s, hs, hs2⟩ := List.countP_pos_iff.1 (Nat.pos_of_ne_zero hlost)
         exact outc_lost hs hs2
        have hy : y = ⟨5, 0, 0⟩ := by rw [HAT2.out, hoc, if_pos ⟨HS0.out, by decide⟩]
        subst hy
        generalize ss.countP lostS = cl2 at *
        have g5 : (0 : Int) < (cl2 : Int) := by omega
        clear hoc hlost HAT2 hc3
        go_wp2
        have kp := keep_put3 w5 M p (.int .i64 5) (.int .u64 0) (.int .u64 0)
        have HB7 := Lib.hid (HB5.out.put3t p ⟨5, 0, 0⟩ HPL.out)
        have HK7 := Lib.hid (HK5.out.own kp (by omega))
        have HX7 := Lib.hid (HX5.out.keep kp hGM)
        have HO7 := Lib.hid (Row.keep HO5.out kp (fun i _ h e => h e))
        clear kp HB5 HK5 HX5 HO5 e0 e1 e2 f0 f1 f2
        go_roundw
        case rel => exact ⟨k + 1, by omega, by go_num, HK7.out, HX7.out, HO7.out, by rw [HSTEP.out]; exact HB7.out⟩
        case measure => simp [intOf]; omega
    ·
     have g3 : (x.s != 0) = true := by rw [bne_iff_ne]; exact hs0
     have hy : y = x := by rw [HAT2.out, if_neg (fun h => hs0 h.1)]
     subst hy
     have HSM := Lib.hid (set_same L p y HS.out)
     rw [HSM.out] at HSTEP
     clear hs0 HAT2 HSM NE0
     go_wp2
     go_roundw
     case rel => exact ⟨k + 1, by omega, by go_num, HKP.out, HX.out, HO.out, by rw [HSTEP.out]; exact HB.out⟩
     case measure => simp [intOf]; omega
   ·
    have e1 : ord.take k = ord := List.take_of_length_le (by omega)
    rw [e1, ← HR.out] at HB
    have hRl : R.length = l.length := by rw [HR.out, runOf_length]
    have hsr := Sts.of_boxt (D := fun b => w.heap.size ≤ b) HB.out (by rw [hRl]; exact hcl) HCM.out (by omega)
    have HSR := Lib.hid hsr
    have HRL := Lib.hid hRl
    have hkn : ¬ ((k : Int) < (ord.length : Int)) := by omega
    clear e1 hkeep hlt hRl hsr
    go_wp2
    go_ret
    exact ⟨_, _, by rw [HRL.out]; rfl, HSR.out, HKP.out⟩
end Go.Proofs.YtffoeodjbbkdjaaGreat
