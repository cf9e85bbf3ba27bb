import Derived.Test.YtffoeodjbbkdjaaGreatBs06
import Derived.Test.YtffoeodjbbkdjaaGreatBs10
import Derived.Test.YtffoeodjbbkdjaaGreatBs11
namespace Go.Proofs.YtffoeodjbbkdjaaGreat
open Go.RowKit
theorem Sts.few {w : World} {D : Nat → Prop} {v : Value} {l : List Pst} (h : Sts w D v l) : l.length ≤ maxLen := by
 obtain ⟨A, c, _, h1, h2, _⟩ := h
 omega
theorem reach_is : reachBytes = 140737488351232 := rfl
theorem Box.setRow {w : World} {g : Nat} {t : TypeId} {cs : Array Value} (h : Box w g t cs) (cs' : Array Value) : Box (w.setRow g cs') g t cs' := setRow_heap w g cs cs' t (0, 0) h
theorem Keep.setRow {S : Nat → Prop} {w w' : World} (h : Keep S w w') {g : Nat} (hg : g < w.heap.size → S g) (cs : Array Value) : Keep S w (w'.setRow g cs) :=
 ⟨h.os, h.tape, h.output, by have := h.size; simpa [World.setRow] using this, fun k hk hs => (setRow_other w' g k cs (by rintro rfl; exact hs (hg hk))).trans (h.block k hk hs)⟩
def OwnSts (l : List Pst) (w : World) (e : Ending) (w' : World) : Prop :=
 ∃ g, e = .returned (.slice (some ⟨g, 0, none⟩) l.length l.length) ∧ Keep noneOf w w' ∧ w.heap.size ≤ g ∧ l.length ≤ maxLen ∧ Box w' g 61 (svs l)
set_option maxRecDepth 100000 in
set_option maxHeartbeats 1000000 in
theorem copied_any (w : World) (D : Nat → Prop) (v : Value) (l : List Pst) (h : Sts w D v l) (hb : l.length * 24 ≤ reachBytes) : Calls Tryz.prog 139 #[v] w (OwnSts l w) := by
 rw [reach_is] at hb
 obtain ⟨A, c, rfl, hlc, hcm, hn, hxl, hc⟩ := h
 obtain ⟨i1, hi1, hz1, hs1, hb1⟩ := info_parts stinfo
 obtain ⟨w2, hmk, hown2, hg2⟩ := run_make_full (P := Tryz.prog) w w.heap.size 45 61 i1 (.agg #[.int .i64 0, .int .u64 0, .int .u64 0]) 3 Tryz.underlying45 hi1 hz1 hs1 .i64 .i64 l.length (by rw [hb1]; omega) (by unfold maxLen; omega) (Nat.le_refl _)
 have kk2 : Keep noneOf w w2 := (Keep.of_grown hg2).mono (fun _ _ h => by cases h)
 have hbox : Box w2 w.heap.size 61 (svs (List.replicate l.length Pst.zero)) := by
  rw [svs_none]
  rcases hown2.2 with ⟨e, _⟩ | ⟨g, cap, cur, e, _, hg, _, _, hsz, htk⟩
  ·
   cases e
  ·
   have e1 : w.heap.size = g := by simpa using congrArg (fun v => match v with | Value.slice (some a) _ _ => a.block | _ => 0) e
   have e2 : l.length = cap := by simpa using congrArg (fun v => match v with | Value.slice (some _) _ c => c | _ => 0) e
   subst e1
   subst e2
   have : cur = madeCells #[.int .i64 0, .int .u64 0, .int .u64 0] (l.length * 3) := by
    apply Array.ext'
    have h1 : cur.toList.take (l.length * 3) = cur.toList := List.take_of_length_le (by simp [hsz])
    rw [h1] at htk
    exact htk
   rw [← this]
   exact hg
 have HK2 := Lib.hid kk2
 have HB2 := Lib.hid hbox
 have hml : l.length ≤ maxLen := by omega
 clear hown2 hg2
 cases A with
 | none =>
  have hc0 := hn rfl
  have hl0 : l = [] := List.eq_nil_of_length_eq_zero (by omega)
  subst hl0
  subst hc0
  have hcp : ∀ ty, (Builtin.copy_ #[45, 45] ty #[.slice (some ⟨w.heap.size, 0, none⟩) 0 0, .slice none 0 0]).run Tryz.prog w2 = .ok (goInt 0) w2 := fun ty => run_copy_nil Tryz.prog w2 _ _ ty _ _ 0 0 Tryz.underlying45 (by rw [hi1]; rfl)
  have hmk0 : (Instr.makeSlice 45 (.int .i64 0) (.int .i64 0)).run Tryz.prog w = .ok (.slice (some ⟨w.heap.size, 0, none⟩) 0 0) w2 := hmk
  clear hbox kk2 hc hxl hmk
  go_enter Tryz.func139, Tryz.ntmps139
  go_wp2
  go_ret
  exact ⟨w.heap.size, rfl, HK2.out, Nat.le_refl _, Nat.zero_le _, HB2.out⟩
 | some ad =>
  have hcp : ∀ ty, (Builtin.copy_ #[45, 45] ty #[.slice (some ⟨w.heap.size, 0, none⟩) l.length l.length, .slice (some ad) l.length c]).run Tryz.prog w2 = .ok (goInt l.length) (w2.setRow w.heap.size (svs l)) := fun ty =>
   run_copy3 w2 _ _ ty _ w.heap.size l.length l.length c ad _ _ (l.flatMap Pst.cells) Tryz.underlying45 (by rw [hi1, Option.map_some, hs1]) hbox (scells_length l) (fun j u hu => by
    have hj := (List.getElem?_eq_some_iff.1 hu).1
    rw [scells_length] at hj
    obtain ⟨ad', e, hsp, hlt, _, hcell⟩ := hc (by omega)
    injection e with e
    subst e
    rw [add_at ad hsp]
    exact (kk2.cell (p := ⟨ad.block, ad.off + j, none⟩) hlt id).trans (hcell j u hu)) (by rw [svs_size, List.length_replicate]) (scells_one l)
  have HB3 : Hid (Box (w2.setRow w.heap.size (svs l)) w.heap.size 61 (svs l)) := Lib.hid (hbox.setRow (svs l))
  have HK3 : Hid (Keep noneOf w (w2.setRow w.heap.size (svs l))) := Lib.hid (kk2.setRow (fun h => absurd h (Nat.lt_irrefl _)) _)
  clear hbox kk2 hc hxl HB2 HK2
  go_enter Tryz.func139, Tryz.ntmps139
  go_wp2
  go_ret
  exact ⟨w.heap.size, rfl, HK3.out, Nat.le_refl _, hml, HB3.out⟩
end Go.Proofs.YtffoeodjbbkdjaaGreat
namespace Go.Proofs.YtffoeodjbbkdjaaGreat
def lostS (s : Int) : Bool := decide (4 ≤ s) && decide (s ≤ 6)
def outc (ss : List Int) : Int := if ss.any lostS = true then 5 else if ss.all (fun s => s == 3) = true then 1 else 0
theorem outc_lost {ss : List Int} {s : Int} (h : s ∈ ss) (hs : lostS s = true) : outc ss = 5 := by
 unfold outc
 rw [if_pos (List.any_eq_true.2 ⟨s, h, hs⟩)]
theorem outc_else {ss : List Int} (h : ∀ s ∈ ss, lostS s = false) : outc ss = if ss.all (fun s => s == 3) = true then 1 else 0 := by
 unfold outc
 rw [if_neg]
 intro hh
 obtain ⟨s, hs, h2⟩ := List.any_eq_true.1 hh
 rw [h s hs] at h2
 cases h2
theorem outc_range (ss : List Int) : outc ss = 5 ∨ outc ss = 1 ∨ outc ss = 0 := by
 unfold outc
 split
 ·
  exact .inl rfl
 ·
  split
  ·
   exact .inr (.inl rfl)
  ·
   exact .inr (.inr rfl)
def needSt (ps : List Pt) (l : List Pst) (p : Nat) : List Int := (needsAt ps (p : Int)).map (fun n => (l.getD n Pst.zero).s)
def settleAt (ps : List Pt) (l0 : List Pst) (l : List Pst) (p : Nat) : Pst :=
 if (l0.getD p Pst.zero).s = 0 ∧ outc (needSt ps l p) ≠ 0 then ⟨outc (needSt ps l p), 0, 0⟩ else l0.getD p Pst.zero
noncomputable def grSettle (ps : List Pt) (l : List Pst) : List Pst := if (grOrder ps).length = l.length then runOf (settleAt ps l) l (grOrder ps) else []
theorem settleAt_looks (ps : List Pt) (l0 : List Pst) : Looks (ps.map (needsOf ps)) (settleAt ps l0) := by
 intro l m p h
 have e : needSt ps l p = needSt ps m p := by
  unfold needSt
  refine List.map_congr_left fun n hn => ?_
  rw [List.getD_eq_getElem?_getD, List.getD_eq_getElem?_getD, h n (by rw [needsAt_nd]; exact hn)]
 unfold settleAt
 rw [e]
theorem grSettle_length {ps : List Pt} {l : List Pst} (h : (grOrder ps).length = l.length) : (grSettle ps l).length = l.length := by
 unfold grSettle
 rw [if_pos h, runOf_length]
theorem runOf_untouched {α : Type} (f : List α → Nat → α) (l : List α) (order : List Nat) (q : Nat) (h : q ∉ order) : (runOf f l order)[q]? = l[q]? := by
 unfold runOf
 induction order generalizing l with
 | nil => rfl
 | cons p os ih =>
  rw [List.foldl_cons, ih _ (fun hq => h (List.mem_cons_of_mem _ hq)), List.getElem?_set_ne]
  rintro rfl
  exact h List.mem_cons_self
theorem order_next {ps : List Pt} {k p : Nat} (h : (grOrder ps)[k]? = some p) : p ∉ (grOrder ps).take k := by
 have hq := (order_some h).1
 rw [order_is hq] at h ⊢
 exact (Ordered.places ps k p h).2.1
theorem grSettle_sol {ps : List Pt} {l : List Pst} (h : grCheck ps = 0) (hl : l.length = ps.length) (p : Nat) (hp : p < ps.length) : (grSettle ps l)[p]? = some (settleAt ps l (grSettle ps l) p) := by
 have hp' := order_covers (Ordered.places ps).nodup (by simpa using (Ordered.places ps).lt) (by rw [← order_is h, order_len h]) p hp
 have := runOf_sol (settleAt_looks ps l) (Ordered.places ps) l (by rw [List.length_map, hl]) (placesOf ps).length p (by rw [List.take_length]; exact hp')
 rw [List.take_length] at this
 unfold grSettle
 rw [if_pos (by rw [order_len h, hl]), order_is h]
 exact this
theorem grSettle_only {ps : List Pt} {l m : List Pst} (h : grCheck ps = 0) (hl : l.length = ps.length) (hm : m.length = ps.length) (hs : ∀ p, p < ps.length → m[p]? = some (settleAt ps l m p)) : m = grSettle ps l := by
 have ho := Ordered.places ps
 have hlt : ∀ q ∈ (placesOf ps).take (placesOf ps).length, q < ps.length := fun q hq => by
  have := ho.lt q (List.mem_of_mem_take hq)
  simpa using this
 apply list_ext3
 intro p
 by_cases hp : p < ps.length
 ·
  have hp' := order_covers ho.nodup (by simpa using ho.lt) (by rw [← order_is h, order_len h]) p hp
  exact sol_same (settleAt_looks ps l) ho m (grSettle ps l) (placesOf ps).length (fun q hq => hs q (hlt q hq)) (fun q hq => grSettle_sol h hl q (hlt q hq)) p (by rw [List.take_length]; exact hp')
 ·
  rw [List.getElem?_eq_none (by omega), List.getElem?_eq_none (by rw [grSettle_length (by rw [order_len h, hl])]; omega)]
theorem grSettle_none {ps : List Pt} {l : List Pst} (h : grCheck ps ≠ 0) : grSettle ps l = [] := by
 unfold grSettle
 rw [order_none h]
 split
 ·
  rename_i hl
  have : l = [] := List.eq_nil_of_length_eq_zero (by simpa using hl.symm)
  rw [this]
  rfl
 ·
  rfl
theorem grSettle_other {ps : List Pt} {l : List Pst} (h : l.length ≠ ps.length) : grSettle ps l = [] := by
 by_cases hq : grCheck ps = 0
 ·
  unfold grSettle
  rw [if_neg (by rw [order_len hq]; omega)]
 ·
  exact grSettle_none hq
def stBegin (n : Nat) (fs : List Bool) : List Pst := (List.range n).map (fun i => ⟨if fs.getD i false = true then 3 else 0, 0, 0⟩)
theorem stBegin_length (n : Nat) (fs : List Bool) : (stBegin n fs).length = n := by simp [stBegin]
theorem stBegin_at {n : Nat} (fs : List Bool) {i : Nat} (h : i < n) : (stBegin n fs)[i]? = some ⟨if fs.getD i false = true then 3 else 0, 0, 0⟩ := by
 unfold stBegin
 rw [List.getElem?_map, List.getElem?_range h]
 rfl
noncomputable def grStart (ps : List Pt) (fs : List Bool) : List Pst := grSettle ps (stBegin ps.length fs)
end Go.Proofs.YtffoeodjbbkdjaaGreat
namespace Go.Proofs.YtffoeodjbbkdjaaGreat
open Go.RowKit
set_option maxRecDepth 100000 in
set_option maxHeartbeats 1000000 in
theorem outcome_any (w : World) (D D' : Nat → Prop) (v v' : Value) (l : List Pst) (ns : List Nat) (h : Sts w D v l) (h' : Ints w D' v' ns) (hl : ∀ n ∈ ns, n < l.length) :
  Calls Tryz.prog 140 #[v, v'] w fun e w' => e = .returned (.int .i64 (outc (ns.map (fun n => (l.getD n Pst.zero).s)))) ∧ Keep noneOf w w' := by
 obtain ⟨A, c, rfl, hlc, hcm, hn, hxl, hc⟩ := h
 obtain ⟨A', c', rfl, hlc', hcm', hn', hxl', hc'⟩ := h'
 unfold maxLen at hcm hcm'
 have HC := Lib.hid hc
 have HC' := Lib.hid hc'
 have HL := Lib.hid hl
 generalize hss : ns.map (fun n => (l.getD n Pst.zero).s) = ss
 generalize hR : outc ss = R
 have HR := Lib.hid hR
 have HSS : Hid (∀ (j n : Nat), ns[j]? = some n → ss[j]? = some (l.getD n Pst.zero).s) := Lib.hid fun j n e => by rw [← hss, List.getElem?_map, e]; rfl
 have hsl : ss.length = ns.length := by rw [← hss, List.length_map]
 have HSL := Lib.hid hsl
 clear hc hxl hR hc' hxl' hn hn' hl hss hsl
 go_enter Tryz.func140, Tryz.ntmps140
 go_wp2
 go_loopw [5, 10] (fun nx i wr => ∃ k : Nat, k ≤ ns.length ∧ i = .int .i64 k ∧ nx = .int .i64 (if (ss.take k).all (fun s => s == 3) = true then 1 else 0) ∧ Keep noneOf w wr ∧ ∀ j s, j < k → ss[j]? = some s → lostS s = false) (fun _ i _ => ns.length - (intOf i).toNat)
 case atStart => exact ⟨0, Nat.zero_le _, rfl, by rw [List.take_zero, List.all_nil]; rfl, Keep.refl _ _, fun j _ hj => absurd hj (by omega)⟩
 case round =>
  obtain ⟨k, hk, rfl, rfl, hkeep, hall⟩ := hrel
  have HA := Lib.hid hall
  have HKP := Lib.hid hkeep
  clear hall
  by_cases hlt : k < ns.length
  ·
   obtain ⟨ad', rfl, hsp', hblk', hD', hcell'⟩ := HC'.out (by omega)
   obtain ⟨b', o', sp'⟩ := ad'
   simp only at hsp' hblk' hD' hcell'
   subst hsp'
   have hck : wr.cell? ⟨b', o' + k, none⟩ = some (.int .i64 (ns[k] : Int)) := (hkeep.cell (p := ⟨b', o' + k, none⟩) hblk' id).trans (hcell' k _ (by rw [List.getElem?_map, List.getElem?_eq_getElem hlt]; rfl))
   have hnl := HL.out ns[k] (List.getElem_mem hlt)
   have hs0 := HSS.out k ns[k] (List.getElem?_eq_getElem hlt)
   generalize ns[k] = n at *
   obtain ⟨ad, rfl, hsp, hblk, hD, hcell⟩ := HC.out (by omega)
   obtain ⟨b, o, sp⟩ := ad
   simp only at hsp hblk hD hcell
   subst hsp
   obtain ⟨c0, c1, c2⟩ := sts_at hkeep hblk id hcell (getS_at hnl)
   generalize l.getD n Pst.zero = x at *
   have HS0 := Lib.hid hs0
   have q0 : (0 : Int) ≤ (n : Int) := by omega
   have q1 : (n : Int) < (l.length : Int) := by omega
   have HF := Lib.hid (final_any (wr.alloc (.cells #[.int .i64 x.s, .int .u64 x.t, .int .u64 x.u] 61)) x)
   have HK1 := Lib.hid (HKP.out.alloc (.cells #[.int .i64 x.s, .int .u64 x.t, .int .u64 x.u] 61))
   have hall : ∀ (b : Bool), b = (x.s == 3) → ∀ nx', nx' = (if (ss.take k).all (fun s => s == 3) && b = true then (1 : Int) else 0) → nx' = (if (ss.take (k + 1)).all (fun s => s == 3) = true then (1 : Int) else 0) := by
    rintro b rfl nx' rfl
    rw [List.take_add_one, HS0.out, List.all_append]
    simp
   have HALL := Lib.hid hall
   clear hcell hcell' hkeep hs0 HKP hall
   have hx : x.s = 3 ∨ lostS x.s = true ∨ (lostS x.s = false ∧ finB x.s = false) := by
    unfold lostS finB
    simp only [Bool.and_eq_true, Bool.and_eq_false_iff, decide_eq_true_eq, decide_eq_false_iff_not]
    omega
   rcases hx with hx | hx | ⟨hx, hf⟩
   ·
    have g : (x.s == 3) = true := by rw [hx]; rfl
    have HG := Lib.hid g
    have HX := Lib.hid hx
    clear hx
    generalize hnx : (if (ss.take k).all (fun s => s == 3) = true then (1 : Int) else 0) = nx at *
    have HNX := Lib.hid hnx
    clear hnx
    go_wp2
    go_roundw
    case rel =>
     refine ⟨k + 1, by omega, by go_num, ?_, HK1.out, fun j s hj e => ?_⟩
     ·
      congr 1
      exact HALL.out true HG.out.symm nx (by simpa using HNX.out.symm)
     ·
      rcases Nat.lt_or_ge j k with h | h
      ·
       exact HA.out j s h e
      ·
       have : j = k := by omega
       subst this
       rw [HS0.out] at e
       injection e with e
       rw [← e, HX.out]
       decide
    case measure => simp [intOf]; omega
   ·
    have g : (x.s == 3) = false := by
     rw [beq_eq_false_iff_ne]
     intro e
     rw [e] at hx
     exact absurd hx (by decide)
    have hf : finB x.s = true := by
     unfold lostS at hx
     unfold finB
     simp only [Bool.and_eq_true, decide_eq_true_eq] at hx ⊢
     omega
    have hR5 : R = 5 := by
     rw [← HR.out]
     exact outc_lost (List.mem_of_getElem? HS0.out) hx
    subst hR5
    rw [hf] at HF
    generalize (if (ss.take k).all (fun s => s == 3) = true then (1 : Int) else 0) = nx at *
    clear hx hf HALL HR
    go_wp2_with fail
    refine HF.out.mono ?_
    rintro e w1 ⟨rfl, k1⟩
    have HK2 := Lib.hid (HK1.out.trans k1 (fun _ _ h => h))
    clear HF k1 HK1 c0 c1 c2 hck
    go_wp2
    go_ret
    exact ⟨rfl, HK2.out⟩
   ·
    have g : (x.s == 3) = false := by
     rw [beq_eq_false_iff_ne]
     intro e
     rw [e] at hf
     exact absurd hf (by decide)
    have HG := Lib.hid g
    have HX := Lib.hid hx
    rw [hf] at HF
    generalize (if (ss.take k).all (fun s => s == 3) = true then (1 : Int) else 0) = nx at *
    clear hx hf
    go_wp2_with fail
    refine HF.out.mono ?_
    rintro e w1 ⟨rfl, k1⟩
    have HK2 := Lib.hid (HK1.out.trans k1 (fun _ _ h => h))
    clear HF k1 HK1 c0 c1 c2 hck
    go_wp2
    go_roundw
    case rel =>
     refine ⟨k + 1, by omega, by go_num, ?_, HK2.out, fun j s hj e => ?_⟩
     ·
      congr 1
      exact HALL.out false HG.out.symm 0 (by simp)
     ·
      rcases Nat.lt_or_ge j k with h | h
      ·
       exact HA.out j s h e
      ·
       have : j = k := by omega
       subst this
       rw [HS0.out] at e
       injection e with e
       rw [← e]
       exact HX.out
    case measure => simp [intOf]; omega
  ·
   have hRn : R = (if (ss.take k).all (fun s => s == 3) = true then 1 else 0) := by
    rw [← HR.out, List.take_of_length_le (by rw [HSL.out]; omega)]
    refine outc_else (fun s hs => ?_)
    obtain ⟨j, hj⟩ := List.getElem?_of_mem hs
    exact HA.out j s (by have := (List.getElem?_eq_some_iff.1 hj).1; rw [HSL.out] at this; omega) hj
   rw [← hRn]
   have hkn : ¬ ((k : Int) < (ns.length : Int)) := by omega
   clear hlt hkeep hRn
   go_wp2
   go_ret
   exact ⟨rfl, HKP.out⟩
end Go.Proofs.YtffoeodjbbkdjaaGreat
namespace Go.Proofs.YtffoeodjbbkdjaaGreat
open Go.RowKit
theorem settle_step {ps : List Pt} {l : List Pst} {k p : Nat} (hl : (grOrder ps).length = l.length) (h : (grOrder ps)[k]? = some p) :
  (runOf (settleAt ps l) l ((grOrder ps).take k))[p]? = some (l.getD p Pst.zero) ∧ (runOf (settleAt ps l) l ((grOrder ps).take k)).length = l.length := by
 have hp := (order_some h).2
 have hq := (order_some h).1
 have hpl : p < l.length := by rw [← hl, order_len hq]; exact hp
 exact ⟨by rw [runOf_untouched _ _ _ _ (order_next h)]; exact getS_at hpl, by rw [runOf_length]⟩
theorem Box.putS {w : World} {g : Nat} {e : TypeId} {l : List Pst} (h : Box w g e (svs l)) (p : Nat) (y : Pst) (hp : p < l.length) :
  Box (((w.setCell ⟨g, p * 3, none⟩ (.int .i64 y.s)).setCell ⟨g, p * 3 + 1, none⟩ (.int .u64 y.t)).setCell ⟨g, p * 3 + 2, none⟩ (.int .u64 y.u)) g e (svs (l.set p y)) := by
 rw [← svs_set l p y hp]
 exact ((h.put (p * 3) _).put (p * 3 + 1) _).put (p * 3 + 2) _
theorem keep_put3 (w : World) (g p : Nat) (a b c : Value) : Keep (fun i => i = g) w (((w.setCell ⟨g, p * 3, none⟩ a).setCell ⟨g, p * 3 + 1, none⟩ b).setCell ⟨g, p * 3 + 2, none⟩ c) :=
 (((Keep.refl (fun i => i = g) w).setCell (fun _ => rfl) _).setCell (fun _ => rfl) _).setCell (fun _ => rfl) _
theorem Keep.own {w w' w'' : World} {g : Nat} (h : Keep noneOf w w') (k : Keep (fun i => i = g) w' w'') (hg : w.heap.size ≤ g) : Keep noneOf w w'' := h.trans k (fun i hi e => by omega)
set_option maxRecDepth 100000 in
set_option maxHeartbeats 4000000 in
theorem settle_any (w : World) (D Dl : Nat → Prop) (v vl : Value) (ts : List Tg) (l : List Pst) (h : Tgs w D v ts) (h' : Sts w Dl vl l) (hb : l.length * 24 ≤ reachBytes) :
  Calls Tryz.prog 108 #[.agg #[v], vl] w (ToldSts (grSettle (ts.map Tg.plain) l) w) := by
 have HH := Lib.hid h
 have HL := Lib.hid h'
 have HBB := Lib.hid hb
 obtain ⟨A, c, rfl, hlc, hcm, hn, hxl, hc⟩ := h.1
 obtain ⟨Al, cl, rfl⟩ := h'.shape
 have hlm := h'.few
 unfold maxLen at hcm hlm
 have ka := (Keep.refl noneOf w).alloc (.cells #[.slice A ts.length c] 35)
 have HK0 := Lib.hid ka
 have HX0 := Lib.hid (Box.new w 35 #[.slice A ts.length c])
 have HO := Lib.hid (order_any _ D _ ts (h.keep ka (fun _ _ _ => id)))
 have HAT : Hid (∀ i p, (grOrder (ts.map Tg.plain))[i]? = some p → _) := Lib.hid fun i p hp => order_some hp
 have h32 := order_32 (ts.map Tg.plain)
 have HST : Hid (∀ k p, (grOrder (ts.map Tg.plain)).length = l.length → (grOrder (ts.map Tg.plain))[k]? = some p → _) := Lib.hid fun k p hl hp => settle_step hl hp
 have HLEN := Lib.hid (show grCheck (ts.map Tg.plain) = 0 → (grOrder (ts.map Tg.plain)).length = ts.length from fun hq => by rw [order_len hq, List.length_map])
 have HFEW := Lib.hid (show grCheck (ts.map Tg.plain) = 0 → fewNeeds ts from fun hq => (fits_few (check_fits hq).1).2)
 have HR := Lib.hid (show grSettle (ts.map Tg.plain) l = if (grOrder (ts.map Tg.plain)).length = l.length then runOf (settleAt (ts.map Tg.plain) l) l (grOrder (ts.map Tg.plain)) else [] from rfl)
 generalize grSettle (ts.map Tg.plain) l = R at *
 generalize grOrder (ts.map Tg.plain) = ord at *
 clear h ka hc hxl hn h' hb
 by_cases hlen : ord.length = l.length
 ·
  have HLN := Lib.hid hlen
  rw [if_pos hlen] at HR
  have g0 : ((ord.length : Int) != (l.length : Int)) = false := by rw [hlen, bne_self_eq_false]
  clear hlen
  go_enter Tryz.func108, Tryz.ntmps108
  go_wp2_with fail
  refine HO.out.mono ?_
  rintro e w1 ⟨v1, rfl, o1, k1⟩
  obtain ⟨A1, c1, hv1⟩ := o1.shape
  subst hv1
  have K1 := HK0.out.trans k1 (fun _ _ h => h)
  have HK1 := Lib.hid K1
  have HX1 := Lib.hid (HX0.out.keep k1 id)
  have HO1 := Lib.hid o1
  have HCP := Lib.hid (copied_any w1 Dl _ l (HL.out.keep K1 (fun _ _ _ => id)) HBB.out)
  clear HK0 HX0 HO o1 k1 K1
  go_wp2_with fail
  refine HCP.out.mono ?_
  rintro e w2 ⟨M, rfl, k2, hM, hml, hB2⟩
  have hX1 := HX1.out
  have hlt1 := hX1.lt
  have HK2 := Lib.hid (HK1.out.trans k2 (fun _ _ h => h))
  have HX2 := Lib.hid (hX1.keep k2 id)
  have HI2 := Lib.hid (Row.keep (Row.mono (D' := fun b => b ≠ M) HO1.out (fun i hi h => by omega)) k2 (fun _ _ _ => id) : Ints w2 (fun b => b ≠ M) (.slice A1 ord.length c1) ord)
  have HB2 := Lib.hid hB2
  have hGM : w.heap.size ≠ M := by omega
  have hGM' : w.heap.size < M := by omega
  clear HCP HO1 HX1 HK1 k2 hM hB2 hX1 hlt1
  go_wp2
  go_loopw [21] (fun i wr => ∃ k : Nat, k ≤ ord.length ∧ i = .int .i64 k ∧ Keep noneOf w wr ∧ Box wr w.heap.size 35 #[.slice A ts.length c] ∧ Ints wr (fun b => b ≠ M) (.slice A1 ord.length c1) ord ∧ Box wr M 61 (svs (runOf (settleAt (ts.map Tg.plain) l) l (ord.take k)))) (fun i _ => ord.length - (intOf i).toNat)
  case atStart => exact ⟨0, Nat.zero_le _, rfl, HK2.out, HX2.out, HI2.out, HB2.out⟩
  case round =>
   obtain ⟨k, hk, rfl, hkeep, hX, hO, hB⟩ := hrel
   have HKP := Lib.hid hkeep
   have HX := Lib.hid hX
   have HO := Lib.hid hO
   have HB := Lib.hid hB
   clear hX hO hB HK2 HX2 HI2 HB2
   by_cases hlt : k < ord.length
   ·
    obtain ⟨hq, hpl⟩ := HAT.out k ord[k] (List.getElem?_eq_getElem hlt)
    rw [List.length_map] at hpl
    have hst := HST.out k ord[k] HLN.out (List.getElem?_eq_getElem hlt)
    obtain ⟨A', c', hv', hl', hm', _, _, hrow⟩ := HO.out
    obtain ⟨rfl, rfl⟩ : A1 = A' ∧ c1 = c' := by simpa using hv'
    obtain ⟨ad, rfl, hsp, hblk, hDb, hcell⟩ := hrow (by omega)
    obtain ⟨b, o, sp⟩ := ad
    simp only at hsp hblk hDb hcell
    subst hsp
    unfold maxLen at hm'
    have hck : wr.cell? ⟨b, o + k, none⟩ = some (.int .i64 (ord[k] : Int)) := hcell k _ (by rw [List.getElem?_map, List.getElem?_eq_getElem hlt]; rfl)
    have HSTEP := Lib.hid (runOf_more (settleAt (ts.map Tg.plain) l) l ord k ord[k] (List.getElem?_eq_getElem hlt))
    generalize hL : runOf (settleAt (ts.map Tg.plain) l) l (ord.take k) = L at *
    generalize ord[k] = p at *
    have HFW := Lib.hid (HFEW.out hq)
    have hol := HLEN.out hq
    have hLl : L.length = l.length := hst.2
    have hpL : p < l.length := by rw [← HLN.out, hol]; exact hpl
    have HNL : Hid (∀ n ∈ needsAt (ts.map Tg.plain) (p : Int), n < L.length) := Lib.hid fun n hn => by
     have := needsAt_lt hn
     rw [List.length_map] at this
     rw [hLl, ← HLN.out, hol]
     exact this
    have NE : Hid (∀ w', Keep noneOf wr w' → Calls Tryz.prog 133 #[.agg #[.slice A ts.length c], .int .i64 (p : Int)] w' (ToldInts (needsAt (ts.map Tg.plain) (p : Int)) w')) := Lib.hid fun w' k' => needs_any w' D _ ts (p : Int) (HH.out.keep (hkeep.trans k' (fun _ _ h => h)) (fun _ _ _ => id)) HFW.out
    have HLS := Lib.hid (show Sts wr (fun _ => True) (.slice (some ⟨M, 0, none⟩) l.length l.length) L by
     have := Sts.of_box (D := fun _ => True) HB.out (Nat.le_refl _) (by rw [hLl]; exact hml) trivial
     rw [hLl] at this
     exact this)
    have HAT2 : Hid (settleAt (ts.map Tg.plain) l L p = if (l.getD p Pst.zero).s = 0 ∧ outc ((needsAt (ts.map Tg.plain) (p : Int)).map (fun n => (L.getD n Pst.zero).s)) ≠ 0 then ⟨outc ((needsAt (ts.map Tg.plain) (p : Int)).map (fun n => (L.getD n Pst.zero).s)), 0, 0⟩ else l.getD p Pst.zero) := Lib.hid rfl
    generalize settleAt (ts.map Tg.plain) l L p = y at *
    generalize needsAt (ts.map Tg.plain) (p : Int) = ns at *
    have hx := hst.1
    generalize l.getD p Pst.zero = x at *
    have x0 : wr.cell? ⟨w.heap.size, 0, none⟩ = some (.slice A ts.length c) := HX.out.cell 0
    have NE0 := Lib.hid (NE.out wr (Keep.refl _ _))
    have HS := Lib.hid hx
    have HLL := Lib.hid hLl
    have HHO := Lib.hid hol
    have q0 : (0 : Int) ≤ (p : Int) := by omega
    have q1 : (p : Int) < (l.length : Int) := by omega
    clear hrow hcell hv' hq hkeep hL hst hx NE hol
    go_wp2_with fail
    refine NE0.out.mono ?_
    rintro e w5 ⟨v5, rfl, o5, k5⟩
    obtain ⟨A6, c6, hv6⟩ := o5.shape
    subst hv6
    have HOC := Lib.hid (outcome_any w5 _ _ _ _ L ns (HLS.out.keep k5 (fun _ _ _ => id)) o5 HNL.out)
    have HX5 := Lib.hid (HX.out.keep k5 id)
    have HB5 := Lib.hid (HB.out.keep k5 id)
    have HK5 := Lib.hid (HKP.out.trans k5 (fun _ _ h => h))
    have HO5 := Lib.hid (Row.keep HO.out k5 (fun _ _ _ => id))
    clear NE0 HX HB HKP HO HLS o5 k5 x0 hck
    generalize ns.map (fun n => (L.getD n Pst.zero).s) = ss at *
    have hrange := outc_range ss
    generalize outc ss = oc at *
    go_wp2_with fail
    refine HOC.out.mono ?_
    rintro e w6 ⟨rfl, k6⟩
    have HX6 := Lib.hid (HX5.out.keep k6 id)
    have HB6 := Lib.hid (HB5.out.keep k6 id)
    have HK6 := Lib.hid (HK5.out.trans k6 (fun _ _ h => h))
    have HO6 := Lib.hid (Row.keep HO5.out k6 (fun _ _ _ => id))
    clear HOC HX5 HB5 HK5 HO5 k6
    obtain ⟨c0, c1, c2⟩ := HB6.out.state HS.out
    by_cases hch : x.s = 0 ∧ oc ≠ 0
    ·
     have hy : y = ⟨oc, 0, 0⟩ := by rw [HAT2.out, if_pos hch]
     subst hy
     have g1 : (x.s == 0) = true := by rw [hch.1]; rfl
     have g2 : (oc != 0) = true := by rw [bne_iff_ne]; exact hch.2
     have f0 := HB6.out.free (p * 3)
     have f1 := HB6.out.free (p * 3 + 1)
     have f2 := HB6.out.free (p * 3 + 2)
     clear hch hrange HAT2
     go_wp2
     have kp := keep_put3 w6 M p (.int .i64 oc) (.int .u64 0) (.int .u64 0)
     have HB7 := Lib.hid (HB6.out.putS p ⟨oc, 0, 0⟩ (by rw [HLL.out]; exact hpL))
     have HK7 := Lib.hid (HK6.out.own kp (by omega))
     have HX7 := Lib.hid (HX6.out.keep kp hGM)
     have HO7 := Lib.hid (Row.keep HO6.out kp (fun i _ h e => h e))
     clear kp HB6 HK6 HX6 HO6 c0 c1 c2 f0 f1 f2
     go_roundw
     case rel => exact ⟨k + 1, by omega, by go_num, HK7.out, HX7.out, HO7.out, by rw [HSTEP.out]; exact HB7.out⟩
     case measure => simp [intOf]; omega
    ·
     have hy : y = x := by rw [HAT2.out, if_neg hch]
     subst hy
     have HSM := Lib.hid (set_same L p y HS.out)
     rw [HSM.out] at HSTEP
     by_cases hs0 : y.s = 0
     ·
      have hoc : oc = 0 := Classical.byContradiction fun h => hch ⟨hs0, h⟩
      subst hoc
      have g1 : (y.s == 0) = true := by rw [hs0]; rfl
      clear hch hrange HAT2 HSM hs0
      go_wp2
      go_roundw
      case rel => exact ⟨k + 1, by omega, by go_num, HK6.out, HX6.out, HO6.out, by rw [HSTEP.out]; exact HB6.out⟩
      case measure => simp [intOf]; omega
     ·
      have g1 : (y.s == 0) = false := by rw [beq_eq_false_iff_ne]; exact hs0
      clear hch hrange HAT2 HSM hs0
      go_wp2
      go_roundw
      case rel => exact ⟨k + 1, by omega, by go_num, HK6.out, HX6.out, HO6.out, by rw [HSTEP.out]; exact HB6.out⟩
      case measure => simp [intOf]; omega
   ·
    have e1 : ord.take k = ord := List.take_of_length_le (by omega)
    rw [e1, ← HR.out] at HB
    have hRl : R.length = l.length := by rw [HR.out, runOf_length]
    have HRL := Lib.hid hRl
    have hkn : ¬ ((k : Int) < (ord.length : Int)) := by omega
    clear e1 hkeep hlt hRl
    go_wp2
    go_ret
    refine ⟨_, rfl, HKP.out, .inr ⟨M, by rw [HRL.out]; rfl, by omega, by rw [HRL.out]; exact hml, HB.out⟩⟩
 ·
  rw [if_neg hlen] at HR
  have g0 : ((ord.length : Int) != (l.length : Int)) = true := by rw [bne_iff_ne]; omega
  clear hlen HST
  go_enter Tryz.func108, Tryz.ntmps108
  go_wp2_with fail
  refine HO.out.mono ?_
  rintro e w1 ⟨v1, rfl, o1, k1⟩
  obtain ⟨A1, c1, hv1⟩ := o1.shape
  subst hv1
  have HK1 := Lib.hid (HK0.out.trans k1 (fun _ _ h => h))
  clear HK0 HX0 HO o1 k1
  go_wp2
  go_ret
  exact ⟨_, rfl, HK1.out, .inl ⟨rfl, HR.out⟩⟩
end Go.Proofs.YtffoeodjbbkdjaaGreat
