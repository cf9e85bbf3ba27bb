import Derived.Test.YtkoikmdmejhhhaaGreatRows
import Derived.ChangeOld
import Derived.Deep.Slices
import Derived.Laws.OwnMore
import Derived.OpenShut
import Derived.ProofKit
import Derived.RangeFuncBox
import Derived.SizedLaws
import Derived.Test.YtkoikmdmejhhhaaGreatBs01
import Derived.Test.YtkoikmdmejhhhaaGreatBs16
import Derived.Test.YtkoikmdmejhhhaaGreatBs20
import Derived.Test.YtkoikmdmejhhhaaGreatBs24
namespace Go.Proofs.YtkoikmdmejhhhaaGreat
open Go.RowKit
theorem own_row {w : World} {base : Nat} {e : TypeId} {size : Nat} {v : Value} {n : Nat} {xs : List Value} (h : w.ownsRow base e size v n xs) {k : Nat} (hk : some k = v.ownBlock) : base ≤ k ∧ ∃ cs fz, w.heap[k]? = some (.cells cs e fz) := by
  rcases h.2 with ⟨rfl, _⟩ | ⟨g, cap, cur, rfl, hb, hg, _⟩
  · cases hk
  · have : k = g := by simpa [Value.ownBlock] using hk
    subst this
    exact ⟨hb, _, _, hg⟩
end Go.Proofs.YtkoikmdmejhhhaaGreat
namespace Go.Proofs.YtkoikmdmejhhhaaGreat
open Go.Shelf Go.RowKit Go.Maps
def metR (left : Lit → Bool) (l : List Ro) : List Ro := l.filter (fun r => !left (keyI r.id))
theorem met_start (l gs : List Ro) (h : ∀ r ∈ gs, r ∈ l) : metR (Maps.has (datum l)) gs = [] := by
  unfold metR
  rw [List.filter_eq_nil_iff]
  intro r hr
  rw [has_find]
  have : (findR l r.id).isSome = true := by
    unfold findR
    rw [List.find?_isSome]
    exact ⟨r, h r hr, by simp⟩
  rw [this]
  decide
theorem met_end {left : Lit → Bool} (h : ∀ kl, left kl = false) (l : List Ro) : metR left l = l := by
  unfold metR
  rw [List.filter_eq_self]
  intro r _
  rw [h]
  rfl
theorem met_step {left : Lit → Bool} {l : List Ro} {r : Ro} (hr : r ∈ l) (hp : l.Pairwise (fun a b => a.id < b.id)) (hl : left (keyI r.id) = true) :
    (metR (fun z => left z && !z.sameKey (keyI r.id)) l).Perm (metR left l ++ [r]) := by
  have hsame : ∀ gs : List Ro, (∀ g ∈ gs, g.id ≠ r.id) → metR (fun z => left z && !z.sameKey (keyI r.id)) gs = metR left gs := by
    intro gs hg
    unfold metR
    apply List.filter_congr
    intro g hgm
    show (!(left (keyI g.id) && !(keyI g.id).sameKey (keyI r.id))) = _
    rw [same_key, decide_eq_false (hg g hgm)]
    simp
  obtain ⟨l1, l2, rfl⟩ := List.append_of_mem hr
  rw [List.pairwise_append, List.pairwise_cons] at hp
  obtain ⟨_, ⟨h2, _⟩, h3⟩ := hp
  have e1 := hsame l1 (fun g hg e => by have := h3 g hg r (List.mem_cons_self ..); omega)
  have e2 := hsame l2 (fun g hg e => by have := h2 g hg; omega)
  have e3 : ∀ lf : Lit → Bool, metR lf (l1 ++ r :: l2) = metR lf l1 ++ (metR lf [r] ++ metR lf l2) := fun lf => by
    unfold metR
    rw [show l1 ++ r :: l2 = l1 ++ ([r] ++ l2) from rfl, List.filter_append, List.filter_append]
  rw [e3, e3, e1, e2]
  have e4 : metR (fun z => left z && !z.sameKey (keyI r.id)) [r] = [r] := by unfold metR; simp [same_key]
  have e5 : metR left [r] = [] := by unfold metR; simp [hl]
  rw [e4, e5, List.nil_append, List.append_assoc]
  exact (List.perm_append_comm).append_left _
theorem met_row {l : List Ro} {x : Int} {y : DT} (h : ∀ zd, (datum l).atKey (keyI x) zd = y) : ∃ r ∈ l, r.id = x ∧ y = lastD r.seq r.ans := by
  simp only [at_find] at h
  cases hq : findR l x with
  | none =>
    simp only [hq] at h
    have h1 := h .nil
    have h2 := h (.lit (.bool true))
    rw [← h1] at h2
    cases h2
  | some r =>
    simp only [hq] at h
    obtain ⟨hr, hx⟩ := findR_mem hq
    exact ⟨r, hr, hx, (h .nil).symm⟩
def zeroR : Value := .agg #[.int .u64 0, .int .u64 0, .int .i64 0, .int .u64 0, .int .u64 0, .int .u64 0, .string ⟨#[]⟩, .string ⟨#[]⟩]
theorem roinfo : (Tryz.prog.info? 71).map (fun i => (i.zero, i.size, i.bytes)) = some (some zeroR, 8, 80) := by kernel_rfl
structure RowSt (w : World) (m r : Nat) (l : List Ro) (left : Lit → Bool) (cnt : Nat) (pre : List Ro) (v : Value) (wr : World) : Prop where
  rg : wr.ranges Tryz.prog 23 lastElem m r l.length (datum l) left cnt
  own : wr.ownsRow w.heap.size 71 8 v pre.length (pre.flatMap Ro.cells)
  perm : pre.Perm (metR left l)
  keep : Keep noneOf w wr
  sm : ∃ g c, v = .slice (some ⟨g, 0, none⟩) pre.length c
theorem lits_iter {w : World} {m r n : Nat} {D : DT} {left : Lit → Bool} {cnt : Nat} (h : w.ranges Tryz.prog 23 lastElem m r n D left cnt) {base : Nat} {v : Value} {k : Nat} {xs : List Value} (ho : w.ownsRow base 71 8 v k xs) : some r ≠ v.ownBlock ∧ some m ≠ v.ownBlock := by
  obtain ⟨es, clock, since, seen, c0, hb, _, _, _, hr, _⟩ := h
  constructor
  · intro e
    obtain ⟨_, cur, fz, hc⟩ := own_row ho e
    rw [hr] at hc
    cases hc
  · intro e
    obtain ⟨_, cur, fz, hc⟩ := own_row ho e
    rw [hb] at hc
    cases hc
theorem RowSt.own4 {w wr w4 : World} {m r : Nat} {l pre : List Ro} {left : Lit → Bool} {cnt : Nat} {v : Value} (h : RowSt w m r l left cnt pre v wr) (hg4 : wr.grownBy w4 (some r)) (o1 o2 : Obj) : ((w4.alloc o1).alloc o2).ownsRow w.heap.size 71 8 v pre.length (pre.flatMap Ro.cells) := by
  have hne := (lits_iter h.rg h.own).1
  exact ((own_keep h.own (Keep.of_grown hg4) (fun j hj e => hne (by rw [hj, e]))).alloc o1).alloc o2
theorem RowSt.step {w wr w4 W' : World} {m r : Nat} {l pre : List Ro} {left : Lit → Bool} {cnt cnt' : Nat} {v v' : Value} (h : RowSt w m r l left cnt pre v wr) {ro : Ro} (hr : ro ∈ l) (hl : left (keyI ro.id) = true) (hp : l.Pairwise (fun a b => a.id < b.id))
    (hrg : w4.ranges Tryz.prog 23 lastElem m r l.length (datum l) (fun z => left z && !z.sameKey (keyI ro.id)) cnt') (hg4 : wr.grownBy w4 (some r)) {o1 o2 : Obj} (hg : ((w4.alloc o1).alloc o2).grownBy W' v.ownBlock) (hm : w.heap.size ≤ r)
    (hown : W'.ownsRow w.heap.size 71 8 v' (pre.length + 1) (pre.flatMap Ro.cells ++ ro.cells)) : RowSt w m r l (fun z => left z && !z.sameKey (keyI ro.id)) cnt' (pre ++ [ro]) v' W' := by
  have hne := lits_iter h.rg h.own
  have o4 := h.own4 hg4 o1 o2
  refine ⟨((hrg.alloc o1).alloc o2).kept hg hne.2 hne.1, ?_, ?_, ?_, ?_⟩
  · rw [List.length_append, List.flatMap_append]
    simpa using hown
  · exact (h.perm.append_right [ro]).trans (met_step hr hp hl).symm
  · have k4 : Keep noneOf w w4 := h.keep.trans (Keep.of_grown hg4) (fun i hi e => by injection e with e; omega)
    refine ((k4.alloc o1).alloc o2).trans (Keep.of_grown hg) (fun i hi e => ?_)
    have := (own_row o4 e).1
    omega
  · obtain ⟨g, c, e⟩ := ownsRow_succ hown
    exact ⟨g, c, by rw [e, List.length_append]; rfl⟩
theorem row_news (w : World) (ro : Ro) : ∀ (j : Nat) (u : Value), ro.cells[j]? = some u → (w.alloc (.cells #[.int .u64 ro.id, .int .u64 ro.seq, .int .i64 ro.ans.code, .int .u64 ro.ans.id, .int .u64 ro.ans.tok, .int .u64 ro.ans.unt, .string ro.ans.tgt, .string ro.ans.cmd] 71)).cell? ((⟨w.heap.size, 0, none⟩ : Addr).add j) = some u := by
  intro j u hj
  rw [add_at _ rfl, Nat.zero_add]
  rw [(Box.new w 71 _).cell j]
  show ro.cells.toArray[j]? = some u
  rw [List.getElem?_toArray]
  exact hj
set_option maxRecDepth 100000 in
set_option maxHeartbeats 2000000 in
theorem rows_any (w : World) (p m : Nat) (l : List Ro) (h : TabAt w p m l) (hf : l.length ≤ 16) : Calls Tryz.prog 55 #[.pointer (some ⟨p, 0, none⟩)] w fun e w' =>
    ∃ v, e = .returned v ∧ Many Ro.cells 8 w' (fun i => w.heap.size ≤ i) v l ∧ Keep noneOf w w' := by
  obtain ⟨i1, hi1, hz1, hs1, hb1⟩ := info_parts roinfo
  have HL := Lib.hid (len_any w p m l h)
  have HRI := Lib.hid h.rising
  have HF := Lib.hid hf
  obtain ⟨w2, hmk, hown2, hg2⟩ := run_make_own (P := Tryz.prog) w w.heap.size 26 71 i1 zeroR 8 Tryz.underlying26 hi1 hz1 hs1 .i64 .i64 l.length (by rw [hb1]; omega) (by unfold maxLen; omega) (Nat.le_refl _)
  have kk2 : Keep noneOf w w2 := (Keep.of_grown hg2).mono (fun _ _ h => by cases h)
  have hT2 := h.stay kk2
  have c0 : w2.cell? ⟨p, 0, none⟩ = some (.map (some m)) := hT2.box.cell 0
  have hmap := hT2.map
  have HO2 := Lib.hid hown2
  have HK2 := Lib.hid kk2
  have hp2 := hT2.lt.1
  clear h hown2 hg2 kk2 hT2
  go_enter Tryz.func55, Tryz.ntmps55
  go_wp2_with fail
  refine HL.out.mono ?_
  rintro e w1 ⟨rfl, rfl⟩
  go_wp2_with (first
    | (at_range; refine wpList_range_own _ rfl _ 119 rfl 23 142 law Tryz.underlying119 _ m _ _ rfl hmap ?_; intro w3 hrg3 hg3 hs3)
    | fail)
  have HST : Hid (RowSt w1 m w2.heap.size l (Maps.has (datum l)) (Maps.size (datum l)) [] (.slice (some ⟨w1.heap.size, 0, none⟩) 0 l.length) w3) := Lib.hid ⟨hrg3, own_keep HO2.out (Keep.of_grown hg3) (fun _ _ e => by cases e), by rw [met_start l l (fun _ h => h)], HK2.out.trans (Keep.of_grown hg3) (fun _ _ e => by cases e), ⟨_, _, rfl⟩⟩
  have HR : Hid (w1.heap.size ≤ w2.heap.size) := Lib.hid HK2.out.size
  clear hrg3 hg3 hs3 hmap hmk c0 hp2 HO2 HK2 HL
  generalize w2.heap.size = r at *
  go_frame
  go_loopw [3] (fun v wr => ∃ (left : Lit → Bool) (cnt : Nat) (pre : List Ro), RowSt w1 m r l left cnt pre v wr)
    (fun _ wr => wr.rangeLeft m r)
  case atStart => exact ⟨_, _, _, HST.out⟩
  case round =>
    obtain ⟨left, cnt, pre, hst⟩ := hrel
    have hrg := hst.rg
    obtain ⟨vg, vc, rfl⟩ := hst.sm
    have HS := Lib.hid hst
    have hpl : pre.length ≤ 16 := by
      have h1 := hst.perm.length_eq
      have h2 : (metR left l).length ≤ l.length := List.length_filter_le _ _
      have := HF.out
      omega
    clear hst HST
    go_wp2_with (first
      | (at_next; refine wpList_next_ranges _ rfl _ rfl 23 law lastElem (Value.int .u64) (fun y : Int × An => lastV y.1 y.2) (fun key kl hk => by obtain ⟨x, hx, _⟩ := Maps.keyOf_int_inv Tryz.underlying23 hk; exact ⟨x, hx⟩) (fun v y hv => by obtain ⟨s, a, e, _⟩ := lastElem_inv hv; exact ⟨(s, a), e⟩) m r l.length _ _ _ rfl hrg ?_ ?_)
      | fail)
    · intro hc0 hl0
      have HSO := Lib.hid (sort_any wr w1.heap.size vg vc pre l HS.out.own (by have := HS.out.perm; rwa [met_end hl0] at this) HRI.out hpl)
      have HB : Hid (w1.heap.size ≤ vg) := Lib.hid ((own_row HS.out.own rfl).1)
      have HKK := Lib.hid HS.out.keep
      clear hl0 hc0 hrg HS
      go_wp2_with fail
      refine HSO.out.mono ?_
      rintro e w5 ⟨rfl, hm5, k5⟩
      have H5 := Lib.hid hm5
      have K5 := Lib.hid (HKK.out.newer k5 HB.out)
      clear hm5 k5 HSO
      go_wp2
      go_ret
      exact ⟨_, rfl, H5.out.mono (fun i _ e => by have := HB.out; omega), K5.out⟩
    · intro x sq a kl yd yp w4 cnt2 hkey hlk hv hat hrg2 hlt hg2 hs2 hen
      obtain ⟨x', ex, hkl, _⟩ := Maps.keyOf_int_inv Tryz.underlying23 hkey
      obtain rfl : x = x' := by injection ex
      subst hkl
      obtain ⟨ro, hro, hid, hy⟩ := met_row hat
      obtain ⟨s', a', e1, e2⟩ := lastElem_inv hv
      rw [hy] at e2
      obtain ⟨rfl, rfl⟩ := lastD_inj (Prod.mk.inj e2).1
      have e3 := lastElem_mk sq a
      rw [e1] at e3
      have e4 := (Prod.mk.inj (Option.some.inj ((lastElem_mk ro.seq ro.ans).symm.trans e3))).1
      obtain ⟨rfl, rfl⟩ := lastD_inj e4
      subst hid
      have HSTEP := Lib.hid (fun o1 o2 W' v' hg hown => HS.out.step hro hlk HRI.out hrg2 hg2 (o1 := o1) (o2 := o2) (W' := W') (v' := v') hg HR.out hown)
      have HOW := Lib.hid (fun o1 o2 => HS.out.own4 hg2 o1 o2)
      have HNEW := Lib.hid (fun W => row_news W ro)
      have HL := Lib.hid (And.intro hrg hrg2)
      have HLT := Lib.hid hlt
      have HSZ : Hid (∀ o1 o2, w1.heap.size ≤ ((w4.alloc o1).alloc o2).heap.size) := Lib.hid fun o1 o2 => by have := HS.out.keep.size; simp; omega
      obtain ⟨rid, rseq, ⟨ac, ai, at_, au, ag, am⟩⟩ := ro
      unfold lastV at *
      dsimp only at *
      clear hro hlk hrg2 hg2 hrg hat hv hkey hy e1 e2 e3 e4 hlt hs2 HS
      go_wp2_with (first
        | (at_builtin; refine wpList_append_own _ rfl _ _ 26 rfl w1.heap.size 71 i1 _ 8 80 Tryz.underlying26 hi1 hz1 hs1 hb1 rfl (by decide) _ _ _ rfl (HOW.out _ _) ⟨w4.heap.size + 1, 0, none⟩ 1 1 [.int .u64 rid, .int .u64 rseq, .int .i64 ac, .int .u64 ai, .int .u64 at_, .int .u64 au, .string ag, .string am] rfl rfl (by have := HNEW.out (w4.alloc (.cells #[.int .u64 rseq, .int .i64 ac, .int .u64 ai, .int .u64 at_, .int .u64 au, .string ag, .string am] 142)); rw [World.size_alloc] at this; exact this) (by simp [Value.oneCell']) (by unfold maxLen; omega) (by omega) (HSZ.out _ _) ?_; intro v' w6 hown' hgrow _; have HS6 := Lib.hid (HSTEP.out _ _ w6 v' hgrow hown'); clear hown' hgrow)
        | go_in)
      go_roundw
      case rel => exact ⟨_, cnt2, _, HS6.out⟩
      case measure => rw [HS6.out.rg.left_eq, HL.out.1.left_eq]; exact HLT.out
end Go.Proofs.YtkoikmdmejhhhaaGreat
