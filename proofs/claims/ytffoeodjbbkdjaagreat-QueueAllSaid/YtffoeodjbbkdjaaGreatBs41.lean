import Derived.KernelRfl
import Derived.Test.YtffoeodjbbkdjaaGreatBs22
import Derived.Test.YtffoeodjbbkdjaaGreatBs38
import Derived.Test.YtffoeodjbbkdjaaGreatBs40
namespace Go.Proofs.YtffoeodjbbkdjaaGreat
open Go.RowKit
def aliveT : Tg := ⟨⟨#[97]⟩, ⟨#[]⟩, .slice none 0 0, []⟩
def aliveC1 : Cq := ⟨1, 1, 0, [], 0, 0, false, 0⟩
def aliveC2 : Cq := ⟨2, 1, 1, [aliveT.plain], 0, 0, false, 0⟩
def aliveC3 : Cq := ⟨3, 1, 2, [], 0, 0, false, 0⟩
def aliveA2 : An := ⟨0, 1, 0, 0, ⟨#[]⟩, ⟨#[]⟩⟩
def aliveA3 : An := ⟨0, 1, 1, 8, ⟨#[97]⟩, ⟨#[]⟩⟩
def aliveQ1 : Qp := ⟨0, 1, 1, [⟨1, 0, .zero⟩], [], []⟩
def aliveQ2 : Qp := ⟨0, 2, 1, [⟨1, 1, aliveA2⟩], [⟨1, [aliveT.plain], [⟨1, 0, 0⟩]⟩], []⟩
def aliveQ3 : Qp := ⟨0, 2, 2, [⟨1, 2, aliveA3⟩], [⟨1, [aliveT.plain], [⟨2, 1, 8⟩]⟩], []⟩
theorem alive1 : applyP Qp.new aliveC1 = (aliveQ1, An.err 0) := by kernel_rfl
theorem alive2 : applyP aliveQ1 aliveC2 = (aliveQ2, aliveA2) := by kernel_rfl
theorem alive3 : applyP aliveQ2 aliveC3 = (aliveQ3, aliveA3) := by kernel_rfl
theorem alive4 : viewP aliveQ3 1 = (0, 0, [⟨2, 1, 8⟩]) := by kernel_rfl
structure Mine (w v : World) (D : Nat → Prop) (q : Qm) : Prop where
 at_ : QAt v D q
 keep : Keep noneOf w v
 new : ∀ i, D i → w.heap.size ≤ i
theorem Mine.stay {w v u : World} {D : Nat → Prop} {q : Qm} (h : Mine w v D q) (k : Keep noneOf v u) : Mine w u D q := ⟨h.at_.stay k, h.keep.trans k (fun _ _ h => h), h.new⟩
theorem Mine.does {w v u : World} {D : Nat → Prop} {q : Qm} {r : Qp × An} {e : Ending} (h : Mine w v D q) (hd : Does q D r v e u) : ∃ s, e = .returned r.2.agg ∧ Mine w u (grown v u D) s ∧ s.p = q.p ∧ s.plain = r.1 ∧ Keep D v u := by
 obtain ⟨s, he, ha, hp, hr, hk⟩ := hd
 exact ⟨s, he, ⟨ha, h.keep.trans hk (fun i hi hD => absurd (h.new i hD) (by omega)), fun i hi => hi.elim (h.new i) (fun e => Nat.le_trans h.keep.size e.1)⟩, hp, hr, hk⟩
theorem zero_top : (0 : Int) ≤ 0 ∧ (0 : Int) ≤ top := by unfold top; decide
theorem four_max : (4 : Nat) ≤ maxLen := by unfold maxLen; decide
theorem few_reach : (1 : Nat) * 56 ≤ reachBytes := by rw [reach_is]; decide
theorem cm_none {w : World} {D : Nat → Prop} (k s n : Int) (hs : 0 ≤ s ∧ s ≤ top) (hn : 0 ≤ n ∧ n ≤ top) : (⟨k, s, n, .slice none 0 0, [], 0, 0, false, 0⟩ : Cm).lies w D where
 tgs := ⟨⟨none, 0, rfl, Nat.le_refl 0, Nat.zero_le _, fun _ => rfl, rfl, fun h => absurd h (Nat.lt_irrefl 0)⟩, fun t ht => by cases ht⟩
 few := Nat.zero_le _
 needs := fun t ht => by cases ht
 ses := hs
 seq := hn
 id := zero_top
 tok := zero_top
 time := zero_top
theorem cm_one {w : World} {g : Nat} (hg : Box w g 64 #[.string ⟨#[97]⟩, .string ⟨#[]⟩, .slice none 0 0]) (k s n : Int) (hs : 0 ≤ s ∧ s ≤ top) (hn : 0 ≤ n ∧ n ≤ top) : (⟨k, s, n, .slice (some ⟨g, 0, none⟩) 1 1, [aliveT], 0, 0, false, 0⟩ : Cm).lies w (fun i => i = g) where
 tgs := ⟨⟨some ⟨g, 0, none⟩, 1, rfl, Nat.le_refl 1, Nat.le_trans (by decide) four_max, fun e => (by cases e), rfl, fun _ => ⟨⟨g, 0, none⟩, rfl, rfl, hg.lt, rfl, fun j x hx => by
   show w.cell? ⟨g, 0 + j, none⟩ = some x
   rw [Nat.zero_add, hg.cell]
   simpa [aliveT, Tg.cells] using hx⟩⟩, fun t ht => by
   rw [List.mem_singleton] at ht
   subst ht
   exact ⟨Nat.le_trans (show 1 ≤ 4 by decide) four_max, Nat.zero_le _, ⟨none, 0, rfl, Nat.le_refl 0, Nat.zero_le _, fun _ => rfl, rfl, fun h => absurd h (Nat.lt_irrefl 0)⟩, fun s hs => by cases hs⟩⟩
 few := few_reach
 needs := fun t ht => by
  rw [List.mem_singleton] at ht
  subst ht
  exact Nat.zero_le _
 ses := hs
 seq := hn
 id := zero_top
 tok := zero_top
 time := zero_top
set_option maxRecDepth 100000 in
set_option maxHeartbeats 4000000 in
set_option linter.unusedSimpArgs false in
theorem alive_any (w : World) : Calls Tryz.prog 8 #[] w (TellsB true w) := by
 have NW := Lib.hid (qnew_any w)
 go_enter Tryz.func8, Tryz.ntmps8
 go_wp2_with fail
 refine NW.out.mono ?_
 rintro e w1 ⟨q, D, rfl, hq, hpl, k1, hD⟩
 have HM1 : Hid (Mine w w1 D q) := Lib.hid ⟨hq, k1, hD⟩
 have hi1 : Inv q.plain := by rw [hpl]; exact inv_new
 have A1 : Hid (Calls Tryz.prog 9 #[.pointer (some ⟨q.p, 0, none⟩), .agg #[.int .i64 1, .int .u64 1, .int .u64 0, .slice none 0 0, .int .u64 0, .int .u64 0, .bool false, .int .u64 0]] w1 (Does q D (aliveQ1, An.err 0) w1)) := Lib.hid (by
  have := apply_any w1 D (fun _ => False) q hq hi1 ⟨1, 1, 0, .slice none 0 0, [], 0, 0, false, 0⟩ (cm_none 1 1 0 (by unfold top; decide) (by unfold top; decide))
  rw [hpl] at this
  have e : applyP Qp.new (Cm.plain ⟨1, 1, 0, .slice none 0 0, [], 0, 0, false, 0⟩) = (aliveQ1, An.err 0) := alive1
  rw [e] at this
  exact this)
 clear NW hq hpl k1 hD hi1
 go_wp2_with fail
 refine A1.out.mono ?_
 intro e w2 hd
 obtain ⟨s2, rfl, hm2, hp2, hpl2, _⟩ := Mine.does HM1.out hd
 have HM2 := Lib.hid hm2
 have KA := (Keep.refl noneOf w2).alloc (.cells #[.string ⟨#[97]⟩, .string ⟨#[]⟩, .slice none 0 0] 64)
 have hi2 : Inv s2.plain := by rw [hpl2]; exact (show (applyP Qp.new aliveC1).1 = aliveQ1 from by rw [alive1]) ▸ inv_apply inv_new (c := aliveC1) ⟨by unfold top; decide, by unfold top; decide, by unfold top; decide⟩
 have A2 : Hid (Calls Tryz.prog 9 #[.pointer (some ⟨q.p, 0, none⟩), .agg #[.int .i64 2, .int .u64 1, .int .u64 1, .slice (some ⟨w2.heap.size, 0, none⟩) 1 1, .int .u64 0, .int .u64 0, .bool false, .int .u64 0]] (w2.alloc (.cells #[.string ⟨#[97]⟩, .string ⟨#[]⟩, .slice none 0 0] 64)) (Does s2 (grown w1 w2 D) (aliveQ2, aliveA2) (w2.alloc (.cells #[.string ⟨#[97]⟩, .string ⟨#[]⟩, .slice none 0 0] 64)))) := Lib.hid (by
  have := apply_any _ _ _ s2 (hm2.at_.stay KA) hi2 _ (cm_one (Box.new w2 64 #[.string ⟨#[97]⟩, .string ⟨#[]⟩, .slice none 0 0]) 2 1 1 (by unfold top; decide) (by unfold top; decide))
  rw [hpl2, hp2] at this
  have e : applyP aliveQ1 (Cm.plain ⟨2, 1, 1, .slice (some ⟨w2.heap.size, 0, none⟩) 1 1, [aliveT], 0, 0, false, 0⟩) = (aliveQ2, aliveA2) := alive2
  rw [e] at this
  exact this)
 have HMA := Lib.hid (hm2.stay KA)
 clear A1 HM1 hd hm2 hpl2 KA HM2
 go_wp2_with fail
 refine A2.out.mono ?_
 intro e w3 hd
 obtain ⟨s3, rfl, hm3, hp3, hpl3, _⟩ := Mine.does HMA.out hd
 have hi3 : Inv s3.plain := by
  rw [hpl3]
  exact (show (applyP aliveQ1 aliveC2).1 = aliveQ2 from by rw [alive2]) ▸ inv_apply ((show (applyP Qp.new aliveC1).1 = aliveQ1 from by rw [alive1]) ▸ inv_apply inv_new (c := aliveC1) ⟨by unfold top; decide, by unfold top; decide, by unfold top; decide⟩) (c := aliveC2) ⟨by unfold top; decide, by unfold top; decide, by unfold top; decide⟩
 unfold aliveA2 An.agg
 dsimp only
 have KB := (Keep.refl noneOf w3).alloc (.cells #[.int .i64 0, .int .u64 1, .int .u64 0, .int .u64 0, .string ⟨#[]⟩, .string ⟨#[]⟩] 40)
 have HX2 := Lib.hid (Box.new w3 40 #[.int .i64 0, .int .u64 1, .int .u64 0, .int .u64 0, .string ⟨#[]⟩, .string ⟨#[]⟩])
 have hx2n : ¬ grown (w2.alloc (.cells #[.string ⟨#[97]⟩, .string ⟨#[]⟩, .slice none 0 0] 64)) w3 (grown w1 w2 D) w3.heap.size := fun e => by have := hm3.at_.lt _ e; omega
 have A3 : Hid (Calls Tryz.prog 9 #[.pointer (some ⟨q.p, 0, none⟩), .agg #[.int .i64 3, .int .u64 1, .int .u64 2, .slice none 0 0, .int .u64 0, .int .u64 0, .bool false, .int .u64 0]] (w3.alloc (.cells #[.int .i64 0, .int .u64 1, .int .u64 0, .int .u64 0, .string ⟨#[]⟩, .string ⟨#[]⟩] 40)) (Does s3 (grown (w2.alloc (.cells #[.string ⟨#[97]⟩, .string ⟨#[]⟩, .slice none 0 0] 64)) w3 (grown w1 w2 D)) (aliveQ3, aliveA3) (w3.alloc (.cells #[.int .i64 0, .int .u64 1, .int .u64 0, .int .u64 0, .string ⟨#[]⟩, .string ⟨#[]⟩] 40)))) := Lib.hid (by
  have := apply_any _ _ (fun _ => False) s3 (hm3.at_.stay KB) hi3 _ (cm_none 3 1 2 (by unfold top; decide) (by unfold top; decide))
  rw [hpl3, hp3, hp2] at this
  have e : applyP aliveQ2 (Cm.plain ⟨3, 1, 2, .slice none 0 0, [], 0, 0, false, 0⟩) = (aliveQ3, aliveA3) := alive3
  rw [e] at this
  exact this)
 have HMB := Lib.hid (hm3.stay KB)
 have HX2N := Lib.hid hx2n
 have HI3 := Lib.hid hi3
 have HPL3 := Lib.hid hpl3
 clear A2 HMA hd hm3 hpl3 KB hx2n hi3
 go_wp2_with fail
 refine A3.out.mono ?_
 intro e w4 hd
 obtain ⟨s4, rfl, hm4, hp4, hpl4, hk4⟩ := Mine.does HMB.out hd
 have hi4 : Inv s4.plain := by
  rw [hpl4]
  have h1 := inv_apply HI3.out (c := aliveC3) ⟨by unfold top; decide, by unfold top; decide, by unfold top; decide⟩
  rw [HPL3.out, alive3] at h1
  exact h1
 unfold aliveA3 An.agg
 dsimp only
 have KC := (Keep.refl noneOf w4).alloc (.cells #[.int .i64 0, .int .u64 1, .int .u64 1, .int .u64 8, .string ⟨#[97]⟩, .string ⟨#[]⟩] 40)
 have HX2' := Lib.hid ((HX2.out.keep hk4 HX2N.out).keep KC id)
 have HX3 := Lib.hid (Box.new w4 40 #[.int .i64 0, .int .u64 1, .int .u64 1, .int .u64 8, .string ⟨#[97]⟩, .string ⟨#[]⟩])
 have HMC := Lib.hid (hm4.stay KC)
 have VW : Hid (Calls Tryz.prog 12 #[.pointer (some ⟨q.p, 0, none⟩), .int .u64 1] (w4.alloc (.cells #[.int .i64 0, .int .u64 1, .int .u64 1, .int .u64 8, .string ⟨#[97]⟩, .string ⟨#[]⟩] 40)) (ViewTold (0, 0, [⟨2, 1, 8⟩]) (w4.alloc (.cells #[.int .i64 0, .int .u64 1, .int .u64 1, .int .u64 8, .string ⟨#[97]⟩, .string ⟨#[]⟩] 40)))) := Lib.hid (by
  have := view_any _ _ s4 HMC.out.at_ hi4 1
  rw [hpl4, alive4, hp4, hp3, hp2] at this
  exact this)
 have hnow : s4.now = 0 := congrArg Qp.now hpl4
 have HNOW := Lib.hid hnow
 have HP := Lib.hid (hp4.trans (hp3.trans hp2))
 clear A3 HMB hd hm4 hpl4 KC hk4 HX2 HX2N hi4 hnow
 go_wp2_with fail
 refine VW.out.mono ?_
 rintro e w5 ⟨A5, c5, rfl, hst, k5⟩
 dsimp only at hst ⊢
 rw [show ([⟨2, 1, 8⟩] : List Pst).length = 1 from rfl] at hst ⊢
 have KD := (Keep.refl noneOf w5).alloc (.cells #[.int .i64 0, .int .u64 0, .slice A5 1 c5] 47)
 obtain ⟨b5, o5, hA5, hb5, _, hcl⟩ := (show Many Pst.cells 3 w5 _ (.slice A5 ([⟨2, 1, 8⟩] : List Pst).length c5) [⟨2, 1, 8⟩] from hst).cell (fun _ => rfl) (i := 0) (x := ⟨2, 1, 8⟩) rfl
 subst hA5
 have s0' : w5.cell? ⟨b5, o5, none⟩ = some (.int .i64 2) := hcl 0 (by decide)
 have s0 := (KD.cell (p := ⟨b5, o5, none⟩) hb5 id).trans s0'
 have HMD := Lib.hid ((HMC.out.stay k5).stay KD)
 have x20 := ((HX2'.out.keep k5 id).keep KD id).cell 1
 have x32 := ((HX3.out.keep k5 id).keep KD id).cell 2
 have x34 := ((HX3.out.keep k5 id).keep KD id).cell 4
 have NO := Lib.hid (now_any _ _ s4 HMD.out.at_)
 rw [HP.out, HNOW.out] at NO
 clear VW HMC HX2' HX3 k5 hst hcl KD HNOW s0'
 go_wp2_with fail
 refine NO.out.mono ?_
 rintro e w6 ⟨rfl, rfl⟩
 go_wp2
 go_ret
 exact ⟨rfl, HMD.out.keep⟩
end Go.Proofs.YtffoeodjbbkdjaaGreat
namespace Go.Proofs.YtffoeodjbbkdjaaGreat
open Go.RowKit Go.ChangeShapes Go.WideShapes Go.Deep
def KeysOk (q : Qp) : Prop := ∀ k ∈ q.built, (k : Int) < 18446744073709551616
theorem keys_new : KeysOk Qp.new := fun k hk => by cases hk
theorem getD_keys (ps : List Pt) (n : Nat) : (((grKeys ps).getD n 0 : Nat) : Int) < 18446744073709551616 := by
 exact getD_bound (keys_bound ps _ _) n
theorem keys_built {b : List Nat} {k : Nat} (hb : ∀ x ∈ b, (x : Int) < 18446744073709551616) (hk : (k : Int) < 18446744073709551616) : ∀ x ∈ builtP b k, (x : Int) < 18446744073709551616 := by
 unfold builtP
 split
 ·
  exact hb
 ·
  intro x hx
  have := List.mem_of_mem_drop hx
  rcases List.mem_append.1 this with h | h
  ·
   exact hb x h
  ·
   rw [List.mem_singleton.1 h]; exact hk
theorem keys_done {q : Qp} (h : KeysOk q) (c : Cq) : KeysOk (doneP q c).1 := by
 unfold doneP
 split
 ·
  unfold submitP
  split
  ·
   exact h
  ·
   split <;> exact h
 ·
  split
  ·
   unfold claimP
   split
   ·
    exact h
   ·
    dsimp only
    split <;> exact h
  ·
   split
   ·
    unfold renewP
    split
    ·
     exact h
    ·
     dsimp only
     split <;> exact h
   ·
    split
    ·
     unfold reportP
     split
     ·
      exact h
     ·
      dsimp only
      split
      ·
       exact keys_built h (getD_keys _ _)
      ·
       exact h
    ·
     unfold cancelP
     split
     ·
      exact h
     ·
      dsimp only
      split <;> exact h
theorem keys_apply {q : Qp} (h : KeysOk q) (c : Cq) : KeysOk (applyP q c).1 := by
 unfold applyP
 split
 ·
  split <;> exact h
 ·
  split
  ·
   exact h
  ·
   split
   ·
    exact h
   ·
    split
    ·
     exact h
    ·
     split
     ·
      exact h
     ·
      exact keys_done h c
structure Own (w v : World) (D : Nat → Prop) (p : Nat) (q : Qm) : Prop where
 mine : Mine w v D q
 at_ : q.p = p
 inv : Inv q.plain
 keys : KeysOk q.plain
theorem Own.stay {w v u : World} {D : Nat → Prop} {p : Nat} {q : Qm} (h : Own w v D p q) (k : Keep noneOf v u) : Own w u D p q :=
 ⟨h.mine.stay k, h.at_, h.inv, h.keys⟩
theorem Own.keep {w v : World} {D : Nat → Prop} {p : Nat} {q : Qm} (h : Own w v D p q) : Keep noneOf w v := h.mine.keep
theorem Own.free {w v : World} {D : Nat → Prop} {p : Nat} {q : Qm} (h : Own w v D p q) {i : Nat} (hi : v.heap.size ≤ i) : ¬ D i := fun hd => by have := h.mine.at_.lt i hd; omega
theorem Own.ofNew {w v : World} {q : Qm} {D : Nat → Prop} (h : QAt v D q) (hp : q.plain = Qp.new) (k : Keep noneOf w v) (hD : ∀ i, D i → w.heap.size ≤ i) : Own w v D q.p q :=
 ⟨⟨h, k, hD⟩, rfl, by rw [hp]; exact inv_new, by rw [hp]; exact keys_new⟩
def OwnDid (w : World) (D : Nat → Prop) (q : Qm) (c : Cq) (v : World) (p : Nat) (e : Ending) (u : World) : Prop :=
 ∃ s, e = .returned (applyP q.plain c).2.agg ∧ Own w u (grown v u D) p s ∧ s.plain = (applyP q.plain c).1 ∧ Keep D v u
theorem own_apply {w v : World} {D : Nat → Prop} {p : Nat} {q : Qm} (h : Own w v D p q) (c : Cm) {C : Nat → Prop} (hc : c.lies v C) :
  Calls Tryz.prog 9 #[.pointer (some ⟨p, 0, none⟩), c.agg] v (OwnDid w D q c.plain v p) := by
 have := apply_any v D C q h.mine.at_ h.inv c hc
 rw [h.at_] at this
 refine this.mono (fun e u hd => ?_)
 obtain ⟨s, he, hs, hp, hpl, hk⟩ := h.mine.does hd
 refine ⟨s, he, ⟨hs, hp.trans h.at_, ?_, ?_⟩, hpl, hk⟩
 ·
  rw [hpl]; exact inv_apply h.inv hc.ok
 ·
  rw [hpl]; exact keys_apply h.keys _
def OwnTold (q : Qm) (w : World) (e : Ending) (w' : World) : Prop := ∃ im : Im, e = .returned im.agg ∧ im.plain = q.plain ∧ im.lies w' (fun i => w.heap.size ≤ i) ∧ Keep noneOf w w'
theorem own_dump {w v : World} {D : Nat → Prop} {p : Nat} {q : Qm} (h : Own w v D p q) :
  Calls Tryz.prog 15 #[.pointer (some ⟨p, 0, none⟩)] v (OwnTold q v) := by
 have := dump_any v D q h.mine.at_ h.inv h.keys
 rw [h.at_] at this
 exact this
theorem Im.lies.shapes {w : World} {D : Nat → Prop} {im : Im} (h : im.lies w D) : ∃ A1 c1 A2 c2 A3 c3, im.sv = .slice A1 im.ses.length c1 ∧ im.gv = .slice A2 im.gs.length c2 ∧ im.bv = .slice A3 im.built.length c3 := by
 obtain ⟨A1, c1, e1⟩ := h.ses.shape
 obtain ⟨A2, c2, e2⟩ := h.gs.1.shape
 obtain ⟨A3, c3, e3, _⟩ := h.built.1
 exact ⟨A1, c1, A2, c2, A3, c3, e1, e2, e3⟩
theorem Cm.lies.shape {w : World} {D : Nat → Prop} {c : Cm} (h : c.lies w D) : ∃ A k, c.gv = .slice A c.ts.length k := by
 obtain ⟨A, k, e, _⟩ := h.tgs.1
 exact ⟨A, k, e⟩
theorem cm_at (b o k : Nat) (w : World) (c : Cm) (h : ∀ j, j < 8 → w.cell? ⟨b, o + (k * 8 + j), none⟩ = (Cm.cells c)[j]?) :
  w.cell? ⟨b, o + k * 8, none⟩ = some (.int .i64 c.kind) ∧ w.cell? ⟨b, o + k * 8 + 1, none⟩ = some (.int .u64 c.ses) ∧ w.cell? ⟨b, o + k * 8 + 2, none⟩ = some (.int .u64 c.seq) ∧ w.cell? ⟨b, o + k * 8 + 3, none⟩ = some c.gv ∧ w.cell? ⟨b, o + k * 8 + 4, none⟩ = some (.int .u64 c.id) ∧ w.cell? ⟨b, o + k * 8 + 5, none⟩ = some (.int .u64 c.tok) ∧ w.cell? ⟨b, o + k * 8 + 6, none⟩ = some (.bool c.good) ∧ w.cell? ⟨b, o + k * 8 + 7, none⟩ = some (.int .u64 c.time) :=
 ⟨h 0 (by decide), h 1 (by decide), h 2 (by decide), h 3 (by decide), h 4 (by decide), h 5 (by decide), h 6 (by decide), h 7 (by decide)⟩
section
variable {H : Type} {enc : TypeId × Value → H} {w : World}
set_option maxRecDepth 100000 in
theorem open_arg_cms {base : Nat} {v : Value} {d : DataW H} {p : List MemPlace} (hv : Value.okWide Tryz.prog w .any base 22 v) (h : DataW.Trod enc Tryz.prog w 0 (fun _ => true) true 22 v d p) (hw : Light 22 d) :
  ∃ (A : Option Addr) (c : Nat) (ks : List Cm), v = .slice A ks.length c ∧ Cms w (fun _ => True) (.slice A ks.length c) ks := by
 obtain ⟨a, len, cap, rfl⟩ := okWide_slice Tryz.underlying22 hv
 obtain ⟨fuel, hf⟩ := h
 obtain ⟨ks, hks, _⟩ := open_cms hf hw
 obtain ⟨A, c, hvv⟩ := hks.1.shape
 rw [hvv] at hks
 exact ⟨A, c, ks, hvv, hks⟩
end
end Go.Proofs.YtffoeodjbbkdjaaGreat
