import Derived.Test.YtffoeodjbbkdjaaGreatBs01
import Derived.Test.YtffoeodjbbkdjaaGreatBs25
namespace Go.Proofs.YtffoeodjbbkdjaaGreat
open Go.RowKit
theorem svs_own {w : World} {g : Nat} {l : List Pst} (h : Box w g 61 (svs l)) (hm : l.length ≤ maxLen) : OwnS w (.slice (some ⟨g, 0, none⟩) l.length l.length) l :=
 ⟨scells_length l, .inr ⟨g, l.length, svs l, rfl, Nat.zero_le _, h, Nat.le_refl _, hm, svs_size l, by
  unfold svs
  rw [← scells_length l, List.take_length]⟩⟩
theorem told_own {l : List Pst} {w' : World} {v : Value} {B : Nat} (h : (v = .slice none 0 0 ∧ l = []) ∨ ∃ g, v = .slice (some ⟨g, 0, none⟩) l.length l.length ∧ B ≤ g ∧ l.length ≤ maxLen ∧ Box w' g 61 (svs l)) :
  OwnS w' v l ∧ ∀ b, v.ownBlock = some b → B ≤ b := by
 rcases h with ⟨rfl, rfl⟩ | ⟨g, rfl, hg, hm, hb⟩
 ·
  exact ⟨⟨rfl, .inl ⟨rfl, rfl⟩⟩, fun b hb => (by cases hb)⟩
 ·
  exact ⟨svs_own hb hm, fun b e => by
   have : g = b := by simpa [Value.ownBlock] using e
   omega⟩
theorem own_row_in {w : World} {base : Nat} {e : TypeId} {size : Nat} {v : Value} {n : Nat} {xs : List Value} (h : w.ownsRow base e size v n xs) {D : Nat → Prop} (hD : ∀ b, v.ownBlock = some b → D b) : Row w D v n size xs := by
 rcases h.2 with ⟨rfl, rfl⟩ | ⟨g, cap, cur, rfl, hb, hg, hle, hmx, hsz, htk⟩
 ·
  exact ⟨none, 0, rfl, Nat.le_refl _, Nat.zero_le _, fun _ => rfl, h.1, fun h0 => absurd h0 (by simp)⟩
 ·
  refine ⟨some ⟨g, 0, none⟩, cap, rfl, hle, hmx, fun e => (by cases e), h.1, fun _ => ⟨⟨g, 0, none⟩, rfl, rfl, (Array.getElem?_eq_some_iff.1 hg).1, hD g rfl, fun j b hb => ?_⟩⟩
  rw [← htk, List.getElem?_take] at hb
  split at hb
  ·
   show w.cell? ⟨g, 0 + j, none⟩ = _
   rw [Nat.zero_add, cell_of_row w g j cur e (0, 0) hg]
   simpa using hb
  ·
   cases hb
theorem OwnS.sts {w : World} {v : Value} {l : List Pst} (h : OwnS w v l) {D : Nat → Prop} (hD : ∀ b, v.ownBlock = some b → D b) : Sts w D v l := by
 refine own_row_in h hD
set_option maxRecDepth 100000 in
theorem expire_own (w : World) (D : Nat → Prop) (v : Value) (l : List Pst) (h : Sts w D v l) (h24 : l.length * 24 ≤ reachBytes) (now : Int) :
  Calls Tryz.prog 112 #[v, .int .u64 now] w (OwnSts (repl 1 (pastB now) l) w) := by
 have ka := (Keep.refl noneOf w).alloc (.cells #[.int .u64 now] 23)
 have HK := Lib.hid ka
 obtain ⟨A, c, rfl⟩ := h.shape
 have RP := Lib.hid (replaced_any _ D _ l (h.keep ka (fun _ _ _ => id)) h24 1 _ _ can_call_expire _ (picks_expire _ _ now (Box.new w 23 #[.int .u64 now])))
 generalize repl 1 (pastB now) l = R at *
 clear h h24 ka
 go_enter Tryz.func112, Tryz.ntmps112
 go_wp2_with fail
 refine RP.out.mono ?_
 rintro e w1 ⟨g, rfl, k1, hg, hm, hb⟩
 have HK1 := Lib.hid (HK.out.trans k1 (fun _ _ h => h))
 have HB := Lib.hid hb
 have HG := Lib.hid (Nat.le_trans HK.out.size hg)
 have HM := Lib.hid hm
 clear RP k1 hg hm hb
 go_wp2
 go_ret
 exact ⟨g, rfl, HK1.out, HG.out, HM.out, HB.out⟩
set_option maxRecDepth 100000 in
theorem cancel_own (w : World) (D : Nat → Prop) (v : Value) (l : List Pst) (h : Sts w D v l) (h24 : l.length * 24 ≤ reachBytes) :
  Calls Tryz.prog 111 #[v] w (OwnSts (repl 6 (fun x => !finB x.s) l) w) := by
 obtain ⟨A, c, rfl⟩ := h.shape
 have RP := Lib.hid (replaced_any _ D _ l h h24 6 _ _ can_call_cancel _ (picks_cancel w))
 generalize repl 6 (fun x => !finB x.s) l = R at *
 clear h h24
 go_enter Tryz.func111, Tryz.ntmps111
 go_wp2_with fail
 refine RP.out.mono ?_
 rintro e w1 ⟨g, rfl, k1, hg, hm, hb⟩
 have HK1 := Lib.hid k1
 have HB := Lib.hid hb
 have HG := Lib.hid hg
 have HM := Lib.hid hm
 clear RP k1 hg hm hb
 go_wp2
 go_ret
 exact ⟨g, rfl, HK1.out, HG.out, HM.out, HB.out⟩
end Go.Proofs.YtffoeodjbbkdjaaGreat
namespace Go.Proofs.YtffoeodjbbkdjaaGreat
open Go.RowKit
structure Busy (w v : World) (D E : Nat → Prop) (q r : Qm) (a : Nat) : Prop where
 at_ : QAt v E r
 p : r.p = q.p
 lt : ∀ i, D i → i < w.heap.size
 keep : Keep D w v
 more : ∀ i, D i → E i
 new : ∀ i, E i → D i ∨ w.heap.size ≤ i
 na : w.heap.size ≤ a ∧ ¬ E a
 an : Box v a 40 #[.int .i64 0, .int .u64 0, .int .u64 0, .int .u64 0, .string ⟨#[]⟩, .string ⟨#[]⟩]
structure CmAt (w v : World) (E : Nat → Prop) (a b : Nat) (c : Cm) : Prop where
 nb : w.heap.size ≤ b ∧ ¬ E b ∧ b ≠ a
 cm : Box v b 37 #[.int .i64 c.kind, .int .u64 c.ses, .int .u64 c.seq, c.gv, .int .u64 c.id, .int .u64 c.tok, .bool c.good, .int .u64 c.time]
section
variable {w v u : World} {D E F S : Nat → Prop} {q r s : Qm} {a b : Nat} {c : Cm}
theorem Busy.stay (h : Busy w v D E q r a) (k : Keep noneOf v u) : Busy w u D E q r a :=
 ⟨h.at_.stay k, h.p, h.lt, h.keep.andNone k, h.more, h.new, h.na, h.an.keep k id⟩
theorem CmAt.stay (h : CmAt w v E a b c) (k : Keep noneOf v u) : CmAt w u E a b c := ⟨h.nb, h.cm.keep k id⟩
theorem Busy.keepNew (h : Busy w v D E q r a) (k : Keep S v u) (hs : ∀ i, S i → w.heap.size ≤ i ∧ ¬ E i ∧ i ≠ a) : Busy w u D E q r a :=
 ⟨h.at_.keep k (fun i hi hS => (hs i hS).2.1 hi), h.p, h.lt, h.keep.trans k (fun i hi hS => by have := (hs i hS).1; omega), h.more, h.new, h.na, h.an.keep k (fun e => (hs _ e).2.2 rfl)⟩
theorem CmAt.keepNew (h : CmAt w v E a b c) (k : Keep S v u) (hs : ∀ i, S i → i ≠ b) : CmAt w u E a b c := ⟨h.nb, h.cm.keep k (fun e => hs _ e rfl)⟩
theorem Busy.turn (h : Busy w v D E q r a) (k : Keep S v u) (hs : ∀ i, S i → E i) (hq : QAt u F s) (hp : s.p = r.p) (hm : ∀ i, E i → F i) (hn : ∀ i, F i → E i ∨ v.heap.size ≤ i) : Busy w u D F q s a :=
 ⟨hq, hp.trans h.p, h.lt, h.keep.trans k (fun i hi hS => (h.new i (hs i hS)).elim id (fun e => by omega)), fun i hi => hm i (h.more i hi),
  fun i hi => (hn i hi).elim (h.new i) (fun e => .inr (Nat.le_trans h.keep.size e)), ⟨h.na.1, fun e => (hn _ e).elim h.na.2 (fun e => by have := h.an.lt; omega)⟩, h.an.keep k (fun e => h.na.2 (hs _ e))⟩
theorem CmAt.turn (h : CmAt w v E a b c) (k : Keep S v u) (hs : ∀ i, S i → E i) (hn : ∀ i, F i → E i ∨ v.heap.size ≤ i) : CmAt w u F a b c :=
 ⟨⟨h.nb.1, fun e => (hn _ e).elim h.nb.2.1 (fun e => by have := h.cm.lt; omega), h.nb.2.2⟩, h.cm.keep k (fun e => h.nb.2.1 (hs _ e))⟩
theorem Busy.does (h : Busy w v D E q r a) (x : An) : Does q D (r.plain, x) w (.returned x.agg) (sixPut v a (.int .i64 x.code) (.int .u64 x.id) (.int .u64 x.tok) (.int .u64 x.unt) (.string x.tgt) (.string x.cmd)) := by
 have k := (Keep.refl (fun i => i = a) v).put6 (b := a) (fun _ => rfl) (.int .i64 x.code) (.int .u64 x.id) (.int .u64 x.tok) (.int .u64 x.unt) (.string x.tgt) (.string x.cmd)
 have kD := h.keep.trans k (fun i hi e => by have := h.na.1; omega)
 refine ⟨r, rfl, (h.at_.keep k (fun i hi e => h.na.2 (e ▸ hi))).wide (fun i hi => (h.new i hi).imp_right (fun e => ⟨e, Nat.lt_of_lt_of_le (h.at_.lt i hi) k.size⟩)) (grown_lt h.lt kD.size), h.p, rfl, kD⟩
theorem Busy.box (h : Busy w v D E q r a) (x : An) : Box (sixPut v a (.int .i64 x.code) (.int .u64 x.id) (.int .u64 x.tok) (.int .u64 x.unt) (.string x.tgt) (.string x.cmd)) a 40 #[.int .i64 x.code, .int .u64 x.id, .int .u64 x.tok, .int .u64 x.unt, .string x.tgt, .string x.cmd] := h.an.put6 _ _ _ _ _ _
theorem busy_begin (h : QAt w D q) (c : Cm) : Busy w ((w.alloc (.cells #[.int .i64 c.kind, .int .u64 c.ses, .int .u64 c.seq, c.gv, .int .u64 c.id, .int .u64 c.tok, .bool c.good, .int .u64 c.time] 37)).alloc (.cells #[.int .i64 0, .int .u64 0, .int .u64 0, .int .u64 0, .string ⟨#[]⟩, .string ⟨#[]⟩] 40)) D D q q (w.heap.size + 1)
  ∧ CmAt w ((w.alloc (.cells #[.int .i64 c.kind, .int .u64 c.ses, .int .u64 c.seq, c.gv, .int .u64 c.id, .int .u64 c.tok, .bool c.good, .int .u64 c.time] 37)).alloc (.cells #[.int .i64 0, .int .u64 0, .int .u64 0, .int .u64 0, .string ⟨#[]⟩, .string ⟨#[]⟩] 40)) D (w.heap.size + 1) w.heap.size c := by
 have B := begun2 h c
 exact ⟨⟨B.at_, rfl, B.lt, Keep.wide B.keep, fun _ h => h, fun _ h => .inl h, ⟨by omega, fun e => by have := B.lt _ e; omega⟩, B.an⟩, ⟨⟨Nat.le_refl _, fun e => by have := B.lt _ e; omega, by omega⟩, B.cm⟩⟩
theorem busy_one (h : QAt w D q) : Busy w (w.alloc (.cells #[.int .i64 0, .int .u64 0, .int .u64 0, .int .u64 0, .string ⟨#[]⟩, .string ⟨#[]⟩] 40)) D D q q w.heap.size := by
 have kb := (Keep.refl noneOf w).alloc (.cells (An.cells .zero).toArray 40)
 exact ⟨h.stay kb, rfl, h.lt, Keep.wide kb, fun _ h => h, fun _ h => .inl h, ⟨Nat.le_refl _, fun e => by have := h.lt _ e; omega⟩, Box.new w 40 (An.cells .zero).toArray⟩
theorem QAt.rows (h : QAt w D q) {i : Nat} {g : Gm} (hg : q.gs[i]? = some g) : ∃ g0 cap, q.gv = .slice (some ⟨g0, 0, none⟩) q.gs.length cap ∧ D g0 ∧ g0 < w.heap.size ∧ g0 ≠ q.p ∧
  w.cell? ⟨g0, i * 3, none⟩ = some (.int .u64 g.id) ∧ w.cell? ⟨g0, i * 3 + 1, none⟩ = some g.gv ∧ w.cell? ⟨g0, i * 3 + 2, none⟩ = some g.sv ∧ w.frozen? ⟨g0, i * 3 + 2, none⟩ = false := by
 have hr := h.gr
 have h0 : q.gs ≠ [] := by rintro e; rw [e] at hg; cases hg
 obtain ⟨g0, cap, tl, hv, _, hb, _⟩ := own_mt (ec := Gm.cells) h.gr h0
 unfold OwnG at hr
 rw [hv] at hr
 refine ⟨g0, cap, hv, h.inD _ (.inr (.inr (.inr (.inl (by rw [hv]; rfl))))), hb.lt, fun e => h.g_ne_p (by rw [hv, e]; rfl), (own_at (ec := Gm.cells) (fun _ => rfl) hr hg (j := 0) (by decide)).1, (own_at (ec := Gm.cells) (fun _ => rfl) hr hg (j := 1) (by decide)).1, (own_at (ec := Gm.cells) (fun _ => rfl) hr hg (j := 2) (by decide)).1, (own_at (ec := Gm.cells) (fun _ => rfl) hr hg (j := 2) (by decide)).2⟩
theorem QAt.shape (h : QAt w D q) : ∃ A cap, q.gv = .slice A q.gs.length cap := own_shape h.gr
theorem QAt.few (h : QAt w D q) : q.gs.length ≤ maxLen := by
 rcases h.gr.2 with ⟨_, e⟩ | ⟨g, cap, cur, _, _, _, h1, h2, _⟩
 ·
  rw [e]; exact Nat.zero_le _
 ·
  omega
theorem QAt.states (h : QAt w D q) {g : Gm} (hg : g ∈ q.gs) : Sts w (fun b => q.O b) g.sv g.st := OwnS.sts (h.st g hg) (fun _ e => O_of hg e)
end
end Go.Proofs.YtffoeodjbbkdjaaGreat
namespace Go.Proofs.YtffoeodjbbkdjaaGreat
open Go.RowKit
theorem inv_few {q : Qm} (hi : Inv q.plain) {g : Gm} (hg : g ∈ q.gs) : g.st.length ≤ 32 ∧ g.ts.length ≤ 32 ∧ grCheck (g.ts.map Tg.plain) = 0 ∧ g.st.length = g.ts.length := by
 have h := hi.gsIn g.plain (List.mem_map.2 ⟨g, hg, rfl⟩)
 have h32 := (fits_few (ts := g.ts) (check_fits h.2.2.1).1).1
 have hl : g.st.length = (g.ts.map Tg.plain).length := h.2.2.2.1
 rw [List.length_map] at hl
 exact ⟨by omega, h32, h.2.2.1, hl⟩
def expG (t : Int) (g : Gq) : Gq := { g with st := repl 1 (pastB t) g.st }
theorem exp_len (t : Int) (l : List Pst) : (repl 1 (pastB t) l).length = l.length := repl_ln _ _ _
set_option maxRecDepth 100000 in
set_option maxHeartbeats 4000000 in
set_option linter.unusedSimpArgs false in
theorem qadv_any (w : World) (D : Nat → Prop) (q : Qm) (h : QAt w D q) (hi : Inv q.plain) (c : Cm) :
  Calls Tryz.prog 63 #[.pointer (some ⟨q.p, 0, none⟩), c.agg] w (Does q D (if c.time ≤ q.now then (q.plain, .zero) else ({ q.plain with now := c.time, gs := q.plain.gs.map (expG c.time) }, .zero)) w) := by
 have HB := Lib.hid (busy_begin h c)
 have HI := Lib.hid hi
 unfold Cm.agg
 generalize hR : (if c.time ≤ q.now then (q.plain, An.zero) else ({ q.plain with now := c.time, gs := q.plain.gs.map (expG c.time) }, An.zero)) = R
 have HR := Lib.hid hR
 clear h hi hR
 go_enter Tryz.func63, Tryz.ntmps63
 go_wp2
 generalize (w.alloc (.cells #[.int .i64 c.kind, .int .u64 c.ses, .int .u64 c.seq, c.gv, .int .u64 c.id, .int .u64 c.tok, .bool c.good, .int .u64 c.time] 37)).alloc (.cells #[.int .i64 0, .int .u64 0, .int .u64 0, .int .u64 0, .string ⟨#[]⟩, .string ⟨#[]⟩] 40) = w1 at *
 generalize w.heap.size + 1 = a at *
 generalize hcb : w.heap.size = cb at *
 clear hcb
 obtain ⟨B, M⟩ := HB.out
 have p0 : w1.cell? ⟨q.p, 0, none⟩ = some (.int .u64 q.now) := B.at_.box.cell 0
 have m7 : w1.cell? ⟨cb, 7, none⟩ = some (.int .u64 c.time) := M.cm.cell 7
 by_cases hle : c.time ≤ q.now
 ·
  have hr : R = (q.plain, An.zero) := by rw [← HR.out, if_pos hle]
  subst hr
  clear B M
  go_quiet (fail)
  have HB2 := Lib.hid (HB.out.1.stay ((Keep.refl noneOf w1).drewN nq))
  generalize w1.drewN nq = w2 at *
  obtain ⟨c0, c1, c2, c3, c4, c5⟩ := HB2.out.an.six
  obtain ⟨f0, f1, f2, f3, f4, f5⟩ := HB2.out.an.free6
  have hnl : ¬ q.now < c.time := by omega
  clear HB HI p0 m7 HR hle
  go_wp2
  have hbx := HB2.out.box ⟨0, 0, 0, 0, ⟨#[]⟩, ⟨#[]⟩⟩
  have hd := HB2.out.does ⟨0, 0, 0, 0, ⟨#[]⟩, ⟨#[]⟩⟩
  dsimp only [sixPut] at hbx hd
  generalize (((((w2.setCell ⟨a, 0, none⟩ (.int .i64 0)).setCell ⟨a, 1, none⟩ (.int .u64 0)).setCell ⟨a, 2, none⟩ (.int .u64 0)).setCell ⟨a, 3, none⟩ (.int .u64 0)).setCell ⟨a, 4, none⟩ (.string ⟨#[]⟩)).setCell ⟨a, 5, none⟩ (.string ⟨#[]⟩) = wf at hbx hd ⊢
  obtain ⟨r0, r1, r2, r3, r4, r5⟩ := hbx.six
  exact bodyPost_ret (v := An.zero.agg) (by simp [results, Tryz.results63, go_sem, An.zero, An.agg, r0, r1, r2, r3, r4, r5]) rfl hd
 ·
  have hlt : q.now < c.time := by omega
  have hr : R = ({ q.plain with now := c.time, gs := q.plain.gs.map (expG c.time) }, An.zero) := by rw [← HR.out, if_neg hle]
  subst hr
  have f0 := B.at_.box.free 0
  clear B M
  go_quiet (fail)
  have HB2 := Lib.hid (HB.out.1.stay ((Keep.refl noneOf w1).drewN nq))
  have HM2 := Lib.hid (HB.out.2.stay ((Keep.refl noneOf w1).drewN nq))
  generalize w1.drewN nq = w2 at *
  clear HB p0 m7 f0 HR hle
  have B := HB2.out
  have M := HM2.out
  have p0 : w2.cell? ⟨q.p, 0, none⟩ = some (.int .u64 q.now) := B.at_.box.cell 0
  have p4 : w2.cell? ⟨q.p, 4, none⟩ = some q.gv := B.at_.box.cell 4
  have m7 : w2.cell? ⟨cb, 7, none⟩ = some (.int .u64 c.time) := M.cm.cell 7
  have f0 := B.at_.box.free 0
  obtain ⟨A, cap, hgv⟩ := B.at_.shape
  rw [hgv] at p4
  have hn := B.at_.few
  unfold maxLen at hn
  have HB3 : Hid (Busy w (w2.setCell ⟨q.p, 0, none⟩ (.int .u64 c.time)) D D q { q with now := c.time } a) := Lib.hid (by
   have k := (Keep.refl (fun i => i = q.p) w2).setCell (p := ⟨q.p, 0, none⟩) (fun _ => rfl) (.int .u64 c.time)
   exact B.turn k (fun i e => e ▸ B.at_.inD _ (.inl rfl)) (B.at_.head (B.at_.box.put 0 _) k) rfl (fun _ h => h) (fun _ h => .inl h))
  have HM3 : Hid (CmAt w (w2.setCell ⟨q.p, 0, none⟩ (.int .u64 c.time)) D a cb c) := Lib.hid (by
   have k := (Keep.refl (fun i => i = q.p) w2).setCell (p := ⟨q.p, 0, none⟩) (fun _ => rfl) (.int .u64 c.time)
   exact M.turn k (fun i e => e ▸ B.at_.inD _ (.inl rfl)) (fun _ h => .inl h))
  clear B M
  go_wp2
  generalize w2.setCell ⟨q.p, 0, none⟩ (.int .u64 c.time) = w3 at *
  clear p0 p4 m7 f0 HM2 HB2 HM3
  go_loopw [24] (fun i wr => ∃ (k : Nat) (E : Nat → Prop) (r : Qm), k ≤ q.gs.length ∧ i = .int .i64 k ∧ Busy w wr D E q r a ∧ r.gv = q.gv ∧ r.plain = { q.plain with now := c.time, gs := (q.plain.gs.take k).map (expG c.time) ++ q.plain.gs.drop k }) (fun i _ => q.gs.length - (intOf i).toNat)
  case atStart => exact ⟨0, D, _, Nat.zero_le _, rfl, HB3.out, rfl, rfl⟩
  case round =>
   obtain ⟨k, E, r, hk, rfl, hB, hgvr, hpl⟩ := hrel
   have HBR := Lib.hid hB
   have HPL := Lib.hid hpl
   have HGVR := Lib.hid hgvr
   have hlen : r.gs.length = q.gs.length := by
    have := congrArg (fun x => x.gs.length) hpl
    simp [Qm.plain] at this
    omega
   by_cases hkl : k < q.gs.length
   ·
    obtain ⟨g, hg⟩ : ∃ g, r.gs[k]? = some g := ⟨_, List.getElem?_eq_getElem (by omega)⟩
    obtain ⟨g1, hg1⟩ : ∃ g1, q.gs[k]? = some g1 := ⟨_, List.getElem?_eq_getElem hkl⟩
    have hgg : g.plain = g1.plain := by
     have h1 : r.plain.gs[k]? = some g.plain := gm_at hg
     rw [hpl] at h1
     have h2 : q.plain.gs[k]? = some g1.plain := gm_at hg1
     rw [mapk_at h2] at h1
     injection h1 with h1
     exact h1.symm
    have hst : g.st = g1.st := congrArg Gq.st hgg
    have h32 := (inv_few HI.out (List.mem_of_getElem? hg1)).1
    rw [← hst] at h32
    clear hst
    obtain ⟨g0, cap', hgv', hEg0, hg0lt, hg0p, d0, d1, d2, fr2⟩ := hB.at_.rows hg
    rw [hgvr, hgv, hlen] at hgv'
    obtain ⟨rfl, rfl⟩ : A = some ⟨g0, 0, none⟩ ∧ cap = cap' := by simpa using hgv'
    have hnow : r.now = c.time := congrArg Qp.now hpl
    have p0 : wr.cell? ⟨q.p, 0, none⟩ = some (.int .u64 c.time) := by rw [← hB.p, ← hnow]; exact hB.at_.box.cell 0
    have p4 : wr.cell? ⟨q.p, 4, none⟩ = some (.slice (some ⟨g0, 0, none⟩) q.gs.length cap) := by rw [← hB.p, ← hgv, ← hgvr]; exact hB.at_.box.cell 4
    have hpg : g0 ≠ q.p := by rw [← hB.p]; exact hg0p
    have HSG := Lib.hid (hB.at_.states (List.mem_of_getElem? hg))
    obtain ⟨As, cs, hsv⟩ := HSG.out.shape
    have HSV := Lib.hid hsv
    rw [hsv] at d2
    have EX : Hid (∀ w', Keep noneOf wr w' → Calls Tryz.prog 112 #[.slice As g.st.length cs, .int .u64 c.time] w' (OwnSts (repl 1 (pastB c.time) g.st) w')) := Lib.hid fun w' k' => by
     rw [← HSV.out]
     exact expire_own w' _ _ _ (HSG.out.keep k' (fun _ _ _ => id)) (by rw [reach_is]; omega) c.time
    have MK : Hid (∀ w', Keep (fun i => i = g0) wr w' → w'.cell? ⟨q.p, 0, none⟩ = some (.int .u64 c.time)) := Lib.hid fun w' k' => by
     have h1 := (hB.at_.box.keep k' (fun e => hg0p e.symm)).cell 0
     rw [hB.p] at h1
     rw [← hnow]
     exact h1
    have MS : Hid (∀ w', Keep noneOf wr w' → w'.cell? ⟨g0, k * 3 + 2, none⟩ = some (.slice As g.st.length cs) ∧ w'.frozen? ⟨g0, k * 3 + 2, none⟩ = false) := Lib.hid fun w' k' => by
     obtain ⟨g9, cap9, e9, _, _, _, _, _, y2, z2⟩ := (hB.at_.stay k').rows hg
     rw [hgvr, hgv, hlen] at e9
     obtain rfl : g0 = g9 := by simpa using congrArg (fun v => match v with | Value.slice (some a) _ _ => a.block | _ => 0) e9
     rw [HSV.out] at y2
     exact ⟨y2, z2⟩
    have FIN : Hid (∀ w1' w2' gb, Keep noneOf wr w1' → Keep noneOf w1' w2' → w1'.heap.size ≤ gb → (repl 1 (pastB c.time) g.st).length ≤ maxLen → Box w2' gb 61 (svs (repl 1 (pastB c.time) g.st)) →
      ∃ (E' : Nat → Prop) (r' : Qm), Busy w (w2'.setCell ⟨g0, k * 3 + 2, none⟩ (.slice (some ⟨gb, 0, none⟩) (repl 1 (pastB c.time) g.st).length (repl 1 (pastB c.time) g.st).length)) D E' q r' a ∧ r'.gv = q.gv ∧ r'.plain = { q.plain with now := c.time, gs := (q.plain.gs.take (k + 1)).map (expG c.time) ++ q.plain.gs.drop (k + 1) }) := Lib.hid fun w1' w2' gb k1 k2 hgb hml hbx => by
     have k12 := k1.trans k2 (fun _ _ h => h)
     have q2 := HBR.out.at_.stay k12
     have hgv2 : r.gv = .slice (some ⟨g0, 0, none⟩) r.gs.length cap := by rw [hgvr, hgv, hlen]
     have hgbE : ¬ E gb := fun e => by have := hB.at_.lt _ e; have := k1.size; omega
     have q3 := q2.setSts hg hgv2 (svs_own hbx hml) (D' := grown wr w2' E) (fun i hi => .inl hi) (grown_lt hB.at_.lt k12.size) (fun b e => by
      have e2 : gb = b := by simpa [Value.ownBlock] using e
      subst e2
      exact ⟨.inr ⟨Nat.le_trans k1.size hgb, hbx.lt⟩, hgbE⟩)
     have ks := (Keep.wide k12).trans ((Keep.refl (fun i => i = g0) w2').setCell (p := ⟨g0, k * 3 + 2, none⟩) (fun _ => rfl) (.slice (some ⟨gb, 0, none⟩) (repl 1 (pastB c.time) g.st).length (repl 1 (pastB c.time) g.st).length)) (fun _ _ e => e)
     refine ⟨_, _, HBR.out.turn ks (fun i e => e ▸ hEg0) q3 rfl (fun i hi => .inl hi) (fun i hi => hi.imp_right (fun e => e.1)), hgvr, ?_⟩
     have h2 : q.plain.gs[k]? = some g1.plain := gm_at hg1
     show Qp.mk r.now r.ng r.nt r.ses ((r.gs.set k _).map Gm.plain) r.built = _
     rw [gm_set hg]
     have e1 : r.gs.map Gm.plain = (q.plain.gs.take k).map (expG c.time) ++ q.plain.gs.drop k := congrArg Qp.gs hpl
     have e2 : (r.gs.map Gm.plain).modify k (fun a => { a with st := repl 1 (pastB c.time) g.st }) = (r.gs.map Gm.plain).modify k (expG c.time) := by
      refine List.ext_getElem? fun j => ?_
      rw [List.getElem?_modify, List.getElem?_modify]
      by_cases hj : k = j
      ·
       subst hj
       rw [gm_at hg]
       simp [expG, Gm.plain]
      ·
       simp [hj]
     rw [e2, e1, mapk_step h2]
     have h3 : Qp.mk r.now r.ng r.nt r.ses (r.gs.map Gm.plain) r.built = _ := hpl
     injection h3 with h31 h32 h33 h34 h35 h36
     rw [h31, h32, h33, h34, h36]
    have K0 := Keep.refl noneOf wr
    have KS := Keep.refl (fun i => i = g0) wr
    have q0 : (0 : Int) ≤ (k : Int) := by omega
    have q1 : (k : Int) < (q.gs.length : Int) := by omega
    clear hB hpl hgvr hgg h32 d0 d1 hgv' hg0p hEg0
    go_wp2
    have MC : Hid (∀ w', Keep (fun i => i = g0) wr w' → w'.cell? ⟨q.p, 0, none⟩ = some (.int .u64 c.time) ∧ True) := Lib.hid fun w' k' => ⟨MK.out w' k', trivial⟩
    refine wp_region_held_drew (S := fun w' => Keep (fun i => i = g0) wr w') (by kernel_rfl) (KS.drew) (fun hHeld => ?_)
    refine' ztk 0 _ rfl (.inl ⟨by kernel_rfl, ?hy0⟩) ?_
    case hy0 => intro w' hSw; obtain ⟨_, _⟩ := MC.out w' hSw; go_simp; try with_reducible rfl
    simp only [Act.put, zga, zgb, zgc, zgd, zge, zgf]
    refine' ztk 1 _ rfl (.inl ⟨by kernel_rfl, ?hy1⟩) ?_
    case hy1 => intro w' hSw; obtain ⟨_, _⟩ := MC.out w' hSw; go_simp; try with_reducible rfl
    simp only [Act.put, zga, zgb, zgc, zgd, zge, zgf]
    refine' ztk 2 _ rfl (.inl ⟨by kernel_rfl, ?hy2⟩) ?_
    case hy2 => intro w' hSw; obtain ⟨_, _⟩ := MC.out w' hSw; go_simp; try with_reducible rfl
    simp only [Act.put, zga, zgb, zgc, zgd, zge, zgf]
    refine' ztk 3 _ rfl (.inl ⟨by kernel_rfl, ?hy3⟩) ?_
    case hy3 => intro w' hSw; obtain ⟨_, _⟩ := MC.out w' hSw; go_simp; try with_reducible rfl
    simp only [Act.put, zga, zgb, zgc, zgd, zge, zgf]
    refine' ztk 5 _ rfl (.inl ⟨by kernel_rfl, ?hy5⟩) ?_
    case hy5 => intro w' hSw; obtain ⟨_, _⟩ := MC.out w' hSw; go_simp; try with_reducible rfl
    simp only [Act.put, zga, zgb, zgc, zgd, zge, zgf]
    refine' ztk 6 _ rfl (.inl ⟨by kernel_rfl, ?hy6⟩) ?_
    case hy6 => intro w' hSw; obtain ⟨_, _⟩ := MC.out w' hSw; go_simp; try with_reducible rfl
    simp only [Act.put, zga, zgb, zgc, zgd, zge, zgf]
    refine' ztk 7 _ rfl (.inl ⟨by kernel_rfl, ?hy7⟩) ?_
    case hy7 => intro w' hSw; obtain ⟨_, _⟩ := MC.out w' hSw; go_simp; try with_reducible rfl
    simp only [Act.put, zga, zgb, zgc, zgd, zge, zgf]
    refine' ztk 8 _ rfl (.inl ⟨by kernel_rfl, ?hy8⟩) ?_
    case hy8 => intro w' hSw; obtain ⟨_, _⟩ := MC.out w' hSw; go_simp; try with_reducible rfl
    simp only [Act.put, zga, zgb, zgc, zgd, zge, zgf]
    refine wpAnyH_ready (rs := [4]) (by kernel_rfl) (by simp) (AllReadyH.cons rfl (fun K hK => ?_) AllReadyH.nil)
    go_simp
    refine hK.out _ _ hHeld (fun hHeld => ?_)
    clear hK K
    try simp only [Act.put, zga, zgb, zgc, zgd, zge, zgf]
    refine wpAnyH_ready (rs := [9]) (by kernel_rfl) (by simp) (AllReadyH.cons rfl (fun K hK => ?_) AllReadyH.nil)
    go_simp
    go_at_call 112
    refine (EX.out _ K0.drew).mono ?_
    rintro e w5 ⟨gb, rfl, k5, hgb, hml, hbx⟩
    obtain ⟨y2, z2⟩ := MS.out _ (K0.drew.trans k5 (fun _ _ h => h))
    go_wp2_with fail
    refine hK.out _ _ (KS.drew.andNone k5) (fun hHeld => ?_)
    clear hK K
    try simp only [Act.put, zga, zgb, zgc, zgd, zge, zgf]
    refine' ztk 10 _ rfl (.inl ⟨by kernel_rfl, ?hy10⟩) ?_
    case hy10 => intro w' hSw; obtain ⟨_, _⟩ := MC.out w' hSw; go_simp; try with_reducible rfl
    simp only [Act.put, zga, zgb, zgc, zgd, zge, zgf]
    refine' ztk 11 _ rfl (.inl ⟨by kernel_rfl, ?hy11⟩) ?_
    case hy11 => intro w' hSw; obtain ⟨_, _⟩ := MC.out w' hSw; go_simp; try with_reducible rfl
    simp only [Act.put, zga, zgb, zgc, zgd, zge, zgf]
    refine wpAnyH_ready (rs := [12]) (by kernel_rfl) (by simp) (AllReadyH.cons rfl (fun K hK => ?_) AllReadyH.nil)
    go_simp
    refine hK.out _ _ ((KS.drew.andNone k5).setCell (p := ⟨g0, k * 3 + 2, none⟩) (fun _ => rfl) _) (fun hHeld => ?_)
    clear hK K
    try simp only [Act.put, zga, zgb, zgc, zgd, zge, zgf]
    refine wpAnyH_done (by kernel_rfl) ?_ _
    obtain ⟨E', r', hB', hgv', hpl'⟩ := FIN.out _ _ _ K0.drew k5 hgb hml hbx
    have HB' := Lib.hid hB'
    have HPL' := Lib.hid hpl'
    have HGV' := Lib.hid hgv'
    clear hB' hpl' hgv' FIN MS MK EX K0 KS k5 hgb hml hbx y2 z2 d2 fr2 p0 p4
    generalize w5.setCell ⟨g0, k * 3 + 2, none⟩ (.slice (some ⟨gb, 0, none⟩) (repl 1 (pastB c.time) g.st).length (repl 1 (pastB c.time) g.st).length) = w6 at *
    go_wp2
    go_roundw
    case rel => exact ⟨k + 1, E', r', by omega, by go_num, HB'.out, HGV'.out, HPL'.out⟩
    case measure => simp only [intOf]; omega
   ·
    have hkn : ¬ ((k : Int) < (q.gs.length : Int)) := by omega
    have hke : k = q.gs.length := by omega
    subst hke
    have hfin : r.plain = { q.plain with now := c.time, gs := q.plain.gs.map (expG c.time) } := by
     have e : q.plain.gs.length = q.gs.length := by simp [Qm.plain]
     rw [hpl, ← e, List.take_length, List.drop_length, List.append_nil]
    have HFI := Lib.hid hfin
    obtain ⟨c0, c1, c2, c3, c4, c5⟩ := hB.an.six
    obtain ⟨f0, f1, f2, f3, f4, f5⟩ := hB.an.free6
    clear hpl hfin hlen hgvr hk hkl hB
    go_wp2
    have hbx := HBR.out.box ⟨0, 0, 0, 0, ⟨#[]⟩, ⟨#[]⟩⟩
    have hd := HBR.out.does ⟨0, 0, 0, 0, ⟨#[]⟩, ⟨#[]⟩⟩
    rw [HFI.out] at hd
    dsimp only [sixPut] at hbx hd
    generalize (((((wr.setCell ⟨a, 0, none⟩ (.int .i64 0)).setCell ⟨a, 1, none⟩ (.int .u64 0)).setCell ⟨a, 2, none⟩ (.int .u64 0)).setCell ⟨a, 3, none⟩ (.int .u64 0)).setCell ⟨a, 4, none⟩ (.string ⟨#[]⟩)).setCell ⟨a, 5, none⟩ (.string ⟨#[]⟩) = wf at hbx hd ⊢
    obtain ⟨r0, r1, r2, r3, r4, r5⟩ := hbx.six
    exact bodyPost_ret (v := An.zero.agg) (by simp [results, Tryz.results63, go_sem, An.zero, An.agg, r0, r1, r2, r3, r4, r5]) rfl hd
end Go.Proofs.YtffoeodjbbkdjaaGreat
