import Derived.Lib.MinMax
import Derived.Shelf.Abstract
import Derived.Test.YtkoikmdmejhhhaaGreatBs30
namespace Go.Proofs.YtkoikmdmejhhhaaGreat
open Go.RowKit
theorem svs_own {w : World} {g : Nat} {l : List Pst} (h : Box w g 64 (svs l)) (hm : l.length ≤ maxLen) : OwnS w (.slice (some ⟨g, 0, none⟩) l.length l.length) l :=
  ⟨scells_length l, .inr ⟨g, l.length, svs l, rfl, Nat.zero_le _, h, Nat.le_refl _, hm, svs_size l, by
    unfold svs
    rw [← scells_length l, List.take_length]⟩⟩
theorem told_own {l : List Pst} {w' : World} {v : Value} {B : Nat} (h : (v = .slice none 0 0 ∧ l = []) ∨ ∃ g, v = .slice (some ⟨g, 0, none⟩) l.length l.length ∧ B ≤ g ∧ l.length ≤ maxLen ∧ Box w' g 64 (svs l)) :
    OwnS w' v l ∧ ∀ b, v.ownBlock = some b → B ≤ b := by
  rcases h with ⟨rfl, rfl⟩ | ⟨g, rfl, hg, hm, hb⟩
  · exact ⟨⟨rfl, .inl ⟨rfl, rfl⟩⟩, fun b hb => (by cases hb)⟩
  · exact ⟨svs_own hb hm, fun b e => by
      have : g = b := by simpa [Value.ownBlock] using e
      omega⟩
theorem own_row_in {w : World} {base : Nat} {e : TypeId} {size : Nat} {v : Value} {n : Nat} {xs : List Value} (h : w.ownsRow base e size v n xs) {D : Nat → Prop} (hD : ∀ b, v.ownBlock = some b → D b) : Row w D v n size xs := by
  rcases h.2 with ⟨rfl, rfl⟩ | ⟨g, cap, cur, rfl, hb, hg, hle, hmx, hsz, htk⟩
  · exact ⟨none, 0, rfl, Nat.le_refl _, Nat.zero_le _, fun _ => rfl, h.1, fun h0 => absurd h0 (by simp)⟩
  · refine ⟨some ⟨g, 0, none⟩, cap, rfl, hle, hmx, fun e => (by cases e), h.1, fun _ => ⟨⟨g, 0, none⟩, rfl, rfl, (Array.getElem?_eq_some_iff.1 hg).1, hD g rfl, fun j b hb => ?_⟩⟩
    rw [← htk, List.getElem?_take] at hb
    split at hb
    · show w.cell? ⟨g, 0 + j, none⟩ = _
      rw [Nat.zero_add, cell_of_row w g j cur e (0, 0) hg]
      simpa using hb
    · cases hb
theorem OwnS.sts {w : World} {v : Value} {l : List Pst} (h : OwnS w v l) {D : Nat → Prop} (hD : ∀ b, v.ownBlock = some b → D b) : Sts w D v l := by
  refine own_row_in h hD
set_option maxRecDepth 100000 in
theorem expire_own (w : World) (D : Nat → Prop) (v : Value) (l : List Pst) (h : Sts w D v l) (h24 : l.length * 24 ≤ reachBytes) (now : Int) :
    Calls Tryz.prog 124 #[v, .int .u64 now] w (OwnSts (repl 1 (pastB now) l) w) := by
  have ka := (Keep.refl noneOf w).alloc (.cells #[.int .u64 now] 23)
  have HK := Lib.hid ka
  obtain ⟨A, c, rfl⟩ := h.shape
  have RP := Lib.hid (replaced_any _ D _ l (h.keep ka (fun _ _ _ => id)) h24 1 _ _ can_call_expire _ (picks_expire _ _ now (Box.new w 23 #[.int .u64 now])))
  generalize repl 1 (pastB now) l = R at *
  clear h h24 ka
  go_enter Tryz.func124, Tryz.ntmps124
  go_wp2_with fail
  refine RP.out.mono ?_
  rintro e w1 ⟨g, rfl, k1, hg, hm, hb⟩
  have HK1 := Lib.hid (HK.out.trans k1 (fun _ _ h => h))
  have HB := Lib.hid hb
  have HG := Lib.hid (Nat.le_trans HK.out.size hg)
  have HM := Lib.hid hm
  clear RP k1 hg hm hb
  go_wp2
  go_ret
  exact ⟨g, rfl, HK1.out, HG.out, HM.out, HB.out⟩
set_option maxRecDepth 100000 in
theorem cancel_own (w : World) (D : Nat → Prop) (v : Value) (l : List Pst) (h : Sts w D v l) (h24 : l.length * 24 ≤ reachBytes) :
    Calls Tryz.prog 123 #[v] w (OwnSts (repl 6 (fun x => !finB x.s) l) w) := by
  obtain ⟨A, c, rfl⟩ := h.shape
  have RP := Lib.hid (replaced_any _ D _ l h h24 6 _ _ can_call_cancel _ (picks_cancel w))
  generalize repl 6 (fun x => !finB x.s) l = R at *
  clear h h24
  go_enter Tryz.func123, Tryz.ntmps123
  go_wp2_with fail
  refine RP.out.mono ?_
  rintro e w1 ⟨g, rfl, k1, hg, hm, hb⟩
  have HK1 := Lib.hid k1
  have HB := Lib.hid hb
  have HG := Lib.hid hg
  have HM := Lib.hid hm
  clear RP k1 hg hm hb
  go_wp2
  go_ret
  exact ⟨g, rfl, HK1.out, HG.out, HM.out, HB.out⟩
end Go.Proofs.YtkoikmdmejhhhaaGreat
namespace Go.Proofs.YtkoikmdmejhhhaaGreat
open Go.RowKit
structure Busy (w v : World) (D E : Nat → Prop) (q r : Qm) (a : Nat) : Prop where
  at_ : QAt v E r
  p : r.p = q.p
  lt : ∀ i, D i → i < w.heap.size
  keep : Keep D w v
  more : ∀ i, D i → E i
  new : ∀ i, E i → D i ∨ w.heap.size ≤ i
  na : w.heap.size ≤ a ∧ ¬ E a
  an : Box v a 40 #[.int .i64 0, .int .u64 0, .int .u64 0, .int .u64 0, .string ⟨#[]⟩, .string ⟨#[]⟩]
structure CmAt (w v : World) (E : Nat → Prop) (a b : Nat) (c : Cm) : Prop where
  nb : w.heap.size ≤ b ∧ ¬ E b ∧ b ≠ a
  cm : Box v b 37 #[.int .i64 c.kind, .int .u64 c.ses, .int .u64 c.seq, c.gv, .int .u64 c.id, .int .u64 c.tok, .bool c.good, .int .u64 c.time]
section
variable {w v u : World} {D E F S : Nat → Prop} {q r s : Qm} {a b : Nat} {c : Cm}
theorem Busy.stay (h : Busy w v D E q r a) (k : Keep noneOf v u) : Busy w u D E q r a :=
  ⟨h.at_.stay k, h.p, h.lt, h.keep.andNone k, h.more, h.new, h.na, h.an.keep k id⟩
theorem CmAt.stay (h : CmAt w v E a b c) (k : Keep noneOf v u) : CmAt w u E a b c := ⟨h.nb, h.cm.keep k id⟩
theorem Busy.keepNew (h : Busy w v D E q r a) (k : Keep S v u) (hs : ∀ i, S i → w.heap.size ≤ i ∧ ¬ E i ∧ i ≠ a) : Busy w u D E q r a :=
  ⟨h.at_.keep k (fun i hi hS => (hs i hS).2.1 hi), h.p, h.lt, h.keep.trans k (fun i hi hS => by have := (hs i hS).1; omega), h.more, h.new, h.na, h.an.keep k (fun e => (hs _ e).2.2 rfl)⟩
theorem CmAt.keepNew (h : CmAt w v E a b c) (k : Keep S v u) (hs : ∀ i, S i → i ≠ b) : CmAt w u E a b c := ⟨h.nb, h.cm.keep k (fun e => hs _ e rfl)⟩
theorem Busy.turn (h : Busy w v D E q r a) (k : Keep S v u) (hs : ∀ i, S i → E i) (hq : QAt u F s) (hp : s.p = r.p) (hm : ∀ i, E i → F i) (hn : ∀ i, F i → E i ∨ v.heap.size ≤ i) : Busy w u D F q s a :=
  ⟨hq, hp.trans h.p, h.lt, h.keep.trans k (fun i hi hS => (h.new i (hs i hS)).elim id (fun e => by omega)), fun i hi => hm i (h.more i hi),
    fun i hi => (hn i hi).elim (h.new i) (fun e => .inr (Nat.le_trans h.keep.size e)), ⟨h.na.1, fun e => (hn _ e).elim h.na.2 (fun e => by have := h.an.lt; omega)⟩, h.an.keep k (fun e => h.na.2 (hs _ e))⟩
theorem CmAt.turn (h : CmAt w v E a b c) (k : Keep S v u) (hs : ∀ i, S i → E i) (hn : ∀ i, F i → E i ∨ v.heap.size ≤ i) : CmAt w u F a b c :=
  ⟨⟨h.nb.1, fun e => (hn _ e).elim h.nb.2.1 (fun e => by have := h.cm.lt; omega), h.nb.2.2⟩, h.cm.keep k (fun e => h.nb.2.1 (hs _ e))⟩
theorem Busy.does (h : Busy w v D E q r a) (x : An) : Does q D (r.plain, x) w (.returned x.agg) (sixPut v a (.int .i64 x.code) (.int .u64 x.id) (.int .u64 x.tok) (.int .u64 x.unt) (.string x.tgt) (.string x.cmd)) := by
  have k := (Keep.refl (fun i => i = a) v).put6 (b := a) (fun _ => rfl) (.int .i64 x.code) (.int .u64 x.id) (.int .u64 x.tok) (.int .u64 x.unt) (.string x.tgt) (.string x.cmd)
  have kD := h.keep.trans k (fun i hi e => by have := h.na.1; omega)
  refine ⟨r, rfl, (h.at_.keep k (fun i hi e => h.na.2 (e ▸ hi))).wide (fun i hi => (h.new i hi).imp_right (fun e => ⟨e, Nat.lt_of_lt_of_le (h.at_.lt i hi) k.size⟩)) (grown_lt h.lt kD.size), h.p, rfl, kD⟩
theorem Busy.box (h : Busy w v D E q r a) (x : An) : Box (sixPut v a (.int .i64 x.code) (.int .u64 x.id) (.int .u64 x.tok) (.int .u64 x.unt) (.string x.tgt) (.string x.cmd)) a 40 #[.int .i64 x.code, .int .u64 x.id, .int .u64 x.tok, .int .u64 x.unt, .string x.tgt, .string x.cmd] := h.an.put6 _ _ _ _ _ _
theorem busy_begin (h : QAt w D q) (c : Cm) : Busy w ((w.alloc (.cells #[.int .i64 c.kind, .int .u64 c.ses, .int .u64 c.seq, c.gv, .int .u64 c.id, .int .u64 c.tok, .bool c.good, .int .u64 c.time] 37)).alloc (.cells #[.int .i64 0, .int .u64 0, .int .u64 0, .int .u64 0, .string ⟨#[]⟩, .string ⟨#[]⟩] 40)) D D q q (w.heap.size + 1)
    ∧ CmAt w ((w.alloc (.cells #[.int .i64 c.kind, .int .u64 c.ses, .int .u64 c.seq, c.gv, .int .u64 c.id, .int .u64 c.tok, .bool c.good, .int .u64 c.time] 37)).alloc (.cells #[.int .i64 0, .int .u64 0, .int .u64 0, .int .u64 0, .string ⟨#[]⟩, .string ⟨#[]⟩] 40)) D (w.heap.size + 1) w.heap.size c := by
  have B := begun2 h c
  exact ⟨⟨B.at_, rfl, B.lt, Keep.wide B.keep, fun _ h => h, fun _ h => .inl h, ⟨by omega, fun e => by have := B.lt _ e; omega⟩, B.an⟩, ⟨⟨Nat.le_refl _, fun e => by have := B.lt _ e; omega, by omega⟩, B.cm⟩⟩
theorem busy_one (h : QAt w D q) : Busy w (w.alloc (.cells #[.int .i64 0, .int .u64 0, .int .u64 0, .int .u64 0, .string ⟨#[]⟩, .string ⟨#[]⟩] 40)) D D q q w.heap.size := by
  have kb := (Keep.refl noneOf w).alloc (.cells (An.cells .zero).toArray 40)
  exact ⟨h.stay kb, rfl, h.lt, Keep.wide kb, fun _ h => h, fun _ h => .inl h, ⟨Nat.le_refl _, fun e => by have := h.lt _ e; omega⟩, Box.new w 40 (An.cells .zero).toArray⟩
theorem QAt.rows (h : QAt w D q) {i : Nat} {g : Gm} (hg : q.gs[i]? = some g) : ∃ g0 cap, q.gv = .slice (some ⟨g0, 0, none⟩) q.gs.length cap ∧ D g0 ∧ g0 < w.heap.size ∧ g0 ≠ q.p ∧
    w.cell? ⟨g0, i * 3, none⟩ = some (.int .u64 g.id) ∧ w.cell? ⟨g0, i * 3 + 1, none⟩ = some g.gv ∧ w.cell? ⟨g0, i * 3 + 2, none⟩ = some g.sv ∧ w.frozen? ⟨g0, i * 3 + 2, none⟩ = false := by
  have hr := h.gr
  have h0 : q.gs ≠ [] := by rintro e; rw [e] at hg; cases hg
  obtain ⟨g0, cap, tl, hv, _, hb, _⟩ := own_mt (ec := Gm.cells) h.gr h0
  unfold OwnG at hr
  rw [hv] at hr
  refine ⟨g0, cap, hv, h.inD _ (.inr (.inr (.inr (.inl (by rw [hv]; rfl))))), hb.lt, fun e => h.g_ne_p (by rw [hv, e]; rfl), (own_at (ec := Gm.cells) (fun _ => rfl) hr hg (j := 0) (by decide)).1, (own_at (ec := Gm.cells) (fun _ => rfl) hr hg (j := 1) (by decide)).1, (own_at (ec := Gm.cells) (fun _ => rfl) hr hg (j := 2) (by decide)).1, (own_at (ec := Gm.cells) (fun _ => rfl) hr hg (j := 2) (by decide)).2⟩
theorem QAt.shape (h : QAt w D q) : ∃ A cap, q.gv = .slice A q.gs.length cap := own_shape h.gr
theorem QAt.few (h : QAt w D q) : q.gs.length ≤ maxLen := by
  rcases h.gr.2 with ⟨_, e⟩ | ⟨g, cap, cur, _, _, _, h1, h2, _⟩
  · rw [e]; exact Nat.zero_le _
  · omega
theorem QAt.states (h : QAt w D q) {g : Gm} (hg : g ∈ q.gs) : Sts w (fun b => q.O b) g.sv g.st := OwnS.sts (h.st g hg) (fun _ e => O_of hg e)
end
end Go.Proofs.YtkoikmdmejhhhaaGreat
namespace Go.Proofs.YtkoikmdmejhhhaaGreat
open Go.RowKit
theorem ints_eq (a b : Nat) : (((a : Int) == (b : Int)) : Bool) = decide (a = b) := by
  by_cases h : a = b
  · subst h; simp
  · rw [decide_eq_false h, beq_eq_false_iff_ne]; omega
def Indexed64 (ks : List Nat) (x : Nat) (w : World) (e : Ending) (w' : World) : Prop := ∃ r : Int, e = .returned (.int .i64 r) ∧ (0 ≤ r ↔ x ∈ ks) ∧ w = w'
set_option maxRecDepth 100000 in
set_option maxHeartbeats 1000000 in
theorem index64_any (w : World) (D : Nat → Prop) (v : Value) (ks : List Nat) (x : Nat) (h : Row w D v ks.length 1 (ks.map kv)) :
    Calls Tryz.prog 173 #[v, .int .u64 (x : Int)] w (Indexed64 ks x w) := by
  obtain ⟨A, c, rfl, hlc, hcm, hn, hxl, hc⟩ := h
  unfold maxLen at hcm
  have HC := Lib.hid hc
  clear hc hxl
  go_enter Tryz.func173, Tryz.ntmps173
  go_wp2
  go_loop [8] (fun i => ∃ k : Nat, k ≤ ks.length ∧ i = .int .i64 k ∧ ∀ j y, j < k → ks[j]? = some y → y ≠ x) (fun i => ks.length - (intOf i).toNat)
  case atStart => exact ⟨0, Nat.zero_le _, rfl, fun j _ hj => absurd hj (by omega)⟩
  case round =>
    obtain ⟨k, hk, rfl, hall⟩ := hrel
    have HA := Lib.hid hall
    clear hall
    by_cases hlt : k < ks.length
    · obtain ⟨ad, rfl, hsp, hblk, hD, hcell⟩ := HC.out (by omega)
      obtain ⟨b, o, sp⟩ := ad
      simp only at hsp hblk hD hcell
      subst hsp
      have HS := Lib.hid (List.getElem?_eq_getElem hlt)
      have c0 : w.cell? ⟨b, o + k, none⟩ = some (.int .u64 (ks[k] : Int)) := hcell k _ (by rw [List.getElem?_map, List.getElem?_eq_getElem hlt]; rfl)
      generalize ks[k] = m at *
      clear hcell
      by_cases hs : x = m
      · subst hs
        have HM := Lib.hid (List.mem_of_getElem? HS.out)
        go_wp2
        go_ret
        exact ⟨_, rfl, ⟨fun _ => HM.out, fun _ => by omega⟩, rfl⟩
      · have g : (((x : Int) == (m : Int)) : Bool) = false := by rw [ints_eq]; simp [hs]
        have HS2 := Lib.hid hs
        clear hs
        go_wp2
        go_round
        case rel =>
          refine ⟨k + 1, by omega, by go_num, fun j t hj e => ?_⟩
          rcases Nat.lt_or_ge j k with h | h
          · exact HA.out j t h e
          · have : j = k := by omega
            subst this
            rw [HS.out] at e
            injection e with e
            rw [← e]
            exact fun h => HS2.out h.symm
        case measure => simp [intOf]; omega
    · have HM := Lib.hid (show x ∉ ks from fun hm => by
        obtain ⟨j, hj⟩ := List.getElem?_of_mem hm
        exact HA.out j x (by have := (List.getElem?_eq_some_iff.1 hj).1; omega) hj rfl)
      go_wp2
      go_ret
      exact ⟨_, rfl, ⟨fun h => absurd h (by decide), fun h => absurd h HM.out⟩, rfl⟩
set_option maxRecDepth 100000 in
set_option maxHeartbeats 1000000 in
theorem contains64_any (w : World) (D : Nat → Prop) (v : Value) (ks : List Nat) (x : Nat) (h : Row w D v ks.length 1 (ks.map kv)) :
    Calls Tryz.prog 145 #[v, .int .u64 (x : Int)] w fun e w' => e = .returned (.bool (ks.contains x)) ∧ w = w' := by
  have HI := Lib.hid (index64_any w D v ks x h)
  obtain ⟨A, c, rfl, _⟩ := h
  generalize hR : ks.contains x = R
  have HR := Lib.hid hR
  clear hR
  go_enter Tryz.func145, Tryz.ntmps145
  go_wp2_with fail
  refine HI.out.mono ?_
  rintro e w1 ⟨r, rfl, hr, rfl⟩
  have HRR := Lib.hid hr
  clear hr
  go_wp2
  go_ret
  refine ⟨ret_bool ?_, rfl⟩
  rw [← HR.out]
  rw [Bool.eq_iff_iff, decide_eq_true_eq, List.contains_iff_mem]
  exact HRR.out
theorem QAt.keys {w : World} {D : Nat → Prop} {q : Qm} (h : QAt w D q) : Row w q.O q.bv q.built.length 1 (q.built.map kv) := own_row_in h.bl (fun _ e => .inr (.inr (.inr (.inr (.inl e)))))
set_option maxRecDepth 100000 in
theorem isBuilt_any (w : World) (D : Nat → Prop) (q : Qm) (h : QAt w D q) (x : Nat) :
    Calls Tryz.prog 113 #[.pointer (some ⟨q.p, 0, none⟩), .int .u64 (x : Int)] w fun e w' => e = .returned (.bool (q.built.contains x)) ∧ w = w' := by
  have HC := Lib.hid (contains64_any w _ _ q.built x h.keys)
  have p5 : w.cell? ⟨q.p, 5, none⟩ = some q.bv := h.box.cell 5
  obtain ⟨A, c, hv⟩ := own_shape h.bl
  rw [hv] at p5 HC
  clear h
  go_enter Tryz.func113, Tryz.ntmps113
  go_wp2_with fail
  refine HC.out.mono ?_
  rintro e w1 ⟨rfl, rfl⟩
  go_wp2
  go_ret
  exact ⟨ret_bool (List.elem_eq_mem ..).symm, rfl⟩
theorem can_call_find : CanCall 90 := enters_of Tryz.func90 (by kernel_rfl) rfl
set_option maxRecDepth 100000 in
theorem find1_any (w : World) (g : Gm) (b : Nat) (id : Int) (hb : Box w b 23 #[.int .u64 id]) :
    Calls Tryz.prog 90 (#[.agg #[.int .u64 g.id, g.gv, g.sv]] ++ #[.pointer (some ⟨b, 0, none⟩)]) w (TellsB (decide (g.id = id)) w) := by
  obtain ⟨gid, gv, sv, ts, st⟩ := g
  dsimp only
  obtain ⟨c0, c1, c2⟩ := box3 w 59 (.int .u64 gid) gv sv
  have hb2 := hb.alloc (.cells #[.int .u64 gid, gv, sv] 59)
  have cb := hb2.cell 0
  have HK := Lib.hid ((Keep.refl noneOf w).alloc (.cells #[.int .u64 gid, gv, sv] 59))
  generalize hR : decide (gid = id) = R
  have HR := Lib.hid hR
  clear hb hb2 hR
  show Calls Tryz.prog 90 #[.agg #[.int .u64 gid, gv, sv], .pointer (some ⟨b, 0, none⟩)] w _
  go_enter Tryz.func90, Tryz.ntmps90
  go_wp2
  go_ret
  refine ⟨ret_bool ?_, HK.out⟩
  rw [← HR.out]
  by_cases e : gid = id
  · subst e; simp
  · rw [decide_eq_false e]; simpa using e
def FirstAt (r : Option Nat) (w : World) (e : Ending) (w' : World) : Prop := e = .returned (.int .i64 (match r with | some k => (k : Int) | none => -1)) ∧ Keep noneOf w w'
set_option maxRecDepth 100000 in
set_option maxHeartbeats 2000000 in
theorem indexFunc_any (w : World) (D : Nat → Prop) (v : Value) (gs : List Gm) (idn : Int) (h : Many Gm.cells 3 w D v gs) (b : Nat) (hb : Box w b 23 #[.int .u64 idn]) :
    Calls Tryz.prog 89 #[v, .func (.func 90) #[] #[.pointer (some ⟨b, 0, none⟩)]] w (FirstAt (gs.findIdx? (fun g => decide (g.id = idn))) w) := by
  obtain ⟨A, c, rfl⟩ := h.shape
  have hfew := h.few
  unfold maxLen at hfew
  have HH := Lib.hid h
  have HBB := Lib.hid hb
  have eg := can_call_find
  unfold CanCall at eg
  have HEG := Lib.hid eg
  generalize hR : gs.findIdx? (fun g => decide (g.id = idn)) = R
  have HR := Lib.hid hR
  clear h hb eg hR
  go_enter Tryz.func89, Tryz.ntmps89
  go_wp2
  go_loopw [8] (fun i wr => ∃ k : Nat, k ≤ gs.length ∧ i = .int .i64 k ∧ Keep noneOf w wr ∧ ∀ j g, j < k → gs[j]? = some g → g.id ≠ idn) (fun i _ => gs.length - (intOf i).toNat)
  case atStart => exact ⟨0, Nat.zero_le _, rfl, Keep.refl _ _, fun j _ hj => absurd hj (by omega)⟩
  case round =>
    obtain ⟨k, hk, rfl, hkeep, hall⟩ := hrel
    have HA := Lib.hid hall
    have HKP := Lib.hid hkeep
    clear hall
    by_cases hlt : k < gs.length
    · have hx : gs[k]? = some gs[k] := List.getElem?_eq_getElem hlt
      obtain ⟨b0, o, rfl, hblk, _, hcell⟩ := (HH.out.keep hkeep (fun _ _ _ => id)).cell (fun _ => rfl) hx
      have HX := Lib.hid hx
      generalize gs[k] = g at *
      have d0 : wr.cell? ⟨b0, o + k * 3, none⟩ = some (.int .u64 g.id) := hcell 0 (by decide)
      have d1 : wr.cell? ⟨b0, o + k * 3 + 1, none⟩ = some g.gv := hcell 1 (by decide)
      have d2 : wr.cell? ⟨b0, o + k * 3 + 2, none⟩ = some g.sv := hcell 2 (by decide)
      have HF := Lib.hid (find1_any wr g b idn (HBB.out.keep hkeep id))
      have q0 : (0 : Int) ≤ (k : Int) := by omega
      have q1 : (k : Int) < (gs.length : Int) := by omega
      have eg := HEG.out
      clear hx hcell hkeep
      cases hg : decide (g.id = idn) with
      | true =>
        rw [hg] at HF
        go_wp2_with fail
        refine HF.out.mono ?_
        rintro e w2 ⟨rfl, k2⟩
        have HK2 := Lib.hid (HKP.out.trans k2 (fun _ _ h => h))
        have HRF : Hid (R = some k) := Lib.hid (by
          rw [← HR.out, List.findIdx?_eq_some_iff_getElem]
          obtain ⟨h1, h2⟩ := List.getElem?_eq_some_iff.1 HX.out
          refine ⟨h1, by rw [h2]; exact hg, fun j hj => ?_⟩
          have hjl : j < gs.length := by omega
          have := HA.out j _ hj (List.getElem?_eq_getElem hjl)
          simpa using this)
        clear HF k2 d0 d1 d2 eg
        go_wp2
        go_ret
        exact ⟨by rw [HRF.out]; rfl, HK2.out⟩
      | false =>
        rw [hg] at HF
        have HG := Lib.hid (of_decide_eq_false hg)
        clear hg
        go_wp2_with fail
        refine HF.out.mono ?_
        rintro e w2 ⟨rfl, k2⟩
        have HK2 := Lib.hid (HKP.out.trans k2 (fun _ _ h => h))
        clear HF k2 d0 d1 d2 eg
        go_wp2
        go_roundw
        case rel =>
          refine ⟨k + 1, by omega, by go_num, HK2.out, fun j t hj e => ?_⟩
          rcases Nat.lt_or_ge j k with h | h
          · exact HA.out j t h e
          · have : j = k := by omega
            subst this
            rw [HX.out] at e
            injection e with e
            rw [← e]
            exact HG.out
        case measure => simp only [intOf]; omega
    · have HRF : Hid (R = none) := Lib.hid (by
        rw [← HR.out, List.findIdx?_eq_none_iff]
        intro g hg
        obtain ⟨j, hj⟩ := List.getElem?_of_mem hg
        have := HA.out j g (by have := (List.getElem?_eq_some_iff.1 hj).1; omega) hj
        simpa using this)
      clear hkeep
      go_wp2
      go_ret
      exact ⟨by rw [HRF.out]; rfl, HKP.out⟩
theorem find_plain (q : Qm) (id : Int) : findG q.plain id = q.gs.findIdx? (fun g => decide (g.id = id)) := by
  unfold findG
  show (q.gs.map Gm.plain).findIdx? _ = _
  rw [List.findIdx?_map]
  rfl
set_option maxRecDepth 100000 in
set_option maxHeartbeats 2000000 in
theorem qfind_any (w : World) (D : Nat → Prop) (q : Qm) (h : QAt w D q) (id : Int) :
    Calls Tryz.prog 50 #[.pointer (some ⟨q.p, 0, none⟩), .int .u64 id] w (TellsAt (findG q.plain id) w) := by
  rw [find_plain]
  have ka := (Keep.refl noneOf w).alloc (.cells #[.int .u64 id] 23)
  have HK := Lib.hid ka
  have hm : Many Gm.cells 3 (w.alloc (.cells #[.int .u64 id] 23)) q.O q.gv q.gs := own_row_in (h.stay ka).gr (fun _ e => .inr (.inr (.inr (.inl e))))
  have HI := Lib.hid (indexFunc_any _ _ _ q.gs id hm w.heap.size (Box.new w _ _))
  have p4 : (w.alloc (.cells #[.int .u64 id] 23)).cell? ⟨q.p, 4, none⟩ = some q.gv := (h.stay ka).box.cell 4
  obtain ⟨A, c, hv⟩ := h.shape
  rw [hv] at p4 HI
  generalize q.gs.findIdx? (fun g => decide (g.id = id)) = R at *
  clear h hm ka
  go_enter Tryz.func50, Tryz.ntmps50
  go_wp2_with fail
  refine HI.out.mono ?_
  rintro e w1 ⟨rfl, k1⟩
  have HK1 := Lib.hid (HK.out.trans k1 (fun _ _ h => h))
  clear HI k1 p4
  cases R with
  | none =>
    dsimp only
    go_wp2
    go_ret2
    exact ⟨rfl, HK1.out⟩
  | some k =>
    have hmax : max (k : Int) 0 = (k : Int) := by omega
    have hge : (0 : Int) ≤ (k : Int) := by omega
    dsimp only
    go_wp2
    go_ret2
    exact ⟨by simp, HK1.out⟩
end Go.Proofs.YtkoikmdmejhhhaaGreat
