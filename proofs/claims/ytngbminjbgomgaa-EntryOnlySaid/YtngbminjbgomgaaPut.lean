/-
  Graphs of commands, written.
-/
import Derived.Test.YtngbminjbgomgaaRight
import Derived.Laws.IdiomStrings
import Derived.Laws.EntriesVeiled
namespace Go.Proofs.Ytngbminjbgomgaa
open Go.RowKit

/-- The bytes of a string. -/
def sb (s : ByteArray) : List UInt8 := s.data.toList
theorem sb_length (s : ByteArray) : (sb s).length = s.size := by simp [sb]

/-- []byte(s): a new row that reads as the string's bytes. -/
theorem run_bytes (w : World) (s : ByteArray) (hs : s.size ≤ maxLen) : ∃ cap W1, (convert 9 23 (.string s)).run Try.prog w = .ok (.slice (some ⟨w.heap.size, 0, none⟩) s.size cap) W1 ∧ Keep noneOf w W1 ∧
    Bytes W1 (fun k => w.heap.size ≤ k) (.slice (some ⟨w.heap.size, 0, none⟩) s.size cap) (sb s) := by
  refine ⟨_, _, run_bytes_of_string w 9 23 5 s Try.underlying9 Try.underlying23 Try.underlying5, ((Keep.refl noneOf w).drew).alloc _, ?_⟩
  refine ⟨_, _, by rw [sb_length], by rw [sb_length]; exact grownCap_ge _ _ _ _, grownCap_le_maxLen _ _ _ _ hs, fun e => (by cases e), fun _ => ⟨⟨w.heap.size, 0, none⟩, rfl, rfl, by simp, Nat.le_refl _, fun j b hb => ?_⟩⟩
  have hh := heap_alloc_new w.drew (.cells (bytesRow s (grownCap w s.size 0 5)) 5 ((bytesRow s (grownCap w s.size 0 5)).size, (bytesRow s (grownCap w s.size 0 5)).size + 1))
  have hc := cell_of_row _ _ j _ _ _ hh
  show (_ : World).cell? ⟨w.heap.size, 0 + j, none⟩ = _
  rw [Nat.zero_add]
  refine hc.trans ?_
  have hj : j < s.data.size := by have := (List.getElem?_eq_some_iff.1 hb).1; simpa [sb] using this
  unfold bytesRow
  unfold sb at hb
  rw [Array.getElem?_append_left (by simpa using hj)]
  simp at hb ⊢
  simp [hb, bv]

/-- What is behind a call that writes cs. -/
def Wrote (w : World) (p : Nat) (v : Value) (bs cs : List UInt8) (e : Ending) (w' : World) : Prop := e = .returned (.tuple #[]) ∧ ∃ v', Wr w' p v' (bs ++ cs) ∧ Went w p v w' v'

/-- New blocks change nothing for a writer. -/
theorem Wr.keep {w w' : World} {p : Nat} {v : Value} {bs : List UInt8} {S : Nat → Prop} (h : Wr w p v bs) (k : Keep S w w') (hp : ¬ S p) (hv : ∀ j, v.ownBlock = some j → ¬ S j) : Wr w' p v bs :=
  ⟨h.box.keep k hp, own_keep h.own k hv, h.few⟩
theorem Went.after {w w1 w2 : World} {p : Nat} {v v2 : Value} (k : Keep noneOf w w1) (g : Went w1 p v w2 v2) : Went w p v w2 v2 :=
  ⟨(k.mono (fun _ _ h => h.elim)).trans g.keep (fun _ _ h => h), by
    rcases g.row with e | e
    · exact .inl e
    · exact .inr fun j hj => Nat.le_trans k.size (e j hj)⟩
theorem Went.refl (w : World) (p : Nat) (v : Value) : Went w p v w v := ⟨Keep.refl _ _, .inl rfl⟩
/-- The row of a writer is a block that is there. -/
theorem Wr.row_lt {w : World} {p : Nat} {v : Value} {bs : List UInt8} (h : Wr w p v bs) {j : Nat} (e : v.ownBlock = some j) : j < w.heap.size := (h.own.lt j e).2

set_option maxRecDepth 100000 in
set_option maxHeartbeats 400000 in
theorem putText_any (w : World) (p : Nat) (v : Value) (bs : List UInt8) (s : ByteArray) (h : Wr w p v bs) (hb : bs.length + s.size + 9 ≤ lim) :
    Calls Try.prog 71 #[.pointer (some ⟨p, 0, none⟩), .string s] w (Wrote w p v bs (textBytes (sb s))) := by
  have hm : s.size ≤ maxLen := by rw [lim_is] at hb; unfold maxLen; omega
  obtain ⟨cap, W1, hrun, k1, b1⟩ := run_bytes w s hm
  have h1 := h.keep k1 id (fun _ _ => id)
  have T := Lib.hid (text_any W1 p v _ bs (sb s) _ h1 b1 (by rw [sb_length]; exact hb) (fun k hk => ⟨by have := h.box.lt; omega, fun e => by have := h.row_lt e.symm; omega⟩))
  clear b1 h1 hm
  go_enter Try.func71, Try.ntmps71
  go_wp2_with fail
  refine T.out.mono ?_
  rintro e w2 ⟨rfl, v2, g2, G2⟩
  have G := G2.after k1
  go_wp2
  go_end0
  exact ⟨rfl, v2, g2, G⟩

/-- The strings of a list, as bytes. -/
def allTexts (ss : List ByteArray) : List UInt8 := ss.flatMap (fun s => textBytes (sb s))
/-- A list of strings, as bytes. -/
def strsBytes (ss : List ByteArray) : List UInt8 := varBytes ss.length ++ allTexts ss
theorem textBytes_length (bs : List UInt8) : (textBytes bs).length = bs.length + (varBytes bs.length).length := by simp [textBytes, Nat.add_comm]
theorem varBytes_le (n : Nat) : (varBytes n).length ≤ 9 := by have := varMore_le (varFirst n); rw [varBytes_length]; omega
theorem allTexts_take (ss : List ByteArray) (k : Nat) (h : k < ss.length) : allTexts (ss.take (k + 1)) = allTexts (ss.take k) ++ textBytes (sb ss[k]) := by
  unfold allTexts
  rw [List.take_succ_eq_append_getElem h, List.flatMap_append, List.flatMap_singleton]
theorem allTexts_room (ss : List ByteArray) (k : Nat) (h : k < ss.length) : (allTexts (ss.take k)).length + (textBytes (sb ss[k])).length ≤ (allTexts ss).length := by
  have e : allTexts ss = allTexts (ss.take (k + 1)) ++ allTexts (ss.drop (k + 1)) := by unfold allTexts; rw [← List.flatMap_append, List.take_append_drop]
  rw [e, allTexts_take ss k h, List.length_append, List.length_append]
  omega

set_option maxRecDepth 100000 in
set_option maxHeartbeats 1000000 in
theorem putStrs_any (w : World) (p : Nat) (D : Nat → Prop) (v nv : Value) (bs : List UInt8) (ss : List ByteArray) (h : Wr w p v bs) (hs : Strs w D nv ss) (hD : ∀ k, D k → k ≠ p ∧ some k ≠ v.ownBlock) (hb : bs.length + (strsBytes ss).length + 18 ≤ lim) :
    Calls Try.prog 74 #[.pointer (some ⟨p, 0, none⟩), nv, .func (.func 71) #[] #[]] w (Wrote w p v bs (strsBytes ss)) := by
  have hs' := hs
  obtain ⟨A, c, rfl, hlc, hcm, hn, hxl, hc⟩ := hs.1
  unfold maxLen at hcm
  have hwr : IntKind.u64.wrap (ss.length : Int) = ss.length := IntWalk.u64_in _ ⟨by omega, by omega⟩
  have HL := Lib.hid (show (ss.length : Int) < 18446744073709551616 by omega)
  have hv9 := varBytes_le ss.length
  have hsb : (strsBytes ss).length = (varBytes ss.length).length + (allTexts ss).length := by simp [strsBytes]
  have HS := Lib.hid hs'
  have HC := Lib.hid hc
  have HB := Lib.hid hsb
  have HD := Lib.hid hD
  clear hs hs' hc hsb hD
  go_enter Try.func74, Try.ntmps74
  go_wp2_with fail
  refine (var_any w p v bs ss.length h (by omega) HL.out).mono ?_
  rintro e w1 ⟨rfl, v1, g1, G1⟩
  go_wp2_with fail
  go_loopw [15] (fun i wr => ∃ k : Nat, k ≤ ss.length ∧ i = .int .i64 k ∧ ∃ v', Wr wr p v' (bs ++ (varBytes ss.length ++ allTexts (ss.take k))) ∧ Went w p v wr v') (fun i _ => ss.length - (intOf i).toNat)
  case atStart => exact ⟨0, Nat.zero_le _, rfl, v1, by simpa [allTexts] using g1, G1⟩
  case round =>
    obtain ⟨k, hk, rfl, v', g, G⟩ := hrel
    by_cases hlt : k < ss.length
    · obtain ⟨ad, rfl, hsp, hblk, hDb, hcell⟩ := HC.out (by omega)
      obtain ⟨b, o, sp⟩ := ad
      simp only at hsp hblk hDb hcell
      subst hsp
      have hck : wr.cell? ⟨b, o + k, none⟩ = some (.string ss[k]) := by
        refine (G.keep.cell (p := ⟨b, o + k, none⟩) hblk ?_).trans (hcell k _ (by simp [List.getElem?_eq_getElem hlt]))
        rintro (e | e)
        · exact (HD.out b hDb).1 e
        · exact (HD.out b hDb).2 e
      have hroom := allTexts_room ss k hlt
      have htl := textBytes_length (sb ss[k])
      have hsl := sb_length ss[k]
      have HN := Lib.hid (allTexts_take ss k hlt)
      have hbs := HB.out
      generalize ss[k] = s at *
      have hb2 : (bs ++ (varBytes ss.length ++ allTexts (ss.take k))).length + s.size + 9 ≤ lim := by
        rw [List.length_append, List.length_append]
        omega
      clear hcell hroom htl hsl hbs
      go_wp2_with fail
      refine (putText_any wr p v' _ s g hb2).mono ?_
      rintro e w2 ⟨rfl, v2, g2, G2⟩
      have G' := G.trans G2
      clear g G hb2 hck
      go_wp2
      go_roundw
      case rel => exact ⟨k + 1, by omega, by go_num, v2, by rw [HN.out]; simpa using g2, G'⟩
      case measure => simp [intOf]; omega
    · go_wp2
      go_end0
      have hke : k = ss.length := by omega
      subst hke
      rw [List.take_length] at g
      exact ⟨rfl, v', g, G⟩

/-- A target, as bytes. -/
def tgBytes (t : Tg) : List UInt8 := textBytes (sb t.name) ++ textBytes (sb t.cmd) ++ strsBytes t.needs
def allTgs (ts : List Tg) : List UInt8 := ts.flatMap tgBytes
/-- A graph, as bytes. -/
def graphBytes (ts : List Tg) : List UInt8 := varBytes ts.length ++ allTgs ts
theorem allTgs_take (ts : List Tg) (k : Nat) (h : k < ts.length) : allTgs (ts.take (k + 1)) = allTgs (ts.take k) ++ tgBytes ts[k] := by
  unfold allTgs
  rw [List.take_succ_eq_append_getElem h, List.flatMap_append, List.flatMap_singleton]
theorem allTgs_room (ts : List Tg) (k : Nat) (h : k < ts.length) : (allTgs (ts.take k)).length + (tgBytes ts[k]).length ≤ (allTgs ts).length := by
  have e : allTgs ts = allTgs (ts.take (k + 1)) ++ allTgs (ts.drop (k + 1)) := by unfold allTgs; rw [← List.flatMap_append, List.take_append_drop]
  rw [e, allTgs_take ts k h, List.length_append, List.length_append]
  omega

set_option maxRecDepth 100000 in
set_option maxHeartbeats 1000000 in
theorem putTarget_any (w : World) (p q : Nat) (D : Nat → Prop) (v : Value) (bs : List UInt8) (t : Tg) (h : Wr w p v bs) (hq : Box w q 113 #[.func (.func 71) #[] #[]])
    (hqp : q ≠ p ∧ some q ≠ v.ownBlock) (hs : t.lies w D) (hD : ∀ k, D k → k ≠ p ∧ some k ≠ v.ownBlock) (hb : bs.length + (tgBytes t).length + 40 ≤ lim) :
    Calls Try.prog 73 #[.pointer (some ⟨p, 0, none⟩), .agg #[.string t.name, .string t.cmd, t.nv], .pointer (some ⟨q, 0, none⟩)] w (Wrote w p v bs (tgBytes t)) := by
  obtain ⟨nm, cm, nv, ss⟩ := t
  obtain ⟨h1, h2, hss⟩ := hs
  simp only at h1 h2 hss ⊢
  obtain ⟨A, c, hnv, _⟩ := hss.1
  subst hnv
  have k0 := (Keep.refl noneOf w).alloc (.cells #[.string nm, .string cm, .slice A ss.length c] 102)
  have x0 := Box.new w 102 #[.string nm, .string cm, .slice A ss.length c]
  have g0 := h.keep k0 id (fun _ _ => id)
  have q0 := hq.keep k0 id
  have hss0 := (show Strs w (fun j => D j ∧ j < w.heap.size) (.slice A ss.length c) ss from ⟨hss.1.mono (fun i hi hd => ⟨hd, hi⟩), hss.2⟩).keep k0 (fun _ _ _ => id)
  have hpl := h.box.lt
  have hrl := fun j (e : v.ownBlock = some j) => h.row_lt e
  have hql := hq.lt
  have hln : (tgBytes ⟨nm, cm, .slice A ss.length c, ss⟩).length = (textBytes (sb nm)).length + (textBytes (sb cm)).length + (strsBytes ss).length := by simp [tgBytes, Nat.add_assoc]
  have e1 := textBytes_length (sb nm)
  have e2 := textBytes_length (sb cm)
  have e3 := sb_length nm
  have e4 := sb_length cm
  have b1 : bs.length + nm.size + 9 ≤ lim := by omega
  have b2 : bs.length + (textBytes (sb nm)).length + cm.size + 9 ≤ lim := by omega
  have b3 : bs.length + (textBytes (sb nm)).length + (textBytes (sb cm)).length + (strsBytes ss).length + 18 ≤ lim := by omega
  have HX := Lib.hid (show tgBytes ⟨nm, cm, .slice A ss.length c, ss⟩ = textBytes (sb nm) ++ textBytes (sb cm) ++ strsBytes ss from rfl)
  have HD := Lib.hid hD
  have HR := Lib.hid hrl
  obtain ⟨hqp1, hqp2⟩ := hqp
  clear hq h hss e1 e2 e3 e4 hb hln hD hrl
  have a0 : (w.alloc (.cells #[.string nm, .string cm, .slice A ss.length c] 102)).cell? ⟨q, 0, none⟩ = some (.func (.func 71) #[] #[]) := q0.cell 0
  go_enter Try.func73, Try.ntmps73
  go_wp2_with fail
  refine (putText_any _ p v bs nm g0 b1).mono ?_
  rintro e w1 ⟨rfl, v1, g1, G1⟩
  have hne : ∀ k, k ≤ w.heap.size → k ≠ p → some k ≠ v.ownBlock → ¬ (k = p ∨ some k = v.ownBlock) := fun k _ h1 h2 h => h.elim h1 h2
  have hxp : w.heap.size ≠ p := by omega
  have hxr : some w.heap.size ≠ v.ownBlock := fun e => by have := HR.out _ e.symm; omega
  have x1 := x0.keep G1.keep (fun h => h.elim hxp hxr)
  have q1 := q0.keep G1.keep (fun h => h.elim hqp1 hqp2)
  have a1 : w1.cell? ⟨q, 0, none⟩ = some (.func (.func 71) #[] #[]) := q1.cell 0
  have y1 : w1.cell? ⟨w.heap.size, 1, none⟩ = some (.string cm) := x1.cell 1
  clear a0
  go_wp2_with fail
  refine (putText_any _ p v1 _ cm g1 (by rw [List.length_append]; exact b2)).mono ?_
  rintro e w2 ⟨rfl, v2, g2, G2⟩
  have G := G1.trans G2
  have x2 := x0.keep G.keep (fun h => h.elim hxp hxr)
  have q2 := q0.keep G.keep (fun h => h.elim hqp1 hqp2)
  have a2 : w2.cell? ⟨q, 0, none⟩ = some (.func (.func 71) #[] #[]) := q2.cell 0
  have y2 : w2.cell? ⟨w.heap.size, 2, none⟩ = some (.slice A ss.length c) := x2.cell 2
  have hss2 := hss0.keep G.keep (fun i _ hi h => h.elim (HD.out i hi.1).1 (HD.out i hi.1).2)
  have hD2 : ∀ k, (D k ∧ k < w.heap.size) → k ≠ p ∧ some k ≠ v2.ownBlock := fun k hk => ⟨(HD.out k hk.1).1, fun e => by
    rcases G.row with h | h
    · rw [h] at e; exact (HD.out k hk.1).2 e
    · have := h k e.symm; simp at this; omega⟩
  have HD2 := Lib.hid hD2
  clear a1 y1 hD2
  go_wp2_with fail
  refine (putStrs_any _ p _ v2 _ _ ss g2 hss2 HD2.out (by rw [List.length_append, List.length_append]; exact b3)).mono ?_
  rintro e w3 ⟨rfl, v3, g3, G3⟩
  have GG := (G.trans G3).after k0
  go_wp2
  go_end0
  exact ⟨rfl, v3, by rw [HX.out]; simpa using g3, GG⟩

theorem tgBytes_le (t : Tg) : (textBytes (sb t.name)).length + (textBytes (sb t.cmd)).length + (strsBytes t.needs).length = (tgBytes t).length := by simp [tgBytes, Nat.add_assoc]

set_option maxRecDepth 100000 in
set_option maxHeartbeats 1000000 in
theorem putTargets_any (w : World) (p q : Nat) (D : Nat → Prop) (v gv : Value) (bs : List UInt8) (ts : List Tg) (h : Wr w p v bs) (hq : Box w q 113 #[.func (.func 71) #[] #[]])
    (hqp : q ≠ p ∧ some q ≠ v.ownBlock) (hs : Tgs w D gv ts) (hD : ∀ k, D k → k ≠ p ∧ some k ≠ v.ownBlock) (hb : bs.length + (graphBytes ts).length + 50 ≤ lim) :
    Calls Try.prog 72 #[.pointer (some ⟨p, 0, none⟩), gv, .func (.func 73) #[] #[.pointer (some ⟨q, 0, none⟩)]] w (Wrote w p v bs (graphBytes ts)) := by
  have hs' := hs
  obtain ⟨A, c, rfl, hlc, hcm, hn, hxl, hc⟩ := hs.1
  unfold maxLen at hcm
  have hwr : IntKind.u64.wrap (ts.length : Int) = ts.length := IntWalk.u64_in _ ⟨by omega, by omega⟩
  have HL := Lib.hid (show (ts.length : Int) < 18446744073709551616 by omega)
  have hv9 := varBytes_le ts.length
  have hsb : (graphBytes ts).length = (varBytes ts.length).length + (allTgs ts).length := by simp [graphBytes]
  have HS := Lib.hid hs'.2
  have HC := Lib.hid hc
  have HB := Lib.hid hsb
  have HD := Lib.hid hD
  have HQ := Lib.hid hq
  have HP := Lib.hid hqp
  clear hs hs' hc hsb hD hq hqp
  go_enter Try.func72, Try.ntmps72
  go_wp2_with fail
  refine (var_any w p v bs ts.length h (by omega) HL.out).mono ?_
  rintro e w1 ⟨rfl, v1, g1, G1⟩
  go_wp2_with fail
  go_loopw [15] (fun i wr => ∃ k : Nat, k ≤ ts.length ∧ i = .int .i64 k ∧ ∃ v', Wr wr p v' (bs ++ (varBytes ts.length ++ allTgs (ts.take k))) ∧ Went w p v wr v') (fun i _ => ts.length - (intOf i).toNat)
  case atStart => exact ⟨0, Nat.zero_le _, rfl, v1, by simpa [allTgs] using g1, G1⟩
  case round =>
    obtain ⟨k, hk, rfl, v', g, G⟩ := hrel
    by_cases hlt : k < ts.length
    · obtain ⟨ad, rfl, hsp, hblk, hDb, hcell⟩ := HC.out (by omega)
      obtain ⟨b, o, sp⟩ := ad
      simp only at hsp hblk hDb hcell
      subst hsp
      have hlies := HS.out _ (List.getElem_mem hlt)
      have hroom := allTgs_room ts k hlt
      have HN := Lib.hid (allTgs_take ts k hlt)
      have hks : ts[k]? = some ts[k] := List.getElem?_eq_getElem hlt
      have hbs := HB.out
      generalize ts[k] = t at *
      have hfar : ∀ i, D i → ¬ (i = p ∨ some i = v.ownBlock) := fun i hi h => h.elim (HD.out i hi).1 (HD.out i hi).2
      have hcc : ∀ j, j < 3 → ∀ x, t.cells[j]? = some x → wr.cell? ⟨b, o + (k * 3 + j), none⟩ = some x := fun j hj x hx =>
        (G.keep.cell (p := ⟨b, o + (k * 3 + j), none⟩) hblk (hfar b hDb)).trans (hcell _ x ((Nat.mul_comm k 3 ▸ cells_at hks j hj).trans hx))
      have c0 : wr.cell? ⟨b, o + k * 3, none⟩ = some (.string t.name) := hcc 0 (by decide) _ rfl
      have c1 : wr.cell? ⟨b, o + k * 3 + 1, none⟩ = some (.string t.cmd) := hcc 1 (by decide) _ rfl
      have c2 : wr.cell? ⟨b, o + k * 3 + 2, none⟩ = some t.nv := hcc 2 (by decide) _ rfl
      have ka := (Keep.refl noneOf wr).alloc (.cells #[.string t.name, .string t.cmd, t.nv] 102)
      have hl2 : t.lies (wr.alloc (.cells #[.string t.name, .string t.cmd, t.nv] 102)) (fun j => D j ∧ j < w.heap.size) :=
        ⟨hlies.1, hlies.2.1, ((show Strs w (fun j => D j ∧ j < w.heap.size) t.nv t.needs from ⟨hlies.2.2.1.mono (fun i hi hd => ⟨hd, hi⟩), hlies.2.2.2⟩).keep G.keep (fun i _ hi => hfar i hi.1)).keep ka (fun _ _ _ => id)⟩
      have hrow : ∀ i, i < w.heap.size → some i ≠ v.ownBlock → some i ≠ v'.ownBlock := fun i hi hne e => by
        rcases G.row with h | h
        · rw [h] at e; exact hne e
        · have := h i e.symm; omega
      have T := Lib.hid (putTarget_any _ p q _ v' _ t (g.keep ka id (fun _ _ => id)) ((HQ.out.keep G.keep (fun h => h.elim HP.out.1 HP.out.2)).keep ka id) ⟨HP.out.1, hrow q HQ.out.lt HP.out.2⟩ hl2
        (fun i hi => ⟨(HD.out i hi.1).1, hrow i hi.2 (HD.out i hi.1).2⟩) (by rw [List.length_append, List.length_append]; omega))
      obtain ⟨A', c', hv', _⟩ := hlies.2.2.1
      obtain ⟨nm, cm, nv, ss⟩ := t
      simp only at c0 c1 c2 T hv' ka
      subst hv'
      clear hcell hroom hbs hcc hl2 hlies hks hrow hfar
      go_wp2_with fail
      refine T.out.mono ?_
      rintro e w2 ⟨rfl, v2, g2, G2⟩
      have G' := G.trans (G2.after ka)
      clear g G c0 c1 c2 ka T
      go_wp2
      go_roundw
      case rel => exact ⟨k + 1, by omega, by go_num, v2, by rw [HN.out]; simpa using g2, G'⟩
      case measure => simp [intOf]; omega
    · go_wp2
      go_end0
      have hke : k = ts.length := by omega
      subst hke
      rw [List.take_length] at g
      exact ⟨rfl, v', g, G⟩

set_option maxRecDepth 100000 in
set_option maxHeartbeats 1000000 in
theorem putGraph_any (w : World) (p : Nat) (D : Nat → Prop) (v gv : Value) (bs : List UInt8) (ts : List Tg) (h : Wr w p v bs) (hs : Tgs w D gv ts) (hD : ∀ k, D k → k ≠ p ∧ some k ≠ v.ownBlock) (hb : bs.length + (graphBytes ts).length + 50 ≤ lim) :
    Calls Try.prog 61 #[.pointer (some ⟨p, 0, none⟩), gv] w (Wrote w p v bs (graphBytes ts)) := by
  have hs' := hs
  obtain ⟨A, c, rfl, _⟩ := hs.1
  have k0 := (Keep.refl noneOf w).alloc (.cells #[.func (.func 71) #[] #[]] 113)
  have q0 := Box.new w 113 #[.func (.func 71) #[] #[]]
  have hs0 := (show Tgs w (fun j => D j ∧ j < w.heap.size) (.slice A ts.length c) ts from ⟨hs'.1.mono (fun i hi hd => ⟨hd, hi⟩), fun t ht => ⟨(hs'.2 t ht).1, (hs'.2 t ht).2.1, (hs'.2 t ht).2.2.1.mono (fun i hi hd => ⟨hd, hi⟩), (hs'.2 t ht).2.2.2⟩⟩).keep k0 (fun _ _ _ => id)
  have hpl := h.box.lt
  have hrl := fun j (e : v.ownBlock = some j) => h.row_lt e
  have T := Lib.hid (putTargets_any _ p w.heap.size _ v _ bs ts (h.keep k0 id (fun _ _ => id)) q0 ⟨by omega, fun e => by have := hrl _ e.symm; omega⟩ hs0 (fun j hj => hD j hj.1) hb)
  clear hs hs' q0 hs0 hrl hD h
  go_enter Try.func61, Try.ntmps61
  go_wp2_with fail
  refine T.out.mono ?_
  rintro e w2 ⟨rfl, v2, g2, G2⟩
  have G := G2.after k0
  go_wp2
  go_end0
  exact ⟨rfl, v2, g2, G⟩
end Go.Proofs.Ytngbminjbgomgaa
