import Derived.Test.YtdikmmdkpfmocaaBs11
import Derived.Test.YtdikmmdkpfmocaaBs35
import Derived.Test.YtdikmmdkpfmocaaBs40
namespace Go.Proofs.Ytdikmmdkpfmocaa
open Go.RowKit Go.Shelf
def fieldsB (m : Pm) : List UInt8 := if m.k = 1 ∨ m.k = 3 then be m.ix 8 ++ be m.lt 8 else if m.k = 2 ∨ m.k = 4 then [b2 m.gd] else if m.k = 5 then be m.ix 8 ++ be m.lt 8 ++ be m.cm 8 ++ be m.rd 8 ++ encEs m.es
  else if m.k = 6 then [b2 m.gd] ++ be m.ix 8 ++ be m.rd 8 else if m.k = 7 then be m.ix 8 ++ be m.lt 8 ++ textBytes (encP m.c) ++ be m.off 8 ++ be m.wh 8 ++ textBytes m.da else be m.ix 8 ++ be m.off 8
def msgB (m : Pm) : List UInt8 := [] ++ [by8 m.k] ++ [by8 m.fr] ++ [by8 m.to] ++ be m.te 8 ++ fieldsB m
theorem ents_each {ix te : Nat} : ∀ {l : List Pe} {i : Nat}, entsFrom ix te i l = true → ∀ x ∈ l, okE x
  | y :: l, i, h, x, hx => by
    unfold entsFrom at h
    simp only [Bool.and_eq_true, decide_eq_true_eq] at h
    rcases List.mem_cons.1 hx with rfl | hx
    · exact h.1.2
    · exact ents_each h.2 x hx
theorem encP_few {c : Cf} (h : chkP c = 0) : (encP c).length ≤ 100 := by
  have hv := (chk_iff c).1 h
  have h1 := eight hv.vs hv.v8
  have h2 := eight hv.ls hv.l8
  unfold encP
  simp only [List.length_append, List.length_cons, List.length_map]
  omega
structure Rgt (m : Pm) : Prop where
  kind : isKind m.k = true
  fr : 0 ≤ m.fr ∧ m.fr < 8
  to : 0 ≤ m.to ∧ m.to < 8
  few : m.es.length ≤ 8
  ents : ∀ x ∈ m.es, okE x
  chk : m.k = 7 → chkP m.c = 0 ∧ m.da.length ≤ 4096
theorem rgt_of {m : Pm} (h : rightP m = true) : Rgt m := by
  unfold rightP headP bareP entsP isN at h
  simp only [Bool.and_eq_true, Bool.or_eq_true, decide_eq_true_eq, Bool.not_eq_true', decide_eq_false_iff_not] at h
  obtain ⟨⟨⟨⟨⟨⟨h1, h2⟩, _⟩, _⟩, h5, _⟩, h7, h8⟩, h9⟩ := h
  refine ⟨h5, h1, h2, h7, ents_each h8, fun hk => ?_⟩
  rcases h9 with h9 | h9
  · exact absurd hk h9
  · unfold chunkP at h9
    simp only [Bool.and_eq_true, Bool.not_eq_true', decide_eq_false_iff_not, decide_eq_true_eq] at h9
    exact ⟨h9.1.1.1.1.1.2, by omega⟩
theorem entEs_few (l : List Pe) (h8 : l.length ≤ 8) (hok : ∀ x ∈ l, okE x) : (encEs l).length ≤ 524569 := by
  have := encEs_few l hok l.length
  rw [List.take_length] at this
  unfold encEs
  rw [List.length_cons]
  omega
theorem fields_few {m : Pm} (h : Rgt m) : (fieldsB m).length ≤ 600000 := by
  have h1 := entEs_few _ h.few h.ents
  unfold fieldsB
  split
  · simp only [List.length_append, be_length]; omega
  split
  · simp
  split
  · simp only [List.length_append, be_length]; omega
  split
  · simp only [List.length_append, be_length, List.length_cons, List.length_nil]; omega
  split
  · rename_i h7
    obtain ⟨hc, hd⟩ := h.chk h7
    have hl := encP_few hc
    have hv := varBytes_length (encP m.c).length
    have hm := varMore_le (varFirst (encP m.c).length)
    have hv' := varBytes_length m.da.length
    have hm' := varMore_le (varFirst m.da.length)
    simp only [List.length_append, be_length, textBytes]
    omega
  · simp only [List.length_append, be_length]; omega
theorem msg_few {m : Pm} (h : Rgt m) : (msgB m).length ≤ 700000 := by
  have := fields_few h
  unfold msgB
  simp only [List.length_append, be_length, List.length_cons, List.length_nil]
  omega
theorem visit_w (m : Mg) (hr : Rgt m.plain) : ∃ n, fieldsF m.k = .func (.func n) #[] #[] ∧ CanCall n ∧ ∀ (w0 w : World) (pw b : Nat) (D : Nat → Prop) (bs : List UInt8), WM w0 pw b D m → WS w0 pw bs w → bs.length ≤ 100 →
    Calls Try.prog n #[.iface 50 (.agg #[.pointer (some ⟨pw, 0, none⟩)]), .pointer (some ⟨b, 0, none⟩)] w fun e w' => e = .returned (.tuple #[]) ∧ WS w0 pw (bs ++ fieldsB m.plain) w' := by
  have hk : isKind m.k = true := hr.kind
  rcases kind_of hk with h | h | h | h | h | h | h | h
  · refine ⟨31, by rw [h]; rfl, enters_of Try.func31 (by kernel_rfl) rfl, fun w0 w pw b D bs hm hw hl => ?_⟩
    have hx := endOfLog_w w0 w pw b D m bs hm hw hl
    unfold fieldsB; rw [if_pos (by simp only [show m.plain.k = m.k from rfl]; omega)]
    exact hx
  · refine ⟨32, by rw [h]; rfl, enters_of Try.func32 (by kernel_rfl) rfl, fun w0 w pw b D bs hm hw hl => ?_⟩
    have hx := consent_w w0 w pw b D m bs hm hw hl
    unfold fieldsB; rw [if_neg (by show ¬ _; simp only [show m.plain.k = m.k from rfl]; omega)]; rw [if_pos (by simp only [show m.plain.k = m.k from rfl]; omega)]
    exact hx
  · refine ⟨31, by rw [h]; rfl, enters_of Try.func31 (by kernel_rfl) rfl, fun w0 w pw b D bs hm hw hl => ?_⟩
    have hx := endOfLog_w w0 w pw b D m bs hm hw hl
    unfold fieldsB; rw [if_pos (by simp only [show m.plain.k = m.k from rfl]; omega)]
    exact hx
  · refine ⟨32, by rw [h]; rfl, enters_of Try.func32 (by kernel_rfl) rfl, fun w0 w pw b D bs hm hw hl => ?_⟩
    have hx := consent_w w0 w pw b D m bs hm hw hl
    unfold fieldsB; rw [if_neg (by show ¬ _; simp only [show m.plain.k = m.k from rfl]; omega)]; rw [if_pos (by simp only [show m.plain.k = m.k from rfl]; omega)]
    exact hx
  · refine ⟨33, by rw [h]; rfl, enters_of Try.func33 (by kernel_rfl) rfl, fun w0 w pw b D bs hm hw hl => ?_⟩
    have hx := entriesSent_w w0 w pw b D m bs hm hw hl
    unfold fieldsB; rw [if_neg (by show ¬ _; simp only [show m.plain.k = m.k from rfl]; omega)]; rw [if_neg (by show ¬ _; simp only [show m.plain.k = m.k from rfl]; omega)]; rw [if_pos (by simp only [show m.plain.k = m.k from rfl]; omega)]
    exact hx
  · refine ⟨34, by rw [h]; rfl, enters_of Try.func34 (by kernel_rfl) rfl, fun w0 w pw b D bs hm hw hl => ?_⟩
    have hx := entriesTaken_w w0 w pw b D m bs hm hw hl
    unfold fieldsB; rw [if_neg (by show ¬ _; simp only [show m.plain.k = m.k from rfl]; omega)]; rw [if_neg (by show ¬ _; simp only [show m.plain.k = m.k from rfl]; omega)]; rw [if_neg (by show ¬ _; simp only [show m.plain.k = m.k from rfl]; omega)]; rw [if_pos (by simp only [show m.plain.k = m.k from rfl]; omega)]
    exact hx
  · refine ⟨35, by rw [h]; rfl, enters_of Try.func35 (by kernel_rfl) rfl, fun w0 w pw b D bs hm hw hl => ?_⟩
    have hx := chunkSent_w w0 w pw b D m bs hm hw hl (hr.chk h).1 (encP_few (hr.chk h).1) (hr.chk h).2
    unfold fieldsB; rw [if_neg (by show ¬ _; simp only [show m.plain.k = m.k from rfl]; omega)]; rw [if_neg (by show ¬ _; simp only [show m.plain.k = m.k from rfl]; omega)]; rw [if_neg (by show ¬ _; simp only [show m.plain.k = m.k from rfl]; omega)]; rw [if_neg (by show ¬ _; simp only [show m.plain.k = m.k from rfl]; omega)]; rw [if_pos (by simp only [show m.plain.k = m.k from rfl]; omega)]
    exact hx
  · refine ⟨36, by rw [h]; rfl, enters_of Try.func36 (by kernel_rfl) rfl, fun w0 w pw b D bs hm hw hl => ?_⟩
    have hx := chunkTaken_w w0 w pw b D m bs hm hw hl
    unfold fieldsB; rw [if_neg (by show ¬ _; simp only [show m.plain.k = m.k from rfl]; omega)]; rw [if_neg (by show ¬ _; simp only [show m.plain.k = m.k from rfl]; omega)]; rw [if_neg (by show ¬ _; simp only [show m.plain.k = m.k from rfl]; omega)]; rw [if_neg (by show ¬ _; simp only [show m.plain.k = m.k from rfl]; omega)]; rw [if_neg (by show ¬ _; simp only [show m.plain.k = m.k from rfl]; omega)]
    exact hx
def Encodes (w : World) (m : Pm) (e : Ending) (w' : World) : Prop :=
  (rightP m = false ∧ e = .returned (.tuple #[.slice none 0 0, .int .i64 160]) ∧ Keep noneOf w w') ∨
  (rightP m = true ∧ ∃ u, e = .returned (.tuple #[u, .int .i64 0]) ∧ Fresh w w' u (frameOf (msgB m)))
set_option maxRecDepth 100000 in
set_option maxHeartbeats 2000000 in
set_option linter.unusedSimpArgs false in
theorem mencode_any (w : World) (D : Nat → Prop) (m : Mg) (h : m.lies w D) :
    Calls Try.prog 8 #[.agg m.cells] w (Encodes w m.plain) := by
  have KB := (Keep.refl noneOf w).alloc (.cells m.cells 29)
  have HB : Hid (MBox (w.alloc (.cells m.cells 29)) w.heap.size m) := Lib.hid (Box.new w 29 m.cells)
  have HK := Lib.hid KB
  have HL := Lib.hid h.low
  have HR := Lib.hid (right_any _ D m (h.keepN KB))
  have e0 : (Value.agg m.cells).cells = m.cells := rfl
  have c0 : (w.alloc (.cells m.cells 29)).cell? ⟨w.heap.size, 0, none⟩ = some (.int .i64 m.k) := (HB.out.cell 0).trans m.at0
  have c1 : (w.alloc (.cells m.cells 29)).cell? ⟨w.heap.size, 1, none⟩ = some (.int .i64 m.fr) := (HB.out.cell 1).trans m.at1
  have c2 : (w.alloc (.cells m.cells 29)).cell? ⟨w.heap.size, 2, none⟩ = some (.int .i64 m.to) := (HB.out.cell 2).trans m.at2
  have c3 : (w.alloc (.cells m.cells 29)).cell? ⟨w.heap.size, 3, none⟩ = some (.int .u64 (m.te : Int)) := (HB.out.cell 3).trans m.at3
  have c4 : (w.alloc (.cells m.cells 29)).cell? ⟨w.heap.size, 4, none⟩ = some (.int .u64 (m.ix : Int)) := (HB.out.cell 4).trans m.at4
  have c5 : (w.alloc (.cells m.cells 29)).cell? ⟨w.heap.size, 5, none⟩ = some (.int .u64 (m.lt : Int)) := (HB.out.cell 5).trans m.at5
  have c6 : (w.alloc (.cells m.cells 29)).cell? ⟨w.heap.size, 6, none⟩ = some (.int .u64 (m.cm : Int)) := (HB.out.cell 6).trans m.at6
  have c7 : (w.alloc (.cells m.cells 29)).cell? ⟨w.heap.size, 7, none⟩ = some (.int .u64 (m.rd : Int)) := (HB.out.cell 7).trans m.at7
  have c8 : (w.alloc (.cells m.cells 29)).cell? ⟨w.heap.size, 8, none⟩ = some (.bool m.gd) := (HB.out.cell 8).trans m.at8
  have c9 : (w.alloc (.cells m.cells 29)).cell? ⟨w.heap.size, 9, none⟩ = some (m.ev) := (HB.out.cell 9).trans m.at9
  have c10 : (w.alloc (.cells m.cells 29)).cell? ⟨w.heap.size, 10, none⟩ = some (m.va) := (HB.out.cell 10).trans m.at10
  have c11 : (w.alloc (.cells m.cells 29)).cell? ⟨w.heap.size, 11, none⟩ = some (m.la) := (HB.out.cell 11).trans m.at11
  have c12 : (w.alloc (.cells m.cells 29)).cell? ⟨w.heap.size, 12, none⟩ = some (.int .u64 (m.off : Int)) := (HB.out.cell 12).trans m.at12
  have c13 : (w.alloc (.cells m.cells 29)).cell? ⟨w.heap.size, 13, none⟩ = some (.int .u64 (m.wh : Int)) := (HB.out.cell 13).trans m.at13
  have c14 : (w.alloc (.cells m.cells 29)).cell? ⟨w.heap.size, 14, none⟩ = some (m.dv) := (HB.out.cell 14).trans m.at14
  have hb := HB.out.lt
  clear KB h
  cases hr : rightP m.plain with
  | false =>
    have HRF := Lib.hid hr
    rw [hr] at HR
    clear hr
    go_enter Try.func8, Try.ntmps8
    go_wp2_with fail
    refine HR.out.mono ?_
    rintro e w1 ⟨rfl, k1⟩
    have HK1 := Lib.hid (HK.out.trans k1 (fun _ _ h => h))
    clear k1
    go_wp2
    go_ret2
    exact .inl ⟨HRF.out, rfl, HK1.out⟩
  | true =>
    have HRF := Lib.hid hr
    have hg := rgt_of hr
    rw [hr] at HR
    obtain ⟨n, hn, hc, hv⟩ := visit_w m hg
    have HV := Lib.hid hv
    have HC := Lib.hid hc
    have HN := Lib.hid hn
    have HG := Lib.hid hg
    have k1 := kind_of hg.kind
    have hk8 : 1 ≤ m.k ∧ m.k ≤ 8 := by have := k1; show 1 ≤ m.plain.k ∧ m.plain.k ≤ 8; omega
    have w0' : IntKind.u8.wrap m.k = m.k := wrap8 (by omega) (by omega)
    have w1' : IntKind.u8.wrap m.fr = m.fr := wrap8 hg.fr.1 (by have := hg.fr.2; show m.plain.fr < 256; omega)
    have w2' : IntKind.u8.wrap m.to = m.to := wrap8 hg.to.1 (by have := hg.to.2; show m.plain.to < 256; omega)
    have HK8 := Lib.hid hk8
    have HLIM := Lib.hid lim_is
    obtain ⟨MB, hMB⟩ : ∃ MB, MB = msgB m.plain := ⟨_, rfl⟩
    have HMB := Lib.hid hMB
    clear hMB
    clear hr hn hc hv hg k1 hk8
    go_enter Try.func8, Try.ntmps8
    go_wp2_with fail
    refine HR.out.mono ?_
    rintro e w1 ⟨rfl, k1⟩
    have HK1 := Lib.hid (HK.out.trans k1 (fun _ _ h => h))
    have HB1 : Hid (MBox w1 w.heap.size m) := Lib.hid (HB.out.keep k1 id)
    have NW := Lib.hid (new_any w1)
    clear k1 HB HK HR c0 c1 c2 c3 c4 c5 c6 c7 c8 c9 c10 c11 c12 c13 c14
    go_wp2_with fail
    refine NW.out.mono ?_
    rintro e w2 ⟨rfl, rfl⟩
    have KW : Keep noneOf w (w1.alloc (.cells #[.slice none 0 0] 66)) := HK1.out.alloc _
    have HKW := Lib.hid KW
    have hlt : w.heap.size < w1.heap.size := HB1.out.lt
    have HB2 : Hid (MBox (w1.alloc (.cells #[.slice none 0 0] 66)) w.heap.size m) := Lib.hid (HB1.out.alloc (.cells #[.slice none 0 0] 66))
    have HS2 : Hid (WS (w1.alloc (.cells #[.slice none 0 0] 66)) w1.heap.size [] (w1.alloc (.cells #[.slice none 0 0] 66))) := Lib.hid ⟨_, Wr.new w1, ⟨Keep.refl _ _, .inl rfl⟩⟩
    have HM : Hid (WM (w1.alloc (.cells #[.slice none 0 0] 66)) w1.heap.size w.heap.size (fun i => i < w.heap.size) m) := Lib.hid ⟨HB2.out, by omega, HL.out.keepN KW, fun k hk => ⟨by simp; omega, by omega⟩, by have := HG.out.few; rwa [show m.plain.es.length = m.es.length from List.length_map _] at this, HG.out.ents⟩
    have hpw : w1.heap.size < (w1.alloc (.cells #[.slice none 0 0] 66)).heap.size := by simp
    clear KW NW HK1 HB1
    generalize w1.alloc (.cells #[.slice none 0 0] 66) = w2 at *
    generalize w1.heap.size = pw at *
    obtain ⟨v0, hw0, hg0⟩ := HS2.out
    have HW0 := Lib.hid hw0
    have HG0 := Lib.hid hg0
    have d0 : w2.cell? ⟨w.heap.size, 0, none⟩ = some (.int .i64 m.k) := HS2.out.cell ((HB2.out.cell 0).trans m.at0) (by omega)
    have HC0 := Lib.hid (byte_any w2 pw v0 _ m.k HW0.out (by rw [HLIM.out]; (try simp only [List.length_append, List.length_cons, List.length_nil]); omega) (by have := HK8.out; omega) (by have := HK8.out; omega))
    clear hw0 hg0
    go_wp2_with fail
    refine HC0.out.mono ?_
    rintro e w3 ⟨rfl, v, hw, hg⟩
    have HS3 : Hid (WS w2 pw _ w3) := Lib.hid ⟨v, hw, HG0.out.trans hg⟩
    clear hw hg HC0 HW0 HG0 d0 
    obtain ⟨v1, hw1, hg1⟩ := HS3.out
    have HW1 := Lib.hid hw1
    have HG1 := Lib.hid hg1
    have d1 : w3.cell? ⟨w.heap.size, 1, none⟩ = some (.int .i64 m.fr) := HS3.out.cell ((HB2.out.cell 1).trans m.at1) (by omega)
    have HC1 := Lib.hid (byte_any w3 pw v1 _ m.fr HW1.out (by rw [HLIM.out]; (try simp only [List.length_append, List.length_cons, List.length_nil]); omega) HG.out.fr.1 (by have := HG.out.fr.2; show m.plain.fr < 256; omega))
    clear hw1 hg1
    go_wp2_with fail
    refine HC1.out.mono ?_
    rintro e w4 ⟨rfl, v, hw, hg⟩
    have HS4 : Hid (WS w2 pw _ w4) := Lib.hid ⟨v, hw, HG1.out.trans hg⟩
    clear hw hg HC1 HW1 HG1 d1 
    obtain ⟨v2, hw2, hg2⟩ := HS4.out
    have HW2 := Lib.hid hw2
    have HG2 := Lib.hid hg2
    have d2 : w4.cell? ⟨w.heap.size, 2, none⟩ = some (.int .i64 m.to) := HS4.out.cell ((HB2.out.cell 2).trans m.at2) (by omega)
    have HC2 := Lib.hid (byte_any w4 pw v2 _ m.to HW2.out (by rw [HLIM.out]; (try simp only [List.length_append, List.length_cons, List.length_nil]); omega) HG.out.to.1 (by have := HG.out.to.2; show m.plain.to < 256; omega))
    clear hw2 hg2
    go_wp2_with fail
    refine HC2.out.mono ?_
    rintro e w5 ⟨rfl, v, hw, hg⟩
    have HS5 : Hid (WS w2 pw _ w5) := Lib.hid ⟨v, hw, HG2.out.trans hg⟩
    clear hw hg HC2 HW2 HG2 d2 
    obtain ⟨v3, hw3, hg3⟩ := HS5.out
    have HW3 := Lib.hid hw3
    have HG3 := Lib.hid hg3
    have d3 : w5.cell? ⟨w.heap.size, 3, none⟩ = some (.int .u64 (m.te : Int)) := HS5.out.cell ((HB2.out.cell 3).trans m.at3) (by omega)
    have HC3 := Lib.hid (long_any w5 pw v3 _ m.te HW3.out (by rw [HLIM.out]; (try simp only [List.length_append, List.length_cons, List.length_nil]); omega) HL.out.te)
    clear hw3 hg3
    go_wp2_with fail
    refine HC3.out.mono ?_
    rintro e w6 ⟨rfl, v, hw, hg⟩
    have HS6 : Hid (WS w2 pw _ w6) := Lib.hid ⟨v, hw, HG3.out.trans hg⟩
    clear hw hg HC3 HW3 HG3 d3 
    have d0 : w6.cell? ⟨w.heap.size, 0, none⟩ = some (.int .i64 m.k) := HS6.out.cell ((HB2.out.cell 0).trans m.at0) (by omega)
    have HF := Lib.hid (fieldsOf_any w6 m.k)
    rw [show isKind m.k = true from HG.out.kind, HN.out] at HF
    go_wp2_with fail
    refine HF.out.mono ?_
    rintro e w7 ⟨rfl, k7⟩
    have HS7 := Lib.hid (HS6.out.later k7)
    have HVC := Lib.hid (HV.out w2 w7 pw w.heap.size _ _ HM.out HS7.out (by simp only [List.length_append, be_length, List.length_cons, List.length_nil]; omega))
    have eg : ∀ (args : Array Value) (w : World), (callFunc n args).run Try.prog w = .ok (.enter n args) w := HC.out
    clear k7 HF d0 HS6
    go_wp2_with fail
    refine HVC.out.mono ?_
    rintro e w8 ⟨rfl, hs8⟩
    have HS8 : Hid (WS w2 pw MB w8) := Lib.hid (by rw [HMB.out]; exact hs8)
    obtain ⟨v8, hw8, hg8⟩ := HS8.out
    have HBY := Lib.hid (bytes_any w8 pw v8 _ hw8)
    have HG8 := Lib.hid hg8
    clear hw8 hg8 HVC eg HS7 hs8
    go_wp2_with fail
    refine HBY.out.mono ?_
    rintro e w9 ⟨u9, rfl, F9⟩
    have HF9 := Lib.hid F9
    have HFR := Lib.hid (frame_any w9 _ u9 _ F9.bytes (by have := msg_few HG.out; rw [← HMB.out] at this; exact Nat.le_trans this (by decide)))
    obtain ⟨A9, c9, rfl⟩ := own_shape F9.own
    clear F9 HBY
    go_wp2_with fail
    refine HFR.out.mono ?_
    rintro e w10 ⟨u10, rfl, F10⟩
    have KA : Keep noneOf w w9 := (HKW.out.trans HS8.out.keep (fun i hi e => by omega)).trans HF9.out.keep (fun _ _ h => h)
    have HFF := Lib.hid (Fresh.after KA F10)
    clear F10 HFR KA
    have HLN := Lib.hid (own_shape HFF.out.own)
    generalize (frameOf MB).length = NL at *
    obtain ⟨A10, c10, hu10⟩ := HLN.out
    subst hu10
    clear HLN
    go_wp2
    refine bodyPost_ret (v := .tuple #[.slice A10 NL c10, .int .i64 0]) (by simp [results, Try.results8, go_sem]) rfl (.inr ⟨HRF.out, _, rfl, by rw [← HMB.out]; exact HFF.out⟩)
end Go.Proofs.Ytdikmmdkpfmocaa
