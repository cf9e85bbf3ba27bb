/-
  QueueWorks: executors that claim, and report success, as long as something is to be had, make all of all graphs over, behind any commands. No conditions.
-/
import Derived.BigQuiet
import Derived.Deep.QuietTactic
import Derived.Shelf.RegionOpen
import Derived.Test.YtkoikmdmejhhhaaGreatBs26
import Derived.Test.YtkoikmdmejhhhaaGreatBs27
import Derived.Test.YtkoikmdmejhhhaaGreatBs49
namespace Go.Proofs.YtkoikmdmejhhhaaGreat
open Go.RowKit Go.ChangeShapes Go.WideShapes Go.Deep
theorem find_uniq {l : List Ro} (h : l.Pairwise (fun a b => a.id < b.id)) {S : Int} {r x : Ro} (hr : findR l S = some r) (hx : x ∈ l) (e : x.id = S) : x = r := by
  have hm : r ∈ l := List.mem_of_find?_eq_some hr
  have h2 : r.id = S := by simpa using List.find?_some hr
  obtain ⟨i, hi, rfl⟩ := List.getElem_of_mem hx
  obtain ⟨j, hj, rfl⟩ := List.getElem_of_mem hm
  rw [List.pairwise_iff_getElem] at h
  rcases Nat.lt_trichotomy i j with hl | hl | hl
  · have := h i j hi hj hl; omega
  · subst hl; rfl
  · have := h j i hj hi hl; omega
theorem field_im2 (w : World) (a b c d e f : Value) : (Instr.field 30 (.agg #[a, b, c, d, e, f]) 2).run Tryz.prog w = .ok c w := by kernel_rfl
theorem field_im3 (w : World) (a b c d e f : Value) : (Instr.field 30 (.agg #[a, b, c, d, e, f]) 3).run Tryz.prog w = .ok d w := by kernel_rfl
theorem field_im4 (w : World) (a b c d e f : Value) : (Instr.field 30 (.agg #[a, b, c, d, e, f]) 4).run Tryz.prog w = .ok e w := by kernel_rfl
theorem zero_tt : (0 : Int) ≤ 0 ∧ (0 : Int) ≤ top := by unfold top; decide
theorem open_code {q : Qp} {c : Cq} (hk : c.kind = 1) (hs : c.ses = 1099511627776) : ((applyP q c).2.code = 0 ∨ (applyP q c).2.code = 112) ∧ (applyP q c).1.now = q.now ∧ (applyP q c).1.nt = q.nt := by
  have e1 : applyP q c = ({ q with ses := openL q.ses 1099511627776 }, .err (openE q.ses 1099511627776)) := by
    unfold applyP
    rw [if_neg (by omega), if_pos hk, hs]
  rw [e1]
  refine ⟨?_, rfl, rfl⟩
  show openE q.ses 1099511627776 = 0 ∨ openE q.ses 1099511627776 = 112
  unfold openE
  rw [if_neg (by decide)]
  split
  · exact .inl rfl
  · split
    · exact .inr rfl
    · exact .inl rfl
theorem claim_tok {q : Qp} (h : Inv q) : 0 ≤ (claimP q).2.tok ∧ (claimP q).2.tok ≤ top := by
  have h2 := h.nt
  unfold claimP
  split
  · unfold An.err top
    dsimp only
    omega
  · dsimp only
    split
    · unfold An.err top
      dsimp only
      omega
    · dsimp only
      unfold granted
      unfold top at h2 ⊢
      unfold Pst.zero
      split <;> dsimp only <;> omega
theorem told_tok {q : Qp} (h : Inv q) {c : Cq} (hk : c.kind = 3) (hb : Behind q c.ses c.seq) (h1 : 1 ≤ c.seq) : 0 ≤ (applyP q c).2.tok ∧ (applyP q c).2.tok ≤ top := by
  have h2 := (told (q := q) (c := c) (by omega) hb h1).1
  rw [h2]
  have h3 : doneP q c = claimP q := by unfold doneP; rw [if_neg (by omega), if_pos hk]
  rw [h3]
  exact claim_tok h
theorem wcm_lies {w : World} (kind ses seq tok : Int) (good : Bool) (time : Int) (h0 : 0 ≤ ses ∧ ses ≤ top) (h1 : 0 ≤ seq ∧ seq ≤ top) (ht : 0 ≤ tok ∧ tok ≤ top) (hm : 0 ≤ time ∧ time ≤ top) : Cm.lies w (fun _ => False) ⟨kind, ses, seq, .slice none 0 0, [], 0, tok, good, time⟩ := by
  have h := cm_none (w := w) (D := fun _ => False) kind 0 0 (by unfold top; decide) (by unfold top; decide)
  exact ⟨h.tgs, h.few, h.needs, h0, h1, zero_tt, ht, hm⟩
set_option maxRecDepth 100000 in
set_option maxHeartbeats 8000000 in
set_option linter.unusedSimpArgs false in
theorem works_walk (w : World) (A : Option Addr) (cap : Nat) (cs : List Cm) (h : Cms w (fun _ => True) (.slice A cs.length cap) cs) :
    Calls Tryz.prog 9 #[.slice A cs.length cap] w (TellsB true w) := by
  have RN := Lib.hid (ran_any w A cap cs h)
  have HOK : Hid (∀ c ∈ cs.map Cm.plain, CqOk c) := Lib.hid (fun c hc => by
    obtain ⟨m, hm, rfl⟩ := List.mem_map.1 hc
    exact (h.2 m hm).ok)
  clear h
  go_enter Tryz.func9, Tryz.ntmps9
  go_wp2_with fail
  refine RN.out.mono ?_
  rintro e w1 ⟨q, D, rfl, hq, hpl⟩
  have HQ1 := Lib.hid hq
  have HNE : Hid (Near q.plain) := Lib.hid (by rw [hpl]; exact (ran_inv HOK.out).2)
  have AL := Lib.hid (alive_any w1)
  generalize q.p = p at *
  clear RN hq hpl HOK
  go_wp2_with fail
  refine AL.out.mono ?_
  rintro e w2 ⟨rfl, k2⟩
  have HQ2 := Lib.hid (HQ1.out.stay k2)
  have OP := own_apply HQ2.out (C := fun _ => False) ⟨1, 1099511627776, 0, .slice none 0 0, [], 0, 0, false, 0⟩ (wcm_lies 1 1099511627776 0 0 false 0 (by unfold top; decide) (by unfold top; decide) (by unfold top; decide) (by unfold top; decide))
  have OC := Lib.hid (open_code (q := q.plain) (c := Cm.plain ⟨1, 1099511627776, 0, .slice none 0 0, [], 0, 0, false, 0⟩) rfl rfl)
  unfold Cm.agg at OP
  dsimp only at OP
  replace OP := Lib.hid OP
  clear AL k2 HQ1
  go_wp2_with fail
  refine OP.out.mono ?_
  rintro e w3 ⟨s1, rfl, ho3, hp3, kD⟩
  obtain ⟨a, ha⟩ : ∃ a, (applyP q.plain (Cm.plain ⟨1, 1099511627776, 0, .slice none 0 0, [], 0, 0, false, 0⟩)).2 = a := ⟨_, rfl⟩
  have oc := OC.out
  rw [ha] at oc ⊢
  have HCA := Lib.hid ha
  obtain ⟨x0, x1, x2, x3, x4, x5⟩ := a
  unfold An.agg
  dsimp only at oc ⊢
  have KC := (Keep.refl noneOf w3).alloc (.cells #[.int .i64 x0, .int .u64 x1, .int .u64 x2, .int .u64 x3, .string x4, .string x5] 40)
  have HBA := Lib.hid (Box.new w3 40 #[.int .i64 x0, .int .u64 x1, .int .u64 x2, .int .u64 x3, .string x4, .string x5])
  have HO4 := Lib.hid (ho3.stay KC)
  have HP3 := Lib.hid hp3
  obtain ⟨oc0, oc1, oc2⟩ := oc
  rw [← hp3] at oc1 oc2
  have OC1 := Lib.hid oc1
  have OC2 := Lib.hid oc2
  clear OP OC ho3 hp3 kD KC ha oc1 oc2
  have f0 := HBA.out.cell 0
  rcases oc0 with hx0 | hx0
  case inr =>
    subst hx0
    have HF := Lib.hid HO4.out.keep
    go_wp2
    go_ret
    exact ⟨rfl, HF.out⟩
  subst hx0
  have NO := Lib.hid (now_any _ _ s1 HO4.out.mine.at_)
  rw [HO4.out.at_] at NO
  have hinv := HO4.out.inv
  have hn0 := hinv.now0
  have ht0 := hinv.nt
  have HN0 : Hid ((0 ≤ s1.now ∧ s1.now ≤ top) ∧ s1.plain.now = s1.now) := Lib.hid ⟨hn0, rfl⟩
  have HT0 : Hid (1 ≤ s1.plain.nt ∧ s1.plain.nt ≤ top) := Lib.hid ht0
  clear hinv hn0 ht0
  go_wp2_with fail
  refine NO.out.mono ?_
  rintro e w5 ⟨rfl, rfl⟩
  clear NO HBA f0
  obtain ⟨now, hnow⟩ : ∃ now, s1.now = now := ⟨_, rfl⟩
  rw [hnow] at HN0 ⊢
  have HNW := Lib.hid hnow
  clear hnow
  by_cases hgt : 9223372036854775808 < now
  · have HF := Lib.hid HO4.out.keep
    go_wp2
    go_ret
    exact ⟨rfl, HF.out⟩
  have HGT := Lib.hid hgt
  have dgt : decide (9223372036854775808 < now) = false := decide_eq_false hgt
  clear hgt
  have DU := Lib.hid (own_dump HO4.out)
  go_wp2_with fail
  refine DU.out.mono ?_
  rintro e w6 ⟨im, rfl, him, hil, k6⟩
  obtain ⟨A1, a1, A2, a2, A3, a3, e1, e2, e3⟩ := hil.shapes
  have HO6 := Lib.hid (HO4.out.stay k6)
  have HIT : Hid (im.nt = s1.plain.nt) := Lib.hid (congrArg Qp.nt him)
  unfold Im.agg
  rw [e1, e2, e3]
  clear DU k6 him hil e1 e2 e3 HO4
  have F2 := fun w' => field_im2 w' (.int .u64 im.now) (.int .u64 im.ng) (.int .u64 im.nt) (.slice A1 im.ses.length a1) (.slice A2 im.gs.length a2) (.slice A3 im.built.length a3)
  by_cases hgn : 9223372036854775808 < im.nt
  · have HF := Lib.hid HO6.out.keep
    go_wp2
    go_ret
    exact ⟨rfl, HF.out⟩
  have HGN := Lib.hid hgn
  have dgn : decide (9223372036854775808 < im.nt) = false := decide_eq_false hgn
  have HWR : Hid (IntKind.u64.wrap (now + 16) = now + 16) := Lib.hid (by
    have h1 := HN0.out.1
    have h2 := HGT.out
    show (now + 16) % 18446744073709551616 = now + 16
    omega)
  have TD := own_apply HO6.out (C := fun _ => False) ⟨7, 0, 0, .slice none 0 0, [], 0, 0, false, now + 16⟩ (wcm_lies 7 0 0 0 false (now + 16) (by unfold top; decide) (by unfold top; decide) (by unfold top; decide) (by have h1 := HN0.out.1; have h2 := HGT.out; unfold top; omega))
  unfold Cm.agg at TD
  dsimp only at TD
  have WS := works_start (q := q.plain) HQ2.out.inv HNE.out (S := 1099511627776) (c1 := Cm.plain ⟨1, 1099511627776, 0, .slice none 0 0, [], 0, 0, false, 0⟩) (c2 := Cm.plain ⟨7, 0, 0, .slice none 0 0, [], 0, 0, false, now + 16⟩) ⟨rfl, rfl⟩ rfl
    (by show now + 16 = q.plain.now + 16; rw [← OC1.out, HN0.out.2]) (by rw [← OC1.out, HN0.out.2]; have := HGT.out; unfold late; omega)
    (by rw [← OC2.out, ← HIT.out]; have := HGN.out; unfold top; omega) (by rw [HCA.out])
    ⟨by show (0 : Int) ≤ 1099511627776 ∧ (1099511627776 : Int) ≤ top; unfold top; decide, by show (0 : Int) ≤ 0 ∧ (0 : Int) ≤ top; unfold top; decide, by show (0 : Int) ≤ 0 ∧ (0 : Int) ≤ top; unfold top; decide⟩
    ⟨by show (0 : Int) ≤ 0 ∧ (0 : Int) ≤ top; unfold top; decide, by show (0 : Int) ≤ 0 ∧ (0 : Int) ≤ top; unfold top; decide, by show (0 : Int) ≤ now + 16 ∧ now + 16 ≤ top; have h1 := HN0.out.1; have h2 := HGT.out; unfold top; omega⟩
  rw [← HP3.out] at WS
  replace WS := Lib.hid WS
  rw [← HWR.out] at TD
  replace TD := Lib.hid TD
  clear hgn HQ2 HNE HCA HP3 OC1 OC2
  go_wp2_with fail
  refine TD.out.mono ?_
  rintro e w8 ⟨s2, rfl, ho8, hp8, kD⟩
  rw [HWR.out] at hp8
  obtain ⟨a, ha⟩ : ∃ a, (applyP s1.plain (Cm.plain ⟨7, 0, 0, .slice none 0 0, [], 0, 0, false, IntKind.u64.wrap (now + 16)⟩)).2 = a := ⟨_, rfl⟩
  rw [ha]
  unfold An.agg
  have HO8 := Lib.hid ho8
  obtain ⟨r0, hr0, hwk⟩ := WS.out
  rw [← hp8] at hr0 hwk
  have HR0 := Lib.hid hr0
  have HWK := Lib.hid hwk
  have hrin := ho8.inv.sesIn r0 (List.mem_of_find?_eq_some hr0)
  have HRI := Lib.hid hrin.2.1
  have DU := Lib.hid (own_dump HO8.out)
  clear TD WS ho8 hp8 ha kD HO6 hr0 hwk hrin HIT HGN HWR HT0 dgt dgn
  go_wp2_with fail
  refine DU.out.mono ?_
  rintro e w9 ⟨im2, rfl, him, hil, k9⟩
  obtain ⟨A1, a1, A2, a2, A3, a3, e1, e2, e3⟩ := hil.shapes
  have HO9 := Lib.hid (HO8.out.stay k9)
  have hse := hil.ses
  rw [e1] at hse
  have HSE := Lib.hid hse
  have hfs := hse.few
  unfold maxLen at hfs
  have HIM := Lib.hid (show im2.ses = s2.plain.ses from congrArg Qp.ses him)
  unfold Im.agg
  rw [e1, e2, e3]
  clear DU k9 him hil e1 e2 e3 HO8 hse F2
  have F3 := fun w' => field_im3 w' (.int .u64 im2.now) (.int .u64 im2.ng) (.int .u64 im2.nt) (.slice A1 im2.ses.length a1) (.slice A2 im2.gs.length a2) (.slice A3 im2.built.length a3)
  go_wp2
  clear F3
  go_loopw [6, 49] (fun t i wr => ∃ (k : Nat) (sq : Int), k ≤ im2.ses.length ∧ i = .int .i64 k ∧ t = .int .u64 sq ∧ Keep noneOf w9 wr ∧ (sq = r0.seq ∨ ∀ (j : Nat) (x : Ro), j < k → im2.ses[j]? = some x → x.id ≠ 1099511627776)) (fun _ i _ => im2.ses.length - (intOf i).toNat)
  case atStart => exact ⟨0, 0, Nat.zero_le _, rfl, rfl, Keep.refl _ _, .inr (fun j _ hj => absurd hj (Nat.not_lt_zero _))⟩
  case round =>
    obtain ⟨k, sq, hk, rfl, rfl, hkeep, hall⟩ := hrel
    have HA := Lib.hid hall
    have HKP := Lib.hid hkeep
    clear hall
    by_cases hlt : k < im2.ses.length
    · have hx : im2.ses[k]? = some im2.ses[k] := List.getElem?_eq_getElem hlt
      have hS := HSE.out.keep hkeep (fun _ _ _ h => h)
      generalize im2.ses[k] = x at *
      obtain ⟨tb, o, rfl, hblk, _, hcell⟩ := hS.cell (fun _ => rfl) hx
      obtain ⟨d0, d1, d2, d3, d4, d5, d6, d7⟩ := ro_cells tb o k _ x hcell
      have q0 : (0 : Int) ≤ (k : Int) := by omega
      have q1 : (k : Int) < (im2.ses.length : Int) := by omega
      have HX1 := Lib.hid hx
      obtain ⟨rid, rseq, ⟨r3, r4, r5, r6, r7, r8⟩⟩ := x
      dsimp only at d0 d1 d2 d3 d4 d5 d6 d7
      have KX := (Keep.refl noneOf wr).alloc (.cells #[.int .u64 rid, .int .u64 rseq, .int .i64 r3, .int .u64 r4, .int .u64 r5, .int .u64 r6, .string r7, .string r8] 71)
      have HBX := Lib.hid (Box.new wr 71 #[.int .u64 rid, .int .u64 rseq, .int .i64 r3, .int .u64 r4, .int .u64 r5, .int .u64 r6, .string r7, .string r8])
      have HKX := Lib.hid (HKP.out.trans KX (fun _ _ h => h))
      have b0 := HBX.out.cell 0
      have b1 := HBX.out.cell 1
      clear hS hx hcell hkeep hblk KX
      rcases hni : (rid == 1099511627776) with _ | _
      case true =>
        have hid := beq_iff_eq.1 hni
        subst hid
        have HSQ : Hid (rseq = r0.seq) := Lib.hid (by
          have := find_uniq HO9.out.inv.sesUp HR0.out (x := ⟨1099511627776, rseq, ⟨r3, r4, r5, r6, r7, r8⟩⟩) (by rw [← HIM.out]; exact List.mem_of_getElem? HX1.out) rfl
          rw [← this])
        go_wp2
        go_roundw
        case rel => exact ⟨k + 1, rseq, by omega, by go_num, rfl, HKX.out, .inl HSQ.out⟩
        case measure => simp only [intOf]; omega
      case false =>
        have HNE : Hid (rid ≠ 1099511627776) := Lib.hid (beq_eq_false_iff_ne.1 hni)
        go_wp2
        go_roundw
        case rel =>
          refine ⟨k + 1, sq, by omega, by go_num, rfl, HKX.out, HA.out.imp_right (fun hA j b hj h1 => ?_)⟩
          rcases Nat.lt_or_ge j k with h3 | h3
          · exact hA j b h3 h1
          · obtain rfl : j = k := by omega
            rw [HX1.out] at h1
            injection h1 with h1
            rw [← h1]
            exact HNE.out
        case measure => simp only [intOf]; omega
    · have hke : k = im2.ses.length := by omega
      subst hke
      have hkn : ¬ ((im2.ses.length : Int) < (im2.ses.length : Int)) := by omega
      have HSQ : sq = r0.seq := HA.out.resolve_right (fun hA => by
        have hm : r0 ∈ im2.ses := by rw [HIM.out]; exact List.mem_of_find?_eq_some HR0.out
        obtain ⟨j, hj⟩ := List.getElem?_of_mem hm
        have h2 : r0.id = 1099511627776 := by simpa using List.find?_some HR0.out
        exact hA j r0 (List.getElem?_eq_some_iff.1 hj).1 hj h2)
      subst HSQ
      have HO10 := Lib.hid (HO9.out.stay HKP.out)
      clear hlt HA HSE HIM HR0 hkeep hk hfs HO9
      obtain ⟨sq, hsq⟩ : ∃ sq, r0.seq = sq := ⟨_, rfl⟩
      rw [hsq] at HWK HRI ⊢
      clear hsq
      by_cases hgs : 9223372036854775808 < sq
      · have HF := Lib.hid HO10.out.keep
        go_wp2
        go_ret
        exact ⟨rfl, HF.out⟩
      have HGS := Lib.hid hgs
      have HL0 := Lib.hid (show s2.plain = s2.plain from rfl)
      go_wp2
      go_loopw [6, 61] (fun t i wx => ∃ (n : Nat) (s : Qm) (D : Nat → Prop), n ≤ 512 ∧ i = .int .i64 n ∧ t = .int .u64 (sq + 2 * n) ∧ Own w wx D p s ∧ Works s.plain 1099511627776 (sq + 2 * n + 1) (512 - n)) (fun _ i _ => 512 - (intOf i).toNat)
      case atStart => exact ⟨0, s2, _, Nat.zero_le _, rfl, by simp, HO10.out, by simpa using HWK.out⟩
      case round =>
        obtain ⟨n, s, D5, hn, rfl, rfl, hown, hwks⟩ := hrel
        have HOW := Lib.hid hown
        have HWS := Lib.hid hwks
        clear hown hwks HO10 HWK HKP
        by_cases hlt : n < 512
        · have q1 : (n : Int) < 512 := by omega
          obtain ⟨s0, hs0⟩ : ∃ s0 : Int, sq + 2 * n = s0 := ⟨_, rfl⟩
          have HS0 : Hid (0 ≤ s0 ∧ s0 ≤ 9223372036854775808 + 1024) := Lib.hid (by have h1 := HRI.out.1; have h2 := HGS.out; omega)
          have HSN := Lib.hid hs0
          rw [hs0] at HWS ⊢
          clear hs0 hgs
          have HW1 : Hid (IntKind.u64.wrap (s0 + 1) = s0 + 1) := Lib.hid (by
            have := HS0.out
            show (s0 + 1) % 18446744073709551616 = s0 + 1
            omega)
          have HW2 : Hid (IntKind.u64.wrap (s0 + 1 + 1) = s0 + 2) := Lib.hid (by
            have := HS0.out
            show (s0 + 1 + 1) % 18446744073709551616 = s0 + 2
            omega)
          obtain ⟨a, ha⟩ : ∃ a, (applyP s.plain (Cm.plain ⟨3, 1099511627776, s0 + 1, .slice none 0 0, [], 0, 0, false, 0⟩)) = a := ⟨_, rfl⟩
          have HCT := Lib.hid (told_tok HWS.out.inv (c := Cm.plain ⟨3, 1099511627776, s0 + 1, .slice none 0 0, [], 0, 0, false, 0⟩) rfl HWS.out.ses (by show 1 ≤ s0 + 1; have := HS0.out; omega))
          obtain ⟨b, hb⟩ : ∃ b, applyP a.1 (Cm.plain ⟨5, 1099511627776, s0 + 2, .slice none 0 0, [], 0, a.2.tok, true, 0⟩) = b := ⟨_, rfl⟩
          have WR := works_round HWS.out (by have := HS0.out; omega) (by unfold top; decide) (by have := HS0.out; unfold top; omega) (c := Cm.plain ⟨3, 1099511627776, s0 + 1, .slice none 0 0, [], 0, 0, false, 0⟩) (c' := Cm.plain ⟨5, 1099511627776, s0 + 2, .slice none 0 0, [], 0, a.2.tok, true, 0⟩) ⟨rfl, rfl, rfl, zero_tt.1, zero_tt.2⟩ ⟨rfl, rfl, by show s0 + 2 = s0 + 1 + 1; omega, rfl, zero_tt.1, zero_tt.2⟩ (by rw [ha]; rfl)
          rw [ha] at WR HCT
          rw [hb] at WR
          have TD := own_apply HOW.out (C := fun _ => False) ⟨3, 1099511627776, s0 + 1, .slice none 0 0, [], 0, 0, false, 0⟩ (wcm_lies 3 1099511627776 (s0 + 1) 0 false 0 (by unfold top; decide) (by have := HS0.out; unfold top; omega) (by unfold top; decide) (by unfold top; decide))
          unfold OwnDid at TD
          rw [ha] at TD
          obtain ⟨Qa, ac, ai, at1, au, ag, am⟩ := a
          obtain ⟨Qb, bc, bi, bt, bu, bg, bm⟩ := b
          unfold Cm.agg An.agg at TD
          dsimp only at TD WR HCT hb
          replace TD := Lib.hid TD
          replace WR := Lib.hid WR
          have HB := Lib.hid hb
          clear ha hb
          go_upto_region 23 with fail
          rw [HW1.out]
          go_wp2_with fail
          refine TD.out.mono ?_
          rintro e w3 ⟨s3, rfl, ho3, hp3, kD⟩
          have KC := (Keep.refl noneOf w3).alloc (.cells #[.int .i64 ac, .int .u64 ai, .int .u64 at1, .int .u64 au, .string ag, .string am] 40)
          have HBA := Lib.hid (Box.new w3 40 #[.int .i64 ac, .int .u64 ai, .int .u64 at1, .int .u64 au, .string ag, .string am])
          have HFA := Lib.hid (ho3.free (Nat.le_refl w3.heap.size))
          have HO4 := Lib.hid (ho3.stay KC)
          have HP4 := Lib.hid hp3
          have f0 := HBA.out.cell 0
          have f2 := HBA.out.cell 2
          clear TD ho3 hp3 kD KC
          rcases WR.out with ⟨hc, hall⟩ | ⟨hc, hc2, hk1, hwk⟩
          · subst hc
            have HAA := Lib.hid hall
            clear hall
            have HAL : Hid (∀ g ∈ s3.plain.gs, overB g.st = true) := Lib.hid (by rw [HP4.out]; exact HAA.out)
            have DU := Lib.hid (own_dump HO4.out)
            clear HBA HAA
            go_wp2_with fail
            refine DU.out.mono ?_
            rintro e w7 ⟨im7, rfl, him7, hil7, k7⟩
            obtain ⟨A1, a1, A2, a2, A3, a3, e1, e2, e3⟩ := hil7.shapes
            have HO7 := Lib.hid (HO4.out.stay k7)
            have HG7 := Lib.hid hil7.gs
            rw [e2] at HG7
            have hf7 := hil7.gs.1.few
            unfold maxLen at hf7
            have HIM7 := Lib.hid him7
            unfold Im.agg
            rw [e1, e2, e3]
            clear DU k7 him7 hil7 e1 e2 e3 HO4
            have F4 := fun w' => field_im4 w' (.int .u64 im7.now) (.int .u64 im7.ng) (.int .u64 im7.nt) (.slice A1 im7.ses.length a1) (.slice A2 im7.gs.length a2) (.slice A3 im7.built.length a3)
            go_wp2
            clear F4
            go_loopw [93] (fun i wr => ∃ (k : Nat), k ≤ im7.gs.length ∧ i = .int .i64 k ∧ Keep noneOf w7 wr) (fun i _ => im7.gs.length - (intOf i).toNat)
            case atStart => exact ⟨0, Nat.zero_le _, rfl, Keep.refl _ _⟩
            case round =>
              obtain ⟨k, hk, rfl, hkeep⟩ := hrel
              have HKP := Lib.hid hkeep
              by_cases hlt : k < im7.gs.length
              · have hx : im7.gs[k]? = some im7.gs[k] := List.getElem?_eq_getElem hlt
                have hG := HG7.out.keep hkeep (fun _ _ _ h => h)
                have hov : overB (im7.gs[k]).st = true := HAL.out (im7.gs[k]).plain (by rw [← HIM7.out]; exact List.mem_of_getElem? (gm_at hx))
                generalize im7.gs[k] = g at *
                obtain ⟨tb, o, rfl, hblk, _, hcell⟩ := hG.1.cell (fun _ => rfl) hx
                have d0 : wr.cell? ⟨tb, o + k * 3, none⟩ = some (.int .u64 g.id) := hcell 0 (by decide)
                have d1 : wr.cell? ⟨tb, o + k * 3 + 1, none⟩ = some g.gv := hcell 1 (by decide)
                have d2 : wr.cell? ⟨tb, o + k * 3 + 2, none⟩ = some g.sv := hcell 2 (by decide)
                have hgl := hG.2 g (List.mem_of_getElem? hx)
                obtain ⟨B1, b1, f1, _⟩ := hgl.1.1
                obtain ⟨B2, b2, f2⟩ := Sts.shape hgl.2
                rw [f1] at d1
                rw [f2] at d2
                have q0 : (0 : Int) ≤ (k : Int) := by omega
                have q1 : (k : Int) < (im7.gs.length : Int) := by omega
                have HBG := Lib.hid (Box.new wr 59 #[.int .u64 g.id, .slice B1 g.ts.length b1, .slice B2 g.st.length b2])
                have KA := (Keep.refl noneOf wr).alloc (.cells #[.int .u64 g.id, .slice B1 g.ts.length b1, .slice B2 g.st.length b2] 59)
                have HKA := Lib.hid KA
                have c2 := HBG.out.cell 2
                have OV := refOver_any _ _ _ _ (Sts.keep hgl.2 KA (fun _ _ _ h => h))
                rw [hov, f2] at OV
                replace OV := Lib.hid OV
                clear hG hx hcell hgl f1 f2 hblk KA hkeep hov
                go_wp2_with fail
                refine OV.out.mono ?_
                rintro e w8 ⟨rfl, k8⟩
                have HK8 : Hid (Keep noneOf w7 w8) := Lib.hid ((HKP.out.trans HKA.out (fun _ _ h => h)).trans k8 (fun _ _ h => h))
                clear OV HKA HBG c2 d0 d1 d2 k8
                go_wp2
                go_roundw
                case rel => exact ⟨k + 1, by omega, by go_num, HK8.out⟩
                case measure => simp only [intOf]; omega
              · have hkn : ¬ ((k : Int) < (im7.gs.length : Int)) := by omega
                have HF := Lib.hid (HO7.out.keep.trans HKP.out (fun _ _ h => h))
                clear hlt hkeep
                go_wp2
                go_ret
                exact ⟨rfl, HF.out⟩
          · subst hc hc2
            have HWK := Lib.hid hwk
            have HK1 := Lib.hid hk1
            clear hwk hk1
            have TD := own_apply HO4.out (C := fun _ => False) ⟨5, 1099511627776, s0 + 2, .slice none 0 0, [], 0, at1, true, 0⟩ (wcm_lies 5 1099511627776 (s0 + 2) at1 true 0 (by unfold top; decide) (by have := HS0.out; unfold top; omega) HCT.out (by unfold top; decide))
            unfold OwnDid at TD
            rw [HP4.out, HB.out] at TD
            unfold Cm.agg An.agg at TD
            dsimp only at TD
            replace TD := Lib.hid TD
            clear WR
            go_upto_region 26 with fail
            rw [HW2.out]
            go_wp2_with fail
            refine TD.out.mono ?_
            rintro e w5 ⟨s5, rfl, ho5, hp5, kD⟩
            have KE := (Keep.refl noneOf w5).alloc (.cells #[.int .i64 0, .int .u64 bi, .int .u64 bt, .int .u64 bu, .string bg, .string bm] 40)
            have HBB := Lib.hid (Box.new w5 40 #[.int .i64 0, .int .u64 bi, .int .u64 bt, .int .u64 bu, .string bg, .string bm])
            have HO5 := Lib.hid (ho5.stay KE)
            have HP5 := Lib.hid hp5
            have g0 := HBB.out.cell 0
            have g1 := ((HBA.out.keep kD HFA.out).keep KE (fun h => h)).cell 0
            clear TD ho5 hp5 kD KE HO4 HBA f0 f2
            go_wp2
            go_roundw
            case rel =>
              refine ⟨n + 1, s5, _, by omega, by go_num, ?_, HO5.out, ?_⟩
              · have := HSN.out
                rw [show s0 + 2 = sq + 2 * ((n + 1 : Nat) : Int) from by omega]
              · rw [HP5.out]
                have := HWK.out
                have h2 := HSN.out
                rw [show sq + 2 * ((n + 1 : Nat) : Int) + 1 = s0 + 1 + 2 from by omega, show 512 - (n + 1) = 512 - n - 1 from by omega]
                exact this
            case measure => simp only [intOf]; omega
        · have hne : n = 512 := by omega
          subst hne
          have hkn : ¬ (((512 : Nat) : Int) < 512) := by omega
          have HAA : Hid (∀ g ∈ s.plain.gs, overB g.st = true) := Lib.hid (count_none (by have := HWS.out.few; omega))
          have HAL : Hid (∀ g ∈ s.plain.gs, overB g.st = true) := Lib.hid HAA.out
          have DU := Lib.hid (own_dump HOW.out)
          clear HAA
          go_wp2_with fail
          refine DU.out.mono ?_
          rintro e w7 ⟨im7, rfl, him7, hil7, k7⟩
          obtain ⟨A1, a1, A2, a2, A3, a3, e1, e2, e3⟩ := hil7.shapes
          have HO7 := Lib.hid (HOW.out.stay k7)
          have HG7 := Lib.hid hil7.gs
          rw [e2] at HG7
          have hf7 := hil7.gs.1.few
          unfold maxLen at hf7
          have HIM7 := Lib.hid him7
          unfold Im.agg
          rw [e1, e2, e3]
          clear DU k7 him7 hil7 e1 e2 e3 HOW
          have F4 := fun w' => field_im4 w' (.int .u64 im7.now) (.int .u64 im7.ng) (.int .u64 im7.nt) (.slice A1 im7.ses.length a1) (.slice A2 im7.gs.length a2) (.slice A3 im7.built.length a3)
          go_wp2
          clear F4
          go_loopw [93] (fun i wr => ∃ (k : Nat), k ≤ im7.gs.length ∧ i = .int .i64 k ∧ Keep noneOf w7 wr) (fun i _ => im7.gs.length - (intOf i).toNat)
          case atStart => exact ⟨0, Nat.zero_le _, rfl, Keep.refl _ _⟩
          case round =>
            obtain ⟨k, hk, rfl, hkeep⟩ := hrel
            have HKP := Lib.hid hkeep
            by_cases hlt : k < im7.gs.length
            · have hx : im7.gs[k]? = some im7.gs[k] := List.getElem?_eq_getElem hlt
              have hG := HG7.out.keep hkeep (fun _ _ _ h => h)
              have hov : overB (im7.gs[k]).st = true := HAL.out (im7.gs[k]).plain (by rw [← HIM7.out]; exact List.mem_of_getElem? (gm_at hx))
              generalize im7.gs[k] = g at *
              obtain ⟨tb, o, rfl, hblk, _, hcell⟩ := hG.1.cell (fun _ => rfl) hx
              have d0 : wr.cell? ⟨tb, o + k * 3, none⟩ = some (.int .u64 g.id) := hcell 0 (by decide)
              have d1 : wr.cell? ⟨tb, o + k * 3 + 1, none⟩ = some g.gv := hcell 1 (by decide)
              have d2 : wr.cell? ⟨tb, o + k * 3 + 2, none⟩ = some g.sv := hcell 2 (by decide)
              have hgl := hG.2 g (List.mem_of_getElem? hx)
              obtain ⟨B1, b1, f1, _⟩ := hgl.1.1
              obtain ⟨B2, b2, f2⟩ := Sts.shape hgl.2
              rw [f1] at d1
              rw [f2] at d2
              have q0 : (0 : Int) ≤ (k : Int) := by omega
              have q1 : (k : Int) < (im7.gs.length : Int) := by omega
              have HBG := Lib.hid (Box.new wr 59 #[.int .u64 g.id, .slice B1 g.ts.length b1, .slice B2 g.st.length b2])
              have KA := (Keep.refl noneOf wr).alloc (.cells #[.int .u64 g.id, .slice B1 g.ts.length b1, .slice B2 g.st.length b2] 59)
              have HKA := Lib.hid KA
              have c2 := HBG.out.cell 2
              have OV := refOver_any _ _ _ _ (Sts.keep hgl.2 KA (fun _ _ _ h => h))
              rw [hov, f2] at OV
              replace OV := Lib.hid OV
              clear hG hx hcell hgl f1 f2 hblk KA hkeep hov
              go_wp2_with fail
              refine OV.out.mono ?_
              rintro e w8 ⟨rfl, k8⟩
              have HK8 : Hid (Keep noneOf w7 w8) := Lib.hid ((HKP.out.trans HKA.out (fun _ _ h => h)).trans k8 (fun _ _ h => h))
              clear OV HKA HBG c2 d0 d1 d2 k8
              go_wp2
              go_roundw
              case rel => exact ⟨k + 1, by omega, by go_num, HK8.out⟩
              case measure => simp only [intOf]; omega
            · have hkn : ¬ ((k : Int) < (im7.gs.length : Int)) := by omega
              have HF := Lib.hid (HO7.out.keep.trans HKP.out (fun _ _ h => h))
              clear hlt hkeep
              go_wp2
              go_ret
              exact ⟨rfl, HF.out⟩
namespace QueueWorks
set_option maxRecDepth 100000 in
theorem lifted (os : Os) (started : os.Started) (H : Type) (enc : TypeId × Value → H) :
    ReturnsInHanded {} Tryz.checked os 9 .any (Rows.queueWorksSpec.pre6 enc Tryz.prog Tryz.f9 Rows.queueWorksRow.domain false) (Rows.queueWorksSpec.post enc Tryz.prog Tryz.f9 false true false false) := by
  refine returnsInHanded_of_change_sized (C := Tryz.checked) own started (by kernel_rfl) Tryz.func9
    (ChangeSpec.witness6 (enc := enc) (C := Tryz.checked) false ⟨#[], #[.slice none 0 0], []⟩ 8 (by kernel_rfl) (by kernel_rfl) (by kernel_rfl) (by kernel_rfl)) ?_
  intro W base args ds gs before hval0 hW hcnd hsz _
  have hval : ∀ (j : Nat) t v, Tryz.f9.params[j]? = some t → args[j]? = some v → Value.okWide Tryz.prog W .any base t v := hval0
  have hW' := hW
  obtain ⟨p, q, hA0, hV, rfl, hfz, hnd⟩ := hW
  have hA : DataW.TrodAll enc Tryz.prog W 0 (fun _ => true) true Tryz.f9.params.toList args.toList ds p := hA0
  rw [Tryz.params9] at hA hval
  obtain ⟨v0, vs0, d0, ds0, p0, q0, hargs, rfl, rfl, h0, r0⟩ := trodAll_cons hA
  obtain ⟨rfl, rfl, rfl⟩ := trodAll_nil r0
  obtain rfl : args = #[v0] := by cases args; simp_all
  obtain ⟨rfl, rfl⟩ := trodVars_none hV
  have k0 := h0
  have lt0 : ∀ x ∈ p0, x.block < W.heap.size := by obtain ⟨m, hm⟩ := k0; exact DataW.trod_lt m _ _ _ hm
  obtain ⟨A0, c0, l0, rfl, hl0⟩ := open_arg_cms (hval 0 22 v0 rfl rfl) h0 (light_arg hsz (j := 0) rfl rfl)
  clear hA0 hval0
  refine (works_walk W A0 c0 l0 hl0).mono fun e W' ⟨he, bel0⟩ => ?_
  subst he
  have bel := bel0.all
  exact ⟨_, rfl, _, _, _, [], _, [], hW', trodAll_mk1 (shut_bool Tryz.underlying4 _), (trodAll_cons_mk (Below.trod laidOut (by kernel_rfl) (of_decide_eq_true (by kernel_rfl)) k0 bel lt0) trodAll_mk0), rfl, bel.frame _, fun h => by cases h⟩
theorem over : Rows.queueWorksRow.holds Tryz.pinned (OpenSpec.ofChange Rows.queueWorksSpec) :=
  OpenClaim.holds_of_wide 9 Tryz.f9 rfl rfl rfl rfl rfl rfl rfl ⟨rfl, rfl, rfl, rfl, rfl⟩ rfl rfl rfl rfl rfl (by kernel_rfl) Tryz.func9 (by kernel_rfl)
    (of_decide_eq_true (by kernel_rfl)) (by unfold Func.isWrapper; first | (rw [if_pos (by decide +kernel)]; kernel_rfl) | (rw [if_neg (by decide +kernel)]; exact ⟨rfl, rfl⟩))
    (fun os started H enc _ => lifted os started H enc)
theorem proved : Rows.QueueWorksSaid := over
end QueueWorks
end Go.Proofs.YtkoikmdmejhhhaaGreat
