/-
  QueueTime: behind any commands time never goes back, and is the greatest one told; whatever is leased ends later than now. No conditions.
-/
import Derived.BigQuiet
import Derived.Deep.QuietTactic
import Derived.Lib.MinMax
import Derived.Shelf.RegionOpen
import Derived.Test.YtkoikmdmejhhhaaBt49
namespace Go.Proofs.Ytkoikmdmejhhhaa
open Go.RowKit Go.ChangeShapes Go.WideShapes Go.Deep
theorem field_im4 (w : World) (a b c d e f : Value) : (Instr.field 41 (.agg #[a, b, c, d, e, f]) 4).run Try.prog w = .ok e w := by kernel_rfl
theorem own_now {w v : World} {D : Nat → Prop} {p : Nat} {q : Qm} (h : Own w v D p q) :
    Calls Try.prog 7 #[.pointer (some ⟨p, 0, none⟩)] v fun e w' => e = .returned (.int .u64 q.plain.now) ∧ w' = v := by
  have := now_any v D q h.mine.at_
  rw [h.at_] at this
  exact this
set_option maxRecDepth 100000 in
set_option maxHeartbeats 8000000 in
set_option linter.unusedSimpArgs false in
theorem time_walk (w : World) (A : Option Addr) (cap : Nat) (cs : List Cm) (h : Cms w (fun _ => True) (.slice A cs.length cap) cs) :
    Calls Try.prog 3 #[.slice A cs.length cap] w (TellsB true w) := by
  have HC := Lib.hid h
  have hfew := h.1.few
  unfold maxLen at hfew
  have NW := Lib.hid (qnew_any w)
  clear h
  go_enter Try.func3, Try.ntmps3
  go_wp2_with fail
  refine NW.out.mono ?_
  rintro e w1 ⟨q, D, rfl, hq, hpl, k1, hD⟩
  have HQ1 := Lib.hid (Own.ofNew hq hpl k1 hD)
  have HQN : Hid (q.plain.now = 0) := Lib.hid (by rw [hpl]; rfl)
  have AL := Lib.hid (alive_any w1)
  generalize q.p = p at *
  clear NW hq hpl k1 hD
  go_wp2_with fail
  refine AL.out.mono ?_
  rintro e w2 ⟨rfl, k2⟩
  have HQ2 := Lib.hid (HQ1.out.stay k2)
  clear AL k2 HQ1
  go_wp2
  go_loopw [4, 20] (fun t i wr => ∃ (k : Nat) (s : Qm) (D : Nat → Prop), k ≤ cs.length ∧ i = .int .i64 k ∧ t = .int .u64 s.plain.now ∧ Own w wr D p s) (fun _ i _ => cs.length - (intOf i).toNat)
  case atStart => exact ⟨0, q, D, Nat.zero_le _, rfl, by rw [HQN.out], HQ2.out⟩
  case round =>
    obtain ⟨k, s, D, hk, rfl, rfl, hown⟩ := hrel
    have HOW := Lib.hid hown
    clear hown HQ2 HQN
    by_cases hlt : k < cs.length
    · have hx : cs[k]? = some cs[k] := List.getElem?_eq_getElem hlt
      have hC := HC.out.keep HOW.out.keep (fun _ _ _ => id)
      obtain ⟨b, o, rfl, hblk, _, hcell⟩ := hC.1.cell (fun _ => rfl) hx
      have hcl := hC.2 _ (List.mem_of_getElem? hx)
      generalize cs[k] = c at *
      obtain ⟨c0, c1, c2, c3, c4, c5, c6, c7⟩ := cm_at b o k _ _ hcell
      obtain ⟨Ag, cg, eg⟩ := hcl.shape
      rw [eg] at c3
      have q0 : (0 : Int) ≤ (k : Int) := by omega
      have q1 : (k : Int) < (cs.length : Int) := by omega
      have KA := (Keep.refl noneOf wr).alloc (.cells #[.int .i64 c.kind, .int .u64 c.ses, .int .u64 c.seq, .slice Ag c.ts.length cg, .int .u64 c.id, .int .u64 c.tok, .bool c.good, .int .u64 c.time] 31)
      have HBC := Lib.hid (Box.new wr 31 #[.int .i64 c.kind, .int .u64 c.ses, .int .u64 c.seq, .slice Ag c.ts.length cg, .int .u64 c.id, .int .u64 c.tok, .bool c.good, .int .u64 c.time])
      have HO1 := Lib.hid (HOW.out.stay KA)
      have HCL := Lib.hid (hcl.keep KA (fun _ _ _ => id))
      have HFR0 := Lib.hid (HOW.out.free (Nat.le_refl _))
      have AP := own_apply HO1.out c HCL.out
      unfold Cm.agg at AP
      rw [eg] at AP
      replace AP := Lib.hid AP
      clear hx hC hcell hcl hblk KA HOW eg
      go_upto_region 8 with fail
      generalize hw : wr.alloc (.cells #[.int .i64 c.kind, .int .u64 c.ses, .int .u64 c.seq, .slice Ag c.ts.length cg, .int .u64 c.id, .int .u64 c.tok, .bool c.good, .int .u64 c.time] 31) = v0 at *
      generalize hx : wr.heap.size = pc at *
      clear hw hx c0 c1 c2 c3 c4 c5 c6 c7
      obtain ⟨c0, c1, c2, c3, c4, c5, c6, c7⟩ := And.intro (HBC.out.cell 0) (And.intro (HBC.out.cell 1) (And.intro (HBC.out.cell 2) (And.intro (HBC.out.cell 3) (And.intro (HBC.out.cell 4) (And.intro (HBC.out.cell 5) (And.intro (HBC.out.cell 6) (HBC.out.cell 7)))))))
      go_wp2_with fail
      refine AP.out.mono ?_
      rintro e v1 ⟨s2, rfl, ho6, hpl6, kD⟩
      obtain ⟨a, ha⟩ : ∃ a, (applyP s.plain c.plain).2 = a := ⟨_, rfl⟩
      rw [ha]
      unfold An.agg
      have HO6 := Lib.hid ho6
      have hnw := apply_now s.plain c.plain
      rw [← hpl6] at hnw
      have HN0 := Lib.hid ho6.inv.now0
      have HBC1 := Lib.hid (HBC.out.keep kD HFR0.out)
      have NO : Hid (∀ w', Keep noneOf v1 w' → Calls Try.prog 7 #[.pointer (some ⟨p, 0, none⟩)] w' (fun e w'' => e = .returned (.int .u64 s2.plain.now) ∧ w'' = w')) := Lib.hid fun w' k' => own_now (HO6.out.stay k')
      have K0 := (Keep.refl noneOf v1).drew
      clear AP HO1 HCL HBC ho6 hpl6 ha kD c0 c1 c2 c3 c4 c5 c6 c7 HFR0
      rw [show c.plain.kind = c.kind from rfl, show c.plain.time = c.time from rfl] at hnw
      by_cases hkd : c.kind = 7
      · rw [if_pos hkd] at hnw
        have HNW := Lib.hid hnw
        have MC : Hid (∀ w', Keep noneOf v1 w' → w'.cell? ⟨pc, 0, none⟩ = some (.int .i64 7) ∧ w'.cell? ⟨pc, 7, none⟩ = some (.int .u64 c.time)) := Lib.hid fun w' k' => ⟨by rw [← hkd]; exact (HBC1.out.keep k' id).cell 0, (HBC1.out.keep k' id).cell 7⟩
        have hnl : ¬ (s2.plain.now < s.plain.now) := by omega
        clear hnw
        go_upto_region 9 with fail
        refine wp_region_held_drew (S := fun w' => Keep noneOf v1 w') (by kernel_rfl) (K0) (fun hHeld => ?_)
        refine' wpAnyH_take (i := 0) (v := _) rfl (by kernel_rfl) (by kernel_rfl) (by kernel_rfl) (fun _ _ _ h => h) (Or.inl ⟨by kernel_rfl, ?hy0⟩) (by assumption) ?_
        case hy0 => intro w' hSw; obtain ⟨_, _⟩ := MC.out w' hSw; go_simp; try with_reducible rfl
        simp only [Act.put, List.getElem_toArray, List.getElem_cons_zero, List.getElem_cons_succ, List.setIfInBounds_toArray, List.set_cons_zero, List.set_cons_succ]
        refine' wpAnyH_take (i := 2) (v := _) rfl (by kernel_rfl) (by kernel_rfl) (by kernel_rfl) (fun _ _ _ h => h) (Or.inl ⟨by kernel_rfl, ?hy2⟩) (by assumption) ?_
        case hy2 => intro w' hSw; obtain ⟨_, _⟩ := MC.out w' hSw; go_simp; try with_reducible rfl
        simp only [Act.put, List.getElem_toArray, List.getElem_cons_zero, List.getElem_cons_succ, List.setIfInBounds_toArray, List.set_cons_zero, List.set_cons_succ]
        refine wpAnyH_ready (rs := [1]) (by kernel_rfl) (by simp) (AllReadyH.cons rfl (fun K hK => ?_) AllReadyH.nil)
        go_simp
        go_at_call 7
        refine (NO.out _ K0).mono ?_
        rintro e wz1 ⟨rfl, rfl⟩
        go_wp2_with fail
        refine hK.out _ _ (K0) (fun hHeld => ?_)
        clear hK K
        try simp only [Act.put, List.getElem_toArray, List.getElem_cons_zero, List.getElem_cons_succ, List.setIfInBounds_toArray, List.set_cons_zero, List.set_cons_succ]
        refine' wpAnyH_take (i := 3) (v := .bool false) rfl (by kernel_rfl) (by kernel_rfl) (by kernel_rfl) (fun _ _ _ h => h) (Or.inl ⟨by kernel_rfl, ?hy3⟩) (by assumption) ?_
        case hy3 => intro w' hSw; go_simp; (try simp only [List.getElem?_cons_zero, Option.getD_some]); first | done | (simp; omega) | (simp; done) | omega
        simp only [Act.put, List.getElem_toArray, List.getElem_cons_zero, List.getElem_cons_succ, List.setIfInBounds_toArray, List.set_cons_zero, List.set_cons_succ]
        refine' wpAnyH_take (i := 4) (v := .bool false) rfl (by kernel_rfl) (by kernel_rfl) (by kernel_rfl) (fun _ _ _ h => h) (Or.inl ⟨by kernel_rfl, ?hy4⟩) (by assumption) ?_
        case hy4 => intro w' hSw; obtain ⟨_, _⟩ := MC.out w' hSw; first | rfl | (go_simp; try simp only [List.getElem?_cons_zero, Option.getD_some]; try go_simp)
        simp only [Act.put, List.getElem_toArray, List.getElem_cons_zero, List.getElem_cons_succ, List.setIfInBounds_toArray, List.set_cons_zero, List.set_cons_succ]
        refine' wpAnyH_take (i := 5) (v := .pointer (some ⟨pc, 0, none⟩)) rfl (by kernel_rfl) (by kernel_rfl) (by kernel_rfl) (fun _ _ _ h => h) (Or.inl ⟨by kernel_rfl, ?hy5⟩) (by assumption) ?_
        case hy5 => intro w' hSw; obtain ⟨_, _⟩ := MC.out w' hSw; first | rfl | (go_simp; try simp only [List.getElem?_cons_zero, Option.getD_some]; try go_simp)
        simp only [Act.put, List.getElem_toArray, List.getElem_cons_zero, List.getElem_cons_succ, List.setIfInBounds_toArray, List.set_cons_zero, List.set_cons_succ]
        refine' wpAnyH_take (i := 6) (v := .int .i64 7) rfl (by kernel_rfl) (by kernel_rfl) (by kernel_rfl) (fun _ _ _ h => h) (Or.inl ⟨by kernel_rfl, ?hy6⟩) (by assumption) ?_
        case hy6 => intro w' hSw; obtain ⟨_, _⟩ := MC.out w' hSw; first | rfl | (go_simp; try simp only [List.getElem?_cons_zero, Option.getD_some]; try go_simp)
        simp only [Act.put, List.getElem_toArray, List.getElem_cons_zero, List.getElem_cons_succ, List.setIfInBounds_toArray, List.set_cons_zero, List.set_cons_succ]
        refine' wpAnyH_take (i := 7) (v := .bool true) rfl (by kernel_rfl) (by kernel_rfl) (by kernel_rfl) (fun _ _ _ h => h) (Or.inl ⟨by kernel_rfl, ?hy7⟩) (by assumption) ?_
        case hy7 => intro w' hSw; obtain ⟨_, _⟩ := MC.out w' hSw; first | rfl | (go_simp; try simp only [List.getElem?_cons_zero, Option.getD_some]; try go_simp)
        simp only [Act.put, List.getElem_toArray, List.getElem_cons_zero, List.getElem_cons_succ, List.setIfInBounds_toArray, List.set_cons_zero, List.set_cons_succ]
        refine' wpAnyH_take (i := 8) (v := .bool true) rfl (by kernel_rfl) (by kernel_rfl) (by kernel_rfl) (fun _ _ _ h => h) (Or.inl ⟨by kernel_rfl, ?hy8⟩) (by assumption) ?_
        case hy8 => intro w' hSw; obtain ⟨_, _⟩ := MC.out w' hSw; first | rfl | (go_simp; try simp only [List.getElem?_cons_zero, Option.getD_some]; try go_simp)
        simp only [Act.put, List.getElem_toArray, List.getElem_cons_zero, List.getElem_cons_succ, List.setIfInBounds_toArray, List.set_cons_zero, List.set_cons_succ]
        refine' wpAnyH_take (i := 9) (v := _) rfl (by kernel_rfl) (by kernel_rfl) (by kernel_rfl) (fun _ _ _ h => h) (Or.inl ⟨by kernel_rfl, ?hy9⟩) (by assumption) ?_
        case hy9 => intro w' hSw; obtain ⟨_, _⟩ := MC.out w' hSw; go_simp; try with_reducible rfl
        simp only [Act.put, List.getElem_toArray, List.getElem_cons_zero, List.getElem_cons_succ, List.setIfInBounds_toArray, List.set_cons_zero, List.set_cons_succ]
        refine' wpAnyH_take (i := 11) (v := .int .u64 s.plain.now) rfl (by kernel_rfl) (by kernel_rfl) (by kernel_rfl) (fun _ _ _ h => h) (Or.inl ⟨by kernel_rfl, ?hy11⟩) (by assumption) ?_
        case hy11 => intro w' hSw; obtain ⟨_, _⟩ := MC.out w' hSw; first | rfl | (go_simp; try simp only [List.getElem?_cons_zero, Option.getD_some]; try go_simp)
        simp only [Act.put, List.getElem_toArray, List.getElem_cons_zero, List.getElem_cons_succ, List.setIfInBounds_toArray, List.set_cons_zero, List.set_cons_succ]
        refine' wpAnyH_take (i := 12) (v := .pointer (some ⟨pc, 7, none⟩)) rfl (by kernel_rfl) (by kernel_rfl) (by kernel_rfl) (fun _ _ _ h => h) (Or.inl ⟨by kernel_rfl, ?hy12⟩) (by assumption) ?_
        case hy12 => intro w' hSw; obtain ⟨_, _⟩ := MC.out w' hSw; first | rfl | (go_simp; try simp only [List.getElem?_cons_zero, Option.getD_some]; try go_simp)
        simp only [Act.put, List.getElem_toArray, List.getElem_cons_zero, List.getElem_cons_succ, List.setIfInBounds_toArray, List.set_cons_zero, List.set_cons_succ]
        refine' wpAnyH_take (i := 13) (v := .int .u64 c.time) rfl (by kernel_rfl) (by kernel_rfl) (by kernel_rfl) (fun _ _ _ h => h) (Or.inl ⟨by kernel_rfl, ?hy13⟩) (by assumption) ?_
        case hy13 => intro w' hSw; obtain ⟨_, _⟩ := MC.out w' hSw; first | rfl | (go_simp; try simp only [List.getElem?_cons_zero, Option.getD_some]; try go_simp)
        simp only [Act.put, List.getElem_toArray, List.getElem_cons_zero, List.getElem_cons_succ, List.setIfInBounds_toArray, List.set_cons_zero, List.set_cons_succ]
        refine' wpAnyH_take (i := 14) (v := .int .u64 (max s.plain.now c.time)) rfl (by kernel_rfl) (by kernel_rfl) (by kernel_rfl) (fun _ _ _ h => h) (Or.inl ⟨by kernel_rfl, ?hy14⟩) (by assumption) ?_
        case hy14 => intro w' hSw; obtain ⟨_, _⟩ := MC.out w' hSw; first | rfl | (go_simp; try simp only [List.getElem?_cons_zero, Option.getD_some]; try go_simp)
        simp only [Act.put, List.getElem_toArray, List.getElem_cons_zero, List.getElem_cons_succ, List.setIfInBounds_toArray, List.set_cons_zero, List.set_cons_succ]
        refine wpAnyH_ready (rs := [10]) (by kernel_rfl) (by simp) (AllReadyH.cons rfl (fun K hK => ?_) AllReadyH.nil)
        go_simp
        go_at_call 7
        refine (NO.out _ K0).mono ?_
        rintro e wz2 ⟨rfl, rfl⟩
        go_wp2_with fail
        refine hK.out _ _ (K0) (fun hHeld => ?_)
        clear hK K
        try simp only [Act.put, List.getElem_toArray, List.getElem_cons_zero, List.getElem_cons_succ, List.setIfInBounds_toArray, List.set_cons_zero, List.set_cons_succ]
        refine' wpAnyH_take (i := 15) (v := .bool false) rfl (by kernel_rfl) (by kernel_rfl) (by kernel_rfl) (fun _ _ _ h => h) (Or.inl ⟨by kernel_rfl, ?hy15⟩) (by assumption) ?_
        case hy15 => intro w' hSw; go_simp; (try simp only [List.getElem?_cons_zero, Option.getD_some]); all_goals (first | exact HNW.out | (simp; exact HNW.out))
        simp only [Act.put, List.getElem_toArray, List.getElem_cons_zero, List.getElem_cons_succ, List.setIfInBounds_toArray, List.set_cons_zero, List.set_cons_succ]
        refine' wpAnyH_take (i := 16) (v := .bool false) rfl (by kernel_rfl) (by kernel_rfl) (by kernel_rfl) (fun _ _ _ h => h) (Or.inl ⟨by kernel_rfl, ?hy16⟩) (by assumption) ?_
        case hy16 => intro w' hSw; obtain ⟨_, _⟩ := MC.out w' hSw; first | rfl | (go_simp; try simp only [List.getElem?_cons_zero, Option.getD_some]; try go_simp)
        simp only [Act.put, List.getElem_toArray, List.getElem_cons_zero, List.getElem_cons_succ, List.setIfInBounds_toArray, List.set_cons_zero, List.set_cons_succ]
        refine' wpAnyH_take (i := 17) (v := .bool false) rfl (by kernel_rfl) (by kernel_rfl) (by kernel_rfl) (fun _ _ _ h => h) (Or.inl ⟨by kernel_rfl, ?hy17⟩) (by assumption) ?_
        case hy17 => intro w' hSw; obtain ⟨_, _⟩ := MC.out w' hSw; first | rfl | (go_simp; try simp only [List.getElem?_cons_zero, Option.getD_some]; try go_simp)
        simp only [Act.put, List.getElem_toArray, List.getElem_cons_zero, List.getElem_cons_succ, List.setIfInBounds_toArray, List.set_cons_zero, List.set_cons_succ]
        refine' wpAnyH_take (i := 18) (v := .bool false) rfl (by kernel_rfl) (by kernel_rfl) (by kernel_rfl) (fun _ _ _ h => h) (Or.inl ⟨by kernel_rfl, ?hy18⟩) (by assumption) ?_
        case hy18 => intro w' hSw; obtain ⟨_, _⟩ := MC.out w' hSw; first | rfl | (go_simp; try simp only [List.getElem?_cons_zero, Option.getD_some]; try go_simp)
        simp only [Act.put, List.getElem_toArray, List.getElem_cons_zero, List.getElem_cons_succ, List.setIfInBounds_toArray, List.set_cons_zero, List.set_cons_succ]
        refine' wpAnyH_take (i := 19) (v := .pointer (some ⟨pc, 0, none⟩)) rfl (by kernel_rfl) (by kernel_rfl) (by kernel_rfl) (fun _ _ _ h => h) (Or.inl ⟨by kernel_rfl, ?hy19⟩) (by assumption) ?_
        case hy19 => intro w' hSw; obtain ⟨_, _⟩ := MC.out w' hSw; first | rfl | (go_simp; try simp only [List.getElem?_cons_zero, Option.getD_some]; try go_simp)
        simp only [Act.put, List.getElem_toArray, List.getElem_cons_zero, List.getElem_cons_succ, List.setIfInBounds_toArray, List.set_cons_zero, List.set_cons_succ]
        refine' wpAnyH_take (i := 20) (v := .int .i64 7) rfl (by kernel_rfl) (by kernel_rfl) (by kernel_rfl) (fun _ _ _ h => h) (Or.inl ⟨by kernel_rfl, ?hy20⟩) (by assumption) ?_
        case hy20 => intro w' hSw; obtain ⟨_, _⟩ := MC.out w' hSw; first | rfl | (go_simp; try simp only [List.getElem?_cons_zero, Option.getD_some]; try go_simp)
        simp only [Act.put, List.getElem_toArray, List.getElem_cons_zero, List.getElem_cons_succ, List.setIfInBounds_toArray, List.set_cons_zero, List.set_cons_succ]
        refine' wpAnyH_take (i := 21) (v := .bool false) rfl (by kernel_rfl) (by kernel_rfl) (by kernel_rfl) (fun _ _ _ h => h) (Or.inl ⟨by kernel_rfl, ?hy21⟩) (by assumption) ?_
        case hy21 => intro w' hSw; obtain ⟨_, _⟩ := MC.out w' hSw; first | rfl | (go_simp; try simp only [List.getElem?_cons_zero, Option.getD_some]; try go_simp)
        simp only [Act.put, List.getElem_toArray, List.getElem_cons_zero, List.getElem_cons_succ, List.setIfInBounds_toArray, List.set_cons_zero, List.set_cons_succ]
        refine' wpAnyH_take (i := 22) (v := .bool false) rfl (by kernel_rfl) (by kernel_rfl) (by kernel_rfl) (fun _ _ _ h => h) (Or.inl ⟨by kernel_rfl, ?hy22⟩) (by assumption) ?_
        case hy22 => intro w' hSw; obtain ⟨_, _⟩ := MC.out w' hSw; first | rfl | (go_simp; try simp only [List.getElem?_cons_zero, Option.getD_some]; try go_simp)
        simp only [Act.put, List.getElem_toArray, List.getElem_cons_zero, List.getElem_cons_succ, List.setIfInBounds_toArray, List.set_cons_zero, List.set_cons_succ]
        refine' wpAnyH_take (i := 23) (v := _) rfl (by kernel_rfl) (by kernel_rfl) (by kernel_rfl) (fun _ _ _ h => h) (Or.inr ⟨by kernel_rfl, rfl⟩) (by assumption) ?_
        simp only [Act.put, List.getElem_toArray, List.getElem_cons_zero, List.getElem_cons_succ, List.setIfInBounds_toArray, List.set_cons_zero, List.set_cons_succ]
        refine' wpAnyH_take (i := 24) (v := _) rfl (by kernel_rfl) (by kernel_rfl) (by kernel_rfl) (fun _ _ _ h => h) (Or.inr ⟨by kernel_rfl, rfl⟩) (by assumption) ?_
        simp only [Act.put, List.getElem_toArray, List.getElem_cons_zero, List.getElem_cons_succ, List.setIfInBounds_toArray, List.set_cons_zero, List.set_cons_succ]
        refine' wpAnyH_take (i := 25) (v := _) rfl (by kernel_rfl) (by kernel_rfl) (by kernel_rfl) (fun _ _ _ h => h) (Or.inr ⟨by kernel_rfl, rfl⟩) (by assumption) ?_
        simp only [Act.put, List.getElem_toArray, List.getElem_cons_zero, List.getElem_cons_succ, List.setIfInBounds_toArray, List.set_cons_zero, List.set_cons_succ]
        refine' wpAnyH_take (i := 26) (v := _) rfl (by kernel_rfl) (by kernel_rfl) (by kernel_rfl) (fun _ _ _ h => h) (Or.inr ⟨by kernel_rfl, rfl⟩) (by assumption) ?_
        simp only [Act.put, List.getElem_toArray, List.getElem_cons_zero, List.getElem_cons_succ, List.setIfInBounds_toArray, List.set_cons_zero, List.set_cons_succ]
        refine' wpAnyH_take (i := 27) (v := .bool false) rfl (by kernel_rfl) (by kernel_rfl) (by kernel_rfl) (fun _ _ _ h => h) (Or.inl ⟨by kernel_rfl, ?hy27⟩) (by assumption) ?_
        case hy27 => intro w' hSw; obtain ⟨_, _⟩ := MC.out w' hSw; first | rfl | (go_simp; try simp only [List.getElem?_cons_zero, Option.getD_some]; try go_simp)
        simp only [Act.put, List.getElem_toArray, List.getElem_cons_zero, List.getElem_cons_succ, List.setIfInBounds_toArray, List.set_cons_zero, List.set_cons_succ]
        refine' wpAnyH_take (i := 28) (v := .bool false) rfl (by kernel_rfl) (by kernel_rfl) (by kernel_rfl) (fun _ _ _ h => h) (Or.inl ⟨by kernel_rfl, ?hy28⟩) (by assumption) ?_
        case hy28 => intro w' hSw; obtain ⟨_, _⟩ := MC.out w' hSw; first | rfl | (go_simp; try simp only [List.getElem?_cons_zero, Option.getD_some]; try go_simp)
        simp only [Act.put, List.getElem_toArray, List.getElem_cons_zero, List.getElem_cons_succ, List.setIfInBounds_toArray, List.set_cons_zero, List.set_cons_succ]
        refine wpAnyH_done (by kernel_rfl) ?_ _
        go_wp2_with fail
        refine (NO.out _ K0).mono ?_
        rintro e wz3 ⟨rfl, rfl⟩
        have HO7 := Lib.hid (HO6.out.stay K0)
        have DU := Lib.hid (own_dump HO7.out)
        clear NO MC K0 HO6
        go_wp2_with fail
        refine DU.out.mono ?_
        rintro e w7 ⟨im, rfl, him, hil, k7⟩
        obtain ⟨A1, a1, A2, a2, A3, a3, e1, e2, e3⟩ := hil.shapes
        have HO8 := Lib.hid (HO7.out.stay k7)
        have HGX := hil.gs
        rw [e2] at HGX
        have hf4 := HGX.1.few
        unfold maxLen at hf4
        replace HGX := Lib.hid HGX
        have HST : Hid (∀ g ∈ im.gs, ∀ x ∈ g.st, x.s = 2 → s2.plain.now < x.u) := Lib.hid (fun g hg x hx h2 => by
          have h3 := HO8.out.inv.gsIn g.plain (by rw [← him]; exact List.mem_map.2 ⟨g, hg, rfl⟩)
          exact (h3.2.2.2.2.2 x hx).2.2 h2 |>.2.2.1)
        unfold Im.agg
        rw [e1, e2, e3]
        clear DU HO7 k7 him hil e1 e2 e3
        have F4 := fun w' => field_im4 w' (.int .u64 im.now) (.int .u64 im.ng) (.int .u64 im.nt) (.slice A1 im.ses.length a1) (.slice A2 im.gs.length a2) (.slice A3 im.built.length a3)
        go_wp2
        clear F4
        go_loopw [62] (fun i wr => ∃ (k2 : Nat), k2 ≤ im.gs.length ∧ i = .int .i64 k2 ∧ Keep noneOf w7 wr) (fun i _ => im.gs.length - (intOf i).toNat)
        case atStart => exact ⟨0, Nat.zero_le _, rfl, Keep.refl _ _⟩
        case round =>
          obtain ⟨k2, hk2, rfl, hkeep⟩ := hrel
          have HKP := Lib.hid hkeep
          by_cases hlt2 : k2 < im.gs.length
          · have hx : im.gs[k2]? = some im.gs[k2] := List.getElem?_eq_getElem hlt2
            have hG := HGX.out.keep hkeep (fun _ _ _ h => h)
            have HSG0 := HST.out im.gs[k2] (List.mem_of_getElem? hx)
            generalize im.gs[k2] = g at *
            obtain ⟨tb, o2, rfl, hblk, _, hcell⟩ := hG.1.cell (fun _ => rfl) hx
            have d0 : wr.cell? ⟨tb, o2 + k2 * 3, none⟩ = some (.int .u64 g.id) := hcell 0 (by decide)
            have d1 : wr.cell? ⟨tb, o2 + k2 * 3 + 1, none⟩ = some g.gv := hcell 1 (by decide)
            have d2 : wr.cell? ⟨tb, o2 + k2 * 3 + 2, none⟩ = some g.sv := hcell 2 (by decide)
            have hgl := hG.2 g (List.mem_of_getElem? hx)
            obtain ⟨B1, b1, f1, _⟩ := hgl.1.1
            obtain ⟨B2, b2, f2⟩ := Sts.shape hgl.2
            rw [f1] at d1
            rw [f2] at d2
            have p0 : (0 : Int) ≤ (k2 : Int) := by omega
            have p1 : (k2 : Int) < (im.gs.length : Int) := by omega
            have KA := (Keep.refl noneOf wr).alloc (.cells #[.int .u64 g.id, .slice B1 g.ts.length b1, .slice B2 g.st.length b2] 45)
            have HBG := Lib.hid (Box.new wr 45 #[.int .u64 g.id, .slice B1 g.ts.length b1, .slice B2 g.st.length b2])
            have HKG := Lib.hid (hkeep.trans KA (fun _ _ h => h))
            have HSG := hgl.2.keep KA (fun _ _ _ h => h)
            rw [f2] at HSG
            have hfs := Many.few (enc := Pst.cells) (k := 3) HSG
            unfold maxLen at hfs
            replace HSG := Lib.hid HSG
            replace HSG0 := Lib.hid HSG0
            clear hG hx hcell hblk KA hkeep hgl f1 f2
            go_upto_region 15 with fail
            generalize hw : wr.alloc (.cells #[.int .u64 g.id, .slice B1 g.ts.length b1, .slice B2 g.st.length b2] 45) = wg at *
            generalize hx : wr.heap.size = pg at *
            clear hw hx d0 d1 d2
            have g2 := HBG.out.cell 2
            go_wp2
            go_loopw [69] (fun i wr => ∃ (k3 : Nat), k3 ≤ g.st.length ∧ i = .int .i64 k3 ∧ Keep noneOf wg wr) (fun i _ => g.st.length - (intOf i).toNat)
            case atStart => exact ⟨0, Nat.zero_le _, rfl, Keep.refl _ _⟩
            case round =>
              clear g2
              obtain ⟨k3, hk3, rfl, hkeep⟩ := hrel
              have HKR := Lib.hid hkeep
              by_cases hlt3 : k3 < g.st.length
              · have hx : g.st[k3]? = some g.st[k3] := List.getElem?_eq_getElem hlt3
                have HXX := HSG0.out g.st[k3] (List.mem_of_getElem? hx)
                generalize g.st[k3] = x at *
                have hS : Many Pst.cells 3 wr _ _ g.st := HSG.out.keep hkeep (fun _ _ _ h => h)
                obtain ⟨sb, so, rfl, hsblk, _, hscell⟩ := hS.cell (fun _ => rfl) hx
                have d0 : wr.cell? ⟨sb, so + k3 * 3, none⟩ = some (.int .i64 x.s) := hscell 0 (by decide)
                have d1 : wr.cell? ⟨sb, so + k3 * 3 + 1, none⟩ = some (.int .u64 x.t) := hscell 1 (by decide)
                have d2 : wr.cell? ⟨sb, so + k3 * 3 + 2, none⟩ = some (.int .u64 x.u) := hscell 2 (by decide)
                have s0 : (0 : Int) ≤ (k3 : Int) := by omega
                have s1 : (k3 : Int) < (g.st.length : Int) := by omega
                have HBX := Lib.hid (Box.new wr 47 #[.int .i64 x.s, .int .u64 x.t, .int .u64 x.u])
                have b0 := HBX.out.cell 0
                have b2' := HBX.out.cell 2
                have HKZ := Lib.hid (hkeep.trans ((Keep.refl noneOf wr).alloc (.cells #[.int .i64 x.s, .int .u64 x.t, .int .u64 x.u] 47)) (fun _ _ h => h))
                clear hS hx hsblk hscell hkeep
                by_cases hs2 : x.s = 2
                · have hu := HXX hs2
                  have hnle : ¬ (x.u ≤ s2.plain.now) := by omega
                  have hb2 : (x.s == 2) = true := beq_iff_eq.2 hs2
                  clear hu HXX hs2
                  go_wp2
                  go_roundw
                  case rel => exact ⟨k3 + 1, by omega, by go_num, HKZ.out⟩
                  case measure => simp only [intOf]; omega
                · have hb2 : (x.s == 2) = false := beq_eq_false_iff_ne.2 hs2
                  clear HXX hs2
                  go_wp2
                  go_roundw
                  case rel => exact ⟨k3 + 1, by omega, by go_num, HKZ.out⟩
                  case measure => simp only [intOf]; omega
              · have hkn3 : ¬ ((k3 : Int) < (g.st.length : Int)) := by omega
                have HKY := Lib.hid (HKG.out.trans hkeep (fun _ _ h => h))
                clear hlt3 hkeep
                go_wp2
                go_roundw
                case rel => exact ⟨k2 + 1, by omega, by go_num, HKY.out⟩
                case measure => simp only [intOf]; omega
          · have hkn2 : ¬ ((k2 : Int) < (im.gs.length : Int)) := by omega
            have HOZ := Lib.hid (HO8.out.stay HKP.out)
            clear hlt2 hkeep
            go_wp2
            go_roundw
            case rel => exact ⟨k + 1, _, _, by omega, by go_num, rfl, HOZ.out⟩
            case measure => simp only [intOf]; omega
      · rw [if_neg hkd] at hnw
        have HNW := Lib.hid hnw
        have MC : Hid (∀ w', Keep noneOf v1 w' → w'.cell? ⟨pc, 0, none⟩ = some (.int .i64 c.kind) ∧ w'.cell? ⟨pc, 7, none⟩ = some (.int .u64 c.time)) := Lib.hid fun w' k' => ⟨(HBC1.out.keep k' id).cell 0, (HBC1.out.keep k' id).cell 7⟩
        have hnl : ¬ (s2.plain.now < s.plain.now) := by omega
        clear hnw
        go_upto_region 9 with fail
        refine wp_region_held_drew (S := fun w' => Keep noneOf v1 w') (by kernel_rfl) (K0) (fun hHeld => ?_)
        refine' wpAnyH_take (i := 0) (v := _) rfl (by kernel_rfl) (by kernel_rfl) (by kernel_rfl) (fun _ _ _ h => h) (Or.inl ⟨by kernel_rfl, ?hy0⟩) (by assumption) ?_
        case hy0 => intro w' hSw; obtain ⟨_, _⟩ := MC.out w' hSw; go_simp; try with_reducible rfl
        simp only [Act.put, List.getElem_toArray, List.getElem_cons_zero, List.getElem_cons_succ, List.setIfInBounds_toArray, List.set_cons_zero, List.set_cons_succ]
        refine' wpAnyH_take (i := 2) (v := _) rfl (by kernel_rfl) (by kernel_rfl) (by kernel_rfl) (fun _ _ _ h => h) (Or.inl ⟨by kernel_rfl, ?hy2⟩) (by assumption) ?_
        case hy2 => intro w' hSw; obtain ⟨_, _⟩ := MC.out w' hSw; go_simp; try with_reducible rfl
        simp only [Act.put, List.getElem_toArray, List.getElem_cons_zero, List.getElem_cons_succ, List.setIfInBounds_toArray, List.set_cons_zero, List.set_cons_succ]
        refine wpAnyH_ready (rs := [1]) (by kernel_rfl) (by simp) (AllReadyH.cons rfl (fun K hK => ?_) AllReadyH.nil)
        go_simp
        go_at_call 7
        refine (NO.out _ K0).mono ?_
        rintro e wz1 ⟨rfl, rfl⟩
        go_wp2_with fail
        refine hK.out _ _ (K0) (fun hHeld => ?_)
        clear hK K
        try simp only [Act.put, List.getElem_toArray, List.getElem_cons_zero, List.getElem_cons_succ, List.setIfInBounds_toArray, List.set_cons_zero, List.set_cons_succ]
        refine' wpAnyH_take (i := 3) (v := .bool false) rfl (by kernel_rfl) (by kernel_rfl) (by kernel_rfl) (fun _ _ _ h => h) (Or.inl ⟨by kernel_rfl, ?hy3⟩) (by assumption) ?_
        case hy3 => intro w' hSw; go_simp; (try simp only [List.getElem?_cons_zero, Option.getD_some]); first | done | (simp; omega) | (simp; done) | omega
        simp only [Act.put, List.getElem_toArray, List.getElem_cons_zero, List.getElem_cons_succ, List.setIfInBounds_toArray, List.set_cons_zero, List.set_cons_succ]
        refine' wpAnyH_take (i := 4) (v := .bool false) rfl (by kernel_rfl) (by kernel_rfl) (by kernel_rfl) (fun _ _ _ h => h) (Or.inl ⟨by kernel_rfl, ?hy4⟩) (by assumption) ?_
        case hy4 => intro w' hSw; obtain ⟨_, _⟩ := MC.out w' hSw; first | rfl | (go_simp; try simp only [List.getElem?_cons_zero, Option.getD_some]; try go_simp)
        simp only [Act.put, List.getElem_toArray, List.getElem_cons_zero, List.getElem_cons_succ, List.setIfInBounds_toArray, List.set_cons_zero, List.set_cons_succ]
        refine' wpAnyH_take (i := 5) (v := .pointer (some ⟨pc, 0, none⟩)) rfl (by kernel_rfl) (by kernel_rfl) (by kernel_rfl) (fun _ _ _ h => h) (Or.inl ⟨by kernel_rfl, ?hy5⟩) (by assumption) ?_
        case hy5 => intro w' hSw; obtain ⟨_, _⟩ := MC.out w' hSw; first | rfl | (go_simp; try simp only [List.getElem?_cons_zero, Option.getD_some]; try go_simp)
        simp only [Act.put, List.getElem_toArray, List.getElem_cons_zero, List.getElem_cons_succ, List.setIfInBounds_toArray, List.set_cons_zero, List.set_cons_succ]
        refine' wpAnyH_take (i := 6) (v := .int .i64 c.kind) rfl (by kernel_rfl) (by kernel_rfl) (by kernel_rfl) (fun _ _ _ h => h) (Or.inl ⟨by kernel_rfl, ?hy6⟩) (by assumption) ?_
        case hy6 => intro w' hSw; obtain ⟨_, _⟩ := MC.out w' hSw; first | rfl | (go_simp; try simp only [List.getElem?_cons_zero, Option.getD_some]; try go_simp)
        simp only [Act.put, List.getElem_toArray, List.getElem_cons_zero, List.getElem_cons_succ, List.setIfInBounds_toArray, List.set_cons_zero, List.set_cons_succ]
        refine' wpAnyH_take (i := 7) (v := .bool false) rfl (by kernel_rfl) (by kernel_rfl) (by kernel_rfl) (fun _ _ _ h => h) (Or.inl ⟨by kernel_rfl, ?hy7⟩) (by assumption) ?_
        case hy7 => intro w' hSw; obtain ⟨_, _⟩ := MC.out w' hSw; first | rfl | (go_simp; try simp only [List.getElem?_cons_zero, Option.getD_some]; try go_simp)
        simp only [Act.put, List.getElem_toArray, List.getElem_cons_zero, List.getElem_cons_succ, List.setIfInBounds_toArray, List.set_cons_zero, List.set_cons_succ]
        refine' wpAnyH_take (i := 8) (v := .bool false) rfl (by kernel_rfl) (by kernel_rfl) (by kernel_rfl) (fun _ _ _ h => h) (Or.inl ⟨by kernel_rfl, ?hy8⟩) (by assumption) ?_
        case hy8 => intro w' hSw; obtain ⟨_, _⟩ := MC.out w' hSw; first | rfl | (go_simp; try simp only [List.getElem?_cons_zero, Option.getD_some]; try go_simp)
        simp only [Act.put, List.getElem_toArray, List.getElem_cons_zero, List.getElem_cons_succ, List.setIfInBounds_toArray, List.set_cons_zero, List.set_cons_succ]
        refine' wpAnyH_take (i := 9) (v := _) rfl (by kernel_rfl) (by kernel_rfl) (by kernel_rfl) (fun _ _ _ h => h) (Or.inr ⟨by kernel_rfl, rfl⟩) (by assumption) ?_
        simp only [Act.put, List.getElem_toArray, List.getElem_cons_zero, List.getElem_cons_succ, List.setIfInBounds_toArray, List.set_cons_zero, List.set_cons_succ]
        refine' wpAnyH_take (i := 10) (v := _) rfl (by kernel_rfl) (by kernel_rfl) (by kernel_rfl) (fun _ _ _ h => h) (Or.inr ⟨by kernel_rfl, rfl⟩) (by assumption) ?_
        simp only [Act.put, List.getElem_toArray, List.getElem_cons_zero, List.getElem_cons_succ, List.setIfInBounds_toArray, List.set_cons_zero, List.set_cons_succ]
        refine' wpAnyH_take (i := 11) (v := _) rfl (by kernel_rfl) (by kernel_rfl) (by kernel_rfl) (fun _ _ _ h => h) (Or.inr ⟨by kernel_rfl, rfl⟩) (by assumption) ?_
        simp only [Act.put, List.getElem_toArray, List.getElem_cons_zero, List.getElem_cons_succ, List.setIfInBounds_toArray, List.set_cons_zero, List.set_cons_succ]
        refine' wpAnyH_take (i := 12) (v := _) rfl (by kernel_rfl) (by kernel_rfl) (by kernel_rfl) (fun _ _ _ h => h) (Or.inr ⟨by kernel_rfl, rfl⟩) (by assumption) ?_
        simp only [Act.put, List.getElem_toArray, List.getElem_cons_zero, List.getElem_cons_succ, List.setIfInBounds_toArray, List.set_cons_zero, List.set_cons_succ]
        refine' wpAnyH_take (i := 13) (v := _) rfl (by kernel_rfl) (by kernel_rfl) (by kernel_rfl) (fun _ _ _ h => h) (Or.inr ⟨by kernel_rfl, rfl⟩) (by assumption) ?_
        simp only [Act.put, List.getElem_toArray, List.getElem_cons_zero, List.getElem_cons_succ, List.setIfInBounds_toArray, List.set_cons_zero, List.set_cons_succ]
        refine' wpAnyH_take (i := 14) (v := _) rfl (by kernel_rfl) (by kernel_rfl) (by kernel_rfl) (fun _ _ _ h => h) (Or.inr ⟨by kernel_rfl, rfl⟩) (by assumption) ?_
        simp only [Act.put, List.getElem_toArray, List.getElem_cons_zero, List.getElem_cons_succ, List.setIfInBounds_toArray, List.set_cons_zero, List.set_cons_succ]
        refine' wpAnyH_take (i := 15) (v := _) rfl (by kernel_rfl) (by kernel_rfl) (by kernel_rfl) (fun _ _ _ h => h) (Or.inr ⟨by kernel_rfl, rfl⟩) (by assumption) ?_
        simp only [Act.put, List.getElem_toArray, List.getElem_cons_zero, List.getElem_cons_succ, List.setIfInBounds_toArray, List.set_cons_zero, List.set_cons_succ]
        refine' wpAnyH_take (i := 16) (v := .bool false) rfl (by kernel_rfl) (by kernel_rfl) (by kernel_rfl) (fun _ _ _ h => h) (Or.inl ⟨by kernel_rfl, ?hy16⟩) (by assumption) ?_
        case hy16 => intro w' hSw; obtain ⟨_, _⟩ := MC.out w' hSw; first | rfl | (go_simp; try simp only [List.getElem?_cons_zero, Option.getD_some]; try go_simp)
        simp only [Act.put, List.getElem_toArray, List.getElem_cons_zero, List.getElem_cons_succ, List.setIfInBounds_toArray, List.set_cons_zero, List.set_cons_succ]
        refine' wpAnyH_take (i := 17) (v := .bool false) rfl (by kernel_rfl) (by kernel_rfl) (by kernel_rfl) (fun _ _ _ h => h) (Or.inl ⟨by kernel_rfl, ?hy17⟩) (by assumption) ?_
        case hy17 => intro w' hSw; obtain ⟨_, _⟩ := MC.out w' hSw; first | rfl | (go_simp; try simp only [List.getElem?_cons_zero, Option.getD_some]; try go_simp)
        simp only [Act.put, List.getElem_toArray, List.getElem_cons_zero, List.getElem_cons_succ, List.setIfInBounds_toArray, List.set_cons_zero, List.set_cons_succ]
        refine' wpAnyH_take (i := 18) (v := .bool false) rfl (by kernel_rfl) (by kernel_rfl) (by kernel_rfl) (fun _ _ _ h => h) (Or.inl ⟨by kernel_rfl, ?hy18⟩) (by assumption) ?_
        case hy18 => intro w' hSw; obtain ⟨_, _⟩ := MC.out w' hSw; first | rfl | (go_simp; try simp only [List.getElem?_cons_zero, Option.getD_some]; try go_simp)
        simp only [Act.put, List.getElem_toArray, List.getElem_cons_zero, List.getElem_cons_succ, List.setIfInBounds_toArray, List.set_cons_zero, List.set_cons_succ]
        refine' wpAnyH_take (i := 19) (v := .pointer (some ⟨pc, 0, none⟩)) rfl (by kernel_rfl) (by kernel_rfl) (by kernel_rfl) (fun _ _ _ h => h) (Or.inl ⟨by kernel_rfl, ?hy19⟩) (by assumption) ?_
        case hy19 => intro w' hSw; obtain ⟨_, _⟩ := MC.out w' hSw; first | rfl | (go_simp; try simp only [List.getElem?_cons_zero, Option.getD_some]; try go_simp)
        simp only [Act.put, List.getElem_toArray, List.getElem_cons_zero, List.getElem_cons_succ, List.setIfInBounds_toArray, List.set_cons_zero, List.set_cons_succ]
        refine' wpAnyH_take (i := 20) (v := .int .i64 c.kind) rfl (by kernel_rfl) (by kernel_rfl) (by kernel_rfl) (fun _ _ _ h => h) (Or.inl ⟨by kernel_rfl, ?hy20⟩) (by assumption) ?_
        case hy20 => intro w' hSw; obtain ⟨_, _⟩ := MC.out w' hSw; first | rfl | (go_simp; try simp only [List.getElem?_cons_zero, Option.getD_some]; try go_simp)
        simp only [Act.put, List.getElem_toArray, List.getElem_cons_zero, List.getElem_cons_succ, List.setIfInBounds_toArray, List.set_cons_zero, List.set_cons_succ]
        refine' wpAnyH_take (i := 21) (v := .bool true) rfl (by kernel_rfl) (by kernel_rfl) (by kernel_rfl) (fun _ _ _ h => h) (Or.inl ⟨by kernel_rfl, ?hy21⟩) (by assumption) ?_
        case hy21 => intro w' hSw; obtain ⟨_, _⟩ := MC.out w' hSw; first | rfl | (go_simp; try simp only [List.getElem?_cons_zero, Option.getD_some]; try go_simp)
        simp only [Act.put, List.getElem_toArray, List.getElem_cons_zero, List.getElem_cons_succ, List.setIfInBounds_toArray, List.set_cons_zero, List.set_cons_succ]
        refine' wpAnyH_take (i := 22) (v := .bool true) rfl (by kernel_rfl) (by kernel_rfl) (by kernel_rfl) (fun _ _ _ h => h) (Or.inl ⟨by kernel_rfl, ?hy22⟩) (by assumption) ?_
        case hy22 => intro w' hSw; obtain ⟨_, _⟩ := MC.out w' hSw; first | rfl | (go_simp; try simp only [List.getElem?_cons_zero, Option.getD_some]; try go_simp)
        simp only [Act.put, List.getElem_toArray, List.getElem_cons_zero, List.getElem_cons_succ, List.setIfInBounds_toArray, List.set_cons_zero, List.set_cons_succ]
        refine' wpAnyH_take (i := 23) (v := _) rfl (by kernel_rfl) (by kernel_rfl) (by kernel_rfl) (fun _ _ _ h => h) (Or.inl ⟨by kernel_rfl, ?hy23⟩) (by assumption) ?_
        case hy23 => intro w' hSw; obtain ⟨_, _⟩ := MC.out w' hSw; go_simp; try with_reducible rfl
        simp only [Act.put, List.getElem_toArray, List.getElem_cons_zero, List.getElem_cons_succ, List.setIfInBounds_toArray, List.set_cons_zero, List.set_cons_succ]
        refine' wpAnyH_take (i := 25) (v := .int .u64 s.plain.now) rfl (by kernel_rfl) (by kernel_rfl) (by kernel_rfl) (fun _ _ _ h => h) (Or.inl ⟨by kernel_rfl, ?hy25⟩) (by assumption) ?_
        case hy25 => intro w' hSw; obtain ⟨_, _⟩ := MC.out w' hSw; first | rfl | (go_simp; try simp only [List.getElem?_cons_zero, Option.getD_some]; try go_simp)
        simp only [Act.put, List.getElem_toArray, List.getElem_cons_zero, List.getElem_cons_succ, List.setIfInBounds_toArray, List.set_cons_zero, List.set_cons_succ]
        refine wpAnyH_ready (rs := [24]) (by kernel_rfl) (by simp) (AllReadyH.cons rfl (fun K hK => ?_) AllReadyH.nil)
        go_simp
        go_at_call 7
        refine (NO.out _ K0).mono ?_
        rintro e wz2 ⟨rfl, rfl⟩
        go_wp2_with fail
        refine hK.out _ _ (K0) (fun hHeld => ?_)
        clear hK K
        try simp only [Act.put, List.getElem_toArray, List.getElem_cons_zero, List.getElem_cons_succ, List.setIfInBounds_toArray, List.set_cons_zero, List.set_cons_succ]
        refine' wpAnyH_take (i := 26) (v := .bool false) rfl (by kernel_rfl) (by kernel_rfl) (by kernel_rfl) (fun _ _ _ h => h) (Or.inl ⟨by kernel_rfl, ?hy26⟩) (by assumption) ?_
        case hy26 => intro w' hSw; go_simp; (try simp only [List.getElem?_cons_zero, Option.getD_some]); all_goals (first | exact HNW.out | (simp; exact HNW.out))
        simp only [Act.put, List.getElem_toArray, List.getElem_cons_zero, List.getElem_cons_succ, List.setIfInBounds_toArray, List.set_cons_zero, List.set_cons_succ]
        refine' wpAnyH_take (i := 27) (v := .bool false) rfl (by kernel_rfl) (by kernel_rfl) (by kernel_rfl) (fun _ _ _ h => h) (Or.inl ⟨by kernel_rfl, ?hy27⟩) (by assumption) ?_
        case hy27 => intro w' hSw; obtain ⟨_, _⟩ := MC.out w' hSw; first | rfl | (go_simp; try simp only [List.getElem?_cons_zero, Option.getD_some]; try go_simp)
        simp only [Act.put, List.getElem_toArray, List.getElem_cons_zero, List.getElem_cons_succ, List.setIfInBounds_toArray, List.set_cons_zero, List.set_cons_succ]
        refine' wpAnyH_take (i := 28) (v := .bool false) rfl (by kernel_rfl) (by kernel_rfl) (by kernel_rfl) (fun _ _ _ h => h) (Or.inl ⟨by kernel_rfl, ?hy28⟩) (by assumption) ?_
        case hy28 => intro w' hSw; obtain ⟨_, _⟩ := MC.out w' hSw; first | rfl | (go_simp; try simp only [List.getElem?_cons_zero, Option.getD_some]; try go_simp)
        simp only [Act.put, List.getElem_toArray, List.getElem_cons_zero, List.getElem_cons_succ, List.setIfInBounds_toArray, List.set_cons_zero, List.set_cons_succ]
        refine wpAnyH_done (by kernel_rfl) ?_ _
        go_wp2_with fail
        refine (NO.out _ K0).mono ?_
        rintro e wz3 ⟨rfl, rfl⟩
        have HO7 := Lib.hid (HO6.out.stay K0)
        have DU := Lib.hid (own_dump HO7.out)
        clear NO MC K0 HO6
        go_wp2_with fail
        refine DU.out.mono ?_
        rintro e w7 ⟨im, rfl, him, hil, k7⟩
        obtain ⟨A1, a1, A2, a2, A3, a3, e1, e2, e3⟩ := hil.shapes
        have HO8 := Lib.hid (HO7.out.stay k7)
        have HGX := hil.gs
        rw [e2] at HGX
        have hf4 := HGX.1.few
        unfold maxLen at hf4
        replace HGX := Lib.hid HGX
        have HST : Hid (∀ g ∈ im.gs, ∀ x ∈ g.st, x.s = 2 → s2.plain.now < x.u) := Lib.hid (fun g hg x hx h2 => by
          have h3 := HO8.out.inv.gsIn g.plain (by rw [← him]; exact List.mem_map.2 ⟨g, hg, rfl⟩)
          exact (h3.2.2.2.2.2 x hx).2.2 h2 |>.2.2.1)
        unfold Im.agg
        rw [e1, e2, e3]
        clear DU HO7 k7 him hil e1 e2 e3
        have F4 := fun w' => field_im4 w' (.int .u64 im.now) (.int .u64 im.ng) (.int .u64 im.nt) (.slice A1 im.ses.length a1) (.slice A2 im.gs.length a2) (.slice A3 im.built.length a3)
        go_wp2
        clear F4
        go_loopw [62] (fun i wr => ∃ (k2 : Nat), k2 ≤ im.gs.length ∧ i = .int .i64 k2 ∧ Keep noneOf w7 wr) (fun i _ => im.gs.length - (intOf i).toNat)
        case atStart => exact ⟨0, Nat.zero_le _, rfl, Keep.refl _ _⟩
        case round =>
          obtain ⟨k2, hk2, rfl, hkeep⟩ := hrel
          have HKP := Lib.hid hkeep
          by_cases hlt2 : k2 < im.gs.length
          · have hx : im.gs[k2]? = some im.gs[k2] := List.getElem?_eq_getElem hlt2
            have hG := HGX.out.keep hkeep (fun _ _ _ h => h)
            have HSG0 := HST.out im.gs[k2] (List.mem_of_getElem? hx)
            generalize im.gs[k2] = g at *
            obtain ⟨tb, o2, rfl, hblk, _, hcell⟩ := hG.1.cell (fun _ => rfl) hx
            have d0 : wr.cell? ⟨tb, o2 + k2 * 3, none⟩ = some (.int .u64 g.id) := hcell 0 (by decide)
            have d1 : wr.cell? ⟨tb, o2 + k2 * 3 + 1, none⟩ = some g.gv := hcell 1 (by decide)
            have d2 : wr.cell? ⟨tb, o2 + k2 * 3 + 2, none⟩ = some g.sv := hcell 2 (by decide)
            have hgl := hG.2 g (List.mem_of_getElem? hx)
            obtain ⟨B1, b1, f1, _⟩ := hgl.1.1
            obtain ⟨B2, b2, f2⟩ := Sts.shape hgl.2
            rw [f1] at d1
            rw [f2] at d2
            have p0 : (0 : Int) ≤ (k2 : Int) := by omega
            have p1 : (k2 : Int) < (im.gs.length : Int) := by omega
            have KA := (Keep.refl noneOf wr).alloc (.cells #[.int .u64 g.id, .slice B1 g.ts.length b1, .slice B2 g.st.length b2] 45)
            have HBG := Lib.hid (Box.new wr 45 #[.int .u64 g.id, .slice B1 g.ts.length b1, .slice B2 g.st.length b2])
            have HKG := Lib.hid (hkeep.trans KA (fun _ _ h => h))
            have HSG := hgl.2.keep KA (fun _ _ _ h => h)
            rw [f2] at HSG
            have hfs := Many.few (enc := Pst.cells) (k := 3) HSG
            unfold maxLen at hfs
            replace HSG := Lib.hid HSG
            replace HSG0 := Lib.hid HSG0
            clear hG hx hcell hblk KA hkeep hgl f1 f2
            go_upto_region 15 with fail
            generalize hw : wr.alloc (.cells #[.int .u64 g.id, .slice B1 g.ts.length b1, .slice B2 g.st.length b2] 45) = wg at *
            generalize hx : wr.heap.size = pg at *
            clear hw hx d0 d1 d2
            have g2 := HBG.out.cell 2
            go_wp2
            go_loopw [69] (fun i wr => ∃ (k3 : Nat), k3 ≤ g.st.length ∧ i = .int .i64 k3 ∧ Keep noneOf wg wr) (fun i _ => g.st.length - (intOf i).toNat)
            case atStart => exact ⟨0, Nat.zero_le _, rfl, Keep.refl _ _⟩
            case round =>
              clear g2
              obtain ⟨k3, hk3, rfl, hkeep⟩ := hrel
              have HKR := Lib.hid hkeep
              by_cases hlt3 : k3 < g.st.length
              · have hx : g.st[k3]? = some g.st[k3] := List.getElem?_eq_getElem hlt3
                have HXX := HSG0.out g.st[k3] (List.mem_of_getElem? hx)
                generalize g.st[k3] = x at *
                have hS : Many Pst.cells 3 wr _ _ g.st := HSG.out.keep hkeep (fun _ _ _ h => h)
                obtain ⟨sb, so, rfl, hsblk, _, hscell⟩ := hS.cell (fun _ => rfl) hx
                have d0 : wr.cell? ⟨sb, so + k3 * 3, none⟩ = some (.int .i64 x.s) := hscell 0 (by decide)
                have d1 : wr.cell? ⟨sb, so + k3 * 3 + 1, none⟩ = some (.int .u64 x.t) := hscell 1 (by decide)
                have d2 : wr.cell? ⟨sb, so + k3 * 3 + 2, none⟩ = some (.int .u64 x.u) := hscell 2 (by decide)
                have s0 : (0 : Int) ≤ (k3 : Int) := by omega
                have s1 : (k3 : Int) < (g.st.length : Int) := by omega
                have HBX := Lib.hid (Box.new wr 47 #[.int .i64 x.s, .int .u64 x.t, .int .u64 x.u])
                have b0 := HBX.out.cell 0
                have b2' := HBX.out.cell 2
                have HKZ := Lib.hid (hkeep.trans ((Keep.refl noneOf wr).alloc (.cells #[.int .i64 x.s, .int .u64 x.t, .int .u64 x.u] 47)) (fun _ _ h => h))
                clear hS hx hsblk hscell hkeep
                by_cases hs2 : x.s = 2
                · have hu := HXX hs2
                  have hnle : ¬ (x.u ≤ s2.plain.now) := by omega
                  have hb2 : (x.s == 2) = true := beq_iff_eq.2 hs2
                  clear hu HXX hs2
                  go_wp2
                  go_roundw
                  case rel => exact ⟨k3 + 1, by omega, by go_num, HKZ.out⟩
                  case measure => simp only [intOf]; omega
                · have hb2 : (x.s == 2) = false := beq_eq_false_iff_ne.2 hs2
                  clear HXX hs2
                  go_wp2
                  go_roundw
                  case rel => exact ⟨k3 + 1, by omega, by go_num, HKZ.out⟩
                  case measure => simp only [intOf]; omega
              · have hkn3 : ¬ ((k3 : Int) < (g.st.length : Int)) := by omega
                have HKY := Lib.hid (HKG.out.trans hkeep (fun _ _ h => h))
                clear hlt3 hkeep
                go_wp2
                go_roundw
                case rel => exact ⟨k2 + 1, by omega, by go_num, HKY.out⟩
                case measure => simp only [intOf]; omega
          · have hkn2 : ¬ ((k2 : Int) < (im.gs.length : Int)) := by omega
            have HOZ := Lib.hid (HO8.out.stay HKP.out)
            clear hlt2 hkeep
            go_wp2
            go_roundw
            case rel => exact ⟨k + 1, _, _, by omega, by go_num, rfl, HOZ.out⟩
            case measure => simp only [intOf]; omega
    · have hkn : ¬ ((k : Int) < (cs.length : Int)) := by omega
      clear hlt
      go_wp2
      go_ret
      exact ⟨rfl, HOW.out.keep⟩
namespace QueueTime
set_option maxRecDepth 100000 in
theorem lifted (os : Os) (started : os.Started) (H : Type) (enc : TypeId × Value → H) :
    ReturnsInHanded {} Try.checked os 3 .any (Rows.queueTimeSpec.pre6 enc Try.prog Try.f3 Rows.queueTimeRow.domain false) (Rows.queueTimeSpec.post enc Try.prog Try.f3 false true false false) := by
  refine returnsInHanded_of_change_sized (C := Try.checked) own started (by kernel_rfl) Try.func3
    (ChangeSpec.witness6 (enc := enc) (C := Try.checked) false ⟨#[], #[.slice none 0 0], []⟩ 8 (by kernel_rfl) (by kernel_rfl) (by kernel_rfl) (by kernel_rfl)) ?_
  intro W base args ds gs before hval0 hW hcnd hsz _
  have hval : ∀ (j : Nat) t v, Try.f3.params[j]? = some t → args[j]? = some v → Value.okWide Try.prog W .any base t v := hval0
  have hW' := hW
  obtain ⟨p, q, hA0, hV, rfl, hfz, hnd⟩ := hW
  have hA : DataW.TrodAll enc Try.prog W 0 (fun _ => true) true Try.f3.params.toList args.toList ds p := hA0
  rw [Try.params3] at hA hval
  obtain ⟨v0, vs0, d0, ds0, p0, q0, hargs, rfl, rfl, h0, r0⟩ := trodAll_cons hA
  obtain ⟨rfl, rfl, rfl⟩ := trodAll_nil r0
  obtain rfl : args = #[v0] := by cases args; simp_all
  obtain ⟨rfl, rfl⟩ := trodVars_none hV
  have k0 := h0
  have lt0 : ∀ x ∈ p0, x.block < W.heap.size := by obtain ⟨m, hm⟩ := k0; exact DataW.trod_lt m _ _ _ hm
  obtain ⟨A0, c0, l0, rfl, hl0⟩ := open_arg_cms (hval 0 22 v0 rfl rfl) h0 (light_arg hsz (j := 0) rfl rfl)
  clear hA0 hval0
  refine (time_walk W A0 c0 l0 hl0).mono fun e W' ⟨he, bel0⟩ => ?_
  subst he
  have bel := bel0.all
  exact ⟨_, rfl, _, _, _, [], _, [], hW', trodAll_mk1 (shut_bool Try.underlying4 _), (trodAll_cons_mk (Below.trod laidOut (by kernel_rfl) (of_decide_eq_true (by kernel_rfl)) k0 bel lt0) trodAll_mk0), rfl, bel.frame _, fun h => by cases h⟩
theorem over : Rows.queueTimeRow.holds Try.pinned (OpenSpec.ofChange Rows.queueTimeSpec) :=
  OpenClaim.holds_of_wide 3 Try.f3 rfl rfl rfl rfl rfl rfl rfl ⟨rfl, rfl, rfl, rfl, rfl⟩ rfl rfl rfl rfl rfl (by kernel_rfl) Try.func3 (by kernel_rfl)
    (of_decide_eq_true (by kernel_rfl)) (by unfold Func.isWrapper; first | (rw [if_pos (by decide +kernel)]; kernel_rfl) | (rw [if_neg (by decide +kernel)]; exact ⟨rfl, rfl⟩))
    (fun os started H enc _ => lifted os started H enc)
theorem proved : Rows.QueueTimeSaid := over
end QueueTime
end Go.Proofs.Ytkoikmdmejhhhaa
