import Derived.Test.YtffoeodjbbkdjaaGreatBs01
import Derived.Test.YtffoeodjbbkdjaaGreatBs15
import Derived.Test.YtffoeodjbbkdjaaGreatBs19
namespace Go.Proofs.YtffoeodjbbkdjaaGreat
open Go.Shelf Go.RowKit Go.Maps
theorem list_same {l L : List Ro} (h : ∀ j : Nat, j < l.length → l[j]? = L[j]?) (hl : l.length = L.length) : l = L := by
 apply List.ext_getElem? 
 intro j
 rcases Nat.lt_or_ge j l.length with hj | hj
 ·
  exact h j hj
 ·
  rw [List.getElem?_eq_none hj, List.getElem?_eq_none (by omega)]
theorem ro_cells (b o k : Nat) (w : World) (r : Ro) (h : ∀ j, j < 8 → w.cell? ⟨b, o + (k * 8 + j), none⟩ = (Ro.cells r)[j]?) :
  w.cell? ⟨b, o + k * 8, none⟩ = some (.int .u64 r.id) ∧ w.cell? ⟨b, o + k * 8 + 1, none⟩ = some (.int .u64 r.seq) ∧ w.cell? ⟨b, o + k * 8 + 2, none⟩ = some (.int .i64 r.ans.code) ∧ w.cell? ⟨b, o + k * 8 + 3, none⟩ = some (.int .u64 r.ans.id) ∧ w.cell? ⟨b, o + k * 8 + 4, none⟩ = some (.int .u64 r.ans.tok) ∧ w.cell? ⟨b, o + k * 8 + 5, none⟩ = some (.int .u64 r.ans.unt) ∧ w.cell? ⟨b, o + k * 8 + 6, none⟩ = some (.string r.ans.tgt) ∧ w.cell? ⟨b, o + k * 8 + 7, none⟩ = some (.string r.ans.cmd) :=
 ⟨h 0 (by decide), h 1 (by decide), h 2 (by decide), h 3 (by decide), h 4 (by decide), h 5 (by decide), h 6 (by decide), h 7 (by decide)⟩
set_option maxRecDepth 100000 in
set_option maxHeartbeats 2000000 in
set_option linter.unusedSimpArgs false in
theorem same_any_S (w : World) (D D' : Nat → Prop) (v u : Value) (l L : List Ro) (h : Many Ro.cells 8 w D v l) (H : Many Ro.cells 8 w D' u L) : Calls Tryz.prog 40 #[v, u] w (TellsB (decide (l = L)) w) := by
 obtain ⟨A, c, rfl⟩ := h.shape
 obtain ⟨B, d, rfl⟩ := H.shape
 have hfew := h.few
 unfold maxLen at hfew
 by_cases hl : l.length = L.length
 ·
  have HH := Lib.hid h
  have HHH := Lib.hid H
  have HE := Lib.hid hl
  clear h H
  have hl' : ((l.length : Int) != (L.length : Int)) = false := by rw [hl, bne_self_eq_false]
  go_enter Tryz.func40, Tryz.ntmps40
  go_wp2
  go_loopw [5] (fun i wr => ∃ (k : Nat), k ≤ l.length ∧ i = .int .i64 k ∧ Keep noneOf w wr ∧ ∀ j : Nat, j < k → l[j]? = L[j]?) (fun i _ => l.length - (intOf i).toNat)
  case atStart => exact ⟨0, Nat.zero_le _, rfl, Keep.refl _ _, fun j hj => absurd hj (Nat.not_lt_zero _)⟩
  case round =>
   obtain ⟨k, hk, rfl, hkeep, hsame⟩ := hrel
   have HKP := Lib.hid hkeep
   have HS := Lib.hid hsame
   clear hsame
   by_cases hlt : k < l.length
   ·
    have hx : l[k]? = some l[k] := List.getElem?_eq_getElem hlt
    have hy : L[k]? = some (L[k]'(by omega)) := List.getElem?_eq_getElem (by omega)
    obtain ⟨b, o, rfl, hblk, _, hcell⟩ := HH.out.cell (fun _ => rfl) hx
    obtain ⟨b', o', rfl, hblk', _, hcell'⟩ := HHH.out.cell (fun _ => rfl) hy
    have HXY : Hid (l[k]? = some l[k] ∧ L[k]? = some (L[k]'(by omega))) := Lib.hid ⟨hx, hy⟩
    generalize l[k] = x at *
    generalize (L[k]'(by omega)) = y at *
    have q0 : (0 : Int) ≤ (k : Int) := by omega
    have q1 : (k : Int) < (l.length : Int) := by omega
    have q2 : (k : Int) < (L.length : Int) := by omega
    have q3 : k < L.length := by omega
    have MC : Hid (∀ w', Keep noneOf wr w' → _) := Lib.hid fun w' k' => And.intro (ro_cells b o k w' x (fun j hj => ((hkeep.trans k' (fun _ _ h => h)).cell (p := ⟨b, o + (k * 8 + j), none⟩) hblk id).trans (hcell j hj))) (ro_cells b' o' k w' y (fun j hj => ((hkeep.trans k' (fun _ _ h => h)).cell (p := ⟨b', o' + (k * 8 + j), none⟩) hblk' id).trans (hcell' j hj)))
    obtain ⟨nq, hnq⟩ : ∃ nq, (!decide (x = y)) = nq := ⟨_, rfl⟩
    have hneq : ∀ w', (binOp .neq 115 x.agg y.agg).run Tryz.prog w' = .ok (.bool nq) w' := fun w' => by rw [← hnq]; exact run_neqR w' x y
    have HNQ := Lib.hid hnq
    clear hnq
    obtain ⟨x1, x2, ⟨x3, x4, x5, x6, x7, x8⟩⟩ := x
    obtain ⟨y1, y2, ⟨y3, y4, y5, y6, y7, y8⟩⟩ := y
    unfold Ro.agg at hneq
    dsimp only at MC hneq
    clear hx hy hcell hcell' hkeep
    go_upto_region 6 with fail
    refine wp_region_held_drew (S := fun w' => Keep noneOf wr w') (by kernel_rfl) (Keep.refl noneOf wr).drew (fun hHeld => ?_)
    refine' ztk 0 _ rfl (.inl ⟨by kernel_rfl, ?hy0⟩) ?_
    case hy0 => intro w' hSw; obtain ⟨⟨_, _, _, _, _, _, _, _⟩, _, _, _, _, _, _, _, _⟩ := MC.out w' hSw; go_simp; try with_reducible rfl
    simp only [Act.put, zga, zgb, zgc, zgd, zge, zgf]
    refine' ztk 1 _ rfl (.inl ⟨by kernel_rfl, ?hy1⟩) ?_
    case hy1 => intro w' hSw; obtain ⟨⟨_, _, _, _, _, _, _, _⟩, _, _, _, _, _, _, _, _⟩ := MC.out w' hSw; go_simp; try with_reducible rfl
    simp only [Act.put, zga, zgb, zgc, zgd, zge, zgf]
    refine' ztk 2 _ rfl (.inl ⟨by kernel_rfl, ?hy2⟩) ?_
    case hy2 => intro w' hSw; obtain ⟨⟨_, _, _, _, _, _, _, _⟩, _, _, _, _, _, _, _, _⟩ := MC.out w' hSw; go_simp; try with_reducible rfl
    simp only [Act.put, zga, zgb, zgc, zgd, zge, zgf]
    refine' ztk 3 _ rfl (.inl ⟨by kernel_rfl, ?hy3⟩) ?_
    case hy3 => intro w' hSw; obtain ⟨⟨_, _, _, _, _, _, _, _⟩, _, _, _, _, _, _, _, _⟩ := MC.out w' hSw; go_simp; try with_reducible rfl
    simp only [Act.put, zga, zgb, zgc, zgd, zge, zgf]
    refine' ztk 4 _ rfl (.inl ⟨by kernel_rfl, ?hy4⟩) ?_
    case hy4 => intro w' hSw; obtain ⟨⟨_, _, _, _, _, _, _, _⟩, _, _, _, _, _, _, _, _⟩ := MC.out w' hSw; go_simp; try with_reducible rfl
    simp only [Act.put, zga, zgb, zgc, zgd, zge, zgf]
    refine' ztk 5 _ rfl (.inl ⟨by kernel_rfl, ?hy5⟩) ?_
    case hy5 => intro w' hSw; obtain ⟨⟨_, _, _, _, _, _, _, _⟩, _, _, _, _, _, _, _, _⟩ := MC.out w' hSw; go_simp; try with_reducible rfl
    simp only [Act.put, zga, zgb, zgc, zgd, zge, zgf]
    refine' ztk 6 _ rfl (.inl ⟨by kernel_rfl, ?hy6⟩) ?_
    case hy6 => intro w' hSw; obtain ⟨⟨_, _, _, _, _, _, _, _⟩, _, _, _, _, _, _, _, _⟩ := MC.out w' hSw; go_simp; try with_reducible rfl
    simp only [Act.put, zga, zgb, zgc, zgd, zge, zgf]
    refine' ztk 7 _ rfl (.inl ⟨by kernel_rfl, ?hy7⟩) ?_
    case hy7 => intro w' hSw; obtain ⟨⟨_, _, _, _, _, _, _, _⟩, _, _, _, _, _, _, _, _⟩ := MC.out w' hSw; go_simp; try with_reducible rfl
    simp only [Act.put, zga, zgb, zgc, zgd, zge, zgf]
    refine' ztk 8 _ rfl (.inl ⟨by kernel_rfl, ?hy8⟩) ?_
    case hy8 => intro w' hSw; obtain ⟨⟨_, _, _, _, _, _, _, _⟩, _, _, _, _, _, _, _, _⟩ := MC.out w' hSw; go_simp; try with_reducible rfl
    simp only [Act.put, zga, zgb, zgc, zgd, zge, zgf]
    refine wpAnyH_done (by kernel_rfl) ?_ _
    have HW := Lib.hid hHeld
    clear hHeld hneq MC
    cases nq with
    | true =>
     have e : decide (l = L) = false := decide_eq_false (fun e => by
      have h1 := HXY.out
      rw [e, h1.2] at h1
      have h2 := HNQ.out
      injection h1.1 with h1
      rw [h1] at h2
      simp at h2)
     have HE2 := Lib.hid e
     clear e
     go_wp2
     go_ret
     exact ⟨ret_bool HE2.out.symm, HKP.out.trans HW.out (fun _ _ h => h)⟩
    | false =>
     have e : l[k]? = L[k]? := by
      have h1 := HXY.out
      have h2 := HNQ.out
      rw [h1.1, h1.2]
      simpa using h2
     have HEQ := Lib.hid e
     clear e
     go_wp2
     go_roundw
     case rel => exact ⟨k + 1, by omega, by go_num, HKP.out.trans HW.out (fun _ _ h => h), fun j hj => by
      rcases Nat.lt_or_ge j k with h1 | h1
      ·
       exact HS.out j h1
      ·
       obtain rfl : j = k := by omega
       exact HEQ.out⟩
     case measure => simp [intOf]; omega
   ·
    have hkn : ¬ ((k : Int) < (l.length : Int)) := by omega
    have e : decide (l = L) = true := decide_eq_true (list_same (fun j hj => HS.out j (by omega)) HE.out)
    have HE2 := Lib.hid e
    clear hkeep e
    go_wp2
    go_ret
    exact ⟨ret_bool HE2.out.symm, HKP.out⟩
 ·
  have e : decide (l = L) = false := decide_eq_false (fun e => hl (by rw [e]))
  rw [e]
  have hl' : ((l.length : Int) != (L.length : Int)) = true := bne_iff_ne.2 (by omega)
  clear h H e hl
  go_enter Tryz.func40, Tryz.ntmps40
  go_wp2
  go_ret
  exact ⟨rfl, Keep.refl _ _⟩
end Go.Proofs.YtffoeodjbbkdjaaGreat
namespace Go.Proofs.YtffoeodjbbkdjaaGreat
open Go.Shelf Go.RowKit Go.Maps
def atI : List Ro → Int → Option Nat
 | [], _ => none
 | r :: l, x => if r.id = x then some 0 else (atI l x).map (· + 1)
def atV (o : Option Nat) : Int := match o with
 | none => -1
 | some k => k
theorem at_found : ∀ {l : List Ro} {x : Int} {k : Nat} {r : Ro}, l[k]? = some r → r.id = x → (∀ (j : Nat) (r' : Ro), j < k → l[j]? = some r' → r'.id ≠ x) → atI l x = some k
 | [], x, k, r, h, _, _ => by simp at h
 | g :: l, x, 0, r, h, hx, _ => by
  simp at h
  subst h
  unfold atI
  rw [if_pos hx]
 | g :: l, x, k + 1, r, h, hx, hn => by
  simp at h
  unfold atI
  rw [if_neg (hn 0 g (Nat.succ_pos _) rfl), at_found h hx (fun j r' hj hr => hn (j + 1) r' (by omega) (by simpa using hr))]
  rfl
theorem at_missing : ∀ {l : List Ro} {x : Int}, (∀ (j : Nat) (r' : Ro), l[j]? = some r' → r'.id ≠ x) → atI l x = none
 | [], x, _ => rfl
 | g :: l, x, h => by
  unfold atI
  rw [if_neg (h 0 g rfl), at_missing (fun j r' hr => h (j + 1) r' (by simpa using hr))]
  rfl
theorem at_is : ∀ (l : List Ro) (x : Int), match atI l x with
  | none => findR l x = none
  | some k => ∃ r, l[k]? = some r ∧ findR l x = some r
 | [], x => rfl
 | g :: l, x => by
  unfold atI findR
  by_cases h : g.id = x
  ·
   rw [if_pos h, List.find?_cons_of_pos (by simpa using h)]
   exact ⟨g, rfl, rfl⟩
  ·
   rw [if_neg h, List.find?_cons_of_neg (by simpa using h)]
   have ih := at_is l x
   cases hq : atI l x with
   | none => rw [hq] at ih; exact ih
   | some k =>
    rw [hq] at ih
    obtain ⟨r, hr, hf⟩ := ih
    exact ⟨r, by simpa using hr, hf⟩
theorem at_none {l : List Ro} {x : Int} (h : findR l x = none) : atI l x = none := by
 have := at_is l x
 cases hq : atI l x with
 | none => rfl
 | some k =>
  rw [hq] at this
  obtain ⟨r, _, hf⟩ := this
  rw [h] at hf
  cases hf
theorem at_some {l : List Ro} {x : Int} {r : Ro} (h : findR l x = some r) : ∃ k, atI l x = some k ∧ l[k]? = some r := by
 have := at_is l x
 cases hq : atI l x with
 | none =>
  rw [hq] at this
  rw [h] at this
  cases this
 | some k =>
  rw [hq] at this
  obtain ⟨r', hr, hf⟩ := this
  rw [h] at hf
  injection hf with hf
  subst hf
  exact ⟨k, rfl, hr⟩
set_option maxRecDepth 100000 in
set_option maxHeartbeats 1000000 in
theorem at_any (w : World) (D : Nat → Prop) (v : Value) (l : List Ro) (x : Int) (h : Many Ro.cells 8 w D v l) : Calls Tryz.prog 66 #[v, .int .u64 x] w fun e w' => e = .returned (.int .i64 (atV (atI l x))) ∧ w' = w := by
 obtain ⟨A, c, rfl⟩ := h.shape
 have hfew := h.few
 unfold maxLen at hfew
 have HH := Lib.hid h
 clear h
 go_enter Tryz.func66, Tryz.ntmps66
 go_wp2
 go_loopw [5] (fun i wr => ∃ (k : Nat), k ≤ l.length ∧ i = .int .i64 k ∧ wr = w ∧ ∀ j r', j < k → l[j]? = some r' → r'.id ≠ x) (fun i _ => l.length - (intOf i).toNat)
 case atStart => exact ⟨0, Nat.zero_le _, rfl, rfl, fun j r' hj => absurd hj (Nat.not_lt_zero _)⟩
 case round =>
  obtain ⟨k, hk, rfl, rfl, hne⟩ := hrel
  have HN := Lib.hid hne
  clear hne
  by_cases hlt : k < l.length
  ·
   have hx : l[k]? = some l[k] := List.getElem?_eq_getElem hlt
   obtain ⟨b, o, rfl, hblk, _, hcell⟩ := HH.out.cell (fun _ => rfl) hx
   have HX := Lib.hid hx
   generalize l[k] = r at *
   obtain ⟨c0, -⟩ := ro_cells b o k _ r hcell
   have q0 : (0 : Int) ≤ (k : Int) := by omega
   have q1 : (k : Int) < (l.length : Int) := by omega
   clear hx hcell
   by_cases he : r.id = x
   ·
    have HA := Lib.hid (at_found HX.out he HN.out)
    have g : (r.id == x) = true := beq_iff_eq.2 he
    clear he
    go_wp2
    go_ret
    exact ⟨by rw [HA.out]; rfl, rfl⟩
   ·
    have g : (r.id == x) = false := beq_eq_false_iff_ne.2 he
    have HE := Lib.hid he
    clear he
    go_wp2
    go_roundw
    case rel => exact ⟨k + 1, by omega, by go_num, by trivial, fun j r' hj hr => by
     rcases Nat.lt_or_ge j k with h1 | h1
     ·
      exact HN.out j r' h1 hr
     ·
      obtain rfl : j = k := by omega
      rw [HX.out] at hr
      injection hr with hr
      rw [← hr]
      exact HE.out⟩
    case measure => simp [intOf]; omega
  ·
   have hkn : ¬ ((k : Int) < (l.length : Int)) := by omega
   have HA := Lib.hid (at_missing (l := l) (x := x) (fun j r' hr => HN.out j r' (by have := (List.getElem?_eq_some_iff.1 hr).1; omega) hr))
   clear hlt
   go_wp2
   go_ret
   exact ⟨by rw [HA.out]; rfl, rfl⟩
theorem box_six (w : World) (x0 x1 x2 x3 x4 x5 : Value) (t : TypeId) (wf : World) (e : wf = w.alloc (.cells #[x0, x1, x2, x3, x4, x5] t)) :
  wf.cell? ⟨w.heap.size, 0, none⟩ = some x0 ∧ wf.cell? ⟨w.heap.size, 1, none⟩ = some x1 ∧ wf.cell? ⟨w.heap.size, 2, none⟩ = some x2 ∧ wf.cell? ⟨w.heap.size, 3, none⟩ = some x3 ∧ wf.cell? ⟨w.heap.size, 4, none⟩ = some x4 ∧ wf.cell? ⟨w.heap.size, 5, none⟩ = some x5 ∧ Keep noneOf w wf := by
 subst e
 have x := Box.new w t #[x0, x1, x2, x3, x4, x5]
 exact ⟨x.cell 0, x.cell 1, x.cell 2, x.cell 3, x.cell 4, x.cell 5, (Keep.refl noneOf w).alloc _⟩
set_option maxRecDepth 100000 in
set_option maxHeartbeats 1000000 in
theorem refLook_any (w : World) (D : Nat → Prop) (v : Value) (l : List Ro) (x s : Int) (h : Many Ro.cells 8 w D v l) :
  Calls Tryz.prog 29 #[v, .int .u64 x, .int .u64 s] w fun e w' => e = .returned (.tuple #[(lookA l x s).agg, .bool (lookB l x s), .int .i64 (lookE l x s)]) ∧ Keep noneOf w w' := by
 obtain ⟨A, c, rfl⟩ := h.shape
 have hfew := h.few
 unfold maxLen at hfew
 have HAT : Hid (∀ o, Calls Tryz.prog 66 #[.slice A l.length c, .int .u64 x] (w.alloc o) fun e w' => e = .returned (.int .i64 (atV (atI l x))) ∧ w' = w.alloc o) := Lib.hid fun o => at_any _ D _ l x (h.keep ((Keep.refl noneOf w).alloc o) (fun _ _ _ => id))
 have hz := zeroA
 unfold An.agg An.zero at hz
 cases hq : findR l x with
 | none =>
  have e1 : lookA l x s = .zero := by unfold lookA; rw [hq]
  have e2 : lookB l x s = false := by unfold lookB; rw [hq]
  have e3 : lookE l x s = 110 := by unfold lookE; rw [hq]
  rw [e1, e2, e3]
  rw [at_none hq] at HAT
  unfold atV at HAT
  dsimp only at HAT
  clear h e1 e2 e3 hq
  go_enter Tryz.func29, Tryz.ntmps29
  go_wp2_with fail
  refine (HAT.out _).mono ?_
  rintro e w1 ⟨rfl, rfl⟩
  go_wp2
  generalize hwf : (w.alloc (.cells #[.int .i64 0, .int .u64 0, .int .u64 0, .int .u64 0, .string ⟨#[]⟩, .string ⟨#[]⟩] 40)) = wf
  obtain ⟨r0, r1, r2, r3, r4, r5, K⟩ := box_six w _ _ _ _ _ _ _ wf hwf.symm
  exact bodyPost_ret (v := .tuple #[An.zero.agg, .bool false, .int .i64 110]) (by simp [results, Tryz.results29, go_sem, r0, r1, r2, r3, r4, r5]; rfl) rfl ⟨rfl, K⟩
 | some r =>
  obtain ⟨k, hat, hk⟩ := at_some hq
  rw [hat] at HAT
  unfold atV at HAT
  dsimp only at HAT
  obtain ⟨b, o, rfl, hblk, _, hcell⟩ := h.cell (fun _ => rfl) hk
  have hkl := (List.getElem?_eq_some_iff.1 hk).1
  have q0 : (0 : Int) ≤ (k : Int) := by omega
  have q1 : (k : Int) < (l.length : Int) := by omega
  have q2 : ¬ ((k : Int) < 0) := by omega
  obtain ⟨e1, e2, e3⟩ := look_at (s := s) hq
  obtain ⟨i, sq, ⟨ac, ai, at_, au, ag, am⟩⟩ := r
  obtain ⟨c0, c1, c2, c3, c4, c5, c6, c7⟩ := ro_cells b o k _ _ hcell
  dsimp only at e1 e2 e3 c0 c1 c2 c3 c4 c5 c6 c7
  clear h hq hat hk hcell hkl
  by_cases hs : s < sq ∨ s = 0
  ·
   rw [if_pos hs] at e3
   rw [if_neg (by omega)] at e1
   rw [decide_eq_false (by omega)] at e2
   rw [e1, e2, e3]
   clear e1 e2 e3
   by_cases hs0 : s = 0
   ·
    subst hs0
    clear hs
    go_enter Tryz.func29, Tryz.ntmps29
    go_wp2_with fail
    refine (HAT.out _).mono ?_
    rintro e w1 ⟨rfl, rfl⟩
    go_wp2
    generalize hwf : (w.alloc (.cells #[.int .i64 0, .int .u64 0, .int .u64 0, .int .u64 0, .string ⟨#[]⟩, .string ⟨#[]⟩] 40)) = wf
    obtain ⟨r0, r1, r2, r3, r4, r5, K⟩ := box_six w _ _ _ _ _ _ _ wf hwf.symm
    exact bodyPost_ret (v := .tuple #[An.zero.agg, .bool false, .int .i64 111]) (by simp [results, Tryz.results29, go_sem, r0, r1, r2, r3, r4, r5]; rfl) rfl ⟨rfl, K⟩
   ·
    have g0 : (s == 0) = false := beq_eq_false_iff_ne.2 hs0
    have g1 : s < sq := by omega
    clear hs hs0
    go_enter Tryz.func29, Tryz.ntmps29
    go_wp2_with fail
    refine (HAT.out _).mono ?_
    rintro e w1 ⟨rfl, rfl⟩
    go_wp2
    generalize hwf : (w.alloc (.cells #[.int .i64 0, .int .u64 0, .int .u64 0, .int .u64 0, .string ⟨#[]⟩, .string ⟨#[]⟩] 40)) = wf
    obtain ⟨r0, r1, r2, r3, r4, r5, K⟩ := box_six w _ _ _ _ _ _ _ wf hwf.symm
    exact bodyPost_ret (v := .tuple #[An.zero.agg, .bool false, .int .i64 111]) (by simp [results, Tryz.results29, go_sem, r0, r1, r2, r3, r4, r5]; rfl) rfl ⟨rfl, K⟩
  ·
   rw [if_neg hs] at e3
   have hs0 : s ≠ 0 := fun e => hs (.inr e)
   have hs1 : ¬ s < sq := fun e => hs (.inl e)
   have g0 : (s == 0) = false := beq_eq_false_iff_ne.2 hs0
   by_cases he : s = sq
   ·
    rw [if_pos ⟨he, hs0⟩] at e1
    rw [decide_eq_true ⟨he, hs0⟩] at e2
    rw [e1, e2, e3]
    subst he
    clear e1 e2 e3 hs hs0
    go_enter Tryz.func29, Tryz.ntmps29
    go_wp2_with fail
    refine (HAT.out _).mono ?_
    rintro e w1 ⟨rfl, rfl⟩
    go_wp2
    generalize hwf : (w.alloc (.cells #[.int .i64 ac, .int .u64 ai, .int .u64 at_, .int .u64 au, .string ag, .string am] 40)) = wf
    obtain ⟨r0, r1, r2, r3, r4, r5, K⟩ := box_six w _ _ _ _ _ _ _ wf hwf.symm
    exact bodyPost_ret (v := .tuple #[An.agg ⟨ac, ai, at_, au, ag, am⟩, .bool true, .int .i64 0]) (by simp [results, Tryz.results29, go_sem, r0, r1, r2, r3, r4, r5]; rfl) rfl ⟨rfl, K⟩
   ·
    rw [if_neg (fun h => he h.1)] at e1
    rw [decide_eq_false (fun h => he h.1)] at e2
    rw [e1, e2, e3]
    have g2 : (s == sq) = false := beq_eq_false_iff_ne.2 he
    clear e1 e2 e3 hs hs0 he
    go_enter Tryz.func29, Tryz.ntmps29
    go_wp2_with fail
    refine (HAT.out _).mono ?_
    rintro e w1 ⟨rfl, rfl⟩
    go_wp2
    generalize hwf : (w.alloc (.cells #[.int .i64 0, .int .u64 0, .int .u64 0, .int .u64 0, .string ⟨#[]⟩, .string ⟨#[]⟩] 40)) = wf
    obtain ⟨r0, r1, r2, r3, r4, r5, K⟩ := box_six w _ _ _ _ _ _ _ wf hwf.symm
    exact bodyPost_ret (v := .tuple #[An.zero.agg, .bool false, .int .i64 0]) (by simp [results, Tryz.results29, go_sem, r0, r1, r2, r3, r4, r5]; rfl) rfl ⟨rfl, K⟩
end Go.Proofs.YtffoeodjbbkdjaaGreat
