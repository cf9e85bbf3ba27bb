import Derived.RangeFuncBound
import Derived.RangeFuncCalls
import Derived.RangeFuncLeaves
import Derived.RangeFuncNested
import Derived.Test.YtdikmmdkpfmocaaBs01
namespace Go.Proofs.Ytdikmmdkpfmocaa
open Go.RowKit
section
variable {F : Fence} {n : Nat} {P : Program}
def Looped (l d : Nat) (r : Loop) (W : World) : Prop := W.heap[l]? = some (.loop r) ∧ W.heap[d]? = some (.deferred (some []))
def goesOn (K : World → Prop) (W : World) : Exit → Act → World → Prop
  | .normal, _, W' => KeepsOthers W W' ∧ K W'
  | _, _, _ => False
theorem range_over {α : Type} {g : Operand} {ps : Array Tmp} {assign body : Code} {Q : Exit → Act → World → Prop} {a : Act} {w : World}
    (hro : F.round = none) (h1 : 1 ≤ n) {gf : Nat} {lb : Array Value} (hg : a.eval g = .func (.func gf) #[] lb) (hFg : F.fn gf) (eg : ∀ args w, (callFunc gf args).run P w = .ok (.enter gf args) w)
    {encs : α → Array Value} (hps : ∀ x, (encs x).size = ps.size)
    (J : List α → World → Prop) (Y : List α → α → World → Prop) (Done : World → Prop)
    (hJ : ∀ pre W l r o, w.heap.size ≤ l → J pre W → W.heap[l]? = some (.loop r) → J pre (W.putObj l (.loop o)))
    (hY : ∀ pre x W l r o, w.heap.size ≤ l → Y pre x W → W.heap[l]? = some (.loop r) → Y pre x (W.putObj l (.loop o)))
    (hD : ∀ W l r o, w.heap.size ≤ l → Done W → W.heap[l]? = some (.loop r) → Done (W.putObj l (.loop o)))
    (a₁ : α → Act)
    (hassign : ∀ (l : Nat) (x : α) (W : World) (K : Act → World → Prop), K (a₁ x) W →
      assign.wpIn (F.inRound l) (n - 1 - 1) P (Exit.then K (fun _ _ _ => False)) { tmps := (ps.zip (encs x)).foldl (fun t (p, v) => t.setIfInBounds p v) a.tmps, defers := [] } W)
    (hbody : ∀ (l : Nat) (pre : List α) (x : α) (W : World), Y pre x W → body.wpIn (F.inRound l) (n - 1 - 1) P (goesOn (J (pre ++ [x])) W) (a₁ x) W)
    (hiter : ∀ (l d : Nat) (r : Loop) (W : World), w.heap.size ≤ l → w.heap.size ≤ d → Below w.heap.size w W → Looped l d r W →
      (∀ pre x W1, Y pre x W1 → Looped l d r W1 → YieldAt F (n - 1 - 1) P l (encs x) W1 fun e W2 => e = .returned (.bool true) ∧ J (pre ++ [x]) W2 ∧ Looped l d r W2) →
      CallsIn F (n - 1) P gf (#[.func (.yield l) #[] #[]] ++ lb) W fun e W2 => (∃ v, e = .returned v) ∧ Done W2 ∧ Looped l d r W2)
    (hdone : ∀ (d : Nat) (W : World), w.heap.size ≤ d → Done W → W.heap[d]? = some (.deferred (some [])) → Q .normal { a with defers := { target := .collected d, args := #[] } :: a.defers } W) :
    (Code.rangeFunc g ps assign body).wpIn F n P Q a w := by
  refine wpIn_rangeFunc fun fn hfn => ?_
  rw [hro]
  -- the loop's record, ready
  obtain ⟨r, hr⟩ : ∃ r : Loop, r = { state := .ready, pending := none, fn := fn, tmps := a.tmps, params := ps, assign := assign, body := body, defers := w.heap.size } := ⟨_, rfl⟩
  have hL : Looped (w.heap.size + 1) w.heap.size r ((w.alloc (.deferred (some []))).alloc (.loop r)) := by
    refine ⟨?_, ?_⟩
    · have := World.alloc_heap_new (w.alloc (.deferred (some []))) (.loop r)
      rwa [World.size_alloc] at this
    · exact (Below.heap_alloc _ _ _ (by simp)).trans (World.alloc_heap_new w _)
  have hB : Below w.heap.size w ((w.alloc (.deferred (some []))).alloc (.loop r)) := ((Below.refl _ w).alloc (Nat.le_refl _) _).alloc (by simp) _
  have hrun : (Instr.enterLoop fn a.tmps ps assign body none).run P w = .ok (w.heap.size + 1, [{ target := .collected w.heap.size, args := #[] }]) ((w.alloc (.deferred (some []))).alloc (.loop r)) := by rw [hr]; exact run_enterLoop_outer _ _ _ _ _
  generalize (w.alloc (.deferred (some []))).alloc (.loop r) = W1 at *
  have hround : ∀ pre x W, Y pre x W → Looped (w.heap.size + 1) w.heap.size r W → YieldAt F (n - 1 - 1) P (w.heap.size + 1) (encs x) W fun e W2 => e = .returned (.bool true) ∧ J (pre ++ [x]) W2 ∧ Looped (w.heap.size + 1) w.heap.size r W2 := by
    intro pre x W hy ⟨hl, hd⟩
    have hlt : w.heap.size + 1 < W.heap.size := (Array.getElem?_eq_some_iff.1 hl).1
    have hyr := run_yield (P := P) (args := encs x) hl (by rw [hr]; exact hps x)
    have hbr := run_beginRound (P := P) hl (by rw [hr])
    have e1 : r.fn = fn := by rw [hr]
    have e2 : r.params = ps := by rw [hr]
    have e3 : r.tmps = a.tmps := by rw [hr]
    have e4 : r.assign = assign := by rw [hr]
    have e5 : r.body = body := by rw [hr]
    rw [e1, e2, e3, e4, e5] at hyr
    refine ⟨fn, _, assign, body, hyr, roundIn_of_wpIn hfn (hassign _ x W _ ⟨_, hbr, ?_⟩)⟩
    have hl2 : (W.putObj (w.heap.size + 1) (.loop { r with state := .busy })).heap[w.heap.size + 1]? = some (.loop { r with state := .busy }) := World.putObj_heap_same hlt
    have hd2 : (W.putObj (w.heap.size + 1) (.loop { r with state := .busy })).heap[w.heap.size]? = some (.deferred (some [])) := (World.putObj_heap_other (by omega)).trans hd
    refine wpIn_mono (hbody _ pre x _ (hY _ _ _ _ _ _ (Nat.le_succ _) hy hl)) ?_
    intro ex a' W3 hx
    cases ex with
    | normal =>
      obtain ⟨hk, hj⟩ := hx
      have hl3 := hk.same _ _ hl2 rfl
      have hd3 := hk.same _ _ hd2 rfl
      have e6 : ({ { r with state := .busy } with state := .ready, pending := none } : Loop) = r := by rw [hr]
      have her := run_endRound (P := P) none hl3
      simp only [Option.isNone_none, if_true] at her
      refine ⟨_, _, her, rfl, hJ _ _ _ _ _ (Nat.le_succ _) hj hl3, ?_, ?_⟩
      · rw [← e6]; exact World.putObj_heap_same (Array.getElem?_eq_some_iff.1 hl3).1
      · exact (World.putObj_heap_other (by omega)).trans hd3
    | _ => exact hx.elim
  have hc := hiter (w.heap.size + 1) w.heap.size r W1 (Nat.le_succ _) (Nat.le_refl _) hB hL hround
  refine ⟨w.heap.size + 1, [{ target := .collected w.heap.size, args := #[] }], W1, { target := .fn (.func gf) lb, args := #[.func (.yield (w.heap.size + 1)) #[] #[]] }, W1, gf, #[.func (.yield (w.heap.size + 1)) #[] #[]] ++ lb, W1, hrun, ?_, ?_, ?_, fun _ => h1, ?_⟩
  · simp only [resolve, hg]
    simp [go_sem]
  · intro f' hf'
    simp [Target.leads] at hf'
    subst hf'
    exact hFg
  · simp [invoke, go_sem, eg]
  · refine hc.mono ?_
    rintro e W ⟨⟨v, rfl⟩, hdn, hl, hd⟩
    have hel := run_endLoop (P := P) hl (by rw [hr]; exact fun h => by cases h)
    have e7 : r.pending = none := by rw [hr]
    rw [e7] at hel
    refine ⟨none, _, hel, ?_⟩
    exact hdone _ _ (Nat.le_refl _) (hD _ _ _ _ (Nat.le_succ _) hdn hl) ((World.putObj_heap_other (by omega)).trans hd)
theorem range_over2 {α : Type} {g : Operand} {ps : Array Tmp} {assign body : Code} {Q : Exit → Act → World → Prop} {a : Act} {w : World}
    (hro : F.round = none) (h1 : 1 ≤ n) {gf : Nat} {lb : Array Value} (hg : a.eval g = .func (.func gf) #[] lb) (hFg : F.fn gf) (eg : ∀ args w, (callFunc gf args).run P w = .ok (.enter gf args) w)
    {encs : α → Array Value} (hps : ∀ x, (encs x).size = ps.size)
    (J : List α → World → Prop) (Y : List α → α → World → Prop) (Done : World → Prop)
    (hJ : ∀ pre W l r o, w.heap.size ≤ l → J pre W → W.heap[l]? = some (.loop r) → J pre (W.putObj l (.loop o)))
    (hY : ∀ pre x W l r o, w.heap.size ≤ l → Y pre x W → W.heap[l]? = some (.loop r) → Y pre x (W.putObj l (.loop o)))
    (hD : ∀ W l r o, w.heap.size ≤ l → Done W → W.heap[l]? = some (.loop r) → Done (W.putObj l (.loop o)))
    (Ax : α → Act → World → Prop)
    (hA : ∀ x a' W l r o, Ax x a' W → W.heap[l]? = some (.loop r) → Ax x a' (W.putObj l (.loop o)))
    (hassign : ∀ (l : Nat) (pre : List α) (x : α) (W : World) (K : Act → World → Prop), Y pre x W → (∀ a' W', KeepsOthers W W' → Y pre x W' → Ax x a' W' → K a' W') →
      assign.wpIn (F.inRound l) (n - 1 - 1) P (Exit.then K (fun _ _ _ => False)) { tmps := (ps.zip (encs x)).foldl (fun t (p, v) => t.setIfInBounds p v) a.tmps, defers := [] } W)
    (hbody : ∀ (l : Nat) (pre : List α) (x : α) (a' : Act) (W : World), Y pre x W → Ax x a' W → body.wpIn (F.inRound l) (n - 1 - 1) P (goesOn (J (pre ++ [x])) W) a' W)
    (hiter : ∀ (l d : Nat) (r : Loop) (W : World), w.heap.size ≤ l → w.heap.size ≤ d → Below w.heap.size w W → Looped l d r W →
      (∀ pre x W1, Y pre x W1 → Looped l d r W1 → YieldAt F (n - 1 - 1) P l (encs x) W1 fun e W2 => e = .returned (.bool true) ∧ J (pre ++ [x]) W2 ∧ Looped l d r W2) →
      CallsIn F (n - 1) P gf (#[.func (.yield l) #[] #[]] ++ lb) W fun e W2 => (∃ v, e = .returned v) ∧ Done W2 ∧ Looped l d r W2)
    (hdone : ∀ (d : Nat) (W : World), w.heap.size ≤ d → Done W → W.heap[d]? = some (.deferred (some [])) → Q .normal { a with defers := { target := .collected d, args := #[] } :: a.defers } W) :
    (Code.rangeFunc g ps assign body).wpIn F n P Q a w := by
  refine wpIn_rangeFunc fun fn hfn => ?_
  rw [hro]
  -- the loop's record, ready
  obtain ⟨r, hr⟩ : ∃ r : Loop, r = { state := .ready, pending := none, fn := fn, tmps := a.tmps, params := ps, assign := assign, body := body, defers := w.heap.size } := ⟨_, rfl⟩
  have hL : Looped (w.heap.size + 1) w.heap.size r ((w.alloc (.deferred (some []))).alloc (.loop r)) := by
    refine ⟨?_, ?_⟩
    · have := World.alloc_heap_new (w.alloc (.deferred (some []))) (.loop r)
      rwa [World.size_alloc] at this
    · exact (Below.heap_alloc _ _ _ (by simp)).trans (World.alloc_heap_new w _)
  have hB : Below w.heap.size w ((w.alloc (.deferred (some []))).alloc (.loop r)) := ((Below.refl _ w).alloc (Nat.le_refl _) _).alloc (by simp) _
  have hrun : (Instr.enterLoop fn a.tmps ps assign body none).run P w = .ok (w.heap.size + 1, [{ target := .collected w.heap.size, args := #[] }]) ((w.alloc (.deferred (some []))).alloc (.loop r)) := by rw [hr]; exact run_enterLoop_outer _ _ _ _ _
  generalize (w.alloc (.deferred (some []))).alloc (.loop r) = W1 at *
  have hround : ∀ pre x W, Y pre x W → Looped (w.heap.size + 1) w.heap.size r W → YieldAt F (n - 1 - 1) P (w.heap.size + 1) (encs x) W fun e W2 => e = .returned (.bool true) ∧ J (pre ++ [x]) W2 ∧ Looped (w.heap.size + 1) w.heap.size r W2 := by
    intro pre x W hy ⟨hl, hd⟩
    have hyr := run_yield (P := P) (args := encs x) hl (by rw [hr]; exact hps x)
    have e1 : r.fn = fn := by rw [hr]
    have e2 : r.params = ps := by rw [hr]
    have e3 : r.tmps = a.tmps := by rw [hr]
    have e4 : r.assign = assign := by rw [hr]
    have e5 : r.body = body := by rw [hr]
    rw [e1, e2, e3, e4, e5] at hyr
    refine ⟨fn, _, assign, body, hyr, roundIn_of_wpIn hfn (hassign _ pre x W _ hy ?_)⟩
    intro a1 W0 hko hy hax
    replace hl := hko.same _ _ hl rfl
    replace hd := hko.same _ _ hd rfl
    have hlt : w.heap.size + 1 < W0.heap.size := (Array.getElem?_eq_some_iff.1 hl).1
    have hbr := run_beginRound (P := P) hl (by rw [hr])
    refine ⟨_, hbr, ?_⟩
    have hl2 : (W0.putObj (w.heap.size + 1) (.loop { r with state := .busy })).heap[w.heap.size + 1]? = some (.loop { r with state := .busy }) := World.putObj_heap_same hlt
    have hd2 : (W0.putObj (w.heap.size + 1) (.loop { r with state := .busy })).heap[w.heap.size]? = some (.deferred (some [])) := (World.putObj_heap_other (by omega)).trans hd
    refine wpIn_mono (hbody _ pre x _ _ (hY _ _ _ _ _ _ (Nat.le_succ _) hy hl) (hA _ _ _ _ _ _ hax hl)) ?_
    intro ex a' W3 hx
    cases ex with
    | normal =>
      obtain ⟨hk, hj⟩ := hx
      have hl3 := hk.same _ _ hl2 rfl
      have hd3 := hk.same _ _ hd2 rfl
      have e6 : ({ { r with state := .busy } with state := .ready, pending := none } : Loop) = r := by rw [hr]
      have her := run_endRound (P := P) none hl3
      simp only [Option.isNone_none, if_true] at her
      refine ⟨_, _, her, rfl, hJ _ _ _ _ _ (Nat.le_succ _) hj hl3, ?_, ?_⟩
      · rw [← e6]; exact World.putObj_heap_same (Array.getElem?_eq_some_iff.1 hl3).1
      · exact (World.putObj_heap_other (by omega)).trans hd3
    | _ => exact hx.elim
  have hc := hiter (w.heap.size + 1) w.heap.size r W1 (Nat.le_succ _) (Nat.le_refl _) hB hL hround
  refine ⟨w.heap.size + 1, [{ target := .collected w.heap.size, args := #[] }], W1, { target := .fn (.func gf) lb, args := #[.func (.yield (w.heap.size + 1)) #[] #[]] }, W1, gf, #[.func (.yield (w.heap.size + 1)) #[] #[]] ++ lb, W1, hrun, ?_, ?_, ?_, fun _ => h1, ?_⟩
  · simp only [resolve, hg]
    simp [go_sem]
  · intro f' hf'
    simp [Target.leads] at hf'
    subst hf'
    exact hFg
  · simp [invoke, go_sem, eg]
  · refine hc.mono ?_
    rintro e W ⟨⟨v, rfl⟩, hdn, hl, hd⟩
    have hel := run_endLoop (P := P) hl (by rw [hr]; exact fun h => by cases h)
    have e7 : r.pending = none := by rw [hr]
    rw [e7] at hel
    refine ⟨none, _, hel, ?_⟩
    exact hdone _ _ (Nat.le_refl _) (hD _ _ _ _ (Nat.le_succ _) hdn hl) ((World.putObj_heap_other (by omega)).trans hd)
end
theorem own_ge {w : World} {base : Nat} {e : TypeId} {size : Nat} {v : Value} {n : Nat} {ys : List Value} (h : w.ownsRow base e size v n ys) {g : Nat} (hg : v.ownBlock = some g) : base ≤ g ∧ ∃ cur, w.heap[g]? = some (.cells cur e (0, 0)) := by
  rcases h.2 with ⟨rfl, _⟩ | ⟨g', cap, cur, rfl, hb, hg', _⟩
  · cases hg
  · injection hg with hg
    subst hg
    exact ⟨hb, cur, hg'⟩
theorem loop_keep (W : World) (l : Nat) (o : Obj) : Keep (fun k => k = l) W (W.putObj l o) := (Keep.of_grown (grownBy_putObj' W l o)).mono (fun i _ h => by injection h)
theorem Box.not_loop {W : World} {t : TypeId} {cs : Array Value} {g l : Nat} {o : Obj} (h : Box W g t cs) (hl : W.heap[l]? = some o) (ho : o.isCells = false) : ¬ g = l := by
  rintro rfl
  unfold Box at h
  rw [h] at hl
  injection hl with hl
  subst hl
  cases ho
section
variable {W : World}
theorem own_loop {base : Nat} {e : TypeId} {size : Nat} {v : Value} {m : Nat} {ys : List Value} (h : W.ownsRow base e size v m ys) {l : Nat} {o : Obj} (hl : W.heap[l]? = some o) (ho : o.isCells = false) (o' : Obj) : (W.putObj l o').ownsRow base e size v m ys := by
  refine own_keep h (loop_keep W l o') (fun j hj e => ?_)
  obtain ⟨_, cur, hg⟩ := own_ge h hj
  rw [e, hl] at hg
  injection hg with hg
  subst hg
  cases ho
end
end Go.Proofs.Ytdikmmdkpfmocaa
