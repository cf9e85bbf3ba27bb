import Derived.Carry
import Derived.WideMake
import Derived.Test.YtdikmmdkpfmocaaBs07
namespace Go.Proofs.Ytdikmmdkpfmocaa
open Go.RowKit
section
variable {P : Program}
theorem mu_run (w : World) (t e : TypeId) (ht : P.underlying t = some (.map 3 e)) (hi : P.underlying 3 = some (.int .i64)) (es : Array MapEntry) (c : Nat) (k : Int) (v : Value)
    (hf : Instr.findNow (.int .i64) (.int .i64 k) es.toList 0 = some none) :
    (Instr.mapUpdate t (.map (some w.heap.size)) (.int .i64 k) v).run P (w.alloc (.map es c)) = .ok () (w.alloc (.map (es.push { key := .int .i64 k, val := v, born := c }) (c + 1))) := by
  have hb : (w.alloc (.map es c)).heap[w.heap.size]? = some (.map es c) := heap_alloc_new w _
  have hc : (Instr.checkKey false 10000 3 (.int .i64 k)).run P (w.alloc (.map es c)) = .ok () (w.alloc (.map es c)) := MapKept.run_checkKey (k := .int .i64 k) hi (by simp [MapKept.IsKey]) false 9999
  simp [Instr.mapUpdate, run_underlying ht, MapKept.run_getObj_map hb, hc, MapKept.run_findKey hi hf, MapKept.run_setObj_map _ hb, Result.andThen]
  simp [World.alloc, -World.alloc_eq]
  rw [Array.setIfInBounds_def, dif_pos (by simp), Array.set_push]
  simp
theorem lk_run (w : World) (t e : TypeId) (ht : P.underlying t = some (.map 3 e)) (hi : P.underlying 3 = some (.int .i64)) (es : Array MapEntry) (c : Nat) (k : Int) (v : Value) (i : Nat)
    (hf : Instr.findNow (.int .i64) (.int .i64 k) es.toList 0 = some (some (i, v))) :
    (Instr.lookup t (.map (some w.heap.size)) (.int .i64 k) true).run P (w.alloc (.map es c)) = .ok (.tuple #[v, .bool true]) (w.alloc (.map es c)) := by
  have hb : (w.alloc (.map es c)).heap[w.heap.size]? = some (.map es c) := heap_alloc_new w _
  have hc : (Instr.checkKey es.isEmpty 10000 3 (.int .i64 k)).run P (w.alloc (.map es c)) = .ok () (w.alloc (.map es c)) := MapKept.run_checkKey (k := .int .i64 k) hi (by simp [MapKept.IsKey]) _ 9999
  simp [Instr.lookup, run_underlying ht, MapKept.run_getObj_map hb, hc, MapKept.run_findKey hi hf, Result.andThen]
theorem lk_none (w : World) (t e : TypeId) (ht : P.underlying t = some (.map 3 e)) (hi : P.underlying 3 = some (.int .i64)) (es : Array MapEntry) (c : Nat) (k : Int) (z : Value)
    (hz : ∀ w : World, (zeroValue e).run P w = .ok z w) (hf : Instr.findNow (.int .i64) (.int .i64 k) es.toList 0 = some none) :
    (Instr.lookup t (.map (some w.heap.size)) (.int .i64 k) true).run P (w.alloc (.map es c)) = .ok (.tuple #[z, .bool false]) (w.alloc (.map es c)) := by
  have hb : (w.alloc (.map es c)).heap[w.heap.size]? = some (.map es c) := heap_alloc_new w _
  have hc : (Instr.checkKey es.isEmpty 10000 3 (.int .i64 k)).run P (w.alloc (.map es c)) = .ok () (w.alloc (.map es c)) := MapKept.run_checkKey (k := .int .i64 k) hi (by simp [MapKept.IsKey]) _ 9999
  simp [Instr.lookup, run_underlying ht, MapKept.run_getObj_map hb, hc, MapKept.run_findKey hi hf, hz, Result.andThen]
end
def fEnd : Value := .func (.func 31) #[] #[]
def fCons : Value := .func (.func 32) #[] #[]
def fSent : Value := .func (.func 33) #[] #[]
def fTaken : Value := .func (.func 34) #[] #[]
def fChk : Value := .func (.func 35) #[] #[]
def fCkd : Value := .func (.func 36) #[] #[]
def tab : Array MapEntry := #[⟨.int .i64 1, fEnd, 0⟩, ⟨.int .i64 2, fCons, 1⟩, ⟨.int .i64 3, fEnd, 2⟩, ⟨.int .i64 4, fCons, 3⟩, ⟨.int .i64 5, fSent, 4⟩, ⟨.int .i64 6, fTaken, 5⟩, ⟨.int .i64 7, fChk, 6⟩, ⟨.int .i64 8, fCkd, 7⟩]
def fieldsF (k : Int) : Value := if k = 1 ∨ k = 3 then fEnd else if k = 2 ∨ k = 4 then fCons else if k = 5 then fSent else if k = 6 then fTaken else if k = 7 then fChk else if k = 8 then fCkd else .nilFunc
def isKind (k : Int) : Bool := decide (1 ≤ k) && decide (k ≤ 8)
theorem int_und : Try.prog.underlying 3 = some (.int .i64) := Try.underlying3
theorem map_und : Try.prog.underlying 68 = some (.map 3 46) := Try.underlying68
theorem fields_zero : ∀ w : World, (zeroValue 46).run Try.prog w = .ok .nilFunc w := fun w => by kernel_rfl
theorem kind_of {k : Int} (h : isKind k = true) : k = 1 ∨ k = 2 ∨ k = 3 ∨ k = 4 ∨ k = 5 ∨ k = 6 ∨ k = 7 ∨ k = 8 := by
  unfold isKind at h
  simp only [Bool.and_eq_true, decide_eq_true_eq] at h
  omega
theorem tab_look (w : World) (k : Int) : (Instr.lookup 68 (.map (some w.heap.size)) (.int .i64 k) true).run Try.prog (w.alloc (.map tab 8)) = .ok (.tuple #[fieldsF k, .bool (isKind k)]) (w.alloc (.map tab 8)) := by
  cases h : isKind k with
  | true =>
    rcases kind_of h with rfl | rfl | rfl | rfl | rfl | rfl | rfl | rfl
    · exact lk_run w _ _ map_und int_und tab 8 _ _ 0 (by kernel_rfl)
    · exact lk_run w _ _ map_und int_und tab 8 _ _ 1 (by kernel_rfl)
    · exact lk_run w _ _ map_und int_und tab 8 _ _ 2 (by kernel_rfl)
    · exact lk_run w _ _ map_und int_und tab 8 _ _ 3 (by kernel_rfl)
    · exact lk_run w _ _ map_und int_und tab 8 _ _ 4 (by kernel_rfl)
    · exact lk_run w _ _ map_und int_und tab 8 _ _ 5 (by kernel_rfl)
    · exact lk_run w _ _ map_und int_und tab 8 _ _ 6 (by kernel_rfl)
    · exact lk_run w _ _ map_und int_und tab 8 _ _ 7 (by kernel_rfl)
  | false =>
    have hk : ¬ (1 ≤ k ∧ k ≤ 8) := by
      intro ⟨h1, h2⟩
      unfold isKind at h
      rw [decide_eq_true h1, decide_eq_true h2] at h
      cases h
    have e : fieldsF k = .nilFunc := by
      unfold fieldsF
      rw [if_neg (by omega), if_neg (by omega), if_neg (by omega), if_neg (by omega), if_neg (by omega), if_neg (by omega)]
    rw [e]
    have n : ∀ j : Int, 1 ≤ j → j ≤ 8 → (k == j) = false := fun j h1 h2 => beq_eq_false_iff_ne.2 (by omega)
    refine lk_none w _ _ map_und int_und tab 8 k .nilFunc fields_zero ?_
    simp [tab, Instr.findNow, Instr.sameNow, n]
set_option maxRecDepth 100000 in
set_option maxHeartbeats 1000000 in
theorem fieldsOf_any (w : World) (k : Int) :
    Calls Try.prog 16 #[.int .i64 k] w fun e w' => e = .returned (.tuple #[fieldsF k, .bool (isKind k)]) ∧ Keep noneOf w w' := by
  have HK := Lib.hid ((Keep.refl noneOf w).alloc (.map tab 8))
  have hmm := @run_makeMap Try.prog
  have h1 : (Instr.mapUpdate 68 (.map (some w.heap.size)) (.int .i64 1) (.func (.func 31) #[] #[])).run Try.prog (w.alloc (.map #[] 0)) = _ := mu_run w _ _ map_und int_und #[] 0 1 fEnd (by kernel_rfl)
  have h2 : (Instr.mapUpdate 68 (.map (some w.heap.size)) (.int .i64 2) (.func (.func 32) #[] #[])).run Try.prog (w.alloc (.map (tab.extract 0 1) 1)) = _ := mu_run w _ _ map_und int_und (tab.extract 0 1) 1 2 fCons (by kernel_rfl)
  have h3 : (Instr.mapUpdate 68 (.map (some w.heap.size)) (.int .i64 3) (.func (.func 31) #[] #[])).run Try.prog (w.alloc (.map (tab.extract 0 2) 2)) = _ := mu_run w _ _ map_und int_und (tab.extract 0 2) 2 3 fEnd (by kernel_rfl)
  have h4 : (Instr.mapUpdate 68 (.map (some w.heap.size)) (.int .i64 4) (.func (.func 32) #[] #[])).run Try.prog (w.alloc (.map (tab.extract 0 3) 3)) = _ := mu_run w _ _ map_und int_und (tab.extract 0 3) 3 4 fCons (by kernel_rfl)
  have h5 : (Instr.mapUpdate 68 (.map (some w.heap.size)) (.int .i64 5) (.func (.func 33) #[] #[])).run Try.prog (w.alloc (.map (tab.extract 0 4) 4)) = _ := mu_run w _ _ map_und int_und (tab.extract 0 4) 4 5 fSent (by kernel_rfl)
  have h6 : (Instr.mapUpdate 68 (.map (some w.heap.size)) (.int .i64 6) (.func (.func 34) #[] #[])).run Try.prog (w.alloc (.map (tab.extract 0 5) 5)) = _ := mu_run w _ _ map_und int_und (tab.extract 0 5) 5 6 fTaken (by kernel_rfl)
  have h7 : (Instr.mapUpdate 68 (.map (some w.heap.size)) (.int .i64 7) (.func (.func 35) #[] #[])).run Try.prog (w.alloc (.map (tab.extract 0 6) 6)) = _ := mu_run w _ _ map_und int_und (tab.extract 0 6) 6 7 fChk (by kernel_rfl)
  have h8 : (Instr.mapUpdate 68 (.map (some w.heap.size)) (.int .i64 8) (.func (.func 36) #[] #[])).run Try.prog (w.alloc (.map (tab.extract 0 7) 7)) = _ := mu_run w _ _ map_und int_und (tab.extract 0 7) 7 8 fCkd (by kernel_rfl)
  have p1 : (#[] : Array MapEntry).push ⟨.int .i64 1, fEnd, 0⟩ = tab.extract 0 1 := by kernel_rfl
  have p2 : (tab.extract 0 1).push ⟨.int .i64 2, fCons, 1⟩ = tab.extract 0 2 := by kernel_rfl
  have p3 : (tab.extract 0 2).push ⟨.int .i64 3, fEnd, 2⟩ = tab.extract 0 3 := by kernel_rfl
  have p4 : (tab.extract 0 3).push ⟨.int .i64 4, fCons, 3⟩ = tab.extract 0 4 := by kernel_rfl
  have p5 : (tab.extract 0 4).push ⟨.int .i64 5, fSent, 4⟩ = tab.extract 0 5 := by kernel_rfl
  have p6 : (tab.extract 0 5).push ⟨.int .i64 6, fTaken, 5⟩ = tab.extract 0 6 := by kernel_rfl
  have p7 : (tab.extract 0 6).push ⟨.int .i64 7, fChk, 6⟩ = tab.extract 0 7 := by kernel_rfl
  have p8 : (tab.extract 0 7).push ⟨.int .i64 8, fCkd, 7⟩ = tab := by kernel_rfl
  rw [p1] at h1
  rw [p2] at h2
  rw [p3] at h3
  rw [p4] at h4
  rw [p5] at h5
  rw [p6] at h6
  rw [p7] at h7
  rw [p8] at h8
  have hl := tab_look w k
  generalize tab.extract 0 1 = t1 at *
  generalize tab.extract 0 2 = t2 at *
  generalize tab.extract 0 3 = t3 at *
  generalize tab.extract 0 4 = t4 at *
  generalize tab.extract 0 5 = t5 at *
  generalize tab.extract 0 6 = t6 at *
  generalize tab.extract 0 7 = t7 at *
  clear p1 p2 p3 p4 p5 p6 p7 p8
  generalize tab = T at *
  generalize fieldsF k = F at *
  generalize isKind k = B at *
  go_enter Try.func16, Try.ntmps16
  go_wp2
  go_ret2
  exact ⟨rfl, HK.out⟩
end Go.Proofs.Ytdikmmdkpfmocaa
