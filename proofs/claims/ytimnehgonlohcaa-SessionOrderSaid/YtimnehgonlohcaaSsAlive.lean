/-
  dockyardlaw11.alive, and what a script makes of a table.
-/
import Derived.Test.YtimnehgonlohcaaSsOpen
namespace Go.Proofs.Ytimnehgonlohcaa
open Go.RowKit

/-- What is behind a call that tells a bool and changes nothing. -/
def TellsB (b : Bool) (w : World) (e : Ending) (w' : World) : Prop := e = .returned (.bool b) ∧ Keep noneOf w w'
theorem Keep.newer {m : Nat} {w w' w'' : World} (h : Keep noneOf w w') (k : Keep (fun i => i = m) w' w'') (hm : w.heap.size ≤ m) : Keep noneOf w w'' := h.trans k (fun i hi e => by subst e; omega)
theorem open_few {l : List Ro} {x : Int} (h : l.length ≤ 16) : (openL l x).length ≤ 16 := by
  unfold openL
  split
  · exact h
  · split
    · exact h
    · split
      · exact h
      · rw [ins_length]; omega
theorem look_found {l : List Ro} {x s : Int} (h : lookE l x s = 0) : ∃ r, findR l x = some r := by
  unfold lookE at h
  cases hq : findR l x with
  | none => rw [hq] at h; simp at h
  | some r => exact ⟨r, rfl⟩
theorem keep_ok {l : List Ro} {x s : Int} (h : keepE l x s = 0) : ∃ r, findR l x = some r ∧ r.seq < s ∧ s ≠ 0 := by
  unfold keepE at h
  by_cases h1 : lookE l x s = 0
  · rw [if_neg (fun e => e h1)] at h
    obtain ⟨r, hr⟩ := look_found h1
    obtain ⟨_, e2, e3⟩ := look_at (s := s) hr
    refine ⟨r, hr, ?_⟩
    rw [h1] at e3
    by_cases hs : s < r.seq ∨ s = 0
    · rw [if_pos hs] at e3
      cases e3
    · by_cases he : s = r.seq ∧ s ≠ 0
      · rw [e2, decide_eq_true he] at h
        cases h
      · omega
  · rw [if_pos h1] at h
    exact absurd h h1
theorem keep_few {l : List Ro} {x s : Int} {a : An} (h : l.length ≤ 16) : (keepL l x s a).length ≤ 16 := by
  unfold keepL
  split
  · rename_i h0
    obtain ⟨r, hr, _⟩ := keep_ok h0
    have := put_few (s := s) (a := a) hr
    omega
  · exact h
theorem find_ins (r : Ro) : ∀ (l : List Ro), (∀ g ∈ l, g.id ≠ r.id) → findR (insR r l) r.id = some r
  | [], _ => by unfold insR findR; simp
  | g :: l, h => by
    unfold insR
    split
    · unfold findR; simp
    · unfold findR
      rw [List.find?_cons_of_neg (by simpa using h g (List.mem_cons_self ..))]
      exact find_ins r l (fun x hx => h x (List.mem_cons_of_mem _ hx))
theorem find_put (l : List Ro) (r : Ro) : findR (putR l r) r.id = some r := by
  unfold putR
  refine find_ins r _ (fun g hg => ?_)
  unfold delR at hg
  simpa using (List.mem_filter.1 hg).2

set_option maxRecDepth 100000 in
set_option maxHeartbeats 1000000 in
theorem alive_any (w : World) : Calls Try.prog 8 #[] w (TellsB true w) := by
  have NW := Lib.hid (new_any w)
  go_enter Try.func8, Try.ntmps8
  go_wp2_with fail
  refine NW.out.mono ?_
  rintro e w1 ⟨rfl, T1, k1⟩
  have HK1 := Lib.hid k1
  have HM : Hid (w.heap.size ≤ w.heap.size) := Lib.hid (Nat.le_refl _)
  have HP : Hid (w.heap.size ≤ w.heap.size + 1) := Lib.hid (Nat.le_succ _)
  have O1 := Lib.hid (open_any w1 _ _ _ 5 T1 (by decide) (by decide))
  rw [show openE [] 5 = 0 from by decide, show openL [] 5 = [⟨5, 0, .zero⟩] from by rfl] at O1
  clear NW T1 k1
  generalize w.heap.size + 1 = p at *
  generalize hm : w.heap.size = m at *
  go_wp2_with fail
  refine O1.out.mono ?_
  rintro e w2 ⟨rfl, T2, k2⟩
  have HK2 := Lib.hid (HK1.out.newer k2 (by omega))
  have O2 := Lib.hid (keep_any w2 _ _ _ 5 2 ⟨0, 7, 0, 0, ⟨#[]⟩, ⟨#[]⟩⟩ T2 (by decide) (by decide) (by decide))
  rw [show keepE [⟨5, 0, .zero⟩] 5 2 = 0 from by decide, show keepL [⟨5, 0, .zero⟩] 5 2 ⟨0, 7, 0, 0, ⟨#[]⟩, ⟨#[]⟩⟩ = [⟨5, 2, ⟨0, 7, 0, 0, ⟨#[]⟩, ⟨#[]⟩⟩⟩] from by rfl] at O2
  unfold An.agg at O2
  dsimp only at O2
  clear O1 HK1 T2 k2
  go_wp2_with fail
  refine O2.out.mono ?_
  rintro e w3 ⟨rfl, T3, k3⟩
  have HK3 := Lib.hid (HK2.out.newer k3 (by omega))
  have O3 := Lib.hid (look_any w3 _ _ _ 5 2 T3 (by decide) (by decide))
  rw [show lookA [⟨5, 2, ⟨0, 7, 0, 0, ⟨#[]⟩, ⟨#[]⟩⟩⟩] 5 2 = ⟨0, 7, 0, 0, ⟨#[]⟩, ⟨#[]⟩⟩ from by rfl, show lookB [⟨5, 2, ⟨0, 7, 0, 0, ⟨#[]⟩, ⟨#[]⟩⟩⟩] 5 2 = true from by rfl, show lookE [⟨5, 2, ⟨0, 7, 0, 0, ⟨#[]⟩, ⟨#[]⟩⟩⟩] 5 2 = 0 from by rfl] at O3
  unfold An.agg at O3
  dsimp only at O3
  have HT3 := Lib.hid T3
  clear O2 HK2 T3 k3
  go_wp2_with fail
  refine O3.out.mono ?_
  rintro e w4 ⟨rfl, k4⟩
  have T4 := HT3.out.stay k4
  have HK4 := Lib.hid (HK3.out.trans k4 (fun _ _ h => h))
  have O4 := Lib.hid (len_any _ _ _ _ (T4.stay ((Keep.refl noneOf w4).alloc (.cells #[.int .i64 0, .int .u64 7, .int .u64 0, .int .u64 0, .string ⟨#[]⟩, .string ⟨#[]⟩] 32))))
  clear O3 HK3 HT3 T4 k4
  go_wp2_with fail
  refine O4.out.mono ?_
  rintro e w5 ⟨rfl, rfl⟩
  go_wp2
  go_ret
  exact ⟨rfl, HK4.out.alloc _⟩
end Go.Proofs.Ytimnehgonlohcaa
