/-
  Keys that came in, opened.
-/
import Derived.Test.YtndojciealkhmaaStKeys
import Derived.Test.YtndojciealkhmaaGrOpen
namespace Go.Proofs.Ytndojciealkhmaa
open Go.RowKit Go.ChangeShapes Go.WideShapes Go.Deep

section
variable {H : Type} {enc : TypeId × Value → H} {w : World}

theorem u64_of {n : Int} (h : (Lit.int .u64 n).wf = true) : ∃ k : Nat, n = (k : Int) ∧ (k : Int) < 18446744073709551616 := by
  have hk : 0 ≤ n ∧ n ≤ 18446744073709551615 := by simpa [Lit.wf, IntKind.min, IntKind.max, IntKind.signed, IntKind.bits] using h
  exact ⟨n.toNat, by omega, by omega⟩

theorem open_u64s {base : Nat} {held : Bool} {fuel : Nat} {v : Value} {x : DataW H × List MemPlace} (h : DataW.trod enc Try.prog w base (fun _ => true) held fuel 25 [v] = some x) (hw : Light 25 x.1) : ∃ ks, Kys w (fun _ => True) v ks ∧ ks.length * 8 ≤ reachBytes := by
  rcases open_elems Try.underlying25 h hw with rfl | ⟨a, len, cap, rfl, hl, hm, hby, hi⟩
  · exact ⟨[], ⟨⟨none, 0, rfl, Nat.le_refl _, Nat.zero_le _, fun _ => rfl, rfl, fun h => absurd h (by simp)⟩, fun s hs => by cases hs⟩, by simp⟩
  · have hc1 : Try.prog.cellsOf 27 = 1 := by kernel_rfl
    have key : ∀ i, i < len → ∃ k : Nat, w.cell? (a.add i) = some (kv k) ∧ (k : Int) < 18446744073709551616 := by
      intro i hil
      obtain ⟨cs, n, y, hlen, hat, htr, _⟩ := hi i hil
      obtain ⟨m, rfl, _, hwf⟩ := DataW.trod_int Try.underlying27 htr
      obtain ⟨k, rfl, hk⟩ := u64_of hwf
      have := hat 0 (by simp)
      rw [hc1, Nat.mul_one] at this
      exact ⟨k, this, hk⟩
    obtain ⟨ks, hbl, hb⟩ := list_of len (fun i k => w.cell? (a.add i) = some (kv k) ∧ (k : Int) < 18446744073709551616) key
    have hB : Try.prog.bytesOf 27 = 8 := by kernel_rfl
    refine ⟨ks, ⟨⟨some a, cap, by rw [hbl], by omega, hm, fun e => (by cases e), by simp, fun h0 => ?_⟩, fun s hs => ?_⟩, by rw [hbl, ← hB]; exact hby⟩
    · have h00 := (hb 0 ks[0] (List.getElem?_eq_getElem h0)).1
      have hz : a.add 0 = a := rfl
      rw [hz] at h00
      have hsp := spot_of_cell h00
      refine ⟨a, rfl, hsp, block_of_cell h00, trivial, fun j x hj => ?_⟩
      rw [List.getElem?_map] at hj
      cases hsj : ks[j]? with
      | none => rw [hsj] at hj; cases hj
      | some s =>
        rw [hsj] at hj
        have := (hb j s hsj).1
        rw [add_at a hsp] at this
        rw [this]
        simpa using hj
    · obtain ⟨j, hj⟩ := List.getElem?_of_mem hs
      exact (hb j s hj).2

/-- A slice of keys that came in. -/
theorem open_arg_u64s {base : Nat} {v : Value} {d : DataW H} {p : List MemPlace} (hv : Value.okWide Try.prog w .any base 25 v) (h : DataW.Trod enc Try.prog w 0 (fun _ => true) true 25 v d p) (hw : Light 25 d) :
    ∃ (A : Option Addr) (c : Nat) (ks : List Nat), v = .slice A ks.length c ∧ Kys w (fun _ => True) (.slice A ks.length c) ks ∧ ks.length * 8 ≤ reachBytes := by
  obtain ⟨a, len, cap, rfl⟩ := okWide_slice Try.underlying25 hv
  obtain ⟨fuel, hf⟩ := h
  obtain ⟨ks, hks, hl⟩ := open_u64s hf hw
  obtain ⟨A, c, hvv⟩ := hks.shape
  rw [hvv] at hks
  exact ⟨A, c, ks, hvv, hks, hl⟩
end
end Go.Proofs.Ytndojciealkhmaa
