/-
  How much came in, in the argument's own measure (the second form of a statement); a sized configuration.
-/
import Derived.Test.YtmncjibokpieoaaCfOpen
import Derived.Deep.CondSized
import Derived.ChangeMaps5
namespace Go.Proofs.Ytmncjibokpieoaa
open Go.RowKit Go.ChangeShapes Go.WideShapes Go.Deep

/-- Whatever was read weighs something, and so a list at least as much as its length. -/
theorem weighs {H : Type} (d : DataW H) : 0 < Rows.uptoBulk d := by
  unfold Rows.uptoBulk
  split <;> omega
theorem weighs_all {H : Type} : ∀ l : List (DataW H), l.length ≤ Rows.uptoBulkAll l
  | [] => Nat.zero_le _
  | d :: l => by
    have h1 := weighs d
    have h2 := weighs_all l
    show l.length + 1 ≤ Rows.uptoBulk d + Rows.uptoBulkAll l
    omega
theorem zs_weigh {H : Type} {enc : TypeId × Value → H} {w : World} {held : Bool} {base fuel : Nat} {D : Nat → Prop} {v : Value} {zs : List Int} {x : DataW H × List MemPlace} (hf : DataW.trod enc Try.prog w base (fun _ => true) held fuel 22 [v] = some x) (hz : Zs w D v zs) : zs.length ≤ Rows.uptoBulk x.1 := by
  obtain ⟨A', c', hv', _⟩ := hz
  rcases Go.Deep.open_slice Try.underlying22 hf with ⟨hcs, _⟩ | ⟨a, len, cap, m, n, D, Pl, hcs, _, _, _, _, hx, _⟩
  · have e : v = .slice none 0 0 := by simpa using hcs
    rw [hv'] at e
    injection e with _ e _
    omega
  · have e : v = .slice (some a) len cap := by simpa using hcs
    rw [hv'] at e
    injection e with _ e _
    subst hx
    have := weighs_all ((List.range len).map D)
    simp only [Rows.uptoBulk, List.length_map, List.length_range] at this ⊢
    omega
theorem zs_bulk {H : Type} {enc : TypeId × Value → H} {w : World} {D : Nat → Prop} {v : Value} {zs : List Int} {d : DataW H} {p : List MemPlace} (h : DataW.Trod enc Try.prog w 0 (fun _ => true) true 22 v d p) (hv : v.cells = #[v]) (hz : Zs w D v zs) : zs.length ≤ Rows.uptoBulk d := by
  obtain ⟨fuel, hf⟩ := h
  rw [hv] at hf
  exact zs_weigh (x := (d, p)) hf hz
set_option maxRecDepth 100000 in
theorem cfg_bulk {H : Type} {enc : TypeId × Value → H} {w : World} {D : Nat → Prop} {v : Value} {c : Cf} {d : DataW H} {p : List MemPlace} (h : DataW.Trod enc Try.prog w 0 (fun _ => true) true 24 v d p) (hc : CfAt w D v c) : c.v.length + c.l.length ≤ Rows.uptoBulk d := by
  obtain ⟨a, b, rfl, h1, h2⟩ := hc
  have o1 : Try.prog.cellsOf 22 = 1 := by kernel_rfl
  obtain ⟨fuel, hf⟩ := h
  obtain ⟨xs, n, _, hy, _, hxl, hg⟩ := DataW.trod_struct Try.underlying24 hf
  have g0 := hg 0 _ rfl
  have g1 := hg 1 _ rfl
  match xs, hxl with
  | [x0, x1], _ =>
    simp [o1, Value.cells] at g0 g1
    have hd : d = .agg [x0.1, x1.1] := by simpa using congrArg Prod.fst hy
    have z0 := zs_weigh g0 h1
    have z1 := zs_weigh g1 h2
    rw [hd]
    simp only [Rows.uptoBulk, Rows.uptoBulkAll]
    omega
end Go.Proofs.Ytmncjibokpieoaa
