/-
  An append of numbers that are read, whatever many, to a row of one's own.
-/
import Derived.Test.YtmncjibokpieoaaCfM
import Derived.Deep.AppendLies
import Derived.Deep.RegionHeld3
namespace Go.Proofs.Ytmncjibokpieoaa
open Go.RowKit

theorem intinfo : (Try.prog.info? 3).map (fun i => (i.zero, i.size, i.bytes)) = some (some (.int .i64 0), 1, 8) := by kernel_rfl
theorem zv_one (zs : List Int) : ∀ u ∈ zs.map zv, u.oneCell' = true := by
  intro u hu
  obtain ⟨x, _, rfl⟩ := List.mem_map.1 hu
  rfl
section
variable {P : Program}
/-- append onto a row of one's own of whatever bytes a slice reads, nil among them. -/
theorem run_append_zs (w : World) (base : Nat) (hbase : base ≤ w.heap.size) (t ty e : TypeId) (i : TypeInfo) (z : Value) (ht : P.underlying t = some (.slice e)) (hi : P.info? e = some i) (hz : i.zero = some z) (h1 : i.size = 1) (h2 : i.bytes = 8) (hzs : z.cells.size = 1)
    (v s : Value) (bs cs : List Int) (D : Nat → Prop) (hown : w.ownsRow base e 1 v bs.length (bs.map zv)) (hs : Zs w D s cs) (hl : bs.length + cs.length ≤ 17592186044416) :
    ∃ v' w', (Builtin.append_ #[t, t] ty #[v, s]).run P w = .ok v' w' ∧ w'.ownsRow base e 1 v' (bs ++ cs).length ((bs ++ cs).map zv) ∧ w.grownBy w' v.ownBlock ∧ (v'.ownBlock = v.ownBlock ∨ v'.ownBlock = some w.heap.size) ∧
      (v' = .slice none 0 0 ↔ v = .slice none 0 0 ∧ cs = []) := by
  obtain ⟨A, c, rfl, hlc, _, hn, _, hc⟩ := hs
  cases A with
  | none =>
    have h0 : cs = [] := List.eq_nil_of_length_eq_zero (by have := hn rfl; omega)
    subst h0
    refine ⟨v, w, ?_, by simpa using hown, World.grownBy.refl w _, .inl rfl, by simp⟩
    rcases hown.2 with ⟨rfl, _⟩ | ⟨g, cap, cur, rfl, _, _, hnc, _⟩
    · simp [Builtin.append_, run_underlying ht, sizeOf, typeInfo, hi, Builtin.lenOf, Builtin.firstCells]
    · simp [Builtin.append_, run_underlying ht, sizeOf, typeInfo, hi, Builtin.lenOf, Builtin.firstCells, hnc, storeCells]
  | some ad =>
    obtain ⟨v', w', hr, ho, hg, hnil, hat⟩ := run_append_own_at (P := P) w base t ty e i z 1 8 ht hi hz h1 h2 hzs (by decide) v bs.length (bs.map zv) hown ad cs.length c (cs.map zv) (by simp)
      (fun j u hu => by
        have hj : j < cs.length := by have := (List.getElem?_eq_some_iff.1 hu).1; simpa using this
        obtain ⟨ad', e, hsp, _, _, hcell⟩ := hc (by omega)
        injection e with e
        subst e
        have hb : cs[j]? = some cs[j] := List.getElem?_eq_getElem hj
        have := hcell j (zv cs[j]) (by rw [List.getElem?_map, hb]; rfl)
        rw [List.getElem?_map, hb] at hu
        have ha : ad.add j = ⟨ad.block, ad.off + j, none⟩ := by
          obtain ⟨b, o, sp⟩ := ad
          simp only at hsp
          subst hsp
          unfold Addr.add
          split
          · rename_i h0; subst h0; rfl
          · rfl
        rw [ha, this]
        simpa using hu)
      (zv_one cs) (by unfold maxLen; omega) (by omega) hbase
    refine ⟨v', w', hr, by simpa using ho, hg, hat, ?_⟩
    rw [hnil]
    exact and_congr_right fun _ => List.length_eq_zero_iff

theorem wpList_append_zs (w : World) (base : Nat) (hbase : base ≤ w.heap.size) {ops : Array Oper} {rest : List Oper} {o : Oper} {a : Act} {Q : Exit → Act → World → Prop} (hgd : o.guard = none) (s x : Operand) (t : TypeId)
    (ho : o.op = .call { callee := .builtin .append, args := #[s, x], argTypes := #[t, t] })
    (e : TypeId) (i : TypeInfo) (z : Value) (ht : P.underlying t = some (.slice e)) (hi : P.info? e = some i) (hz : i.zero = some z) (h1 : i.size = 1) (h2 : i.bytes = 8) (hzs : z.cells.size = 1)
    (v u : Value) (bs cs : List Int) (D : Nat → Prop) (hv : a.eval s = v) (hu : a.eval x = u) (hown : w.ownsRow base e 1 v bs.length (bs.map zv)) (hs : Zs w D u cs) (hl : bs.length + cs.length ≤ 17592186044416)
    (h : ∀ v' w', w'.ownsRow base e 1 v' (bs ++ cs).length ((bs ++ cs).map zv) → w.grownBy w' v.ownBlock → (v'.ownBlock = v.ownBlock ∨ v'.ownBlock = some w.heap.size) →
      (v' = .slice none 0 0 ↔ v = .slice none 0 0 ∧ cs = []) → wpList P ops Q rest (a.put o.dst v') w') : wpList P ops Q (o :: rest) a w := by
  refine wpList_plain hgd fun K hK => ?_
  obtain ⟨v', w', hr, h3, h4, h5, h6⟩ := run_append_zs (P := P) w base hbase t o.type e i z ht hi hz h1 h2 hzs v u bs cs D hown hs hl
  unfold Oper.wp execOp
  simp only [ho, resolve, invoke, builtin, Sem.run_bind, Sem.run_pure, Result.andThen_ok, List.map_toArray, List.map_cons, List.map_nil, hv, hu, hr]
  exact hK _ _ (h v' w' h3 h4 h5 h6)
theorem step_append_zs {ops : Array Oper} {o : Oper} {a : Act} (w : World) (base : Nat) (hbase : base ≤ w.heap.size) {K : Act → World → Prop} {Q : Exit → Act → World → Prop} {E : Prop} (hgd : o.guard = none) (s x : Operand) (t : TypeId)
    (ho : o.op = .call { callee := .builtin .append, args := #[s, x], argTypes := #[t, t] })
    (e : TypeId) (i : TypeInfo) (z : Value) (ht : P.underlying t = some (.slice e)) (hi : P.info? e = some i) (hz : i.zero = some z) (h1 : i.size = 1) (h2 : i.bytes = 8) (hzs : z.cells.size = 1)
    (v u : Value) (bs cs : List Int) (D : Nat → Prop) (hv : a.eval s = v) (hu : a.eval x = u) (hown : w.ownsRow base e 1 v bs.length (bs.map zv)) (hs : Zs w D u cs) (hl : bs.length + cs.length ≤ 17592186044416)
    (h : ∀ v' w', w'.ownsRow base e 1 v' (bs ++ cs).length ((bs ++ cs).map zv) → w.grownBy w' v.ownBlock → K (a.put o.dst v') w') :
    if Region.wanted o (yielded ops a.tmps) = true then Oper.wp P o a w K Q else E := by
  have hw : Region.wanted o (yielded ops a.tmps) = true := by simp [Region.wanted, hgd]
  rw [if_pos hw]
  obtain ⟨v', w', hr, h3, h4, h5, _⟩ := run_append_zs (P := P) w base hbase t o.type e i z ht hi hz h1 h2 hzs v u bs cs D hown hs hl
  unfold Oper.wp execOp
  simp only [ho, resolve, invoke, builtin, Sem.run_bind, Sem.run_pure, Result.andThen_ok, List.map_toArray, List.map_cons, List.map_nil, hv, hu, hr]
  exact h v' w' h3 h4
end
theorem Keep.grown {w0 wa w1 : World} {e : TypeId} {v : Value} {n : Nat} {xs : List Value} (k : Keep noneOf w0 wa) (hg : wa.grownBy w1 v.ownBlock) (hown : wa.ownsRow w0.heap.size e 1 v n xs) : Keep noneOf w0 w1 :=
  k.trans (Keep.of_grown hg) (fun j hj hs => absurd (hown.lt j hs.symm).1 (by omega))
end Go.Proofs.Ytmncjibokpieoaa
