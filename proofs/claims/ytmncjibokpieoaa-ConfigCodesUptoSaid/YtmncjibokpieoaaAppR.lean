/-
  An append of bytes that are read, whatever many, to a row of one's own; bytes.Clone (cut out of Writer: import not both).
-/
import Derived.Test.YtmncjibokpieoaaBas
import Derived.Deep.AppendLies
namespace Go.Proofs.Ytmncjibokpieoaa
open Go.RowKit

section
variable {P : Program}
/-- append onto a row of one's own of whatever bytes a slice reads, nil among them. -/
theorem run_append_read (w : World) (t ty e : TypeId) (i : TypeInfo) (z : Value) (ht : P.underlying t = some (.slice e)) (hi : P.info? e = some i) (hz : i.zero = some z) (h1 : i.size = 1) (h2 : i.bytes = 1) (hzs : z.cells.size = 1)
    (v s : Value) (bs cs : List UInt8) (D : Nat → Prop) (hown : w.ownsRow 0 e 1 v bs.length (bs.map bv)) (hs : Bytes w D s cs) (hl : bs.length + cs.length ≤ lim) :
    ∃ v' w', (Builtin.append_ #[t, t] ty #[v, s]).run P w = .ok v' w' ∧ w'.ownsRow 0 e 1 v' (bs ++ cs).length ((bs ++ cs).map bv) ∧ w.grownBy w' v.ownBlock ∧ (v'.ownBlock = v.ownBlock ∨ v'.ownBlock = some w.heap.size) ∧
      (v' = .slice none 0 0 ↔ v = .slice none 0 0 ∧ cs = []) := by
  rw [lim_is] at hl
  obtain ⟨A, c, rfl, hlc, _, hn, hc⟩ := hs
  cases A with
  | none =>
    have h0 : cs = [] := List.eq_nil_of_length_eq_zero (by have := hn rfl; omega)
    subst h0
    refine ⟨v, w, ?_, by simpa using hown, World.grownBy.refl w _, .inl rfl, by simp⟩
    rcases hown.2 with ⟨rfl, _⟩ | ⟨g, cap, cur, rfl, _, _, hnc, _⟩
    · simp [Builtin.append_, run_underlying ht, sizeOf, typeInfo, hi, Builtin.lenOf, Builtin.firstCells]
    · simp [Builtin.append_, run_underlying ht, sizeOf, typeInfo, hi, Builtin.lenOf, Builtin.firstCells, hnc, storeCells]
  | some ad =>
    obtain ⟨v', w', hr, ho, hg, hnil, hat⟩ := run_append_own_at (P := P) w 0 t ty e i z 1 1 ht hi hz h1 h2 hzs (by decide) v bs.length (bs.map bv) hown ad cs.length c (cs.map bv) (by simp)
      (fun j u hu => by
        have hj : j < cs.length := by have := (List.getElem?_eq_some_iff.1 hu).1; simpa using this
        obtain ⟨ad', e, hsp, _, _, hcell⟩ := hc (by omega)
        injection e with e
        subst e
        have hb : cs[j]? = some cs[j] := List.getElem?_eq_getElem hj
        have := hcell j _ hb
        rw [List.getElem?_map, hb] at hu
        have ha : ad.add j = ⟨ad.block, ad.off + j, none⟩ := by
          obtain ⟨b, o, sp⟩ := ad
          simp only at hsp
          subst hsp
          unfold Addr.add
          split
          · rename_i h0; subst h0; rfl
          · rfl
        rw [ha, this]
        simpa using hu)
      (bytes_oneCell cs) (by unfold maxLen; omega) (by omega) (Nat.zero_le _)
    refine ⟨v', w', hr, by simpa using ho, hg, hat, ?_⟩
    rw [hnil]
    exact and_congr_right fun _ => List.length_eq_zero_iff

theorem wpList_append_read (w : World) {ops : Array Oper} {rest : List Oper} {o : Oper} {a : Act} {Q : Exit → Act → World → Prop} (hgd : o.guard = none) (s x : Operand) (t : TypeId)
    (ho : o.op = .call { callee := .builtin .append, args := #[s, x], argTypes := #[t, t] })
    (e : TypeId) (i : TypeInfo) (z : Value) (ht : P.underlying t = some (.slice e)) (hi : P.info? e = some i) (hz : i.zero = some z) (h1 : i.size = 1) (h2 : i.bytes = 1) (hzs : z.cells.size = 1)
    (v u : Value) (bs cs : List UInt8) (D : Nat → Prop) (hv : a.eval s = v) (hu : a.eval x = u) (hown : w.ownsRow 0 e 1 v bs.length (bs.map bv)) (hs : Bytes w D u cs) (hl : bs.length + cs.length ≤ lim)
    (h : ∀ v' w', w'.ownsRow 0 e 1 v' (bs ++ cs).length ((bs ++ cs).map bv) → w.grownBy w' v.ownBlock → (v'.ownBlock = v.ownBlock ∨ v'.ownBlock = some w.heap.size) →
      (v' = .slice none 0 0 ↔ v = .slice none 0 0 ∧ cs = []) → wpList P ops Q rest (a.put o.dst v') w') : wpList P ops Q (o :: rest) a w := by
  refine wpList_plain hgd fun K hK => ?_
  obtain ⟨v', w', hr, h3, h4, h5, h6⟩ := run_append_read (P := P) w t o.type e i z ht hi hz h1 h2 hzs v u bs cs D hown hs hl
  unfold Oper.wp execOp
  simp only [ho, resolve, invoke, builtin, Sem.run_bind, Sem.run_pure, Result.andThen_ok, List.map_toArray, List.map_cons, List.map_nil, hv, hu, hr]
  exact hK _ _ (h v' w' h3 h4 h5 h6)
end

theorem u8info : (Try.prog.info? 5).map (fun i => (i.zero, i.size, i.bytes)) = some (some (.int .u8 0), 1, 1) := by kernel_rfl

/-- What a slice that was just made is: it reads as cs, in a row of its own that is new. -/
structure Fresh (w w' : World) (u : Value) (cs : List UInt8) : Prop where
  keep : Keep noneOf w w'
  own : w'.ownsRow 0 5 1 u cs.length (cs.map bv)
  new : ∀ k, u.ownBlock = some k → w.heap.size ≤ k

set_option maxRecDepth 100000 in
set_option maxHeartbeats 400000 in
/-- bytes.Clone: a nil slice is nil, any other one is new. -/
theorem clone_any (w : World) (u : Value) (cs : List UInt8) (D : Nat → Prop) (hs : Bytes w D u cs) (hb : cs.length ≤ lim) :
    Calls Try.prog 63 #[u] w fun e w' => ∃ u', e = .returned u' ∧ Fresh w w' u' cs := by
  obtain ⟨i0, hi0, hz0, hz1, hz2⟩ := info_parts u8info
  have hs' := hs
  obtain ⟨A, c, rfl, hlc, _, hn, _⟩ := hs
  have hq := fun wx a n c => Lib.run_eql_slice_nil (P := Try.prog) wx 41 5 a n c 0 0 Try.underlying41
  cases A with
  | none =>
    have h0 := hn rfl
    have hl : cs = [] := List.eq_nil_of_length_eq_zero (by omega)
    subst hl
    subst h0
    go_enter Try.func63, Try.ntmps63
    go_wp2
    go_ret
    exact ⟨_, rfl, Keep.refl _ _, World.ownsRow_nil _ _ _ _, by intro k hk; cases hk⟩
  | some ad =>
    have hk := (Keep.refl noneOf w).alloc (.cells #[] 5)
    have hown : (w.alloc (.cells #[] 5)).ownsRow 0 5 1 (.slice (some ⟨w.heap.size, 0, none⟩) 0 0) ([] : List UInt8).length (([] : List UInt8).map bv) := World.ownsRow_made w #[] 0 (Nat.zero_le _) (Nat.zero_le _) rfl
    have hs1 := hs'.keep hk (fun _ _ _ h => h)
    clear hs' hn hlc
    go_enter Try.func63, Try.ntmps63
    go_wp2_with (at_builtin; refine wpList_append_read _ rfl (.tmp 5) (.tmp 6) 41 rfl 5 i0 _ Try.underlying41 hi0 hz0 hz1 hz2 rfl _ _ [] cs D rfl rfl hown hs1 (by simpa using hb) ?_; intro v1 w1 hown1 hgrow1 hat1 hnil1)
    have hF : Fresh w w1 v1 cs := ⟨hk.trans (Keep.of_grown hgrow1) (fun i hi he => by have he' : some i = some w.heap.size := he; injection he' with he'; omega), by simpa using hown1, fun k hkk => by
      rcases hat1 with e | e
      · have he' : some k = some w.heap.size := hkk.symm.trans e; injection he' with he'; omega
      · rw [e] at hkk; simp at hkk; omega⟩
    clear hown1 hgrow1 hat1 hnil1 hown hs1 hk
    go_wp2
    go_ret
    exact ⟨_, rfl, hF⟩

theorem Fresh.bytes {w w' : World} {u : Value} {cs : List UInt8} (h : Fresh w w' u cs) : Bytes w' (fun k => w.heap.size ≤ k) u cs :=
  (Bytes.of_own h.own).mono fun i _ hi => h.new i hi.symm
end Go.Proofs.Ytmncjibokpieoaa
