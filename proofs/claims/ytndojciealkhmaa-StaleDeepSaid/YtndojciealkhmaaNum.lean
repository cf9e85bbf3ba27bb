/-
  Bytes that are appended, as far as dockyardref08.Key wants them: a row of one's own, dockyardref01.Number; dockyardref08.Key.
-/
import Derived.Test.YtndojciealkhmaaKey
import Derived.Deep.AppendLies
import Derived.IntWalk
namespace Go.Proofs.Ytndojciealkhmaa
open Go.RowKit

theorem u8info : (Try.prog.info? 5).map (fun i => (i.zero, i.size, i.bytes)) = some (some (.int .u8 0), 1, 1) := by kernel_rfl

section
variable {P : Program}
/-- append onto a row of one's own of whatever bytes a slice reads, nil among them. -/
theorem run_append_read (w : World) (t ty e : TypeId) (i : TypeInfo) (z : Value) (ht : P.underlying t = some (.slice e)) (hi : P.info? e = some i) (hz : i.zero = some z) (h1 : i.size = 1) (h2 : i.bytes = 1) (hzs : z.cells.size = 1)
    (v s : Value) (bs cs : List UInt8) (D : Nat → Prop) (hown : w.ownsRow 0 e 1 v bs.length (bs.map bv)) (hs : Bytes w D s cs) (hl : bs.length + cs.length ≤ lim) :
    ∃ v' w', (Builtin.append_ #[t, t] ty #[v, s]).run P w = .ok v' w' ∧ w'.ownsRow 0 e 1 v' (bs ++ cs).length ((bs ++ cs).map bv) ∧ w.grownBy w' v.ownBlock ∧ (v'.ownBlock = v.ownBlock ∨ v'.ownBlock = some w.heap.size) ∧
      (v' = .slice none 0 0 ↔ v = .slice none 0 0 ∧ cs = []) := by
  rw [lim_is] at hl
  obtain ⟨A, c, rfl, hlc, _, hn, hc⟩ := hs
  cases A with
  | none =>
    have h0 : cs = [] := List.eq_nil_of_length_eq_zero (by have := hn rfl; omega)
    subst h0
    refine ⟨v, w, ?_, by simpa using hown, World.grownBy.refl w _, .inl rfl, by simp⟩
    rcases hown.2 with ⟨rfl, _⟩ | ⟨g, cap, cur, rfl, _, _, hnc, _⟩
    · simp [Builtin.append_, run_underlying ht, sizeOf, typeInfo, hi, Builtin.lenOf, Builtin.firstCells]
    · simp [Builtin.append_, run_underlying ht, sizeOf, typeInfo, hi, Builtin.lenOf, Builtin.firstCells, hnc, storeCells]
  | some ad =>
    obtain ⟨v', w', hr, ho, hg, hnil, hat⟩ := run_append_own_at (P := P) w 0 t ty e i z 1 1 ht hi hz h1 h2 hzs (by decide) v bs.length (bs.map bv) hown ad cs.length c (cs.map bv) (by simp)
      (fun j u hu => by
        have hj : j < cs.length := by have := (List.getElem?_eq_some_iff.1 hu).1; simpa using this
        obtain ⟨ad', e, hsp, _, _, hcell⟩ := hc (by omega)
        injection e with e
        subst e
        have hb : cs[j]? = some cs[j] := List.getElem?_eq_getElem hj
        have := hcell j _ hb
        rw [List.getElem?_map, hb] at hu
        have ha : ad.add j = ⟨ad.block, ad.off + j, none⟩ := by
          obtain ⟨b, o, sp⟩ := ad
          simp only at hsp
          subst hsp
          unfold Addr.add
          split
          · rename_i h0; subst h0; rfl
          · rfl
        rw [ha, this]
        simpa using hu)
      (bytes_oneCell cs) (by unfold maxLen; omega) (by omega) (Nat.zero_le _)
    refine ⟨v', w', hr, by simpa using ho, hg, hat, ?_⟩
    rw [hnil]
    exact and_congr_right fun _ => List.length_eq_zero_iff

theorem wpList_append_read (w : World) {ops : Array Oper} {rest : List Oper} {o : Oper} {a : Act} {Q : Exit → Act → World → Prop} (hgd : o.guard = none) (s x : Operand) (t : TypeId)
    (ho : o.op = .call { callee := .builtin .append, args := #[s, x], argTypes := #[t, t] })
    (e : TypeId) (i : TypeInfo) (z : Value) (ht : P.underlying t = some (.slice e)) (hi : P.info? e = some i) (hz : i.zero = some z) (h1 : i.size = 1) (h2 : i.bytes = 1) (hzs : z.cells.size = 1)
    (v u : Value) (bs cs : List UInt8) (D : Nat → Prop) (hv : a.eval s = v) (hu : a.eval x = u) (hown : w.ownsRow 0 e 1 v bs.length (bs.map bv)) (hs : Bytes w D u cs) (hl : bs.length + cs.length ≤ lim)
    (h : ∀ v' w', w'.ownsRow 0 e 1 v' (bs ++ cs).length ((bs ++ cs).map bv) → w.grownBy w' v.ownBlock → (v'.ownBlock = v.ownBlock ∨ v'.ownBlock = some w.heap.size) →
      (v' = .slice none 0 0 ↔ v = .slice none 0 0 ∧ cs = []) → wpList P ops Q rest (a.put o.dst v') w') : wpList P ops Q (o :: rest) a w := by
  refine wpList_plain hgd fun K hK => ?_
  obtain ⟨v', w', hr, h3, h4, h5, h6⟩ := run_append_read (P := P) w t o.type e i z ht hi hz h1 h2 hzs v u bs cs D hown hs hl
  unfold Oper.wp execOp
  simp only [ho, resolve, invoke, builtin, Sem.run_bind, Sem.run_pure, Result.andThen_ok, List.map_toArray, List.map_cons, List.map_nil, hv, hu, hr]
  exact hK _ _ (h v' w' h3 h4 h5 h6)
end

/-- What a slice that was just made is: it reads as cs, in a row of its own that is new. -/
structure Fresh (w w' : World) (u : Value) (cs : List UInt8) : Prop where
  keep : Keep noneOf w w'
  own : w'.ownsRow 0 5 1 u cs.length (cs.map bv)
  new : ∀ k, u.ownBlock = some k → w.heap.size ≤ k

theorem Fresh.bytes {w w' : World} {u : Value} {cs : List UInt8} (h : Fresh w w' u cs) : Bytes w' (fun k => w.heap.size ≤ k) u cs :=
  (Bytes.of_own h.own).mono fun i _ hi => h.new i hi.symm

theorem div_step (n t : Nat) : ((n / 256 ^ t : Nat) : Int) / 256 = ((n / 256 ^ (t + 1) : Nat) : Int) := by
  rw [Nat.pow_succ, ← Nat.div_div_eq_div_mul]
  exact (Int.natCast_ediv _ _).symm
theorem ref_step (n m size : Nat) (h : m + 1 ≤ size) : (be n size).take (size - m) = (be n size).take (size - (m + 1)) ++ [by8 (((n / 256 ^ m : Nat) : Int) % 256)] := by
  have e : (((n / 256 ^ m : Nat) : Int) % 256) = (n : Int) / 2 ^ (8 * m) % 256 := by
    rw [Int.natCast_ediv, Int.natCast_pow, Int.pow_mul]
    rfl
  rw [number_step n m size h, e]

set_option maxRecDepth 100000 in
set_option maxHeartbeats 1000000 in
theorem refNumber_any (w : World) (n size : Nat) (hs : size ≤ 8) (hn : (n : Int) < 18446744073709551616) :
    Calls Try.prog 30 #[.int .u64 n, .int .i64 size] w fun e w' => ∃ u, e = .returned u ∧ Fresh w w' u (be n size) := by
  obtain ⟨i0, hi0, hz0, hz1, hz2⟩ := info_parts u8info
  have HNN := Lib.hid hn
  clear hn
  go_enter Try.func30, Try.ntmps30
  go_wp2
  go_loopw [5, 6] (fun b i wr => ∃ m : Nat, m ≤ size ∧ i = .int .i64 ((m : Int) - 1) ∧ Fresh w wr b ((be n size).take (size - m))) (fun _ i _ => (intOf i + 1).toNat)
  case atStart => exact ⟨size, Nat.le_refl _, rfl, ⟨Keep.refl _ _, by simpa using World.ownsRow_nil w 0 5 1, by intro k hk; cases hk⟩⟩
  case round =>
    obtain ⟨m, hm, rfl, hF⟩ := hrel
    cases m with
    | succ m =>
      rw [show ((m + 1 : Nat) : Int) - 1 = (m : Int) from by omega]
      go_wp2
      go_loop [7, 8] (fun k j => ∃ t : Nat, t ≤ m ∧ j = .int .i64 t ∧ k = .int .u64 ((n / 256 ^ t : Nat) : Int)) (fun _ j => m - (intOf j).toNat)
      case atStart => exact ⟨0, Nat.zero_le _, rfl, by rw [Nat.pow_zero, Nat.div_one]⟩
      case round =>
        obtain ⟨t, ht, rfl, rfl⟩ := hrel
        by_cases hlt : t < m
        · generalize hq : n / 256 ^ t = q at *
          have HQ := Lib.hid hq
          clear hq
          go_wp2
          go_round
          case rel => exact ⟨t + 1, by omega, by go_num, by rw [← div_step, HQ.out, IntWalk.u64_in _ (by have := HNN.out; have h1 := Nat.div_le_self n (256 ^ t); have h2 := HQ.out; omega)]⟩
          case measure => simp [intOf]; omega
        · have hte : t = m := by omega
          subst hte
          have HN := Lib.hid (ref_step n t size hm)
          have hlen : ((be n size).take (size - (t + 1))).length + 1 ≤ lim := by rw [List.length_take, be_length, lim_is]; omega
          generalize n / 256 ^ t = q at *
          have ho := hF.own
          obtain ⟨A, c, hsh⟩ := own_shape ho
          subst hsh
          generalize hL : (be n size).take (size - (t + 1)) = L at *
          clear hL
          have HF := Lib.hid hF
          clear hF
          go_wp2_with (at_builtin; refine wpList_append_lies _ rfl (.tmp 23) (.tmp 27) 52 rfl 0 5 i0 _ 1 1 Try.underlying52 hi0 hz0 hz1 hz2 rfl (by decide) _ L.length (L.map bv) rfl (ho.alloc _) ⟨wr.heap.size, 0, none⟩ 1 1 [.int .u8 ((q : Int) % 256)] rfl rfl (cell_one_new _ _ _) ?c1 (by decide) ?c2 ?c3 (Nat.zero_le _) (wr.heap.size + 1) ?c4 ?_)
          case c1 => first | rfl | (intro u hu; simp at hu; subst hu; rfl)
          case c2 => rw [lim_is] at hlen; unfold maxLen; omega
          case c3 => rw [lim_is] at hlen; omega
          try (case c4 => simp)
          intro g cap w1 hown hgrow hat hlt'
          have R : Fresh w w1 (.slice (some ⟨g, 0, none⟩) (L.length + 1) cap) ((be n size).take (size - t)) := by
            rw [HN.out]
            refine ⟨HF.out.keep.trans (((Keep.refl noneOf wr).alloc (.cells #[.int .u8 ((q : Int) % 256)] 5)).mono (T := fun k => some k = (Value.slice A L.length c).ownBlock) (fun _ _ h => h.elim) |>.trans (Keep.of_grown hgrow) (fun _ _ h => h)) (fun i hi h => ?_), ?_, fun k hk => ?_⟩
            · have := HF.out.new i h.symm
              omega
            · simpa [bv_by8 (n := (q : Int) % 256) (by omega) (by omega)] using hown
            · have hkg : k = g := by simpa [Value.ownBlock] using hk.symm
              have := HF.out.keep.size
              rcases hat with h | h
              · have := HF.out.new g h
                omega
              · omega
          clear hown hgrow hat hlt' ho
          go_wp2
          go_roundw
          case rel => exact ⟨t, by omega, by go_num, R⟩
          case measure => simp [intOf]
    | zero =>
      have R := hF
      rw [Nat.sub_zero, List.take_of_length_le (by rw [be_length]; exact Nat.le_refl _)] at R
      clear hF
      go_wp2
      go_ret
      exact ⟨_, rfl, R⟩

/-- append onto what is one's own of what a call has made. -/
theorem Fresh.append {w w1 w2 : World} {v v' : Value} {bs cs : List UInt8} (h : Fresh w w1 v bs) (hg : w1.grownBy w2 v.ownBlock) (hat : v'.ownBlock = v.ownBlock ∨ v'.ownBlock = some w1.heap.size) (ho : w2.ownsRow 0 5 1 v' (bs ++ cs).length ((bs ++ cs).map bv)) : Fresh w w2 v' (bs ++ cs) := by
  refine ⟨h.keep.trans (Keep.of_grown hg) (fun i hi he => ?_), ho, fun k hk => ?_⟩
  · have := h.new i he.symm
    omega
  · rcases hat with e | e
    · exact h.new k (e.symm.trans hk)
    · have := h.keep.size
      rw [e] at hk
      injection hk with hk
      omega
theorem Fresh.later {w w1 w2 : World} {v : Value} {bs : List UInt8} (h : Fresh w w1 v bs) (k : Keep noneOf w1 w2) : Fresh w w2 v bs := ⟨h.keep.trans k (fun _ _ h => h), own_keep h.own k (fun _ _ => id), h.new⟩
theorem Fresh.after {w w1 w2 : World} {v : Value} {bs : List UInt8} (k : Keep noneOf w w1) (h : Fresh w1 w2 v bs) : Fresh w w2 v bs := ⟨k.trans h.keep (fun _ _ h => h), h.own, fun j hj => Nat.le_trans k.size (h.new j hj)⟩
theorem Fresh.any {w w1 : World} {v : Value} {bs : List UInt8} (h : Fresh w w1 v bs) : Bytes w1 (fun _ => True) v bs := h.bytes.mono (fun _ _ _ => trivial)

/-- A slice of one byte, new. -/
theorem fresh_one (w : World) (b : Int) (h0 : 0 ≤ b) (h1 : b < 256) : Fresh w (w.alloc (.cells #[.int .u8 b] 5)) (.slice (some ⟨w.heap.size, 0, none⟩) 1 1) [by8 b] := by
  refine ⟨(Keep.refl _ _).alloc _, ⟨?_, .inr ⟨w.heap.size, 1, #[.int .u8 b], rfl, Nat.zero_le _, Box.new w _ _, Nat.le_refl _, by unfold maxLen; decide, rfl, by simp [bv_by8 h0 h1]⟩⟩, fun k hk => ?_⟩
  · simp
  · have : w.heap.size = k := by simpa [Value.ownBlock] using hk
    omega

end Go.Proofs.Ytndojciealkhmaa
