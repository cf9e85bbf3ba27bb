import Derived.BigQuiet
import Derived.Laws.IdiomStrings
import Derived.Test.YtdikmmdkpfmocaaBs01
import Derived.Test.YtdikmmdkpfmocaaBs05
import Derived.Test.YtdikmmdkpfmocaaBs06
namespace Go.Proofs.Ytdikmmdkpfmocaa
open Go.RowKit
theorem wp_region_in {P : Program} {id : Nat} {Q : Exit → Act → World → Prop} {a : Act} {w : World} {l : List Oper} (C : World → Prop) (hm : P.follows .mixedOrders = true) (hB : Region.lexB .any l.toArray = true) (hC : C w.drew)
    (h : wpQuiet P l.toArray C (fun a' => ∀ w', C w' → Q .normal a' w') l a) : (Code.region id l.toArray true).wp P Q a w :=
  wp_region_quiet (C := C) hm hB hC (by simpa using h)
theorem quiet_reads {P : Program} {C : World → Prop} {o : Oper} {a : Act} {K : Act → Prop} (v : Value) (h : ∀ w, C w → (execOp a.eval o).run P w = .ok (.value v) w) (hk : K (a.put o.dst v)) : o.quiet P a C K :=
  ⟨v, fun w hw => by unfold Oper.quietAt; rw [h w hw]; exact ⟨rfl, rfl⟩, hk⟩
theorem quiet_calls {P : Program} {C : World → Prop} {o : Oper} {a : Act} {K : Act → Prop} (v : Value) (f : FuncId) (args : Array Value) (he : ∀ w, (execOp a.eval o).run P w = .ok (.enter f args) w) (h : ∀ w, C w → Calls P f args w (fun e w'' => e = .returned v ∧ C w'')) (hk : K (a.put o.dst v)) : o.quiet P a C K :=
  ⟨v, fun w hw => by unfold Oper.quietAt; rw [he w]; exact ⟨rfl, h w hw⟩, hk⟩
end Go.Proofs.Ytdikmmdkpfmocaa
namespace Go.Proofs.Ytdikmmdkpfmocaa
open Go.RowKit
def strOf (bs : List UInt8) : ByteArray := ⟨bs.toArray⟩
theorem strOf_inj {a b : List UInt8} (h : strOf a = strOf b) : a = b := by
  unfold strOf at h
  injection h with h
  exact Array.toList_inj.2 h |> fun h => by simpa using h
theorem strOf_eq (a b : List UInt8) : (strOf a = strOf b) = (a = b) := propext ⟨strOf_inj, fun h => by rw [h]⟩
theorem str_beq (s t : ByteArray) : (s.toList == t.toList) = decide (s = t) := by
  rw [Bool.eq_iff_iff, beq_iff_eq, decide_eq_true_eq, ByteArray.toList_eq, ByteArray.toList_eq]
  constructor
  · intro h
    obtain ⟨⟨l⟩⟩ := s
    obtain ⟨⟨m⟩⟩ := t
    have h' : l = m := h
    rw [h']
  · rintro rfl
    rfl
theorem run_str {w : World} {D : Nat → Prop} {v : Value} {bs : List UInt8} (h : Bytes w D v bs) : (convert 27 9 v).run Try.prog w = .ok (.string (strOf bs)) w := by
  obtain ⟨A, c, rfl, hl, _, hn, hc⟩ := h
  cases A with
  | none =>
    have h0 : bs = [] := List.eq_nil_of_length_eq_zero (by have := hn rfl; omega)
    subst h0
    rw [run_convert_bytes_string w _ _ 5 _ _ c Try.underlying27 Try.underlying5 Try.underlying9]
    simp [Conv.bytesToString]
    rfl
  | some ad =>
    refine run_convert_bytes_back w _ _ 5 ad c bs Try.underlying27 Try.underlying5 Try.underlying9 fun j hj => ?_
    obtain ⟨ad', e, hsp, _, _, hcell⟩ := hc (by omega)
    injection e with e
    subst e
    have := hcell j _ (List.getElem?_eq_getElem hj)
    have ha : ad.add j = ⟨ad.block, ad.off + j, none⟩ := by
      obtain ⟨b, o, sp⟩ := ad
      simp only at hsp
      subst hsp
      unfold Addr.add
      split
      · rename_i h0; subst h0; rfl
      · rfl
    rw [ha, this]
    rfl
def sameEnt (i t : Nat) (k : Int) (cs : List UInt8) (i' t' : Nat) (k' : Int) (cs' : List UInt8) : Bool := decide (i = i') && decide (t = t') && decide (k = k') && decide (cs = cs')
set_option maxRecDepth 100000 in
set_option maxHeartbeats 400000 in
theorem sameEntry_any (w : World) (D D' : Nat → Prop) (i t i' t' : Nat) (k k' : Int) (u u' : Value) (cs cs' : List UInt8) (hs : Bytes w D u cs) (hs' : Bytes w D' u' cs') :
    Calls Try.prog 44 #[.agg #[.int .u64 (i : Int), .int .u64 (t : Int), .int .i64 k, u], .agg #[.int .u64 (i' : Int), .int .u64 (t' : Int), .int .i64 k', u']] w
      fun e w' => e = .returned (.bool (sameEnt i t k cs i' t' k' cs')) ∧ Keep noneOf w w' := by
  have hsh := hs
  have hsh' := hs'
  obtain ⟨A, c, rfl, _⟩ := hsh
  obtain ⟨A', c', rfl, _⟩ := hsh'
  by_cases hq : i = i' ∧ t = t' ∧ k = k'
  · obtain ⟨rfl, rfl, rfl⟩ := hq
    have K : Keep noneOf w ((w.alloc (.cells #[.int .u64 (i : Int), .int .u64 (t : Int), .int .i64 k, .slice A cs.length c] 81)).alloc (.cells #[.int .u64 (i : Int), .int .u64 (t : Int), .int .i64 k, .slice A' cs'.length c'] 81)) := ((Keep.refl noneOf w).alloc _).alloc _
    have r1 := run_str (hs.keep K (fun _ _ _ h => h))
    have r2 := run_str (hs'.keep K (fun _ _ _ h => h))
    have HK := Lib.hid K
    have HS := Lib.hid (show sameEnt i t k cs i t k cs' = decide (strOf cs = strOf cs') by unfold sameEnt; simp [strOf_eq])
    generalize sameEnt i t k cs i t k cs' = R at *
    clear K hs hs'
    go_enter Try.func44, Try.ntmps44
    go_wp2
    go_ret
    refine ⟨ret_bool ?_, HK.out⟩
    rw [HS.out]
    rw [str_beq]
  · have HS := Lib.hid (show sameEnt i t k cs i' t' k' cs' = false by unfold sameEnt; by_cases h1 : i = i' <;> by_cases h2 : t = t' <;> by_cases h3 : k = k' <;> simp_all)
    have HQ : i ≠ i' ∨ (i = i' ∧ t ≠ t') ∨ (i = i' ∧ t = t' ∧ k ≠ k') := by omega
    generalize sameEnt i t k cs i' t' k' cs' = R at *
    obtain rfl := HS.out
    clear hq hs hs' HS
    rcases HQ with h | ⟨rfl, h⟩ | ⟨rfl, rfl, h⟩
    · have g : ((i : Int) == (i' : Int)) = false := beq_eq_false_iff_ne.2 (by omega)
      clear h
      go_enter Try.func44, Try.ntmps44
      go_wp2
      go_ret
      exact ⟨rfl, ((Keep.refl noneOf w).alloc _).alloc _⟩
    · have g : ((t : Int) == (t' : Int)) = false := beq_eq_false_iff_ne.2 (by omega)
      clear h
      go_enter Try.func44, Try.ntmps44
      go_wp2
      go_ret
      exact ⟨rfl, ((Keep.refl noneOf w).alloc _).alloc _⟩
    · have g : (k == k') = false := beq_eq_false_iff_ne.2 (by omega)
      clear h
      go_enter Try.func44, Try.ntmps44
      go_wp2
      go_ret
      exact ⟨rfl, ((Keep.refl noneOf w).alloc _).alloc _⟩
end Go.Proofs.Ytdikmmdkpfmocaa
namespace Go.Proofs.Ytdikmmdkpfmocaa
open Go.RowKit
theorem info_parts {P : Program} {t : TypeId} {x : Option Value} {s b : Nat} (h : (P.info? t).map (fun i => (i.zero, i.size, i.bytes)) = some (x, s, b)) : ∃ i, P.info? t = some i ∧ i.zero = x ∧ i.size = s ∧ i.bytes = b := by
  cases hi : P.info? t with
  | none => rw [hi] at h; cases h
  | some i =>
    rw [hi] at h
    simp at h
    exact ⟨i, rfl, h.1, h.2.1, h.2.2⟩
theorem Row.of_own {w : World} {base : Nat} {e : TypeId} {size : Nat} {v : Value} {n : Nat} {xs : List Value} (h : w.ownsRow base e size v n xs) : Row w (fun k => base ≤ k) v n size xs := by
  rcases h.2 with ⟨rfl, rfl⟩ | ⟨g, cap, cur, rfl, hb, hg, hle, hmx, hsz, htk⟩
  · exact ⟨none, 0, rfl, Nat.le_refl _, Nat.zero_le _, fun _ => rfl, h.1, fun h0 => absurd h0 (by simp)⟩
  · refine ⟨some ⟨g, 0, none⟩, cap, rfl, hle, hmx, fun e => (by cases e), h.1, fun _ => ⟨⟨g, 0, none⟩, rfl, rfl, (Array.getElem?_eq_some_iff.1 hg).1, hb, fun j b hb => ?_⟩⟩
    rw [← htk, List.getElem?_take] at hb
    split at hb
    · show w.cell? ⟨g, 0 + j, none⟩ = _
      rw [Nat.zero_add, cell_of_row w g j cur e (0, 0) hg]
      simpa using hb
    · cases hb
theorem own_base {w : World} {base base' : Nat} {e : TypeId} {size : Nat} {v : Value} {n : Nat} {xs : List Value} (h : w.ownsRow base e size v n xs) (hb : base' ≤ base) : w.ownsRow base' e size v n xs := by
  refine ⟨h.1, ?_⟩
  rcases h.2 with h0 | ⟨g, cap, cur, hv, hg, rest⟩
  · exact .inl h0
  · exact .inr ⟨g, cap, cur, hv, Nat.le_trans hb hg, rest⟩
theorem Bytes.shape' {w : World} {D : Nat → Prop} {v : Value} {bs : List UInt8} (h : Bytes w D v bs) : ∃ A c, v = .slice A bs.length c ∧ bs.length ≤ maxLen := by
  obtain ⟨A, c, hv, h1, h2, _⟩ := h
  exact ⟨A, c, hv, Nat.le_trans h1 h2⟩
end Go.Proofs.Ytdikmmdkpfmocaa
