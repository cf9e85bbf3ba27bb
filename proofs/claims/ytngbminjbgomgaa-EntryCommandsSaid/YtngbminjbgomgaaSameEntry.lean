/-
  Bytes as strings; dockyardref04.SameEntry.
-/
import Derived.Test.YtngbminjbgomgaaEntry
import Derived.Laws.IdiomStrings
namespace Go.Proofs.Ytngbminjbgomgaa
open Go.RowKit

/-- The string of some bytes. -/
def strOf (bs : List UInt8) : ByteArray := ⟨bs.toArray⟩
theorem strOf_inj {a b : List UInt8} (h : strOf a = strOf b) : a = b := by
  unfold strOf at h
  injection h with h
  exact Array.toList_inj.2 h |> fun h => by simpa using h
theorem strOf_eq (a b : List UInt8) : (strOf a = strOf b) = (a = b) := propext ⟨strOf_inj, fun h => by rw [h]⟩

theorem str_beq (s t : ByteArray) : (s.toList == t.toList) = decide (s = t) := by
  rw [Bool.eq_iff_iff, beq_iff_eq, decide_eq_true_eq, ByteArray.toList_eq, ByteArray.toList_eq]
  constructor
  · intro h
    obtain ⟨⟨l⟩⟩ := s
    obtain ⟨⟨m⟩⟩ := t
    have h' : l = m := h
    rw [h']
  · rintro rfl
    rfl

/-- string(b) of whatever bytes. -/
theorem run_str {w : World} {D : Nat → Prop} {v : Value} {bs : List UInt8} (h : Bytes w D v bs) : (convert 23 9 v).run Try.prog w = .ok (.string (strOf bs)) w := by
  obtain ⟨A, c, rfl, hl, _, hn, hc⟩ := h
  cases A with
  | none =>
    have h0 : bs = [] := List.eq_nil_of_length_eq_zero (by have := hn rfl; omega)
    subst h0
    rw [run_convert_bytes_string w _ _ 5 _ _ c Try.underlying23 Try.underlying5 Try.underlying9]
    simp [Conv.bytesToString]
    rfl
  | some ad =>
    refine run_convert_bytes_back w _ _ 5 ad c bs Try.underlying23 Try.underlying5 Try.underlying9 fun j hj => ?_
    obtain ⟨ad', e, hsp, _, _, hcell⟩ := hc (by omega)
    injection e with e
    subst e
    have := hcell j _ (List.getElem?_eq_getElem hj)
    have ha : ad.add j = ⟨ad.block, ad.off + j, none⟩ := by
      obtain ⟨b, o, sp⟩ := ad
      simp only at hsp
      subst hsp
      unfold Addr.add
      split
      · rename_i h0; subst h0; rfl
      · rfl
    rw [ha, this]
    rfl

/-- Are two entries the same? -/
def sameEnt (i t : Nat) (k : Int) (cs : List UInt8) (i' t' : Nat) (k' : Int) (cs' : List UInt8) : Bool := decide (i = i') && decide (t = t') && decide (k = k') && decide (cs = cs')

set_option maxRecDepth 100000 in
set_option maxHeartbeats 400000 in
theorem sameEntry_any (w : World) (D D' : Nat → Prop) (i t i' t' : Nat) (k k' : Int) (u u' : Value) (cs cs' : List UInt8) (hs : Bytes w D u cs) (hs' : Bytes w D' u' cs') :
    Calls Try.prog 14 #[.agg #[.int .u64 (i : Int), .int .u64 (t : Int), .int .i64 k, u], .agg #[.int .u64 (i' : Int), .int .u64 (t' : Int), .int .i64 k', u']] w
      fun e w' => e = .returned (.bool (sameEnt i t k cs i' t' k' cs')) ∧ Keep noneOf w w' := by
  have hsh := hs
  have hsh' := hs'
  obtain ⟨A, c, rfl, _⟩ := hsh
  obtain ⟨A', c', rfl, _⟩ := hsh'
  by_cases hq : i = i' ∧ t = t' ∧ k = k'
  · obtain ⟨rfl, rfl, rfl⟩ := hq
    have K : Keep noneOf w ((w.alloc (.cells #[.int .u64 (i : Int), .int .u64 (t : Int), .int .i64 k, .slice A cs.length c] 25)).alloc (.cells #[.int .u64 (i : Int), .int .u64 (t : Int), .int .i64 k, .slice A' cs'.length c'] 25)) := ((Keep.refl noneOf w).alloc _).alloc _
    have r1 := run_str (hs.keep K (fun _ _ _ h => h))
    have r2 := run_str (hs'.keep K (fun _ _ _ h => h))
    have HK := Lib.hid K
    have HS := Lib.hid (show sameEnt i t k cs i t k cs' = decide (strOf cs = strOf cs') by unfold sameEnt; simp [strOf_eq])
    generalize sameEnt i t k cs i t k cs' = R at *
    clear K hs hs'
    go_enter Try.func14, Try.ntmps14
    go_wp2
    go_ret
    refine ⟨ret_bool ?_, HK.out⟩
    rw [HS.out]
    rw [str_beq]
  · have HS := Lib.hid (show sameEnt i t k cs i' t' k' cs' = false by unfold sameEnt; by_cases h1 : i = i' <;> by_cases h2 : t = t' <;> by_cases h3 : k = k' <;> simp_all)
    have HQ : i ≠ i' ∨ (i = i' ∧ t ≠ t') ∨ (i = i' ∧ t = t' ∧ k ≠ k') := by omega
    generalize sameEnt i t k cs i' t' k' cs' = R at *
    obtain rfl := HS.out
    clear hq hs hs' HS
    rcases HQ with h | ⟨rfl, h⟩ | ⟨rfl, rfl, h⟩
    · have g : ((i : Int) == (i' : Int)) = false := beq_eq_false_iff_ne.2 (by omega)
      clear h
      go_enter Try.func14, Try.ntmps14
      go_wp2
      go_ret
      exact ⟨rfl, ((Keep.refl noneOf w).alloc _).alloc _⟩
    · have g : ((t : Int) == (t' : Int)) = false := beq_eq_false_iff_ne.2 (by omega)
      clear h
      go_enter Try.func14, Try.ntmps14
      go_wp2
      go_ret
      exact ⟨rfl, ((Keep.refl noneOf w).alloc _).alloc _⟩
    · have g : (k == k') = false := beq_eq_false_iff_ne.2 (by omega)
      clear h
      go_enter Try.func14, Try.ntmps14
      go_wp2
      go_ret
      exact ⟨rfl, ((Keep.refl noneOf w).alloc _).alloc _⟩
end Go.Proofs.Ytngbminjbgomgaa
