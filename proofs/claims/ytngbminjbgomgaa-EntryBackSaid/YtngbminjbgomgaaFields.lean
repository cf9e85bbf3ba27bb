/-
  entry.fieldsOf: which fields a kind of commands has.
-/
import Derived.Test.YtngbminjbgomgaaEntry
namespace Go.Proofs.Ytngbminjbgomgaa
open Go.RowKit

/-- Which fields a kind of commands has. -/
def fSes (k : Int) : Bool := decide (1 ≤ k ∧ k ≤ 6)
def fSeq (k : Int) : Bool := decide (2 ≤ k ∧ k ≤ 6)
def fGra (k : Int) : Bool := decide (k = 2)
def fId (k : Int) : Bool := decide (k = 6)
def fTok (k : Int) : Bool := decide (k = 4 ∨ k = 5)
def fGood (k : Int) : Bool := decide (k = 5)
def fTime (k : Int) : Bool := decide (k = 7)
/-- There is such a kind. -/
def known (k : Int) : Bool := decide (1 ≤ k ∧ k ≤ 7)
def flV (k : Int) : Value := .agg #[.bool (fSes k), .bool (fSeq k), .bool (fGra k), .bool (fId k), .bool (fTok k), .bool (fGood k), .bool (fTime k)]

set_option maxRecDepth 100000 in
set_option maxHeartbeats 2000000 in
theorem fieldsOf_any (w : World) (k : Int) :
    Calls Try.prog 44 #[.int .i64 k] w fun e w' => e = .returned (.tuple #[flV k, .bool (known k)]) ∧ Keep noneOf w w' := by
  rcases (show k = 1 ∨ k = 7 ∨ k = 2 ∨ k = 6 ∨ k = 5 ∨ k = 4 ∨ k = 3 ∨ (k < 1 ∨ 7 < k) from by omega) with rfl | rfl | rfl | rfl | rfl | rfl | rfl | hk
  · go_enter Try.func44, Try.ntmps44
    go_wp2
    exact bodyPost_ret (v := .tuple #[.agg #[.bool true, .bool false, .bool false, .bool false, .bool false, .bool false, .bool false], .bool true]) (by simp [results, Try.results44, go_sem]) rfl ⟨rfl, ((Keep.refl _ _).alloc _).alloc _⟩
  · go_enter Try.func44, Try.ntmps44
    go_wp2
    exact bodyPost_ret (v := .tuple #[.agg #[.bool false, .bool false, .bool false, .bool false, .bool false, .bool false, .bool true], .bool true]) (by simp [results, Try.results44, go_sem]) rfl ⟨rfl, ((Keep.refl _ _).alloc _).alloc _⟩
  · go_enter Try.func44, Try.ntmps44
    go_wp2
    exact bodyPost_ret (v := .tuple #[.agg #[.bool true, .bool true, .bool true, .bool false, .bool false, .bool false, .bool false], .bool true]) (by simp [results, Try.results44, go_sem]) rfl ⟨rfl, ((Keep.refl _ _).alloc _).alloc _⟩
  · go_enter Try.func44, Try.ntmps44
    go_wp2
    exact bodyPost_ret (v := .tuple #[.agg #[.bool true, .bool true, .bool false, .bool true, .bool false, .bool false, .bool false], .bool true]) (by simp [results, Try.results44, go_sem]) rfl ⟨rfl, ((Keep.refl _ _).alloc _).alloc _⟩
  · go_enter Try.func44, Try.ntmps44
    go_wp2
    exact bodyPost_ret (v := .tuple #[.agg #[.bool true, .bool true, .bool false, .bool false, .bool true, .bool true, .bool false], .bool true]) (by simp [results, Try.results44, go_sem]) rfl ⟨rfl, ((Keep.refl _ _).alloc _).alloc _⟩
  · go_enter Try.func44, Try.ntmps44
    go_wp2
    exact bodyPost_ret (v := .tuple #[.agg #[.bool true, .bool true, .bool false, .bool false, .bool true, .bool false, .bool false], .bool true]) (by simp [results, Try.results44, go_sem]) rfl ⟨rfl, ((Keep.refl _ _).alloc _).alloc _⟩
  · go_enter Try.func44, Try.ntmps44
    go_wp2
    exact bodyPost_ret (v := .tuple #[.agg #[.bool true, .bool true, .bool false, .bool false, .bool false, .bool false, .bool false], .bool true]) (by simp [results, Try.results44, go_sem]) rfl ⟨rfl, ((Keep.refl _ _).alloc _).alloc _⟩
  · have E := Lib.hid (show flV k = .agg #[.bool false, .bool false, .bool false, .bool false, .bool false, .bool false, .bool false] ∧ known k = false from by
      unfold flV fSes fSeq fGra fId fTok fGood fTime known
      simp only [decide_eq_false_iff_not, Value.agg.injEq, Array.mk.injEq, List.cons.injEq, Value.bool.injEq, and_true]
      omega)
    have g1 : (k == 1) = false := beq_eq_false_iff_ne.2 (by omega)
    have g2 : (k == 2) = false := beq_eq_false_iff_ne.2 (by omega)
    have g3 : (k == 3) = false := beq_eq_false_iff_ne.2 (by omega)
    have g4 : (k == 4) = false := beq_eq_false_iff_ne.2 (by omega)
    have g5 : (k == 5) = false := beq_eq_false_iff_ne.2 (by omega)
    have g6 : (k == 6) = false := beq_eq_false_iff_ne.2 (by omega)
    have g7 : (k == 7) = false := beq_eq_false_iff_ne.2 (by omega)
    clear hk
    go_enter Try.func44, Try.ntmps44
    go_wp2
    exact bodyPost_ret (v := .tuple #[.agg #[.bool false, .bool false, .bool false, .bool false, .bool false, .bool false, .bool false], .bool false]) (by simp [results, Try.results44, go_sem]) rfl ⟨by rw [E.out.1, E.out.2], ((Keep.refl _ _).alloc _).alloc _⟩
end Go.Proofs.Ytngbminjbgomgaa
