/-
  ready.copied.
-/
import Derived.Test.YtjfneckflddeeaaRySame
namespace Go.Proofs.Ytjfneckflddeeaa
open Go.RowKit

theorem Sts.few {w : World} {D : Nat → Prop} {v : Value} {l : List Pst} (h : Sts w D v l) : l.length ≤ maxLen := by
  obtain ⟨A, c, _, h1, h2, _⟩ := h
  omega
theorem reach_is : reachBytes = 140737488351232 := rfl

theorem Box.setRow {w : World} {g : Nat} {t : TypeId} {cs : Array Value} (h : Box w g t cs) (cs' : Array Value) : Box (w.setRow g cs') g t cs' := setRow_heap w g cs cs' t (0, 0) h
theorem Keep.setRow {S : Nat → Prop} {w w' : World} (h : Keep S w w') {g : Nat} (hg : g < w.heap.size → S g) (cs : Array Value) : Keep S w (w'.setRow g cs) :=
  ⟨h.os, h.tape, h.output, by have := h.size; simpa [World.setRow] using this, fun k hk hs => (setRow_other w' g k cs (by rintro rfl; exact hs (hg hk))).trans (h.block k hk hs)⟩

/-- What is behind a call that tells some states in a block of its own. -/
def OwnSts (l : List Pst) (w : World) (e : Ending) (w' : World) : Prop :=
  ∃ g, e = .returned (.slice (some ⟨g, 0, none⟩) l.length l.length) ∧ Keep noneOf w w' ∧ w.heap.size ≤ g ∧ l.length ≤ maxLen ∧ Box w' g 32 (svs l)
theorem OwnSts.told {l : List Pst} {w : World} {e : Ending} {w' : World} (h : OwnSts l w e w') : ToldSts l w e w' := by
  obtain ⟨g, rfl, k, h1, h2, h3⟩ := h
  exact ⟨_, rfl, k, .inr ⟨g, rfl, h1, h2, h3⟩⟩

set_option maxRecDepth 100000 in
set_option maxHeartbeats 1000000 in
theorem copied_any (w : World) (D : Nat → Prop) (v : Value) (l : List Pst) (h : Sts w D v l) (hb : l.length * 24 ≤ reachBytes) : Calls Try.prog 29 #[v] w (OwnSts l w) := by
  rw [reach_is] at hb
  obtain ⟨A, c, rfl, hlc, hcm, hn, hxl, hc⟩ := h
  obtain ⟨i1, hi1, hz1, hs1, hb1⟩ := info_parts stinfo
  obtain ⟨w2, hmk, hown2, hg2⟩ := run_make_full (P := Try.prog) w w.heap.size 25 32 i1 (.agg #[.int .i64 0, .int .u64 0, .int .u64 0]) 3 Try.underlying25 hi1 hz1 hs1 .i64 .i64 l.length (by rw [hb1]; omega) (by unfold maxLen; omega) (Nat.le_refl _)
  have kk2 : Keep noneOf w w2 := (Keep.of_grown hg2).mono (fun _ _ h => by cases h)
  have hbox : Box w2 w.heap.size 32 (svs (List.replicate l.length Pst.zero)) := by
    rw [svs_none]
    rcases hown2.2 with ⟨e, _⟩ | ⟨g, cap, cur, e, _, hg, _, _, hsz, htk⟩
    · cases e
    · have e1 : w.heap.size = g := by simpa using congrArg (fun v => match v with | Value.slice (some a) _ _ => a.block | _ => 0) e
      have e2 : l.length = cap := by simpa using congrArg (fun v => match v with | Value.slice (some _) _ c => c | _ => 0) e
      subst e1
      subst e2
      have : cur = madeCells #[.int .i64 0, .int .u64 0, .int .u64 0] (l.length * 3) := by
        apply Array.ext'
        have h1 : cur.toList.take (l.length * 3) = cur.toList := List.take_of_length_le (by simp [hsz])
        rw [h1] at htk
        exact htk
      rw [← this]
      exact hg
  have HK2 := Lib.hid kk2
  have HB2 := Lib.hid hbox
  have hml : l.length ≤ maxLen := by omega
  clear hown2 hg2
  cases A with
  | none =>
    have hc0 := hn rfl
    have hl0 : l = [] := List.eq_nil_of_length_eq_zero (by omega)
    subst hl0
    subst hc0
    have hcp : ∀ ty, (Builtin.copy_ #[25, 25] ty #[.slice (some ⟨w.heap.size, 0, none⟩) 0 0, .slice none 0 0]).run Try.prog w2 = .ok (goInt 0) w2 := fun ty => run_copy_nil Try.prog w2 _ _ ty _ _ 0 0 Try.underlying25 (by rw [hi1]; rfl)
    have hmk0 : (Instr.makeSlice 25 (.int .i64 0) (.int .i64 0)).run Try.prog w = .ok (.slice (some ⟨w.heap.size, 0, none⟩) 0 0) w2 := hmk
    clear hbox kk2 hc hxl hmk
    go_enter Try.func29, Try.ntmps29
    go_wp2
    go_ret
    exact ⟨w.heap.size, rfl, HK2.out, Nat.le_refl _, Nat.zero_le _, HB2.out⟩
  | some ad =>
    have hcp : ∀ ty, (Builtin.copy_ #[25, 25] ty #[.slice (some ⟨w.heap.size, 0, none⟩) l.length l.length, .slice (some ad) l.length c]).run Try.prog w2 = .ok (goInt l.length) (w2.setRow w.heap.size (svs l)) := fun ty =>
      run_copy3 w2 _ _ ty _ w.heap.size l.length l.length c ad _ _ (l.flatMap Pst.cells) Try.underlying25 (by rw [hi1, Option.map_some, hs1]) hbox (scells_length l) (fun j u hu => by
        have hj := (List.getElem?_eq_some_iff.1 hu).1
        rw [scells_length] at hj
        obtain ⟨ad', e, hsp, hlt, _, hcell⟩ := hc (by omega)
        injection e with e
        subst e
        rw [add_at ad hsp]
        exact (kk2.cell (p := ⟨ad.block, ad.off + j, none⟩) hlt id).trans (hcell j u hu)) (by rw [svs_size, List.length_replicate]) (scells_one l)
    have HB3 : Hid (Box (w2.setRow w.heap.size (svs l)) w.heap.size 32 (svs l)) := Lib.hid (hbox.setRow (svs l))
    have HK3 : Hid (Keep noneOf w (w2.setRow w.heap.size (svs l))) := Lib.hid (kk2.setRow (fun h => absurd h (Nat.lt_irrefl _)) _)
    clear hbox kk2 hc hxl HB2 HK2
    go_enter Try.func29, Try.ntmps29
    go_wp2
    go_ret
    exact ⟨w.heap.size, rfl, HK3.out, Nat.le_refl _, hml, HB3.out⟩
end Go.Proofs.Ytjfneckflddeeaa
