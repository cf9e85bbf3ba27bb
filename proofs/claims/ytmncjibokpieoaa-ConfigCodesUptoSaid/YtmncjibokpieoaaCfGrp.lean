/-
  Package config: groups of nodes (an array within a struct): sorted, with less, cloned.
-/
import Derived.Test.YtmncjibokpieoaaCfFn
import Derived.Test.YtmncjibokpieoaaCfPlain
import Derived.Test.YtmncjibokpieoaaCfAll
import Derived.Test.YtmncjibokpieoaaShelf
import Derived.Laws.CopyRow
import Derived.Lib.SliceRun
import Derived.Laws.OwnMore
import Derived.Sort.OwnSortedInts
namespace Go.Proofs.Ytmncjibokpieoaa
open Go.RowKit Go.Sort

theorem Keep.of_below {w w' : World} (h : Below w.heap.size w w') : Keep noneOf w w' := ⟨h.os, h.tape, h.output, h.size, fun k hk _ => h.block k hk⟩
theorem Box.setRow {w : World} {g : Nat} {t : TypeId} {cs : Array Value} (h : Box w g t cs) (cs' : Array Value) : Box (w.setRow g cs') g t cs' := setRow_heap w g cs cs' t (0, 0) h
theorem Keep.setRow {S : Nat → Prop} {w w' : World} (h : Keep S w w') {g : Nat} (hg : g < w.heap.size → S g) (cs : Array Value) : Keep S w (w'.setRow g cs) :=
  ⟨h.os, h.tape, h.output, by have := h.size; simpa [World.setRow] using this, fun k hk hs => (setRow_other w' g k cs (by rintro rfl; exact hs (hg hk))).trans (h.block k hk hs)⟩
theorem keep_cells {g : Nat} {w0 : World} : ∀ (vs : List Value) {w : World} {o : Nat}, Keep (fun k => k = g) w0 w → Keep (fun k => k = g) w0 (w.setCells g o vs)
  | [], _, _, h => h
  | v :: vs, _, _, h => keep_cells vs (h.setCell (fun _ => rfl) v)
theorem box_cells {p : Nat} {t : TypeId} {r : List Value} : ∀ (vs bs a : List Value) {w : World}, bs.length = vs.length → Box w p t (a ++ bs ++ r).toArray → Box (w.setCells p a.length vs) p t (a ++ vs ++ r).toArray
  | [], bs, a, w, hl, h => by
    have : bs = [] := List.eq_nil_of_length_eq_zero hl
    subst this
    exact h
  | v :: vs, b :: bs, a, w, hl, h => by
    have h1 := h.put a.length v
    have e : (a ++ b :: bs ++ r).toArray.setIfInBounds a.length v = ((a ++ [v]) ++ bs ++ r).toArray := by
      rw [List.setIfInBounds_toArray]
      congr 1
      rw [List.append_assoc, List.set_append_right _ _ (Nat.le_refl _), Nat.sub_self]
      simp
    rw [e] at h1
    have := box_cells vs bs (a ++ [v]) (by simpa using hl) h1
    simp only [List.length_append, List.length_cons, List.length_nil, List.append_assoc] at this ⊢
    exact this

/-- What lies at the k-th of some numbers in a block that begins with them. -/
theorem box_at {w : World} {p : Nat} {t : TypeId} {l : List Int} {rest : List Value} (h : Box w p t (l.map zv ++ rest).toArray) {k : Nat} (hk : k < l.length) : w.cell? ⟨p, k, none⟩ = some (.int .i64 l[k]) := by
  rw [h.cell k]
  simp [List.getElem?_append_left, hk, zv]
theorem box_zs {w : World} {p : Nat} {t : TypeId} {l : List Int} {rest : List Value} (h : Box w p t (l.map zv ++ rest).toArray) {c : Nat} (hc : l.length ≤ c) (hm : c ≤ maxLen) : Zs w (fun i => i = p) (.slice (some ⟨p, 0, none⟩) l.length c) l := by
  refine ⟨some ⟨p, 0, none⟩, c, rfl, hc, hm, (fun e => by cases e), by simp, fun _ => ⟨⟨p, 0, none⟩, rfl, rfl, h.lt, rfl, fun j x hx => ?_⟩⟩
  rw [List.getElem?_map] at hx
  cases hj : l[j]? with
  | none => rw [hj] at hx; cases hx
  | some z =>
    rw [hj] at hx
    obtain ⟨hlt, rfl⟩ := List.getElem?_eq_some_iff.1 hj
    have := box_at h hlt
    show w.cell? ⟨p, 0 + j, none⟩ = _
    rw [Nat.zero_add, this]
    simpa [zv] using hx
theorem box_holds {w : World} {p : Nat} {t : TypeId} {l : List Int} {rest : List Value} (h : Box w p t (l.map zv ++ rest).toArray) : Holds (Value.int .i64) w p 0 l.toArray := by
  intro j hj
  have hj' : j < l.length := by simpa using hj
  refine ⟨?_, h.free _⟩
  rw [Nat.zero_add, box_at h hj']
  simp [hj']
theorem putCells_front (l zs : List Int) (rest : List Value) (hl : zs.length = l.length) : putCells (Value.int .i64) 0 zs.toArray (l.map zv ++ rest).toArray = (zs.map zv ++ rest).toArray := by
  apply Array.ext'
  apply List.ext_getElem?
  intro j
  simp only [putCells, Array.toList_mapIdx, List.getElem?_mapIdx, List.size_toArray, Nat.zero_le, true_and, Nat.zero_add, Nat.sub_zero]
  by_cases hj : j < zs.length
  · rw [List.getElem?_append_left (by simp; omega), List.getElem?_append_left (by simp; omega), List.getElem?_map, List.getElem?_map, List.getElem?_eq_getElem (show j < l.length by omega), List.getElem?_eq_getElem hj]
    simp [hj, zv]
  · rw [List.getElem?_append_right (by simp; omega), List.getElem?_append_right (by simp; omega)]
    simp only [List.length_map, hl]
    cases rest[j - l.length]? <;> simp <;> omega
theorem sortBox_any (w : World) (p c : Nat) (t : TypeId) (l : List Int) (rest : List Value) (h : Box w p t (l.map zv ++ rest).toArray) (hl : l.length < 4611686018427387904) :
    Calls Try.prog 29 #[.slice (some ⟨p, 0, none⟩) l.length c] w fun e w' => e = .returned (.tuple #[]) ∧ Box w' p t ((l.mergeSort (fun x y => decide (x ≤ y))).map zv ++ rest).toArray ∧ Keep (fun i => i = p) w w' := by
  refine (Try.slices_Sort_int p 0 c l w (box_holds h) h.lt hl).mono ?_
  rintro e w' ⟨rfl, n, os, rfl⟩
  refine ⟨rfl, ?_, (Keep.of_grown (grownBy_sortedI _)).mono (fun i _ e => Option.some.inj e)⟩
  have := heap_sortedI (n := n) (os := os) (l.mergeSort (fun x y => decide (x ≤ y))).toArray h
  rw [putCells_front _ _ _ (List.length_mergeSort _)] at this
  exact this

/-- The numbers as they lie on the way: what is kept, then what was there. -/
structure OnWay (q : Int → Bool) (l ys : List Int) (i j : Nat) : Prop where
  len : ys.length = l.length
  ij : i < j
  jn : j ≤ l.length
  done : ys.take i = (l.take j).filter (fun x => !q x)
  more : ys.drop j = l.drop j
theorem OnWay.skip {q : Int → Bool} {l ys : List Int} {i j : Nat} (h : OnWay q l ys i j) (hj : j < l.length) (hq : q l[j] = true) : OnWay q l ys i (j + 1) := by
  refine ⟨h.len, by have := h.ij; omega, hj, ?_, ?_⟩
  · rw [h.done, List.take_succ_eq_append_getElem hj, List.filter_append]
    simp [hq]
  · rw [← List.drop_drop, h.more, List.drop_drop]
theorem OnWay.put {q : Int → Bool} {l ys : List Int} {i j : Nat} (h : OnWay q l ys i j) (hj : j < l.length) (hq : q l[j] = false) : OnWay q l (ys.set i l[j]) (i + 1) (j + 1) := by
  have hil : i < ys.length := by have := h.ij; have := h.len; omega
  refine ⟨by simpa using h.len, by have := h.ij; omega, hj, ?_, ?_⟩
  · rw [List.take_succ_eq_append_getElem (by simpa using hil), List.getElem_set_self, List.take_set_of_le (Nat.le_refl _), h.done, List.take_succ_eq_append_getElem hj, List.filter_append]
    simp [hq]
  · rw [List.drop_set_of_lt (by have := h.ij; omega), ← List.drop_drop, h.more, List.drop_drop]
theorem OnWay.at {q : Int → Bool} {l ys : List Int} {i j : Nat} (h : OnWay q l ys i j) (hj : j < l.length) : ys[j]'(by rw [h.len]; exact hj) = l[j] := by
  have := congrArg (fun (x : List Int) => x[0]?) h.more
  simp only [List.getElem?_drop, Nat.add_zero] at this
  rw [List.getElem?_eq_getElem (by rw [h.len]; exact hj), List.getElem?_eq_getElem hj] at this
  exact Option.some.inj this
theorem OnWay.start {q : Int → Bool} {l : List Int} {i : Nat} (hi : i < l.length) (hp : q l[i] = true) (hb : ∀ j (hj : j < i), q (l[j]'(by omega)) = false) : OnWay q l l i (i + 1) := by
  refine ⟨rfl, by omega, hi, ?_, rfl⟩
  rw [List.take_succ_eq_append_getElem hi, List.filter_append]
  have : (l.take i).filter (fun x => !q x) = l.take i := by
    rw [List.filter_eq_self]
    intro a ha
    obtain ⟨j, hj, rfl⟩ := List.getElem_of_mem ha
    rw [List.getElem_take, hb j (by rw [List.length_take] at hj; omega)]
    rfl
  rw [this]
  simp [hp]
theorem zeroI : ∀ w, (zeroValue 3).run Try.prog w = .ok (.int .i64 0) w := fun w => by kernel_rfl

set_option maxRecDepth 100000 in
set_option maxHeartbeats 2000000 in
theorem deleteFunc_any (w : World) (p c : Nat) (t : TypeId) (l : List Int) (rest : List Value) (h : Box w p t (l.map zv ++ rest).toArray) (hlc : l.length ≤ c) (hcm : c ≤ maxLen) (g : Nat) (lb : Array Value) (q : Int → Bool) (eg : CanCall g) (hf : TellsOn (fun i => i = p) g lb l q w) :
    Calls Try.prog 58 #[.slice (some ⟨p, 0, none⟩) l.length c, .func (.func g) #[] lb] w fun e w' => ∃ m, m + (l.filter (fun x => !q x)).length = l.length ∧ e = .returned (.slice (some ⟨p, 0, none⟩) (l.filter (fun x => !q x)).length c) ∧
      Box w' p t ((l.filter (fun x => !q x)).map zv ++ (List.replicate m (zv 0) ++ rest)).toArray ∧ Keep (fun i => i = p) w w' := by
  have H := Lib.hid h
  have HI := Lib.hid (indexFunc_any (fun i => i = p) w _ _ l (box_zs h hlc hcm) g lb q eg hf)
  unfold maxLen at hcm
  have HEG := Lib.hid eg
  have HF := Lib.hid hf
  clear h eg hf
  go_enter Try.func58, Try.ntmps58
  go_wp2_with fail
  refine HI.out.mono ?_
  rintro e w1 ⟨rfl, k1⟩
  have HK1 := Lib.hid k1
  clear HI k1
  cases hfi : l.findIdx? q with
  | none =>
    have hx : indexG q l = -1 := by unfold indexG; rw [hfi]
    have hkk : l.filter (fun x => !q x) = l := by
      rw [List.filter_eq_self]
      intro a ha
      rw [List.findIdx?_eq_none_iff] at hfi
      rw [hfi a ha]
      rfl
    rw [hx]
    have HKK := Lib.hid hkk
    clear hkk hfi hx
    go_wp2
    go_ret
    exact ⟨0, by rw [HKK.out]; omega, by rw [HKK.out]; rfl, by rw [HKK.out]; exact H.out.keep HK1.out id, HK1.out.mono (fun _ _ e => e.elim)⟩
  | some i0 =>
    have hx : indexG q l = i0 := by unfold indexG; rw [hfi]
    rw [List.findIdx?_eq_some_iff_getElem] at hfi
    obtain ⟨hi0, hp0, hb0⟩ := hfi
    have HST := Lib.hid (OnWay.start hi0 hp0 (fun j hj => by have := hb0 j hj; simpa using this))
    rw [hx]
    have g0 : ((i0 : Int) == -1) = false := by rw [beq_eq_false_iff_ne]; omega
    clear hp0 hb0 hx
    go_wp2
    go_loopw [5, 6] (fun vi vj wr => ∃ (i j : Nat) (ys : List Int), vi = .int .i64 i ∧ vj = .int .i64 j ∧ OnWay q l ys i j ∧ Box wr p t (ys.map zv ++ rest).toArray ∧ Keep (fun k => k = p) w wr) (fun _ vj _ => l.length - (intOf vj).toNat)
    case atStart => exact ⟨i0, i0 + 1, l, rfl, by go_num, HST.out, H.out.keep HK1.out id, HK1.out.mono (fun _ _ e => e.elim)⟩
    case round =>
      obtain ⟨i, j, ys, rfl, rfl, hon, hbx, hkeep⟩ := hrel
      have HON := Lib.hid hon
      have HBX := Lib.hid hbx
      have HK := Lib.hid hkeep
      have hij := hon.ij
      have hjn := hon.jn
      have hyl := hon.len
      have hin : i < l.length := by omega
      clear hon hbx hkeep hi0 HST g0
      by_cases hlt : j < l.length
      · have hc : wr.cell? ⟨p, j, none⟩ = some (.int .i64 l[j]) := by
          have := box_at HBX.out (show j < ys.length by omega)
          rw [HON.out.at hlt] at this
          exact this
        have HC := Lib.hid (HF.out wr l[j] HK.out (List.getElem_mem hlt))
        have HX := Lib.hid (show l[j] = l[j] from rfl)
        have q0 : (0 : Int) ≤ (j : Int) := by omega
        have q1 : (j : Int) < (l.length : Int) := by omega
        have q2 : (0 : Int) ≤ (i : Int) := by omega
        have q3 : (i : Int) < (l.length : Int) := by omega
        have HYL := Lib.hid hyl
        clear hyl
        generalize hxx : l[j] = x at hc HC HX
        have HXX := Lib.hid hxx
        clear hxx
        cases hb : q x with
        | true =>
          rw [hb] at HC
          have HO2 := Lib.hid (HON.out.skip hlt (by rw [HXX.out]; exact hb))
          have eg : ∀ (args : Array Value) (w : World), (callFunc g args).run Try.prog w = .ok (.enter g args) w := HEG.out
          clear hb
          go_wp2_with fail
          refine HC.out.mono ?_
          rintro e w2 ⟨rfl, k2⟩
          have HW2 := Lib.hid (HBX.out.keep k2 id)
          have HK2 := Lib.hid (HK.out.trans k2 (fun _ _ h => h.elim))
          clear k2 hc eg
          go_wp2
          go_roundw
          case rel => exact ⟨i, j + 1, ys, rfl, by go_num, HO2.out, HW2.out, HK2.out⟩
          case measure => simp [intOf]; omega
        | false =>
          rw [hb] at HC
          have HO2 := Lib.hid (HON.out.put hlt (by rw [HXX.out]; exact hb))
          rw [HXX.out] at HO2
          have eg : ∀ (args : Array Value) (w : World), (callFunc g args).run Try.prog w = .ok (.enter g args) w := HEG.out
          clear hb
          go_wp2_with fail
          refine HC.out.mono ?_
          rintro e w2 ⟨rfl, k2⟩
          have HW2 := Lib.hid (HBX.out.keep k2 id)
          have HK2 := Lib.hid (HK.out.trans k2 (fun _ _ h => h.elim))
          have hfz := HW2.out.free i
          have hci : ∃ u, w2.cell? ⟨p, i, none⟩ = some u := ⟨_, box_at HW2.out (show i < ys.length by have := HYL.out; omega)⟩
          obtain ⟨u, hci⟩ := hci
          clear k2 hc eg
          go_wp2
          go_roundw
          case rel =>
            refine ⟨i + 1, j + 1, ys.set i x, by go_num, by go_num, HO2.out, ?_, HK2.out.setCell (fun _ => rfl) _⟩
            have h1 := HW2.out.put i (.int .i64 x)
            rw [List.setIfInBounds_toArray, List.set_append_left _ _ (by rw [List.length_map]; have := HYL.out; omega)] at h1
            rw [List.map_set]
            exact h1
          case measure => simp [intOf]; omega
      · obtain rfl : j = l.length := by omega
        have hltz : ¬ (l.length : Int) < (l.length : Int) := by omega
        have q2 : (0 : Int) ≤ (i : Int) := by omega
        have q3 : (i : Int) ≤ (l.length : Int) := by omega
        have q4 : (l.length : Int) ≤ (c : Int) := by omega
        have hcl : ∀ ty, (Builtin.clear_ #[22] ty #[.slice (some ⟨p, i, none⟩) (l.length - i) (c - i)]).run Try.prog wr = .ok (.tuple #[]) (wr.setCells p i (List.replicate (l.length - i) (.int .i64 0))) :=
          fun ty => Lib.run_clear_slice wr _ _ ty _ Try.underlying22 zeroI rfl rfl p i _ _ (by omega) (fun t ht => by rw [box_at HBX.out (by omega)]; rfl) (fun t _ => HBX.out.free (i + t))
        have HYL := Lib.hid hyl
        clear hyl
        go_wp2
        have hk : l.filter (fun x => !q x) = ys.take i := by have := HON.out.done; rw [List.take_length] at this; exact this.symm
        have hkl : (l.filter (fun x => !q x)).length = i := by rw [hk, List.length_take, HYL.out]; omega
        have hbe : Box (wr.setCells p i (List.replicate (l.length - i) (.int .i64 0))) p t ((l.filter (fun x => !q x)).map zv ++ (List.replicate (l.length - i) (zv 0) ++ rest)).toArray := by
          have h0 := HBX.out
          have e : ys.map zv ++ rest = (ys.take i).map zv ++ (ys.drop i).map zv ++ rest := by rw [← List.map_append, List.take_append_drop]
          rw [e] at h0
          have h1 := box_cells (List.replicate (l.length - i) (zv 0)) ((ys.drop i).map zv) ((ys.take i).map zv) (by rw [List.length_map, List.length_drop, List.length_replicate, HYL.out]) h0
          rw [List.length_map, List.length_take, HYL.out, Nat.min_eq_left (by omega), List.append_assoc] at h1
          rw [hk]
          exact h1
        have HBE := Lib.hid hbe
        have HKE := Lib.hid (keep_cells (List.replicate (l.length - i) (.int .i64 0)) (o := i) HK.out)
        have HKL := Lib.hid hkl
        clear hk hkl hbe
        go_ret
        exact ⟨l.length - i, by rw [HKL.out]; omega, by rw [HKL.out]; rfl, HBE.out, HKE.out⟩
end Go.Proofs.Ytmncjibokpieoaa
