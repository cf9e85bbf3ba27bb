import Derived.TacticsInMore
import Derived.Test.YtkoikmdmejhhhaaGreatBs16
import Derived.Test.YtkoikmdmejhhhaaGreatBs17
namespace Go.Proofs.YtkoikmdmejhhhaaGreat
open Go.RowKit Go.Maps
def openE (l : List Ro) (x : Int) : Int := if x = 0 then 1 else if (findR l x).isSome then 0 else if 16 ≤ l.length then 112 else 0
def openL (l : List Ro) (x : Int) : List Ro := if x = 0 then l else if (findR l x).isSome then l else if 16 ≤ l.length then l else insR ⟨x, 0, .zero⟩ l
def lookA (l : List Ro) (x s : Int) : An := match findR l x with
  | none => .zero
  | some r => if s = r.seq ∧ s ≠ 0 then r.ans else .zero
def lookB (l : List Ro) (x s : Int) : Bool := match findR l x with
  | none => false
  | some r => decide (s = r.seq ∧ s ≠ 0)
def lookE (l : List Ro) (x s : Int) : Int := match findR l x with
  | none => 110
  | some r => if s < r.seq ∨ s = 0 then 111 else 0
def keepE (l : List Ro) (x s : Int) : Int := if lookE l x s ≠ 0 then lookE l x s else if lookB l x s then 111 else 0
def keepL (l : List Ro) (x s : Int) (a : An) : List Ro := if keepE l x s = 0 then putR l ⟨x, s, a⟩ else l
theorem del_none {l : List Ro} {x : Int} (h : findR l x = none) : delR l x = l := by
  unfold findR at h
  rw [List.find?_eq_none] at h
  unfold delR
  rw [List.filter_eq_self]
  intro f hf
  have := h f hf
  simpa using this
theorem ins_perm (r : Ro) (l : List Ro) : (insR r l).Perm (r :: l) := by
  induction l with
  | nil => exact List.Perm.refl _
  | cons g l ih =>
    unfold insR
    split
    · exact List.Perm.refl _
    · exact (ih.cons g).trans (List.Perm.swap r g l)
theorem ins_length (r : Ro) (l : List Ro) : (insR r l).length = l.length + 1 := (ins_perm r l).length_eq
theorem del_length {l : List Ro} {x : Int} {r : Ro} (h : findR l x = some r) : (delR l x).length + 1 ≤ l.length := by
  obtain ⟨hm, hx⟩ := findR_mem h
  unfold delR
  have : (l.filter (fun r => !decide (r.id = x))).length < l.length := by
    rw [List.length_filter_lt_length_iff_exists]
    exact ⟨r, hm, by simp [hx]⟩
  omega
theorem put_few {l : List Ro} {x s : Int} {a : An} {r : Ro} (h : findR l x = some r) : (putR l ⟨x, s, a⟩).length ≤ l.length := by
  unfold putR
  rw [ins_length]
  exact del_length h
set_option maxRecDepth 100000 in
theorem new_any_S (w : World) : Calls Tryz.prog 36 #[] w fun e w' => e = .returned (.pointer (some ⟨w.heap.size + 1, 0, none⟩)) ∧ TabAt w' (w.heap.size + 1) w.heap.size [] ∧ Keep noneOf w w' := by
  have hm := World.ownsMap_made (H := Unit) w Tryz.prog 23 lastElem
  have hk := ((Keep.refl noneOf w).alloc (.map #[] 0)).alloc (.cells #[.map (some w.heap.size)] 121)
  have hb := Box.new (w.alloc (.map #[] 0)) 121 #[.map (some w.heap.size)]
  have hm2 := hm.alloc (.cells #[.map (some w.heap.size)] 121)
  have HF : Hid (TabAt ((w.alloc (.map #[] 0)).alloc (.cells #[.map (some w.heap.size)] 121)) (w.heap.size + 1) w.heap.size []) := Lib.hid ⟨by simpa using hb, hm2, by omega⟩
  have HK := Lib.hid hk
  have hmm := @run_makeMap Tryz.prog
  clear hm hk hb hm2
  go_enter Tryz.func36, Tryz.ntmps36
  go_wp2
  go_ret
  exact ⟨by simp, HF.out, HK.out⟩
set_option maxRecDepth 100000 in
theorem len_any (w : World) (p m : Nat) (l : List Ro) (h : TabAt w p m l) : Calls Tryz.prog 92 #[.pointer (some ⟨p, 0, none⟩)] w fun e w' => e = .returned (.int .i64 l.length) ∧ w' = w := by
  have c0 : w.cell? ⟨p, 0, none⟩ = some (.map (some m)) := h.box.cell 0
  have hl := fun ty => len_run h ty
  clear h
  go_enter Tryz.func92, Tryz.ntmps92
  go_wp2
  go_ret
  exact ⟨rfl, rfl⟩
theorem tab_put {w w' : World} {p m n : Nat} {l l' : List Ro} (h : TabAt w p m l) (hm : w'.ownsMap Tryz.prog 23 lastElem m n (datum l')) (hg : w.grownBy w' (some m)) : TabAt w' p m l' ∧ Keep (fun i => i = m) w w' := by
  have kk : Keep (fun i => i = m) w w' := (Keep.of_grown hg).mono (fun i _ e => by injection e)
  exact ⟨⟨h.box.keep kk (fun e => h.ne e), map_tight hm, h.ne⟩, kk⟩
set_option maxRecDepth 100000 in
set_option maxHeartbeats 1000000 in
theorem open_any (w : World) (p m : Nat) (l : List Ro) (x : Int) (h : TabAt w p m l) (h0 : 0 ≤ x) (h1 : x ≤ top) :
    Calls Tryz.prog 109 #[.pointer (some ⟨p, 0, none⟩), .int .u64 x] w fun e w' => e = .returned (.int .i64 (openE l x)) ∧ TabAt w' p m (openL l x) ∧ Keep (fun i => i = m) w w' := by
  by_cases hx : x = 0
  · have e1 : openE l x = 1 := by unfold openE; rw [if_pos hx]
    have e2 : openL l x = l := by unfold openL; rw [if_pos hx]
    rw [e1, e2]
    subst hx
    have H := Lib.hid h
    clear h e1 e2
    go_enter Tryz.func109, Tryz.ntmps109
    go_wp2
    go_ret
    exact ⟨rfl, H.out, Keep.refl _ _⟩
  · have hb := h.box
    have c0 : w.cell? ⟨p, 0, none⟩ = some (.map (some m)) := hb.cell 0
    have hlook := look_run h h0 h1
    have hlen := len_any
    have g0 : (x == 0) = false := beq_eq_false_iff_ne.2 hx
    cases hq : findR l x with
    | some r =>
      have e1 : openE l x = 0 := by unfold openE; rw [if_neg hx, hq]; rfl
      have e2 : openL l x = l := by unfold openL; rw [if_neg hx, hq]; rfl
      rw [e1, e2]
      rw [hq] at hlook
      unfold lastOf lastV at hlook
      simp only [Option.isSome_some] at hlook
      have HF : Hid (∀ o, TabAt (w.alloc o) p m l ∧ Keep (fun i => i = m) w (w.alloc o)) := Lib.hid fun o => ⟨h.stay ((Keep.refl noneOf w).alloc o), (Keep.refl _ w).alloc o⟩
      clear h e1 e2 hq hb hlen hx
      go_enter Tryz.func109, Tryz.ntmps109
      go_wp2
      go_ret
      exact ⟨rfl, HF.out _⟩
    | none =>
      rw [hq] at hlook
      unfold lastOf lastV An.zero at hlook
      simp only [Option.isSome_none] at hlook
      have HK := Lib.hid h
      have HA : Hid (∀ o, TabAt (w.alloc o) p m l) := Lib.hid fun o => h.stay ((Keep.refl noneOf w).alloc o)
      have HL : Hid (∀ o, Calls Tryz.prog 92 #[.pointer (some ⟨p, 0, none⟩)] (w.alloc o) fun e w' => e = .returned (.int .i64 l.length) ∧ w' = w.alloc o) := Lib.hid fun o => len_any _ p m l (HA.out o)
      have HX : Hid (0 ≤ x ∧ x ≤ top) := Lib.hid ⟨h0, h1⟩
      have hsz := hb.lt
      by_cases hf : 16 ≤ l.length
      · have e1 : openE l x = 112 := by unfold openE; rw [if_neg hx, hq, if_pos hf]; rfl
        have e2 : openL l x = l := by unfold openL; rw [if_neg hx, hq, if_pos hf]; rfl
        rw [e1, e2]
        have q1 : (16 : Int) ≤ (l.length : Int) := by omega
        clear h e1 e2 hq hb hlen hx hf
        go_enter Tryz.func109, Tryz.ntmps109
        go_wp2_with fail
        refine (HL.out _).mono ?_
        rintro e w1 ⟨rfl, rfl⟩
        go_wp2
        go_ret
        exact ⟨rfl, HA.out _, (Keep.refl _ w).alloc _⟩
      · have e1 : openE l x = 0 := by unfold openE; rw [if_neg hx, hq, if_neg hf]; rfl
        have e2 : openL l x = insR ⟨x, 0, .zero⟩ l := by unfold openL; rw [if_neg hx, hq, if_neg hf]; rfl
        rw [e1, e2]
        have q1 : ¬ (16 : Int) ≤ (l.length : Int) := by omega
        have HN : Hid (l.length < maxLen) := Lib.hid (by unfold maxLen; omega)
        have HP : Hid ((datum l).put (keyI x) (lastD 0 .zero) = datum (insR ⟨x, 0, .zero⟩ l)) := Lib.hid (by have h9 := put_datum l ⟨x, 0, .zero⟩; unfold putR at h9; rw [del_none hq] at h9; exact h9)
        have hz := zeroL
        unfold lastV An.zero at hz
        clear h e1 e2 hq hb hlen hx hf
        go_enter Tryz.func109, Tryz.ntmps109
        go_wp2_with fail
        refine (HL.out _).mono ?_
        rintro e w1 ⟨rfl, rfl⟩
        go_wp2_with (first
          | (at_mapUpdate; refine wpList_mapUpdate_own _ rfl _ _ _ 119 rfl 23 142 law Tryz.underlying119 lastElem m _ _ rfl (HA.out _).map HN.out _ _ (keyI x) rfl rfl (key_of HX.out.1 HX.out.2) (lastD 0 .zero) [] rfl ?_; intro w2 hown2 hgrow2; rw [HP.out] at hown2; have HT2 := Lib.hid (tab_put (HA.out _) hown2 hgrow2); clear hown2 hgrow2)
          | fail)
        go_wp2
        go_ret
        exact ⟨rfl, HT2.out.1, ((Keep.refl _ w).alloc _).trans HT2.out.2 (fun _ _ e => e)⟩
theorem ans_blocks (w : World) (a : An) (y : Array Value) (t : TypeId) (wf : World) (e : wf = (w.alloc (.cells #[.int .i64 a.code, .int .u64 a.id, .int .u64 a.tok, .int .u64 a.unt, .string a.tgt, .string a.cmd] 40)).alloc (.cells y t)) :
    wf.cell? ⟨w.heap.size, 0, none⟩ = some (.int .i64 a.code) ∧ wf.cell? ⟨w.heap.size, 1, none⟩ = some (.int .u64 a.id) ∧ wf.cell? ⟨w.heap.size, 2, none⟩ = some (.int .u64 a.tok) ∧ wf.cell? ⟨w.heap.size, 3, none⟩ = some (.int .u64 a.unt) ∧ wf.cell? ⟨w.heap.size, 4, none⟩ = some (.string a.tgt) ∧ wf.cell? ⟨w.heap.size, 5, none⟩ = some (.string a.cmd) ∧ Keep noneOf w wf := by
  subst e
  have x := (Box.new w 40 #[.int .i64 a.code, .int .u64 a.id, .int .u64 a.tok, .int .u64 a.unt, .string a.tgt, .string a.cmd]).alloc (.cells y t)
  exact ⟨x.cell 0, x.cell 1, x.cell 2, x.cell 3, x.cell 4, x.cell 5, ((Keep.refl noneOf w).alloc _).alloc _⟩
theorem look_at {l : List Ro} {x s : Int} {r : Ro} (hq : findR l x = some r) : lookA l x s = (if s = r.seq ∧ s ≠ 0 then r.ans else .zero) ∧ lookB l x s = decide (s = r.seq ∧ s ≠ 0) ∧ lookE l x s = (if s < r.seq ∨ s = 0 then 111 else 0) := by
  unfold lookA lookB lookE
  rw [hq]
  exact ⟨rfl, rfl, rfl⟩
set_option maxRecDepth 100000 in
set_option maxHeartbeats 1000000 in
theorem look_any (w : World) (p m : Nat) (l : List Ro) (x s : Int) (h : TabAt w p m l) (h0 : 0 ≤ x) (h1 : x ≤ top) :
    Calls Tryz.prog 77 #[.pointer (some ⟨p, 0, none⟩), .int .u64 x, .int .u64 s] w fun e w' => e = .returned (.tuple #[(lookA l x s).agg, .bool (lookB l x s), .int .i64 (lookE l x s)]) ∧ Keep noneOf w w' := by
  have hb := h.box
  have hsz := hb.lt
  have c0 : w.cell? ⟨p, 0, none⟩ = some (.map (some m)) := hb.cell 0
  have hlook : ∀ o, (Instr.lookup 119 (.map (some m)) (.int .u64 x) true).run Tryz.prog (w.alloc o) = .ok (.tuple #[lastOf (findR l x), .bool (findR l x).isSome]) (w.alloc o) := fun o => look_run (h.stay ((Keep.refl noneOf w).alloc o)) h0 h1
  have hz := zeroA
  unfold An.agg An.zero at hz
  cases hq : findR l x with
  | none =>
    have e1 : lookA l x s = .zero := by unfold lookA; rw [hq]
    have e2 : lookB l x s = false := by unfold lookB; rw [hq]
    have e3 : lookE l x s = 110 := by unfold lookE; rw [hq]
    rw [e1, e2, e3]
    rw [hq] at hlook
    unfold lastOf lastV An.zero at hlook
    simp only [Option.isSome_none] at hlook
    clear h e1 e2 e3 hq hb h0 h1
    go_enter Tryz.func77, Tryz.ntmps77
    go_wp2
    generalize hwf : ((w.alloc (.cells #[.int .i64 0, .int .u64 0, .int .u64 0, .int .u64 0, .string ⟨#[]⟩, .string ⟨#[]⟩] 40)).alloc _) = wf
    obtain ⟨r0, r1, r2, r3, r4, r5, K⟩ := ans_blocks w .zero _ _ wf hwf.symm
    exact bodyPost_ret (v := .tuple #[An.zero.agg, .bool false, .int .i64 110]) (by simp [results, Tryz.results77, go_sem, r0, r1, r2, r3, r4, r5]; rfl) rfl ⟨rfl, K⟩
  | some r =>
    obtain ⟨e1, e2, e3⟩ := look_at (s := s) hq
    rw [hq] at hlook
    unfold lastOf lastV at hlook
    simp only [Option.isSome_some] at hlook
    by_cases hs : s < r.seq ∨ s = 0
    · rw [if_pos hs] at e3
      rw [if_neg (by omega)] at e1
      rw [decide_eq_false (by omega)] at e2
      rw [e1, e2, e3]
      obtain ⟨i, sq, ⟨ac, ai, at_, au, ag, am⟩⟩ := r
      simp only at hs hlook
      clear h e1 e2 e3 hq hb h0 h1
      by_cases hs1 : s < sq
      · go_enter Tryz.func77, Tryz.ntmps77
        go_wp2
        generalize hwf : ((w.alloc (.cells #[.int .i64 0, .int .u64 0, .int .u64 0, .int .u64 0, .string ⟨#[]⟩, .string ⟨#[]⟩] 40)).alloc _) = wf
        obtain ⟨r0, r1, r2, r3, r4, r5, K⟩ := ans_blocks w .zero _ _ wf hwf.symm
        exact bodyPost_ret (v := .tuple #[An.zero.agg, .bool false, .int .i64 111]) (by simp [results, Tryz.results77, go_sem, r0, r1, r2, r3, r4, r5]; rfl) rfl ⟨rfl, K⟩
      · obtain rfl : s = 0 := by omega
        go_enter Tryz.func77, Tryz.ntmps77
        go_wp2
        generalize hwf : ((w.alloc (.cells #[.int .i64 0, .int .u64 0, .int .u64 0, .int .u64 0, .string ⟨#[]⟩, .string ⟨#[]⟩] 40)).alloc _) = wf
        obtain ⟨r0, r1, r2, r3, r4, r5, K⟩ := ans_blocks w .zero _ _ wf hwf.symm
        exact bodyPost_ret (v := .tuple #[An.zero.agg, .bool false, .int .i64 111]) (by simp [results, Tryz.results77, go_sem, r0, r1, r2, r3, r4, r5]; rfl) rfl ⟨rfl, K⟩
    · rw [if_neg hs] at e3
      have hs0 : s ≠ 0 := fun e => hs (.inr e)
      have hs1 : ¬ s < r.seq := fun e => hs (.inl e)
      have g0 : (s == 0) = false := beq_eq_false_iff_ne.2 hs0
      by_cases he : s = r.seq
      · rw [if_pos ⟨he, hs0⟩] at e1
        rw [decide_eq_true ⟨he, hs0⟩] at e2
        rw [e1, e2, e3]
        obtain ⟨i, sq, ⟨ac, ai, at_, au, ag, am⟩⟩ := r
        simp only at he hs1 hlook
        subst he
        clear h e1 e2 e3 hq hb h0 h1 hs hs0
        go_enter Tryz.func77, Tryz.ntmps77
        go_wp2
        generalize hwf : ((w.alloc (.cells #[.int .i64 ac, .int .u64 ai, .int .u64 at_, .int .u64 au, .string ag, .string am] 40)).alloc _) = wf
        obtain ⟨r0, r1, r2, r3, r4, r5, K⟩ := ans_blocks w ⟨ac, ai, at_, au, ag, am⟩ _ _ wf hwf.symm
        simp only at r0 r1 r2 r3 r4 r5
        exact bodyPost_ret (v := .tuple #[An.agg ⟨ac, ai, at_, au, ag, am⟩, .bool true, .int .i64 0]) (by simp [results, Tryz.results77, go_sem, r0, r1, r2, r3, r4, r5]; rfl) rfl ⟨rfl, K⟩
      · rw [if_neg (fun h => he h.1)] at e1
        rw [decide_eq_false (fun h => he h.1)] at e2
        rw [e1, e2, e3]
        obtain ⟨i, sq, ⟨ac, ai, at_, au, ag, am⟩⟩ := r
        simp only at he hs1 hlook
        have hs2 : sq < s := by omega
        clear h e1 e2 e3 hq hb h0 h1 hs hs0 he
        go_enter Tryz.func77, Tryz.ntmps77
        go_wp2
        generalize hwf : ((w.alloc (.cells #[.int .i64 0, .int .u64 0, .int .u64 0, .int .u64 0, .string ⟨#[]⟩, .string ⟨#[]⟩] 40)).alloc _) = wf
        obtain ⟨r0, r1, r2, r3, r4, r5, K⟩ := ans_blocks w .zero _ _ wf hwf.symm
        exact bodyPost_ret (v := .tuple #[An.zero.agg, .bool false, .int .i64 0]) (by simp [results, Tryz.results77, go_sem, r0, r1, r2, r3, r4, r5]; rfl) rfl ⟨rfl, K⟩
end Go.Proofs.YtkoikmdmejhhhaaGreat
