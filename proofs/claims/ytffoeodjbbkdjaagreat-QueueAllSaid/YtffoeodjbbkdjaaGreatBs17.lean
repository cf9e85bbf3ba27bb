import Derived.Test.YtffoeodjbbkdjaaGreatRows
import Derived.ChangeOld
import Derived.Deep.DeepCutAuto
import Derived.Deep.Slices
import Derived.OpenShut
import Derived.ProofKit
import Derived.SizedLaws
import Derived.Test.YtffoeodjbbkdjaaGreatBs01
import Derived.Test.YtffoeodjbbkdjaaGreatBs15
import Derived.Test.YtffoeodjbbkdjaaGreatBs16
namespace Go.Proofs.YtffoeodjbbkdjaaGreat
open Go.RowKit Go.Maps
section
variable {P : Program}
theorem step_mapUpdate {H : Type} {ops : Array Oper} {o : Oper} {a : Act} {w : World} {K' : Act → World → Prop} {Q : Exit → Act → World → Prop} {E : Prop} (hgd : o.guard = none) (m x v : Operand) (t : TypeId) (hop : o.op = Op.mapUpdate t m x v)
  (k e : TypeId) (K : Keyed P k) (ht : P.underlying t = some (.map k e)) (R : Value → Option (DataW H × List MemPlace)) (b n : Nat) (D : DataW H)
  (hm : a.eval m = .map (some b)) (hown : w.ownsMap P k R b n D) (hn : n < maxLen) (key val : Value) (kl : Lit) (hx : a.eval x = key) (hv : a.eval v = val) (hkey : keyOf P k key = some kl)
  (d : DataW H) (ps : List MemPlace) (hval : R val = some (d, ps))
  (h : ∀ w', w'.ownsMap P k R b (n + 1) (D.put kl d) → w.grownBy w' (some b) → K' (a.put o.dst undef) w') :
  if Region.wanted o (yielded ops a.tmps) = true then Oper.wp P o a w K' Q else E := by
 have hw : Region.wanted o (yielded ops a.tmps) = true := by simp [Region.wanted, hgd]
 rw [if_pos hw]
 obtain ⟨w', hrun, r1, r2⟩ := hown.update K ht hn hkey hval
 unfold Oper.wp
 simp [execOp, hop, hm, hx, hv, hrun, Result.andThen]
 exact h w' r1 r2
end
set_option maxRecDepth 100000 in
set_option maxHeartbeats 2000000 in
set_option linter.unusedSimpArgs false in
theorem keep_any (w : World) (p m : Nat) (l : List Ro) (x s : Int) (a : An) (h : TabAt w p m l) (h0 : 0 ≤ x) (h1 : x ≤ top) (hfew : l.length ≤ 16) :
  Calls Tryz.prog 65 #[.pointer (some ⟨p, 0, none⟩), .int .u64 x, .int .u64 s, a.agg] w fun e w' => e = .returned (.int .i64 (keepE l x s)) ∧ TabAt w' p m (keepL l x s a) ∧ Keep (fun i => i = m) w w' := by
 have H := Lib.hid h
 have HL : Hid (∀ o, Calls Tryz.prog 64 #[.pointer (some ⟨p, 0, none⟩), .int .u64 x, .int .u64 s] (w.alloc o) fun e w' => e = .returned (.tuple #[(lookA l x s).agg, .bool (lookB l x s), .int .i64 (lookE l x s)]) ∧ Keep noneOf (w.alloc o) w') := Lib.hid fun o => look_any _ p m l x s (h.stay ((Keep.refl noneOf w).alloc o)) h0 h1
 have HX : Hid (0 ≤ x ∧ x ≤ top) := Lib.hid ⟨h0, h1⟩
 have HF := Lib.hid hfew
 obtain ⟨ac, ai, at_, au, ag, am⟩ := a
 have hb0 := Box.new w 40 #[.int .i64 ac, .int .u64 ai, .int .u64 at_, .int .u64 au, .string ag, .string am]
 have HB0 := Lib.hid hb0
 unfold An.agg at HL ⊢
 dsimp only at HL ⊢
 clear h h0 h1 hfew hb0
 generalize lookA l x s = A at *
 obtain ⟨bc, bi, bt, bu, bg, bm⟩ := A
 by_cases he : lookE l x s = 0
 ·
  cases hbb : lookB l x s with
  | true =>
   have e1 : keepE l x s = 111 := by unfold keepE; rw [if_neg (fun h => h he), hbb]; rfl
   have e2 : keepL l x s ⟨ac, ai, at_, au, ag, am⟩ = l := by unfold keepL; rw [e1]; rfl
   rw [e1, e2]
   rw [hbb, he] at HL
   clear e1 e2 he hbb
   go_enter Tryz.func65, Tryz.ntmps65
   go_wp2_with fail
   refine (HL.out _).mono ?_
   rintro e w1 ⟨rfl, k1⟩
   have HK := Lib.hid (((Keep.refl noneOf w).alloc _).trans k1 (fun _ _ h => h))
   clear k1 HL
   go_wp2
   go_ret
   have K := HK.out.alloc (.cells #[.int .i64 bc, .int .u64 bi, .int .u64 bt, .int .u64 bu, .string bg, .string bm] 40)
   exact ⟨rfl, H.out.stay K, K.mono (fun _ _ h => h.elim)⟩
  | false =>
   have e1 : keepE l x s = 0 := by unfold keepE; rw [if_neg (fun h => h he), hbb]; rfl
   have e2 : keepL l x s ⟨ac, ai, at_, au, ag, am⟩ = putR l ⟨x, s, ⟨ac, ai, at_, au, ag, am⟩⟩ := by unfold keepL; rw [if_pos e1]
   rw [e1, e2]
   rw [hbb, he] at HL
   have HP : Hid ((datum l).put (keyI x) (lastD s ⟨ac, ai, at_, au, ag, am⟩) = datum (putR l ⟨x, s, ⟨ac, ai, at_, au, ag, am⟩⟩)) := Lib.hid (put_datum l ⟨x, s, ⟨ac, ai, at_, au, ag, am⟩⟩)
   have HN : Hid (l.length < maxLen) := Lib.hid (by have := HF.out; unfold maxLen; omega)
   clear e1 e2 he hbb
   go_enter Tryz.func65, Tryz.ntmps65
   go_wp2_with fail
   refine (HL.out _).mono ?_
   rintro e w1 ⟨rfl, k1⟩
   have HK := Lib.hid (((Keep.refl noneOf w).alloc _).trans k1 (fun _ _ h => h))
   have HB1 := Lib.hid (HB0.out.keep k1 id)
   clear k1 HL HB0
   go_upto_region 6 with fail
   have hK2 := HK.out.alloc (.cells #[.int .i64 bc, .int .u64 bi, .int .u64 bt, .int .u64 bu, .string bg, .string bm] 40)
   have hB2 := HB1.out.alloc (.cells #[.int .i64 bc, .int .u64 bi, .int .u64 bt, .int .u64 bu, .string bg, .string bm] 40)
   generalize w1.alloc (.cells #[.int .i64 bc, .int .u64 bi, .int .u64 bt, .int .u64 bu, .string bg, .string bm] 40) = w2 at *
   have hT2 := H.out.stay hK2
   have MC : Hid (∀ w', Keep noneOf w2 w' → w'.cell? ⟨p, 0, none⟩ = some (.map (some m)) ∧ w'.cell? ⟨w.heap.size, 0, none⟩ = some (.int .i64 ac) ∧ w'.cell? ⟨w.heap.size, 1, none⟩ = some (.int .u64 ai) ∧ w'.cell? ⟨w.heap.size, 2, none⟩ = some (.int .u64 at_) ∧ w'.cell? ⟨w.heap.size, 3, none⟩ = some (.int .u64 au) ∧ w'.cell? ⟨w.heap.size, 4, none⟩ = some (.string ag) ∧ w'.cell? ⟨w.heap.size, 5, none⟩ = some (.string am)) := Lib.hid fun w' k => ⟨(hT2.box.keep k id).cell 0, (hB2.keep k id).cell 0, (hB2.keep k id).cell 1, (hB2.keep k id).cell 2, (hB2.keep k id).cell 3, (hB2.keep k id).cell 4, (hB2.keep k id).cell 5⟩
   have KD : Keep noneOf w2 w2.drew := (Keep.refl noneOf w2).drew
   have HT2 := Lib.hid (hT2.stay KD)
   have HK2 := Lib.hid (hK2.trans KD (fun _ _ h => h))
   have HB2 := Lib.hid (hB2.keep KD id)
   have HM0 : Hid (¬ w.heap.size = m) := Lib.hid (by have := H.out.lt.2; omega)
   clear hK2 hB2 hT2 HK HB1
   refine wp_region_held_drew (S := fun w' => w'.cell? ⟨p, 0, none⟩ = some (.map (some m)) ∧ w'.cell? ⟨w.heap.size, 0, none⟩ = some (.int .i64 ac) ∧ w'.cell? ⟨w.heap.size, 1, none⟩ = some (.int .u64 ai) ∧ w'.cell? ⟨w.heap.size, 2, none⟩ = some (.int .u64 at_) ∧ w'.cell? ⟨w.heap.size, 3, none⟩ = some (.int .u64 au) ∧ w'.cell? ⟨w.heap.size, 4, none⟩ = some (.string ag) ∧ w'.cell? ⟨w.heap.size, 5, none⟩ = some (.string am)) (by kernel_rfl) (MC.out _ KD) (fun hHeld => ?_)
   refine' ztk 0 _ rfl (.inl ⟨by kernel_rfl, ?hy0⟩) ?_
   case hy0 => intro w hSw; (try dsimp only at hSw); obtain ⟨_, _, _, _, _, _, _⟩ := hSw; go_simp; try with_reducible rfl
   simp only [Act.put, zga, zgb, zgc, zgd, zge, zgf]
   refine' ztk 1 _ rfl (.inl ⟨by kernel_rfl, ?hy1⟩) ?_
   case hy1 => intro w hSw; (try dsimp only at hSw); obtain ⟨_, _, _, _, _, _, _⟩ := hSw; go_simp; try with_reducible rfl
   simp only [Act.put, zga, zgb, zgc, zgd, zge, zgf]
   refine' ztk 2 _ rfl (.inl ⟨by kernel_rfl, ?hy2⟩) ?_
   case hy2 => intro w hSw; (try dsimp only at hSw); obtain ⟨_, _, _, _, _, _, _⟩ := hSw; go_simp; try with_reducible rfl
   simp only [Act.put, zga, zgb, zgc, zgd, zge, zgf]
   refine' ztk 3 _ rfl (.inl ⟨by kernel_rfl, ?hy3⟩) ?_
   case hy3 => intro w hSw; (try dsimp only at hSw); obtain ⟨_, _, _, _, _, _, _⟩ := hSw; go_simp; try with_reducible rfl
   simp only [Act.put, zga, zgb, zgc, zgd, zge, zgf]
   refine' ztk 4 _ rfl (.inl ⟨by kernel_rfl, ?hy4⟩) ?_
   case hy4 => intro w hSw; (try dsimp only at hSw); obtain ⟨_, _, _, _, _, _, _⟩ := hSw; go_simp; try with_reducible rfl
   simp only [Act.put, zga, zgb, zgc, zgd, zge, zgf]
   refine' ztk 5 _ rfl (.inl ⟨by kernel_rfl, ?hy5⟩) ?_
   case hy5 => intro w hSw; (try dsimp only at hSw); obtain ⟨_, _, _, _, _, _, _⟩ := hSw; go_simp; try with_reducible rfl
   simp only [Act.put, zga, zgb, zgc, zgd, zge, zgf]
   refine' ztk 6 _ rfl (.inl ⟨by kernel_rfl, ?hy6⟩) ?_
   case hy6 => intro w hSw; (try dsimp only at hSw); obtain ⟨_, _, _, _, _, _, _⟩ := hSw; go_simp; try with_reducible rfl
   simp only [Act.put, zga, zgb, zgc, zgd, zge, zgf]
   refine' ztk 7 _ rfl (.inl ⟨by kernel_rfl, ?hy7⟩) ?_
   case hy7 => intro w hSw; (try dsimp only at hSw); obtain ⟨_, _, _, _, _, _, _⟩ := hSw; go_simp; try with_reducible rfl
   simp only [Act.put, zga, zgb, zgc, zgd, zge, zgf]
   refine wpAnyH_ready (rs := [8]) (by kernel_rfl) (by simp) (AllReadyH.cons rfl (fun K hK => ?_) AllReadyH.nil)
   refine step_mapUpdate (by kernel_rfl) (.tmp 27) (.tmp 28) (.tmp 31) 107 (by kernel_rfl) 23 134 law Tryz.underlying107 lastElem m _ _ (by kernel_rfl) HT2.out.map HN.out (.int .u64 x) (lastV s ⟨ac, ai, at_, au, ag, am⟩) (keyI x) (by kernel_rfl) (by kernel_rfl) (key_of HX.out.1 HX.out.2) (lastD s ⟨ac, ai, at_, au, ag, am⟩) [] (lastElem_mk _ _) ?_
   intro w3 hown3 hgrow3
   rw [HP.out] at hown3
   have HT3 := Lib.hid (tab_put HT2.out hown3 hgrow3)
   have hm0 := HM0.out
   have MC3 : w3.cell? ⟨p, 0, none⟩ = some (.map (some m)) ∧ w3.cell? ⟨w.heap.size, 0, none⟩ = some (.int .i64 ac) ∧ w3.cell? ⟨w.heap.size, 1, none⟩ = some (.int .u64 ai) ∧ w3.cell? ⟨w.heap.size, 2, none⟩ = some (.int .u64 at_) ∧ w3.cell? ⟨w.heap.size, 3, none⟩ = some (.int .u64 au) ∧ w3.cell? ⟨w.heap.size, 4, none⟩ = some (.string ag) ∧ w3.cell? ⟨w.heap.size, 5, none⟩ = some (.string am) := by
    have hb3 := HB2.out.keep HT3.out.2 hm0
    exact ⟨HT3.out.1.box.cell 0, hb3.cell 0, hb3.cell 1, hb3.cell 2, hb3.cell 3, hb3.cell 4, hb3.cell 5⟩
   refine hK.out _ _ MC3 (fun _ => ?_)
   clear hK K
   refine wpAnyH_done (by kernel_rfl) ?_ _
   clear hHeld hown3 hgrow3 KD
   go_wp2
   go_ret
   exact ⟨rfl, HT3.out.1, (HK2.out.mono (fun _ _ h => h.elim)).trans HT3.out.2 (fun _ _ e => e)⟩
 ·
  have e1 : keepE l x s = lookE l x s := by unfold keepE; rw [if_pos he]
  have e2 : keepL l x s ⟨ac, ai, at_, au, ag, am⟩ = l := by unfold keepL; rw [e1, if_neg he]
  rw [e1, e2]
  have g : (lookE l x s != 0) = true := bne_iff_ne.2 he
  clear e1 e2 he
  generalize lookE l x s = E at *
  generalize lookB l x s = bb at *
  go_enter Tryz.func65, Tryz.ntmps65
  go_wp2_with fail
  refine (HL.out _).mono ?_
  rintro e w1 ⟨rfl, k1⟩
  have HK := Lib.hid (((Keep.refl noneOf w).alloc _).trans k1 (fun _ _ h => h))
  clear k1 HL
  go_wp2
  go_ret
  have K := HK.out.alloc (.cells #[.int .i64 bc, .int .u64 bi, .int .u64 bt, .int .u64 bu, .string bg, .string bm] 40)
  exact ⟨rfl, H.out.stay K, K.mono (fun _ _ h => h.elim)⟩
end Go.Proofs.YtffoeodjbbkdjaaGreat
namespace Go.Proofs.YtffoeodjbbkdjaaGreat
open Go.RowKit Go.ChangeShapes Go.WideShapes Go.Deep
section
variable {α : Type} (enc : α → List Value) (k : Nat)
theorem fm_length (hk : ∀ x, (enc x).length = k) (l : List α) : (l.flatMap enc).length = l.length * k := by
 induction l with
 | nil => simp
 | cons a l ih => rw [List.flatMap_cons, List.length_append, ih, hk, List.length_cons, Nat.succ_mul, Nat.add_comm]
theorem fm_at (hk : ∀ x, (enc x).length = k) {l : List α} {i : Nat} {x : α} (h : l[i]? = some x) (j : Nat) (hj : j < k) : (l.flatMap enc)[i * k + j]? = (enc x)[j]? := by
 induction l generalizing i with
 | nil => simp at h
 | cons a l ih =>
  cases i with
  | zero =>
   simp at h
   subst h
   rw [List.flatMap_cons, List.getElem?_append_left (by rw [hk]; omega)]
   simp
  | succ i =>
   simp at h
   rw [List.flatMap_cons, List.getElem?_append_right (by rw [hk, Nat.succ_mul]; omega), ← ih h]
   congr 1
   rw [hk, Nat.succ_mul]
   omega
end
def Many {α : Type} (enc : α → List Value) (k : Nat) (w : World) (D : Nat → Prop) (v : Value) (l : List α) : Prop := Row w D v l.length k (l.flatMap enc)
theorem Many.keep {α : Type} {enc : α → List Value} {k : Nat} {w w' : World} {S D : Nat → Prop} {v : Value} {l : List α} (h : Many enc k w D v l) (kk : Keep S w w') (hs : ∀ i, i < w.heap.size → D i → ¬ S i) : Many enc k w' D v l := Row.keep h kk hs
theorem Many.mono {α : Type} {enc : α → List Value} {k : Nat} {w : World} {D D' : Nat → Prop} {v : Value} {l : List α} (h : Many enc k w D v l) (hD : ∀ i, i < w.heap.size → D i → D' i) : Many enc k w D' v l := Row.mono h hD
theorem Many.nil {α : Type} (enc : α → List Value) (k : Nat) (w : World) (D : Nat → Prop) : Many enc k w D (.slice none 0 0) [] := ⟨none, 0, rfl, Nat.le_refl _, Nat.zero_le _, fun _ => rfl, by simp, fun h => absurd h (by simp)⟩
theorem Many.shape {α : Type} {enc : α → List Value} {k : Nat} {w : World} {D : Nat → Prop} {v : Value} {l : List α} (h : Many enc k w D v l) : ∃ A c, v = .slice A l.length c := by
 obtain ⟨A, c, hv, _⟩ := h
 exact ⟨A, c, hv⟩
theorem Many.few {α : Type} {enc : α → List Value} {k : Nat} {w : World} {D : Nat → Prop} {v : Value} {l : List α} (h : Many enc k w D v l) : l.length ≤ maxLen := by
 obtain ⟨A, c, hv, h1, h2, _⟩ := h
 exact Nat.le_trans h1 h2
theorem Many.cell {α : Type} {enc : α → List Value} {k : Nat} {w : World} {D : Nat → Prop} {A : Option Addr} {c : Nat} {l : List α} (h : Many enc k w D (.slice A l.length c) l) (hk : ∀ x, (enc x).length = k) {i : Nat} {x : α} (hx : l[i]? = some x) :
  ∃ b o, A = some ⟨b, o, none⟩ ∧ b < w.heap.size ∧ D b ∧ ∀ j, j < k → w.cell? ⟨b, o + (i * k + j), none⟩ = (enc x)[j]? := by
 obtain ⟨A', c', hv', _, _, _, hlen, hrow⟩ := h
 obtain ⟨rfl, rfl⟩ : A = A' ∧ c = c' := by simpa using hv'
 have hlt := (List.getElem?_eq_some_iff.1 hx).1
 obtain ⟨ad, rfl, hsp, hblk, hD, hcell⟩ := hrow (by omega)
 obtain ⟨b, o, sp⟩ := ad
 simp only at hsp hblk hD hcell
 subst hsp
 refine ⟨b, o, rfl, hblk, hD, fun j hj => ?_⟩
 have hj' := hj
 rw [← hk x] at hj'
 have e := fm_at enc k hk hx j hj
 rw [List.getElem?_eq_getElem hj'] at e ⊢
 exact hcell _ _ e
def An.cells (a : An) : List Value := [.int .i64 a.code, .int .u64 a.id, .int .u64 a.tok, .int .u64 a.unt, .string a.tgt, .string a.cmd]
def Ro.cells (r : Ro) : List Value := [.int .u64 r.id, .int .u64 r.seq, .int .i64 r.ans.code, .int .u64 r.ans.id, .int .u64 r.ans.tok, .int .u64 r.ans.unt, .string r.ans.tgt, .string r.ans.cmd]
theorem u64_in {n : Int} (h : (Lit.int .u64 n).wf = true) : 0 ≤ n ∧ n ≤ top := by
 simpa [Lit.wf, IntKind.min, IntKind.max, IntKind.signed, IntKind.bits, top] using h
section
variable {H : Type} {enc : TypeId × Value → H} {w : World}
end
end Go.Proofs.YtffoeodjbbkdjaaGreat
namespace Go.Proofs.YtffoeodjbbkdjaaGreat
open Go.RowKit
theorem Keep.newer {m : Nat} {w w' w'' : World} (h : Keep noneOf w w') (k : Keep (fun i => i = m) w' w'') (hm : w.heap.size ≤ m) : Keep noneOf w w'' := h.trans k (fun i hi e => by subst e; omega)
theorem open_few {l : List Ro} {x : Int} (h : l.length ≤ 16) : (openL l x).length ≤ 16 := by
 unfold openL
 split
 ·
  exact h
 ·
  split
  ·
   exact h
  ·
   split
   ·
    exact h
   ·
    rw [ins_length]; omega
theorem look_found {l : List Ro} {x s : Int} (h : lookE l x s = 0) : ∃ r, findR l x = some r := by
 unfold lookE at h
 cases hq : findR l x with
 | none => rw [hq] at h; simp at h
 | some r => exact ⟨r, rfl⟩
theorem keep_ok {l : List Ro} {x s : Int} (h : keepE l x s = 0) : ∃ r, findR l x = some r ∧ r.seq < s ∧ s ≠ 0 := by
 unfold keepE at h
 by_cases h1 : lookE l x s = 0
 ·
  rw [if_neg (fun e => e h1)] at h
  obtain ⟨r, hr⟩ := look_found h1
  obtain ⟨_, e2, e3⟩ := look_at (s := s) hr
  refine ⟨r, hr, ?_⟩
  rw [h1] at e3
  by_cases hs : s < r.seq ∨ s = 0
  ·
   rw [if_pos hs] at e3
   cases e3
  ·
   by_cases he : s = r.seq ∧ s ≠ 0
   ·
    rw [e2, decide_eq_true he] at h
    cases h
   ·
    omega
 ·
  rw [if_pos h1] at h
  exact absurd h h1
theorem keep_few {l : List Ro} {x s : Int} {a : An} (h : l.length ≤ 16) : (keepL l x s a).length ≤ 16 := by
 unfold keepL
 split
 ·
  rename_i h0
  obtain ⟨r, hr, _⟩ := keep_ok h0
  have := put_few (s := s) (a := a) hr
  omega
 ·
  exact h
end Go.Proofs.YtffoeodjbbkdjaaGreat
namespace Go.Proofs.YtffoeodjbbkdjaaGreat
structure Gq where
 id : Int
 ps : List Pt
 st : List Pst
structure Qp where
 now : Int
 ng : Int
 nt : Int
 ses : List Ro
 gs : List Gq
 built : List Nat
structure Cq where
 kind : Int
 ses : Int
 seq : Int
 ps : List Pt
 id : Int
 tok : Int
 good : Bool
 time : Int
def An.err (e : Int) : An := ⟨e, 0, 0, 0, ⟨#[]⟩, ⟨#[]⟩⟩
def Qp.new : Qp := ⟨0, 1, 1, [], [], []⟩
def withG (q : Qp) (i : Nat) (l : List Pst) : Qp := { q with gs := q.gs.modify i (fun g => { g with st := l }) }
def firstG (f : Gq → Option Nat) : List Gq → Nat → Option (Nat × Nat)
 | [], _ => none
 | g :: r, i => match f g with
  | some k => some (i, k)
  | none => firstG f r (i + 1)
def heldIn (tok now : Int) (g : Gq) : Option Nat := g.st.findIdx? (fun x => holdsB x tok now)
def heldAt (q : Qp) (tok : Int) : Option (Nat × Nat) := firstG (heldIn tok q.now) q.gs 0
def readyAt (q : Qp) : Option (Nat × Nat) := firstG (fun g => nextIx g.st) q.gs 0
def findG (q : Qp) (id : Int) : Option Nat := q.gs.findIdx? (fun g => decide (g.id = id))
def Gq.name (g : Gq) (n : Nat) : ByteArray := ((g.ps[n]?).map Pt.name).getD ⟨#[]⟩
def Gq.cmd (g : Gq) (n : Nat) : ByteArray := ((g.ps[n]?).map Pt.cmd).getD ⟨#[]⟩
def noG : Gq := ⟨0, [], []⟩
noncomputable def submitP (q : Qp) (c : Cq) : Qp × An :=
 if grCheck c.ps ≠ 0 then (q, .err (grCheck c.ps))
 else if 16 ≤ q.gs.length ∨ q.ng = top then (q, .err 120)
 else ({ q with gs := q.gs ++ [⟨q.ng, c.ps, grStart c.ps (grFresh c.ps (fun k => q.built.contains k))⟩], ng := q.ng + 1 }, ⟨0, q.ng, 0, 0, ⟨#[]⟩, ⟨#[]⟩⟩)
def claimP (q : Qp) : Qp × An := match readyAt q with
 | none => (q, .err 122)
 | some (i, n) =>
  let g := q.gs.getD i noG
  let r := granted q.nt q.now
  if r.2.2 ≠ 0 then (q, .err r.2.2)
  else ({ withG q i (g.st.set n r.2.1) with nt := r.1 }, ⟨0, g.id, r.2.1.t, r.2.1.u, g.name n, g.cmd n⟩)
def renewP (q : Qp) (c : Cq) : Qp × An := match heldAt q c.tok with
 | none => (q, .err 100)
 | some (i, n) =>
  let g := q.gs.getD i noG
  let r := renewed (g.st.getD n .zero) c.tok q.now
  if r.2 ≠ 0 then (q, .err r.2)
  else (withG q i (g.st.set n r.1), ⟨0, g.id, r.1.t, r.1.u, g.name n, ⟨#[]⟩⟩)
def builtP (b : List Nat) (k : Nat) : List Nat := if b.contains k = true then b else (b ++ [k]).drop ((b ++ [k]).length - 256)
noncomputable def reportP (q : Qp) (c : Cq) : Qp × An := match heldAt q c.tok with
 | none => (q, .err 100)
 | some (i, n) =>
  let g := q.gs.getD i noG
  let q' := withG q i (grSettle g.ps (g.st.set n ⟨if c.good = true then 3 else 4, 0, 0⟩))
  (if c.good = true then { q' with built := builtP q.built ((grKeys g.ps).getD n 0) } else q', ⟨0, g.id, 0, 0, g.name n, ⟨#[]⟩⟩)
def cancelP (q : Qp) (c : Cq) : Qp × An := match findG q c.id with
 | none => (q, .err 121)
 | some i =>
  let g := q.gs.getD i noG
  (if overB g.st = true then { q with gs := q.gs.eraseIdx i } else withG q i (repl 6 (fun x => !finB x.s) g.st), ⟨0, c.id, 0, 0, ⟨#[]⟩, ⟨#[]⟩⟩)
noncomputable def doneP (q : Qp) (c : Cq) : Qp × An :=
 if c.kind = 2 then submitP q c else if c.kind = 3 then claimP q else if c.kind = 4 then renewP q c else if c.kind = 5 then reportP q c else cancelP q c
noncomputable def applyP (q : Qp) (c : Cq) : Qp × An :=
 if c.kind = 7 then (if c.time ≤ q.now then (q, .zero) else ({ q with now := c.time, gs := q.gs.map (fun g => { g with st := repl 1 (pastB c.time) g.st }) }, .zero))
 else if c.kind = 1 then ({ q with ses := openL q.ses c.ses }, .err (openE q.ses c.ses))
 else if c.kind < 2 ∨ 6 < c.kind then (q, .err 1)
 else if lookE q.ses c.ses c.seq ≠ 0 then (q, .err (lookE q.ses c.ses c.seq))
 else if lookB q.ses c.ses c.seq = true then (q, lookA q.ses c.ses c.seq)
 else ({ (doneP q c).1 with ses := keepL q.ses c.ses c.seq (doneP q c).2 }, (doneP q c).2)
def toksOf (l : List Pst) : List Int := (l.filter (fun x => x.s == 2)).map Pst.t
def StOk (nt now : Int) (x : Pst) : Prop := (0 ≤ x.s ∧ x.s ≤ 6) ∧ (x.s ≠ 2 → x.t = 0 ∧ x.u = 0) ∧ (x.s = 2 → 0 < x.t ∧ x.t < nt ∧ now < x.u ∧ x.u ≤ top)
def GqOk (ng nt now : Int) (g : Gq) : Prop := 0 < g.id ∧ g.id < ng ∧ grCheck g.ps = 0 ∧ g.st.length = g.ps.length ∧ grSettle g.ps g.st = g.st ∧ ∀ x ∈ g.st, StOk nt now x
def toksG (gs : List Gq) : List Int := gs.flatMap (fun g => toksOf g.st)
structure Inv (q : Qp) : Prop where
 now0 : 0 ≤ q.now ∧ q.now ≤ top
 ng : 1 ≤ q.ng ∧ q.ng ≤ top
 nt : 1 ≤ q.nt ∧ q.nt ≤ top
 sesUp : q.ses.Pairwise (fun a b => a.id < b.id)
 sesIn : ∀ r ∈ q.ses, (0 < r.id ∧ r.id ≤ top) ∧ (0 ≤ r.seq ∧ r.seq ≤ top) ∧ (r.seq = 0 → r.ans = .zero)
 sesFew : q.ses.length ≤ 16
 gsFew : q.gs.length ≤ 16
 gsUp : q.gs.Pairwise (fun a b => a.id < b.id)
 gsIn : ∀ g ∈ q.gs, GqOk q.ng q.nt q.now g
 toks : (toksG q.gs).Nodup
 bltFew : q.built.length ≤ 256
 bltNo : q.built.Nodup
theorem inv_new : Inv Qp.new := ⟨by unfold top Qp.new; decide, by unfold top Qp.new; decide, by unfold top Qp.new; decide, .nil, fun r hr => (by cases hr), by decide, by decide, .nil, fun g hg => (by cases hg), List.nodup_nil, by decide, List.nodup_nil⟩
end Go.Proofs.YtffoeodjbbkdjaaGreat
