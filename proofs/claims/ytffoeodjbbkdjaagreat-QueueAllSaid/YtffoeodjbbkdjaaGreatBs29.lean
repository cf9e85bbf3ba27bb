import Derived.Test.YtffoeodjbbkdjaaGreatBs23
import Derived.Test.YtffoeodjbbkdjaaGreatBs28
namespace Go.Proofs.YtffoeodjbbkdjaaGreat
open Go.RowKit Go.Lib
def fixV (v : Value) : Value := if v.oneCell' = true then v else .int .u64 0
theorem fixV_one (v : Value) : (fixV v).oneCell' = true := by
 unfold fixV
 split
 ·
  assumption
 ·
  rfl
theorem fixV_is {v : Value} (h : v.oneCell' = true) : fixV v = v := by unfold fixV; rw [if_pos h]
def fx {α : Type} (ec : α → List Value) (x : α) : List Value := (ec x).map fixV
theorem fx_one {α : Type} (ec : α → List Value) (x : α) : ∀ u ∈ fx ec x, u.oneCell' = true := fun u hu => by
 obtain ⟨v, _, rfl⟩ := List.mem_map.1 hu
 exact fixV_one v
theorem fx_eq {α : Type} {ec : α → List Value} : ∀ {l : List α}, (∀ x ∈ l, ∀ u ∈ ec x, u.oneCell' = true) → l.flatMap (fx ec) = l.flatMap ec
 | [], _ => rfl
 | a :: l, h => by
  rw [List.flatMap_cons, List.flatMap_cons, fx_eq (fun x hx => h x (List.mem_cons_of_mem _ hx))]
  congr 1
  unfold fx
  conv => rhs; rw [← List.map_id (ec a)]
  exact List.map_congr_left (fun v hv => fixV_is (h a (List.mem_cons_self ..) v hv))
def sc (s : ByteArray) : List Value := [.string s]
theorem map_sc (l : List ByteArray) : l.map Value.string = l.flatMap sc := by
 induction l with
 | nil => rfl
 | cons a l ih => rw [List.map_cons, List.flatMap_cons, ih]; rfl
set_option maxRecDepth 100000 in
set_option maxHeartbeats 2000000 in
theorem cloneT_any (w : World) (D : Nat → Prop) (v : Value) (l : List Tg) (h : Many Tg.cells 3 w D v l) (hb : l.length * 56 ≤ reachBytes) (h1 : ∀ x ∈ l, ∀ u ∈ Tg.cells x, u.oneCell' = true) :
  Calls Tryz.prog 119 #[v] w (Copies Tg.cells 3 64 l w) := by
 have q22 : ∀ (w : World) (a : Option Addr) (n c n' c' : Nat), (binOp .eql 33 (.slice a n c) (.slice none n' c')).run Tryz.prog w = .ok (.bool a.isNone) w := fun w a n c n' c' => Lib.run_eql_slice_nil w _ _ a n c n' c' Tryz.underlying33
 have hfew := h.few
 rw [reach_is] at hb
 obtain ⟨A, c, rfl⟩ := h.shape
 have HFX := Lib.hid (fx_eq h1)
 have HM : Hid (Many (fx Tg.cells) 3 w D (.slice A l.length c) l) := Lib.hid (by
  unfold Many at h ⊢
  rw [HFX.out]
  exact h)
 cases A with
 | none =>
  have h0 : l = [] := by
   obtain ⟨A', c', e, hlc, _, hn, _⟩ := h
   injection e with e1 _ e2
   subst e1
   exact List.eq_nil_of_length_eq_zero (by have := hn rfl; omega)
  subst h0
  clear h hb hfew h1
  go_enter Tryz.func119, Tryz.ntmps119
  go_wp2
  go_ret
  exact ⟨_, rfl, ⟨rfl, .inl ⟨rfl, rfl⟩⟩, Keep.refl noneOf w⟩
 | some ad =>
  have HE := Lib.hid (empty_own (ec := fx Tg.cells) (k := 3) w 64)
  clear h h1
  go_enter Tryz.func119, Tryz.ntmps119
  go_wp2_with (at_builtin; refine wpList_append_many elems_tg (ec := fx Tg.cells) (fun x => by unfold fx; rw [List.length_map]; rfl) (fx_one Tg.cells) (by decide) _ rfl _ _ rfl w.heap.size _ _ ([] : List Tg) l D rfl rfl HE.out (HM.out.keep ((Keep.refl noneOf w).alloc _) (fun _ _ _ => id)) ?qc1 ?qc2 ?qc3 ?_)
  case qc1 => rw [List.length_nil, Nat.zero_add]; exact hfew
  case qc2 => rw [List.length_nil, Nat.zero_add]; omega
  case qc3 => simp
  intro v' w1 hown hg hat
  have HO := Lib.hid hown
  have HK := Lib.hid (empty_grown hg)
  clear hown hg hat hb hfew HE
  go_wp2
  go_ret
  refine ⟨v', rfl, ?_, HK.out⟩
  rw [← HFX.out]
  exact HO.out
set_option maxRecDepth 100000 in
set_option maxHeartbeats 2000000 in
theorem cloneG_any (w : World) (D : Nat → Prop) (v : Value) (l : List Gm) (h : Many Gm.cells 3 w D v l) (hb : l.length * 56 ≤ reachBytes) (h1 : ∀ x ∈ l, ∀ u ∈ Gm.cells x, u.oneCell' = true) :
  Calls Tryz.prog 84 #[v] w (Copies Gm.cells 3 59 l w) := by
 have q22 : ∀ (w : World) (a : Option Addr) (n c n' c' : Nat), (binOp .eql 27 (.slice a n c) (.slice none n' c')).run Tryz.prog w = .ok (.bool a.isNone) w := fun w a n c n' c' => Lib.run_eql_slice_nil w _ _ a n c n' c' Tryz.underlying27
 have hfew := h.few
 rw [reach_is] at hb
 obtain ⟨A, c, rfl⟩ := h.shape
 have HFX := Lib.hid (fx_eq h1)
 have HM : Hid (Many (fx Gm.cells) 3 w D (.slice A l.length c) l) := Lib.hid (by
  unfold Many at h ⊢
  rw [HFX.out]
  exact h)
 cases A with
 | none =>
  have h0 : l = [] := by
   obtain ⟨A', c', e, hlc, _, hn, _⟩ := h
   injection e with e1 _ e2
   subst e1
   exact List.eq_nil_of_length_eq_zero (by have := hn rfl; omega)
  subst h0
  clear h hb hfew h1
  go_enter Tryz.func84, Tryz.ntmps84
  go_wp2
  go_ret
  exact ⟨_, rfl, ⟨rfl, .inl ⟨rfl, rfl⟩⟩, Keep.refl noneOf w⟩
 | some ad =>
  have HE := Lib.hid (empty_own (ec := fx Gm.cells) (k := 3) w 59)
  clear h h1
  go_enter Tryz.func84, Tryz.ntmps84
  go_wp2_with (at_builtin; refine wpList_append_many elems_gr (ec := fx Gm.cells) (fun x => by unfold fx; rw [List.length_map]; rfl) (fx_one Gm.cells) (by decide) _ rfl _ _ rfl w.heap.size _ _ ([] : List Gm) l D rfl rfl HE.out (HM.out.keep ((Keep.refl noneOf w).alloc _) (fun _ _ _ => id)) ?qc1 ?qc2 ?qc3 ?_)
  case qc1 => rw [List.length_nil, Nat.zero_add]; exact hfew
  case qc2 => rw [List.length_nil, Nat.zero_add]; omega
  case qc3 => simp
  intro v' w1 hown hg hat
  have HO := Lib.hid hown
  have HK := Lib.hid (empty_grown hg)
  clear hown hg hat hb hfew HE
  go_wp2
  go_ret
  refine ⟨v', rfl, ?_, HK.out⟩
  rw [← HFX.out]
  exact HO.out
set_option maxRecDepth 100000 in
set_option maxHeartbeats 2000000 in
theorem cloneK_any (w : World) (D : Nat → Prop) (v : Value) (l : List Nat) (h : Many kc 1 w D v l) (hb : l.length * 8 ≤ reachBytes) (h1 : ∀ x ∈ l, ∀ u ∈ kc x, u.oneCell' = true) :
  Calls Tryz.prog 45 #[v] w (Copies kc 1 23 l w) := by
 have q22 : ∀ (w : World) (a : Option Addr) (n c n' c' : Nat), (binOp .eql 28 (.slice a n c) (.slice none n' c')).run Tryz.prog w = .ok (.bool a.isNone) w := fun w a n c n' c' => Lib.run_eql_slice_nil w _ _ a n c n' c' Tryz.underlying28
 have hfew := h.few
 rw [reach_is] at hb
 obtain ⟨A, c, rfl⟩ := h.shape
 have HFX := Lib.hid (fx_eq h1)
 have HM : Hid (Many (fx kc) 1 w D (.slice A l.length c) l) := Lib.hid (by
  unfold Many at h ⊢
  rw [HFX.out]
  exact h)
 cases A with
 | none =>
  have h0 : l = [] := by
   obtain ⟨A', c', e, hlc, _, hn, _⟩ := h
   injection e with e1 _ e2
   subst e1
   exact List.eq_nil_of_length_eq_zero (by have := hn rfl; omega)
  subst h0
  clear h hb hfew h1
  go_enter Tryz.func45, Tryz.ntmps45
  go_wp2
  go_ret
  exact ⟨_, rfl, ⟨rfl, .inl ⟨rfl, rfl⟩⟩, Keep.refl noneOf w⟩
 | some ad =>
  have HE := Lib.hid (empty_own (ec := fx kc) (k := 1) w 23)
  clear h h1
  go_enter Tryz.func45, Tryz.ntmps45
  go_wp2_with (at_builtin; refine wpList_append_many elems_u64 (ec := fx kc) (fun x => by unfold fx; rw [List.length_map]; rfl) (fx_one kc) (by decide) _ rfl _ _ rfl w.heap.size _ _ ([] : List Nat) l D rfl rfl HE.out (HM.out.keep ((Keep.refl noneOf w).alloc _) (fun _ _ _ => id)) ?qc1 ?qc2 ?qc3 ?_)
  case qc1 => rw [List.length_nil, Nat.zero_add]; exact hfew
  case qc2 => rw [List.length_nil, Nat.zero_add]; omega
  case qc3 => simp
  intro v' w1 hown hg hat
  have HO := Lib.hid hown
  have HK := Lib.hid (empty_grown hg)
  clear hown hg hat hb hfew HE
  go_wp2
  go_ret
  refine ⟨v', rfl, ?_, HK.out⟩
  rw [← HFX.out]
  exact HO.out
set_option maxRecDepth 100000 in
set_option maxHeartbeats 2000000 in
theorem cloneN_any (w : World) (D : Nat → Prop) (v : Value) (l : List ByteArray) (h : Many sc 1 w D v l) (hb : l.length * 16 ≤ reachBytes) (h1 : ∀ x ∈ l, ∀ u ∈ sc x, u.oneCell' = true) :
  Calls Tryz.prog 120 #[v] w (Copies sc 1 9 l w) := by
 have q22 : ∀ (w : World) (a : Option Addr) (n c n' c' : Nat), (binOp .eql 62 (.slice a n c) (.slice none n' c')).run Tryz.prog w = .ok (.bool a.isNone) w := fun w a n c n' c' => Lib.run_eql_slice_nil w _ _ a n c n' c' Tryz.underlying62
 have hfew := h.few
 rw [reach_is] at hb
 obtain ⟨A, c, rfl⟩ := h.shape
 have HFX := Lib.hid (fx_eq h1)
 have HM : Hid (Many (fx sc) 1 w D (.slice A l.length c) l) := Lib.hid (by
  unfold Many at h ⊢
  rw [HFX.out]
  exact h)
 cases A with
 | none =>
  have h0 : l = [] := by
   obtain ⟨A', c', e, hlc, _, hn, _⟩ := h
   injection e with e1 _ e2
   subst e1
   exact List.eq_nil_of_length_eq_zero (by have := hn rfl; omega)
  subst h0
  clear h hb hfew h1
  go_enter Tryz.func120, Tryz.ntmps120
  go_wp2
  go_ret
  exact ⟨_, rfl, ⟨rfl, .inl ⟨rfl, rfl⟩⟩, Keep.refl noneOf w⟩
 | some ad =>
  have HE := Lib.hid (empty_own (ec := fx sc) (k := 1) w 9)
  clear h h1
  go_enter Tryz.func120, Tryz.ntmps120
  go_wp2_with (at_builtin; refine wpList_append_many elems_str (ec := fx sc) (fun x => by unfold fx; rw [List.length_map]; rfl) (fx_one sc) (by decide) _ rfl _ _ rfl w.heap.size _ _ ([] : List ByteArray) l D rfl rfl HE.out (HM.out.keep ((Keep.refl noneOf w).alloc _) (fun _ _ _ => id)) ?qc1 ?qc2 ?qc3 ?_)
  case qc1 => rw [List.length_nil, Nat.zero_add]; exact hfew
  case qc2 => rw [List.length_nil, Nat.zero_add]; omega
  case qc3 => simp
  intro v' w1 hown hg hat
  have HO := Lib.hid hown
  have HK := Lib.hid (empty_grown hg)
  clear hown hg hat hb hfew HE
  go_wp2
  go_ret
  refine ⟨v', rfl, ?_, HK.out⟩
  rw [← HFX.out]
  exact HO.out
end Go.Proofs.YtffoeodjbbkdjaaGreat
namespace Go.Proofs.YtffoeodjbbkdjaaGreat
open Go.RowKit
theorem Strs.shape {w : World} {D : Nat → Prop} {v : Value} {ss : List ByteArray} (h : Strs w D v ss) : ∃ A c, v = .slice A ss.length c := by
 obtain ⟨A, c, hv, _⟩ := h.1
 exact ⟨A, c, hv⟩
theorem tg_one {w : World} {D : Nat → Prop} {v : Value} {ts : List Tg} (h : Tgs w D v ts) : ∀ x ∈ ts, ∀ u ∈ x.cells, u.oneCell' = true := fun x hx u hu => by
 obtain ⟨A, c, hs⟩ := ((h.2 x hx).2.2).shape
 simp [Tg.cells] at hu
 rcases hu with rfl | rfl | rfl
 ·
  rfl
 ·
  rfl
 ·
  rw [hs]; rfl
def Half (ts us : List Tg) (w : World) (D : Nat → Prop) (k : Nat) : Prop := us.length = ts.length ∧ ∀ (j : Nat) (u : Tg), us[j]? = some u → (k ≤ j → ts[j]? = some u) ∧ (j < k → ∃ t, ts[j]? = some t ∧ u.plain = t.plain ∧ Strs w D u.nv u.needs)
theorem Half.keep {ts us : List Tg} {w w' : World} {D S : Nat → Prop} {k : Nat} (h : Half ts us w D k) (kk : Keep S w w') (hs : ∀ i, D i → ¬ S i) : Half ts us w' D k :=
 ⟨h.1, fun j u hu => ⟨(h.2 j u hu).1, fun hj => by
  obtain ⟨t, h1, h2, h3⟩ := (h.2 j u hu).2 hj
  exact ⟨t, h1, h2, h3.keep kk (fun i _ hi => hs i hi)⟩⟩⟩
theorem Half.next {ts us : List Tg} {w : World} {D : Nat → Prop} {k : Nat} (h : Half ts us w D k) {t : Tg} (ht : ts[k]? = some t) {v : Value} (hv : Strs w D v t.needs) : Half ts (us.set k { t with nv := v }) w D (k + 1) := by
 refine ⟨by rw [List.length_set]; exact h.1, fun j u hu => ?_⟩
 have hk : k < us.length := by rw [h.1]; exact (List.getElem?_eq_some_iff.1 ht).1
 by_cases hj : k = j
 ·
  subst hj
  rw [List.getElem?_set_self hk] at hu
  injection hu with hu
  subst hu
  exact ⟨fun h => by omega, fun _ => ⟨t, ht, rfl, hv⟩⟩
 ·
  rw [List.getElem?_set_ne hj] at hu
  exact ⟨fun h1 => (h.2 j u hu).1 (by omega), fun h1 => (h.2 j u hu).2 (by omega)⟩
theorem Half.plain {ts us : List Tg} {w : World} {D : Nat → Prop} (h : Half ts us w D ts.length) : us.map Tg.plain = ts.map Tg.plain := by
 refine List.ext_getElem? fun j => ?_
 rw [List.getElem?_map, List.getElem?_map]
 by_cases hj : j < ts.length
 ·
  have hju : j < us.length := by rw [h.1]; exact hj
  obtain ⟨t, h1, h2, _⟩ := (h.2 j us[j] (List.getElem?_eq_getElem hju)).2 hj
  rw [List.getElem?_eq_getElem hju, h1]
  show some us[j].plain = some t.plain
  rw [h2]
 ·
  rw [List.getElem?_eq_none (by rw [h.1]; omega), List.getElem?_eq_none (by omega)]
def CopiesG (ts : List Tg) (w : World) (e : Ending) (w' : World) : Prop := ∃ v us, e = .returned (.agg #[v]) ∧ us.map Tg.plain = ts.map Tg.plain ∧ Tgs w' (fun i => w.heap.size ≤ i) v us ∧ Keep noneOf w w'
set_option maxRecDepth 100000 in
set_option maxHeartbeats 4000000 in
set_option linter.unusedSimpArgs false in
theorem copiedGraph_any (w : World) (D : Nat → Prop) (v : Value) (ts : List Tg) (h : Tgs w D v ts) (hb : ts.length * 56 ≤ reachBytes) (hn : ∀ t ∈ ts, t.needs.length * 16 ≤ reachBytes) :
  Calls Tryz.prog 85 #[.agg #[v]] w (CopiesG ts w) := by
 obtain ⟨A, c, hv, _⟩ := h.1
 subst hv
 have hfew := (show Many Tg.cells 3 w D (.slice A ts.length c) ts from h.1).few
 unfold maxLen at hfew
 have KA := ((Keep.refl noneOf w).alloc (.cells #[.slice A ts.length c] 35)).alloc (.cells #[.slice none 0 0] 35)
 have HX := Lib.hid ((Box.new w 35 #[.slice A ts.length c]).alloc (.cells #[.slice none 0 0] 35))
 have HY : Hid (Box ((w.alloc (.cells #[.slice A ts.length c] 35)).alloc (.cells #[.slice none 0 0] 35)) (w.heap.size + 1) 35 #[.slice none 0 0]) := Lib.hid (by
  have := Box.new (w.alloc (.cells #[.slice A ts.length c] 35)) 35 #[.slice none 0 0]
  rw [show (w.alloc (.cells #[.slice A ts.length c] 35)).heap.size = w.heap.size + 1 from by simp] at this
  exact this)
 have HH := Lib.hid h
 have HKA := Lib.hid KA
 have HN := Lib.hid hn
 have hone := tg_one h
 have HOne := Lib.hid hone
 have hs0 : w.heap.size + 2 = ((w.alloc (.cells #[.slice A ts.length c] 35)).alloc (.cells #[.slice none 0 0] 35)).heap.size := by simp
 have HS0 := Lib.hid hs0
 have CT := Lib.hid (cloneT_any _ _ _ ts (h.1.keep KA (fun _ _ _ => id)) hb hone)
 clear h KA hb hn hone hs0
 go_enter Tryz.func85, Tryz.ntmps85
 go_wp2_with fail
 refine CT.out.mono ?_
 rintro e w1 ⟨v1, rfl, hown, k1⟩
 obtain ⟨A1, c1, hv1⟩ := own_shape hown
 have HK1 := Lib.hid (HKA.out.trans k1 (fun _ _ h => h))
 have HX1 := Lib.hid (HX.out.keep k1 id)
 have HY1 := Lib.hid (HY.out.keep k1 id)
 have HO1 := Lib.hid hown
 subst hv1
 have HB1 : Hid (∀ i, (Value.slice A1 ts.length c1).ownBlock = some i → w.heap.size + 2 ≤ i) := Lib.hid fun i hi => by
  rcases hown.2 with ⟨e, _⟩ | ⟨g, cap, cur, e, hb, _⟩
  ·
   rw [e] at hi; cases hi
  ·
   rw [e] at hi
   have : g = i := by simpa [Value.ownBlock] using hi
   have h2 := HS0.out
   omega
 clear CT hown k1 HX HY HKA
 go_wp2
 go_loopw [10] (fun i wr => ∃ (k : Nat) (us : List Tg), k ≤ ts.length ∧ i = .int .i64 k ∧ Keep noneOf w wr ∧ Box wr w.heap.size 35 #[.slice A ts.length c] ∧ Box wr (w.heap.size + 1) 35 #[.slice none 0 0] ∧ wr.ownsRow 0 64 3 (.slice A1 ts.length c1) ts.length (us.flatMap Tg.cells) ∧ Half ts us wr (fun i => w.heap.size + 2 ≤ i ∧ (Value.slice A1 ts.length c1).ownBlock ≠ some i) k) (fun i _ => ts.length - (intOf i).toNat)
 case atStart =>
  refine ⟨0, ts, Nat.zero_le _, rfl, HK1.out, HX1.out, HY1.out, ?_, rfl, fun j u hu => ⟨fun _ => hu, fun h => by omega⟩⟩
  obtain ⟨h1, h2⟩ := HO1.out
  exact ⟨h1, h2.imp_right (fun ⟨g, cap, cur, a1, a2, a3⟩ => ⟨g, cap, cur, a1, Nat.zero_le _, a3⟩)⟩
 case round =>
  obtain ⟨k, us, hk, rfl, hkeep, hX, hY, hown, hhalf⟩ := hrel
  have HKP := Lib.hid hkeep
  have HXR := Lib.hid hX
  have HYR := Lib.hid hY
  have HOR := Lib.hid hown
  have HHF := Lib.hid hhalf
  have hul := hhalf.1
  have HUL := Lib.hid hul
  by_cases hlt : k < ts.length
  ·
   have hx : ts[k]? = some ts[k] := List.getElem?_eq_getElem hlt
   have hT := HH.out.keep hkeep (fun _ _ _ => id)
   generalize ts[k] = t at *
   have hm := List.mem_of_getElem? hx
   obtain ⟨A2, c2, e2, _, _, _, _, hcell⟩ := hT.1
   obtain ⟨⟨tb, o, sp⟩, hA, hsp, hblk, _, hcl⟩ := hcell (by omega)
   dsimp only at hsp hcl hblk
   subst hsp
   obtain ⟨rfl, rfl⟩ : A = A2 ∧ c = c2 := by simpa using e2
   subst hA
   obtain ⟨_, _, t2⟩ := tgs_at (Keep.refl noneOf wr) hblk hcl hx
   have hSt := (hT.2 t hm).2.2
   obtain ⟨An, cn, hnv⟩ := hSt.shape
   rw [hnv] at t2
   have hux : us[k]? = some us[k] := List.getElem?_eq_getElem (by omega)
   obtain ⟨g1, cap1, tl, hv1, _, _, _, _⟩ := own_mt (ec := Tg.cells) (l := us) (by rw [hul]; exact hown) (by rintro e; rw [e] at hul; simp at hul; omega)
   rw [hul] at hv1
   obtain ⟨rfl, rfl⟩ : A1 = some ⟨g1, 0, none⟩ ∧ c1 = cap1 := by simpa using hv1
   have CN : Hid (∀ w', Keep noneOf wr w' → Calls Tryz.prog 120 #[.slice An t.needs.length cn] w' (Copies sc 1 9 t.needs w')) := Lib.hid fun w' k' => by
    have hm2 : Many sc 1 wr D (.slice An t.needs.length cn) t.needs := by
     rw [← hnv]
     unfold Many
     rw [← map_sc]
     exact hSt.1
    exact cloneN_any w' D _ t.needs (hm2.keep k' (fun _ _ _ => id)) (HN.out t hm) (fun x _ u hu => by simp [sc] at hu; subst hu; rfl)
   have x0 : wr.cell? ⟨w.heap.size, 0, none⟩ = some (.slice (some ⟨tb, o, none⟩) ts.length c) := hX.cell 0
   have HT := Lib.hid hx
   have HST := Lib.hid hSt.2
   have q0 : (0 : Int) ≤ (k : Int) := by omega
   have q1 : (k : Int) < (ts.length : Int) := by omega
   have FIN : Hid (∀ w2 v2, w2.ownsRow wr.heap.size 9 1 v2 t.needs.length (t.needs.flatMap sc) → Keep noneOf wr w2 → (∃ u, w2.cell? ⟨g1, k * 3 + 2, none⟩ = some u) ∧ w2.frozen? ⟨g1, k * 3 + 2, none⟩ = false ∧ Keep noneOf w (w2.setCell ⟨g1, k * 3 + 2, none⟩ v2) ∧ Box (w2.setCell ⟨g1, k * 3 + 2, none⟩ v2) w.heap.size 35 #[.slice (some ⟨tb, o, none⟩) ts.length c] ∧ Box (w2.setCell ⟨g1, k * 3 + 2, none⟩ v2) (w.heap.size + 1) 35 #[.slice none 0 0] ∧
     ∃ us', (w2.setCell ⟨g1, k * 3 + 2, none⟩ v2).ownsRow 0 64 3 (.slice (some ⟨g1, 0, none⟩) ts.length c1) ts.length (us'.flatMap Tg.cells) ∧ Half ts us' (w2.setCell ⟨g1, k * 3 + 2, none⟩ v2) (fun i => w.heap.size + 2 ≤ i ∧ (Value.slice (some ⟨g1, 0, none⟩) ts.length c1).ownBlock ≠ some i) (k + 1)) := Lib.hid fun w2 v2 ho2 k2 => by
    have hg1 : w.heap.size + 2 ≤ g1 := HB1.out g1 rfl
    have hown2 : w2.ownsRow 0 64 3 (.slice (some ⟨g1, 0, none⟩) us.length c1) us.length (us.flatMap Tg.cells) := by
     rw [hul]
     exact own_keep HOR.out k2 (fun _ _ => id)
    have hat := own_at (ec := Tg.cells) (fun _ => rfl) hown2 hux (j := 2) (by decide)
    have kp := (Keep.refl (fun i => i = g1) w2).setCell (p := ⟨g1, k * 3 + 2, none⟩) (fun _ => rfl) v2
    have hut : us[k] = t := by
     have := (HHF.out.2 k us[k] hux).1 (Nat.le_refl _)
     rw [HT.out] at this
     injection this with this
     exact this.symm
    have hput := own_put (ec := Tg.cells) (fun _ => rfl) hown2 hux (j := 2) (x' := { us[k] with nv := v2 }) (u := v2) (by decide) rfl
    rw [hut, List.length_set, hul] at hput
    refine ⟨⟨_, hat.1⟩, hat.2, (HKP.out.trans k2 (fun _ _ h => h)).trans kp (fun i hi e => by subst e; omega), (HXR.out.keep k2 id).keep kp (by omega), (HYR.out.keep k2 id).keep kp (by omega), us.set k { t with nv := v2 }, hput, ?_⟩
    have h2 := HHF.out.keep k2 (fun _ _ => id)
    have h3 := h2.keep kp (fun i hi e => hi.2 (by rw [e]; rfl))
    refine h3.next HT.out ⟨?_, HST.out⟩
    rw [map_sc]
    refine own_row_in (own_keep ho2 kp (fun j hj e => own_own ho2 hown2 (by decide) j hj (by rw [e]; rfl))) (fun b hb => ⟨?_, ?_⟩)
    ·
     rcases ho2.2 with ⟨e, _⟩ | ⟨g, cap, cur, e, hbb, _⟩
     ·
      rw [e] at hb; cases hb
     ·
      rw [e] at hb
      have : g = b := by simpa [Value.ownBlock] using hb
      have := HYR.out.lt
      omega
    ·
     exact fun e => own_own ho2 hown2 (by decide) b hb e
   have K0 := Keep.refl noneOf wr
   clear hx hT hcell hcl e2 hSt hnv hux hv1 hm hkeep hX hY hown hhalf hul hblk
   go_wp2_with fail
   refine (CN.out _ K0).mono ?_
   rintro e w2 ⟨v2, rfl, ho2, k2⟩
   obtain ⟨⟨u0, y2⟩, z2, kf, xf, yf, us', of, hf⟩ := FIN.out w2 v2 ho2 k2
   obtain ⟨A3, c3, rfl⟩ := own_shape ho2
   have HKF := Lib.hid kf
   have HXF := Lib.hid xf
   have HYF := Lib.hid yf
   have HOF := Lib.hid of
   have HHF2 := Lib.hid hf
   clear FIN CN K0 ho2 k2 kf xf yf of hf x0 t2
   go_wp2
   go_roundw
   case rel => exact ⟨k + 1, us', by omega, by go_num, HKF.out, HXF.out, HYF.out, HOF.out, HHF2.out⟩
   case measure => simp only [intOf]; omega
  ·
   have hke : k = ts.length := by omega
   subst hke
   have hkn : ¬ ((ts.length : Int) < (ts.length : Int)) := by omega
   have y0 := hY.cell 0
   have z0 := hY.free 0
   have kp := (Keep.refl (fun i => i = w.heap.size + 1) wr).setCell (p := ⟨w.heap.size + 1, 0, none⟩) (fun _ => rfl) (.slice A1 ts.length c1)
   have HF : Hid (CopiesG ts w (.returned (.agg #[.slice A1 ts.length c1])) (wr.setCell ⟨w.heap.size + 1, 0, none⟩ (.slice A1 ts.length c1))) := Lib.hid ⟨_, us, rfl, hhalf.plain, ⟨by
     rw [hul]
     exact own_row_in (own_keep hown kp (fun j hj e => by have := HB1.out j hj; omega)) (fun b hb => by have := HB1.out b hb; omega), fun u hu => by
     obtain ⟨j, hj⟩ := List.getElem?_of_mem hu
     have hjl := (List.getElem?_eq_some_iff.1 hj).1
     obtain ⟨t, h1, h2, h3⟩ := (hhalf.2 j u hj).2 (by omega)
     have ht := HH.out.2 t (List.mem_of_getElem? h1)
     have e1 : u.name = t.name := congrArg Pt.name h2
     have e2 : u.cmd = t.cmd := congrArg Pt.cmd h2
     refine ⟨by rw [e1]; exact ht.1, by rw [e2]; exact ht.2.1, ?_⟩
     have h4 : Strs wr (fun i => w.heap.size ≤ i ∧ i ≠ w.heap.size + 1) u.nv u.needs := ⟨h3.1.mono (fun i _ hi => ⟨by omega, by omega⟩), h3.2⟩
     exact ⟨(h4.keep kp (fun i _ hi => hi.2)).1.mono (fun i _ hi => hi.1), h4.2⟩⟩, HKP.out.trans kp (fun i hi e => by omega)⟩
   have hr0 : (wr.setCell ⟨w.heap.size + 1, 0, none⟩ (.slice A1 ts.length c1)).cell? ⟨w.heap.size + 1, 0, none⟩ = some (.slice A1 ts.length c1) := (hY.put 0 (.slice A1 ts.length c1)).cell 0
   clear hkeep hX hY hown hhalf hul kp
   go_wp2
   exact bodyPost_ret (v := .agg #[.slice A1 ts.length c1]) (by simp [results, Tryz.results85, go_sem, hr0]) rfl HF.out
end Go.Proofs.YtffoeodjbbkdjaaGreat
namespace Go.Proofs.YtffoeodjbbkdjaaGreat
open Go.RowKit
def Small (g : Gm) : Prop := g.ts.length * 56 ≤ reachBytes ∧ (∀ t ∈ g.ts, t.needs.length * 16 ≤ reachBytes) ∧ g.st.length * 24 ≤ reachBytes
def HalfG (gs us : List Gm) (w : World) (D : Nat → Prop) (k : Nat) : Prop := us.length = gs.length ∧ ∀ (j : Nat) (u : Gm), us[j]? = some u → (k ≤ j → gs[j]? = some u) ∧ (j < k → ∃ g, gs[j]? = some g ∧ u.plain = g.plain ∧ u.lies w D)
theorem HalfG.keep {gs us : List Gm} {w w' : World} {D S : Nat → Prop} {k : Nat} (h : HalfG gs us w D k) (kk : Keep S w w') (hs : ∀ i, D i → ¬ S i) : HalfG gs us w' D k :=
 ⟨h.1, fun j u hu => ⟨(h.2 j u hu).1, fun hj => by
  obtain ⟨t, h1, h2, h3⟩ := (h.2 j u hu).2 hj
  exact ⟨t, h1, h2, h3.keep kk (fun i _ hi => hs i hi)⟩⟩⟩
theorem HalfG.next {gs us : List Gm} {w : World} {D : Nat → Prop} {k : Nat} (h : HalfG gs us w D k) {g u0 : Gm} (hg : gs[k]? = some g) (hp : u0.plain = g.plain) (hv : u0.lies w D) : HalfG gs (us.set k u0) w D (k + 1) := by
 refine ⟨by rw [List.length_set]; exact h.1, fun j u hu => ?_⟩
 have hk : k < us.length := by rw [h.1]; exact (List.getElem?_eq_some_iff.1 hg).1
 by_cases hj : k = j
 ·
  subst hj
  rw [List.getElem?_set_self hk] at hu
  injection hu with hu
  subst hu
  exact ⟨fun h => by omega, fun _ => ⟨g, hg, hp, hv⟩⟩
 ·
  rw [List.getElem?_set_ne hj] at hu
  exact ⟨fun h1 => (h.2 j u hu).1 (by omega), fun h1 => (h.2 j u hu).2 (by omega)⟩
theorem HalfG.plain {gs us : List Gm} {w : World} {D : Nat → Prop} (h : HalfG gs us w D gs.length) : us.map Gm.plain = gs.map Gm.plain := by
 refine List.ext_getElem? fun j => ?_
 rw [List.getElem?_map, List.getElem?_map]
 by_cases hj : j < gs.length
 ·
  have hju : j < us.length := by rw [h.1]; exact hj
  obtain ⟨t, h1, h2, _⟩ := (h.2 j us[j] (List.getElem?_eq_getElem hju)).2 hj
  rw [List.getElem?_eq_getElem hju, h1]
  show some us[j].plain = some t.plain
  rw [h2]
 ·
  rw [List.getElem?_eq_none (by rw [h.1]; omega), List.getElem?_eq_none (by omega)]
def CopiesR (gs : List Gm) (w : World) (e : Ending) (w' : World) : Prop := ∃ v us, e = .returned v ∧ us.map Gm.plain = gs.map Gm.plain ∧ Gms w' (fun i => w.heap.size ≤ i) v us ∧ Keep noneOf w w'
set_option maxRecDepth 100000 in
set_option maxHeartbeats 8000000 in
set_option linter.unusedSimpArgs false in
theorem copiedRows_any (w : World) (D : Nat → Prop) (v : Value) (gs : List Gm) (h : Gms w D v gs) (hb : gs.length * 56 ≤ reachBytes) (hsm : ∀ g ∈ gs, Small g) :
  Calls Tryz.prog 44 #[v] w (CopiesR gs w) := by
 obtain ⟨A, c, hv⟩ := h.1.shape
 subst hv
 have hfew := h.1.few
 unfold maxLen at hfew
 have hone : ∀ g ∈ gs, ∀ u ∈ g.cells, u.oneCell' = true := fun g hg u hu => by
  obtain ⟨Ag, cg, h1, _⟩ := (h.2 g hg).1.1
  obtain ⟨As, cs, h2⟩ := (h.2 g hg).2.shape
  simp [Gm.cells] at hu
  rcases hu with rfl | rfl | rfl
  ·
   rfl
  ·
   rw [h1]; rfl
  ·
   rw [h2]; rfl
 have CT := Lib.hid (cloneG_any w _ _ gs h.1 hb hone)
 have HH := Lib.hid h
 have HSM := Lib.hid hsm
 clear h hb hsm hone
 go_enter Tryz.func44, Tryz.ntmps44
 go_wp2_with fail
 refine CT.out.mono ?_
 rintro e w1 ⟨v1, rfl, hown, k1⟩
 obtain ⟨A1, c1, hv1⟩ := own_shape hown
 subst hv1
 have HK1 := Lib.hid k1
 have HO1 := Lib.hid hown
 have HB1 : Hid (∀ i, (Value.slice A1 gs.length c1).ownBlock = some i → w.heap.size ≤ i) := Lib.hid fun i hi => by
  rcases hown.2 with ⟨e, _⟩ | ⟨g, cap, cur, e, hb, _⟩
  ·
   rw [e] at hi; cases hi
  ·
   rw [e] at hi
   have : g = i := by simpa [Value.ownBlock] using hi
   omega
 clear CT hown k1
 go_wp2
 go_loopw [9] (fun i wr => ∃ (k : Nat) (us : List Gm), k ≤ gs.length ∧ i = .int .i64 k ∧ Keep noneOf w wr ∧ wr.ownsRow 0 59 3 (.slice A1 gs.length c1) gs.length (us.flatMap Gm.cells) ∧ HalfG gs us wr (fun i => w.heap.size ≤ i ∧ (Value.slice A1 gs.length c1).ownBlock ≠ some i) k) (fun i _ => gs.length - (intOf i).toNat)
 case atStart =>
  refine ⟨0, gs, Nat.zero_le _, rfl, HK1.out, ?_, rfl, fun j u hu => ⟨fun _ => hu, fun h => by omega⟩⟩
  obtain ⟨h1, h2⟩ := HO1.out
  exact ⟨h1, h2.imp_right (fun ⟨g, cap, cur, a1, a2, a3⟩ => ⟨g, cap, cur, a1, Nat.zero_le _, a3⟩)⟩
 case round =>
  obtain ⟨k, us, hk, rfl, hkeep, hown, hhalf⟩ := hrel
  have HKP := Lib.hid hkeep
  have HOR := Lib.hid hown
  have HHF := Lib.hid hhalf
  have hul := hhalf.1
  have HUL := Lib.hid hul
  by_cases hlt : k < gs.length
  ·
   have hx : gs[k]? = some gs[k] := List.getElem?_eq_getElem hlt
   have hG := HH.out.keep hkeep (fun _ _ _ => id)
   generalize gs[k] = g at *
   have hm := List.mem_of_getElem? hx
   obtain ⟨tb, o, rfl, hblk, _, hcell⟩ := hG.1.cell (fun _ => rfl) hx
   have d1 : wr.cell? ⟨tb, o + k * 3 + 1, none⟩ = some g.gv := hcell 1 (by decide)
   have d2 : wr.cell? ⟨tb, o + k * 3 + 2, none⟩ = some g.sv := hcell 2 (by decide)
   obtain ⟨Ag, cg, hgv, _⟩ := (hG.2 g hm).1.1
   obtain ⟨As, cs, hsv⟩ := (hG.2 g hm).2.shape
   have hTg := (hG.2 g hm).1
   have hSt := (hG.2 g hm).2
   rw [hgv] at d1 hTg
   rw [hsv] at d2 hSt
   have hux : us[k]? = some us[k] := List.getElem?_eq_getElem (by omega)
   have huk : us[k] = g := by
    have := (hhalf.2 k us[k] hux).1 (Nat.le_refl _)
    rw [hx] at this
    injection this with this
    exact this.symm
   rw [huk] at hux
   obtain ⟨g1, cap1, tl, hv1, _, _, _, _⟩ := own_mt (ec := Gm.cells) (l := us) (by rw [hul]; exact hown) (by rintro e; rw [e] at hul; simp at hul; omega)
   rw [hul] at hv1
   obtain ⟨rfl, rfl⟩ : A1 = some ⟨g1, 0, none⟩ ∧ c1 = cap1 := by simpa using hv1
   have CG : Hid (∀ w', Keep noneOf wr w' → Calls Tryz.prog 85 #[.agg #[.slice Ag g.ts.length cg]] w' (CopiesG g.ts w')) := Lib.hid fun w' k' => copiedGraph_any w' _ _ g.ts (hTg.keep k' (fun _ _ _ => id)) (HSM.out g hm).1 (HSM.out g hm).2.1
   have CS : Hid (∀ w', Keep (fun i => i = g1) wr w' → Calls Tryz.prog 38 #[.slice As g.st.length cs] w' (Copies Pst.cells 3 61 g.st w')) := Lib.hid fun w' k' => by
    have hS0 : Sts w D g.sv g.st := (HH.out.2 g hm).2
    rw [hsv] at hS0
    have kw : Keep noneOf w w' := HKP.out.trans k' (fun i hi e => by have := HB1.out g1 rfl; omega)
    exact cloneS_any w' D _ g.st (hS0.keep kw (fun _ _ _ => id)) (HSM.out g hm).2.2
   have hg1 := HB1.out g1 rfl
   have HX := Lib.hid hx
   have HUX := Lib.hid hux
   have q0 : (0 : Int) ≤ (k : Int) := by omega
   have q1 : (k : Int) < (gs.length : Int) := by omega
   have htbw : tb ≠ g1 := by
    obtain ⟨b9, o9, e9, hlt9, _⟩ := HH.out.1.cell (fun _ => rfl) hx
    have : tb = b9 := by
     injection e9 with e9
     injection e9
    omega
   have P1 : Hid (∀ w2 v1 ts1, Tgs w2 (fun i => wr.heap.size ≤ i) v1 ts1 → ts1.map Tg.plain = g.ts.map Tg.plain → Keep noneOf wr w2 → (∃ u, w2.cell? ⟨g1, k * 3 + 1, none⟩ = some u) ∧ w2.frozen? ⟨g1, k * 3 + 1, none⟩ = false ∧ Keep (fun i => i = g1) wr (w2.setCell ⟨g1, k * 3 + 1, none⟩ v1) ∧ (w2.setCell ⟨g1, k * 3 + 1, none⟩ v1).cell? ⟨tb, o + k * 3 + 2, none⟩ = some (.slice As g.st.length cs) ∧
     (∀ w4 v2, w4.ownsRow (w2.setCell ⟨g1, k * 3 + 1, none⟩ v1).heap.size 61 3 v2 g.st.length (g.st.flatMap Pst.cells) → Keep noneOf (w2.setCell ⟨g1, k * 3 + 1, none⟩ v1) w4 → (∃ u, w4.cell? ⟨g1, k * 3 + 2, none⟩ = some u) ∧ w4.frozen? ⟨g1, k * 3 + 2, none⟩ = false ∧ Keep noneOf w (w4.setCell ⟨g1, k * 3 + 2, none⟩ v2) ∧ ∃ us', (w4.setCell ⟨g1, k * 3 + 2, none⟩ v2).ownsRow 0 59 3 (.slice (some ⟨g1, 0, none⟩) gs.length c1) gs.length (us'.flatMap Gm.cells) ∧ HalfG gs us' (w4.setCell ⟨g1, k * 3 + 2, none⟩ v2) (fun i => w.heap.size ≤ i ∧ (Value.slice (some ⟨g1, 0, none⟩) gs.length c1).ownBlock ≠ some i) (k + 1))) := Lib.hid fun w2 v1 ts1 ht1 hp1 k2 => by
    have hown2 : w2.ownsRow 0 59 3 (.slice (some ⟨g1, 0, none⟩) us.length c1) us.length (us.flatMap Gm.cells) := by
     rw [hul]
     exact own_keep HOR.out k2 (fun _ _ => id)
    have hat := own_at (ec := Gm.cells) (fun _ => rfl) hown2 HUX.out (j := 1) (by decide)
    have kp := (Keep.refl (fun i => i = g1) w2).setCell (p := ⟨g1, k * 3 + 1, none⟩) (fun _ => rfl) v1
    have hput := own_put (ec := Gm.cells) (fun _ => rfl) hown2 HUX.out (j := 1) (x' := { g with gv := v1, ts := ts1 }) (u := v1) (by decide) rfl
    have k23 := (Keep.wide k2).trans kp (fun _ _ e => e)
    have hg1lt : g1 < wr.heap.size := own_lt HOR.out rfl
    have ht3 := ht1.keep kp (fun i _ hi e => by omega)
    refine ⟨⟨_, hat.1⟩, hat.2, k23, (k23.cell (p := ⟨tb, o + k * 3 + 2, none⟩) hblk htbw).trans d2, fun w4 v2 ho2 k4 => ?_⟩
    have hown4 := own_keep hput k4 (fun _ _ => id)
    have hgx : (us.set k { g with gv := v1, ts := ts1 })[k]? = some { g with gv := v1, ts := ts1 } := by rw [List.getElem?_set_self (List.getElem?_eq_some_iff.1 HUX.out).1]
    have hat4 := own_at (ec := Gm.cells) (fun _ => rfl) hown4 hgx (j := 2) (by decide)
    have kp4 := (Keep.refl (fun i => i = g1) w4).setCell (p := ⟨g1, k * 3 + 2, none⟩) (fun _ => rfl) v2
    have hput4 := own_put (ec := Gm.cells) (fun _ => rfl) hown4 hgx (j := 2) (x' := { g with gv := v1, ts := ts1, sv := v2 }) (u := v2) (by decide) rfl
    rw [List.set_set, List.length_set, hul] at hput4
    have k24 := (k23.andNone k4).trans kp4 (fun _ _ e => e)
    refine ⟨⟨_, hat4.1⟩, hat4.2, HKP.out.trans k24 (fun i hi e => by omega), us.set k { g with gv := v1, ts := ts1, sv := v2 }, hput4, ?_⟩
    have h3 := HHF.out.keep k24 (fun i hi e => hi.2 (by rw [e]; rfl))
    refine h3.next HX.out (by show Gq.mk g.id (ts1.map Tg.plain) g.st = _; rw [hp1]; rfl) ⟨?_, ?_⟩
    ·
     have h5 := (ht3.keep k4 (fun _ _ _ => id)).keep kp4 (fun i _ hi e => by omega)
     refine h5.monoQ (fun i _ hi => ⟨Nat.le_trans HKP.out.size hi, fun e => ?_⟩)
     have e2 : g1 = i := by simpa [Value.ownBlock] using e
     omega
    ·
     refine own_row_in (own_keep ho2 kp4 (fun j hj e => own_own ho2 hown4 (by decide) j hj (by rw [e]; rfl))) (fun b hb => ⟨?_, fun e => own_own ho2 hown4 (by decide) b hb e⟩)
     rcases ho2.2 with ⟨e, _⟩ | ⟨gg, cap, cur, e, hbb, _⟩
     ·
      rw [e] at hb; cases hb
     ·
      rw [e] at hb
      have : gg = b := by simpa [Value.ownBlock] using hb
      have h7 := HKP.out.size
      have h8 := k23.size
      omega
   have K0 := Keep.refl noneOf wr
   clear hx hG hcell hTg hSt hux huk hv1 hm hkeep hown hhalf hul hblk hgv hsv hg1 htbw d2
   go_wp2_with fail
   refine (CG.out _ K0).mono ?_
   rintro e w2 ⟨v1, ts1, rfl, hp1, ht1, k2⟩
   obtain ⟨A3, c3, hv3, _⟩ := ht1.1
   obtain ⟨⟨u0, y2⟩, z2, k3, d3, P2⟩ := P1.out w2 v1 ts1 ht1 hp1 k2
   subst hv3
   have HP2 := Lib.hid P2
   have HK3 := Lib.hid k3
   clear P1 CG K0 hp1 ht1 k2 P2 d1
   go_wp2_with fail
   refine (CS.out _ HK3.out).mono ?_
   rintro e w4 ⟨v2, rfl, ho2, k4⟩
   obtain ⟨⟨u4, y4⟩, z4, kf, us', of, hf⟩ := HP2.out w4 v2 ho2 k4
   obtain ⟨A4, c4, rfl⟩ := own_shape ho2
   have HKF := Lib.hid kf
   have HOF := Lib.hid of
   have HHF2 := Lib.hid hf
   clear HP2 CS ho2 k4 kf of hf y2 z2 k3 d3 HK3
   go_wp2
   go_roundw
   case rel => exact ⟨k + 1, us', by omega, by go_num, HKF.out, HOF.out, HHF2.out⟩
   case measure => simp only [intOf]; omega
  ·
   have hke : k = gs.length := by omega
   subst hke
   have hkn : ¬ ((gs.length : Int) < (gs.length : Int)) := by omega
   have HF : Hid (CopiesR gs w (.returned (.slice A1 gs.length c1)) wr) := Lib.hid ⟨_, us, rfl, hhalf.plain, ⟨by
     unfold Many
     rw [hul]
     exact own_row_in hown (fun b hb => HB1.out b hb), fun u hu => by
     obtain ⟨j, hj⟩ := List.getElem?_of_mem hu
     have hjl := (List.getElem?_eq_some_iff.1 hj).1
     obtain ⟨t, h1, h2, h3⟩ := (hhalf.2 j u hj).2 (by omega)
     exact h3.mono (fun i _ hi => hi.1)⟩, HKP.out⟩
   clear hkeep hown hhalf hul
   go_wp2
   go_ret
   exact HF.out
end Go.Proofs.YtffoeodjbbkdjaaGreat
