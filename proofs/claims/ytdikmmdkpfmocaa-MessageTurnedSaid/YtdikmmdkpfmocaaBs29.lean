import Derived.Test.YtdikmmdkpfmocaaBs22
import Derived.Test.YtdikmmdkpfmocaaBs23
import Derived.Test.YtdikmmdkpfmocaaBs28
namespace Go.Proofs.Ytdikmmdkpfmocaa
open Go.RowKit Go.Shelf
structure RB (w : World) (pr b : Nat) (D : Nat → Prop) (s : Rs) (cs : Array Value) : Prop where
  rd : ∃ u, Rd w pr D u s.left s.err
  box : Box w b 29 cs
  ne : b ≠ pr
  nd : ∀ k, D k → k ≠ b
section
variable {w w' : World} {pr b : Nat} {D : Nat → Prop} {s s' : Rs} {cs : Array Value}
theorem RB.keep (h : RB w pr b D s cs) (k : Keep noneOf w w') : RB w' pr b D s cs := by
  obtain ⟨u, hr⟩ := h.rd
  exact ⟨⟨u, hr.keep k id (fun _ _ => id)⟩, h.box.keep k id, h.ne, h.nd⟩
theorem RB.put (h : Box w b 29 cs) (hne : b ≠ pr) (hnd : ∀ k, D k → k ≠ b) (r : ∃ u, Rd w pr D u s.left s.err) (i : Nat) (v : Value) : RB (w.setCell ⟨b, i, none⟩ v) pr b D s (cs.setIfInBounds i v) := by
  obtain ⟨u, hr⟩ := r
  exact ⟨⟨u, hr.keep ((Keep.refl (fun k => k = b) w).setCell (p := ⟨b, i, none⟩) (fun _ => rfl) v) (fun e => hne e.symm) (fun k hk e => hnd k hk e)⟩, h.put i v, hne, hnd⟩
end
set_option maxRecDepth 100000 in
set_option maxHeartbeats 1000000 in
theorem rlong_m (w : World) (pr b o : Nat) (D : Nat → Prop) (s s' : Rs) (cs : List UInt8) (cells : Array Value) (old : Value) (h : RB w pr b D s cells) (ho : cells[o]? = some old) (e : s.take 8 = (cs, s')) :
    Calls Try.prog 92 #[.agg #[.pointer (some ⟨pr, 0, none⟩)], .pointer (some ⟨b, o, none⟩)] w fun e w' => e = .returned (.tuple #[]) ∧ RB w' pr b D s' (cells.setIfInBounds o (.int .u64 (num cs : Int))) ∧ Keep (fun k => k = pr ∨ k = b) w w' := by
  have hbl := h.box.lt
  obtain ⟨u, hr⟩ := h.rd
  have k0 := (Keep.refl noneOf w).alloc (.cells #[.pointer (some ⟨pr, 0, none⟩)] 61)
  have x0 := (Box.new w 61 #[.pointer (some ⟨pr, 0, none⟩)]).cell 0
  have HC := Lib.hid (rlong_to _ pr D u s s' cs (hr.keep k0 id (fun _ _ => id)) e)
  have HB := Lib.hid (h.box.alloc (.cells #[.pointer (some ⟨pr, 0, none⟩)] 61))
  have HH := Lib.hid h
  have HO := Lib.hid ho
  have HK0 := Lib.hid (k0.mono (T := fun k => k = pr ∨ k = b) (fun _ _ h => h.elim))
  clear h hr k0 ho e
  go_enter Try.func92, Try.ntmps92
  go_wp2_with fail
  refine HC.out.mono ?_
  rintro e w1 ⟨rfl, k1, hr1⟩
  have hb1 := HB.out.keep k1 HH.out.ne
  have c0 : w1.cell? ⟨b, o, none⟩ = some old := (hb1.cell o).trans HO.out
  have f0 := hb1.free o
  have HP := Lib.hid (RB.put hb1 HH.out.ne HH.out.nd hr1 o (.int .u64 (num cs : Int)))
  have HK := Lib.hid ((HK0.out.trans (k1.mono (T := fun k => k = pr ∨ k = b) (fun _ _ h => .inl h)) (fun _ _ h => h)).setCell (p := ⟨b, o, none⟩) (fun _ => .inr rfl) (.int .u64 (num cs : Int)))
  clear k1 hr1 hb1 HC HB
  go_wp2
  go_end0
  exact ⟨rfl, HP.out, HK.out⟩
def rdFlag (s : Rs) : Bool × Rs := (decide (num (s.take 1).1 = 1), if 1 < num (s.take 1).1 then (s.take 1).2.fail 160 else (s.take 1).2)
set_option maxRecDepth 100000 in
set_option maxHeartbeats 1000000 in
theorem rflag_m (w : World) (pr b o : Nat) (D : Nat → Prop) (s : Rs) (cells : Array Value) (old : Value) (h : RB w pr b D s cells) (ho : cells[o]? = some old) :
    Calls Try.prog 91 #[.agg #[.pointer (some ⟨pr, 0, none⟩)], .pointer (some ⟨b, o, none⟩)] w fun e w' => e = .returned (.tuple #[]) ∧ RB w' pr b D (rdFlag s).2 (cells.setIfInBounds o (.bool (rdFlag s).1)) ∧ Keep (fun k => k = pr ∨ k = b) w w' := by
  obtain ⟨cs, s', e⟩ : ∃ cs s', s.take 1 = (cs, s') := ⟨_, _, rfl⟩
  have hf : rdFlag s = (decide (num cs = 1), if 1 < num cs then s'.fail 160 else s') := by unfold rdFlag; rw [e]
  rw [hf]
  have hbl := h.box.lt
  have hpl : pr < w.heap.size := by obtain ⟨u, hr⟩ := h.rd; exact hr.box.lt
  obtain ⟨u, hr⟩ := h.rd
  have k0 := (Keep.refl noneOf w).alloc (.cells #[.pointer (some ⟨pr, 0, none⟩)] 61)
  have x0 := (Box.new w 61 #[.pointer (some ⟨pr, 0, none⟩)]).cell 0
  have HX := Lib.hid (Box.new w 61 #[.pointer (some ⟨pr, 0, none⟩)])
  have HC := Lib.hid (rbyte_to _ pr D u s s' cs (hr.keep k0 id (fun _ _ => id)) e)
  have HB := Lib.hid (h.box.alloc (.cells #[.pointer (some ⟨pr, 0, none⟩)] 61))
  have HH := Lib.hid h
  have HO := Lib.hid ho
  have HK0 := Lib.hid (k0.mono (T := fun k => k = pr ∨ k = b) (fun _ _ h => h.elim))
  clear h hr k0 ho e hf
  generalize num cs = n at *
  by_cases h1 : 1 < n
  · rw [if_pos h1]
    have g1 : (n : Int) > 1 := by omega
    have g2 : ((n : Int) == 1) = false := beq_eq_false_iff_ne.2 (by omega)
    have g3 : decide (n = 1) = false := decide_eq_false (by omega)
    rw [g3]
    go_enter Try.func91, Try.ntmps91
    go_wp2_with fail
    refine HC.out.mono ?_
    rintro e w1 ⟨rfl, k1, hr1⟩
    have hb1 := HB.out.keep k1 HH.out.ne
    have hx1 := HX.out.keep k1 (by omega)
    have HK1 := Lib.hid (HK0.out.trans (k1.mono (T := fun k => k = pr ∨ k = b) (fun _ _ h => .inl h)) (fun _ _ h => h))
    have x1 := hx1.cell 0
    obtain ⟨u1, hr1⟩ := hr1
    have HF := Lib.hid (fail_any w1 pr D u1 s'.left s'.err 160 hr1)
    have HB1 := Lib.hid hb1
    clear k1 hr1 hb1 HC HB HX h1 g3
    go_wp2_with fail
    refine HF.out.mono ?_
    rintro e w2 ⟨rfl, hr2, k2⟩
    have hb2 := HB1.out.keep k2 HH.out.ne
    have c0 : w2.cell? ⟨b, o, none⟩ = some old := (hb2.cell o).trans HO.out
    have f0 := hb2.free o
    have hlf : (s'.fail 160).left = s'.left := by unfold Rs.fail; split <;> rfl
    have HP := Lib.hid (RB.put (s := s'.fail 160) hb2 HH.out.ne HH.out.nd ⟨u1, by rw [hlf]; exact hr2⟩ o (.bool false))
    have HK := Lib.hid ((HK1.out.trans (k2.mono (T := fun k => k = pr ∨ k = b) (fun _ _ h => .inl h)) (fun _ _ h => h)).setCell (p := ⟨b, o, none⟩) (fun _ => .inr rfl) (.bool false))
    clear k2 hr2 hb2 HF hlf
    go_wp2
    go_end0
    exact ⟨rfl, HP.out, HK.out⟩
  · rw [if_neg h1]
    have g1 : ¬ (n : Int) > 1 := by omega
    obtain ⟨g, hg⟩ : ∃ g, ((n : Int) == 1) = g := ⟨_, rfl⟩
    have g3 : decide (n = 1) = g := by rw [← hg, Bool.eq_iff_iff]; simp; omega
    rw [g3]
    go_enter Try.func91, Try.ntmps91
    go_wp2_with fail
    refine HC.out.mono ?_
    rintro e w1 ⟨rfl, k1, hr1⟩
    have hb1 := HB.out.keep k1 HH.out.ne
    have hx1 := HX.out.keep k1 (by omega)
    have HK1 := Lib.hid (HK0.out.trans (k1.mono (T := fun k => k = pr ∨ k = b) (fun _ _ h => .inl h)) (fun _ _ h => h))
    have c0 : w1.cell? ⟨b, o, none⟩ = some old := (hb1.cell o).trans HO.out
    have f0 := hb1.free o
    have HP := Lib.hid (RB.put hb1 HH.out.ne HH.out.nd hr1 o (.bool g))
    have HK := Lib.hid (HK1.out.setCell (p := ⟨b, o, none⟩) (fun _ => .inr rfl) (.bool g))
    clear k1 hr1 hb1 HC HB HX h1 g3
    go_wp2
    go_end0
    exact ⟨rfl, HP.out, HK.out⟩
set_option maxRecDepth 100000 in
set_option maxHeartbeats 1000000 in
theorem rdata_m (w : World) (pr b o : Nat) (D : Nat → Prop) (s s' : Rs) (cs : List UInt8) (cells : Array Value) (old : Value) (h : RB w pr b D s cells) (ho : cells[o]? = some old) (e : s.text 4096 = (cs, s')) :
    Calls Try.prog 89 #[.agg #[.pointer (some ⟨pr, 0, none⟩)], .pointer (some ⟨b, o, none⟩)] w fun e w' => e = .returned (.tuple #[]) ∧ ∃ x, RB w' pr b D s' (cells.setIfInBounds o x) ∧ Keep (fun k => k = pr ∨ k = b) w w' ∧ Bytes w' (fun k => w.heap.size ≤ k) x cs := by
  have hbl := h.box.lt
  obtain ⟨u, hr⟩ := h.rd
  have k0 := (Keep.refl noneOf w).alloc (.cells #[.pointer (some ⟨pr, 0, none⟩)] 61)
  have x0 := (Box.new w 61 #[.pointer (some ⟨pr, 0, none⟩)]).cell 0
  have HC := Lib.hid (rtext_to _ pr D u s s' cs 4096 (by decide) (hr.keep k0 id (fun _ _ => id)) e)
  have HB := Lib.hid (h.box.alloc (.cells #[.pointer (some ⟨pr, 0, none⟩)] 61))
  have HH := Lib.hid h
  have HO := Lib.hid ho
  have hz : w.heap.size ≤ (w.alloc (.cells #[.pointer (some ⟨pr, 0, none⟩)] 61)).heap.size := k0.size
  have HK0 := Lib.hid (k0.mono (T := fun k => k = pr ∨ k = b) (fun _ _ h => h.elim))
  clear h hr k0 ho e
  go_enter Try.func89, Try.ntmps89
  go_wp2_with fail
  refine HC.out.mono ?_
  rintro e w1 ⟨u1, x, rfl, k1, hr1, hox, hnx⟩
  have hb1 := HB.out.keep k1 HH.out.ne
  have c0 : w1.cell? ⟨b, o, none⟩ = some old := (hb1.cell o).trans HO.out
  have f0 := hb1.free o
  have HP := Lib.hid (RB.put hb1 HH.out.ne HH.out.nd ⟨u1, hr1⟩ o x)
  have HK := Lib.hid ((HK0.out.trans (k1.mono (T := fun k => k = pr ∨ k = b) (fun _ _ h => .inl h)) (fun _ _ h => h)).setCell (p := ⟨b, o, none⟩) (fun _ => .inr rfl) x)
  have HX := Lib.hid (((Bytes.of_own hox).mono (D' := fun k => w.heap.size ≤ k) (fun i _ hi => Nat.le_trans hz (hnx i hi.symm))).keep ((Keep.refl (fun k => k = b) w1).setCell (p := ⟨b, o, none⟩) (fun _ => rfl) x) (fun i _ hi e => by omega))
  obtain ⟨A, c, hx⟩ := own_shape hox
  subst hx
  clear k1 hr1 hb1 HC HB hox hnx hz
  go_wp2
  go_end0
  exact ⟨rfl, _, HP.out, HK.out, HX.out⟩
def rdEnts (s : Rs) : List Pe × Rs := (if (rdL rdEnt (s.var 8).1 (s.var 8).2).2.err = 0 then (rdL rdEnt (s.var 8).1 (s.var 8).2).1 else [], (rdL rdEnt (s.var 8).1 (s.var 8).2).2)
theorem En.held.lies {base : Nat} {W : World} {x : En} (h : x.held base W) : x.lies W (fun k => base ≤ k) := ⟨h.1, h.2.1, (Bytes.of_own h.2.2).mono (fun _ _ hi => (own_ge h.2.2 hi.symm).1)⟩
theorem ents_own {w : World} {base : Nat} {v : Value} {ts : List En} (h : w.ownsRow base 81 4 v ts.length (ts.flatMap En.cells)) (hh : ∀ t ∈ ts, En.held base w t) : Ens w (fun k => base ≤ k) v ts := ⟨Row.of_own h, fun x hx => (hh x hx).lies⟩
set_option maxRecDepth 100000 in
set_option maxHeartbeats 1000000 in
theorem rentries_m (w : World) (pr b o : Nat) (D : Nat → Prop) (s : Rs) (cells : Array Value) (old : Value) (h : RB w pr b D s cells) (ho : cells[o]? = some old) (hD : ∀ k, D k → k < w.heap.size) :
    Calls Try.prog 90 #[.agg #[.pointer (some ⟨pr, 0, none⟩)], .pointer (some ⟨b, o, none⟩)] w fun e w' => e = .returned (.tuple #[]) ∧ ∃ x ts, RB w' pr b D (rdEnts s).2 (cells.setIfInBounds o x) ∧ Keep (fun k => k = pr ∨ k = b) w w' ∧ Ens w' (fun k => w.heap.size ≤ k) x ts ∧ ts.map En.plain = (rdEnts s).1 := by
  have hbl := h.box.lt
  obtain ⟨u, hr⟩ := h.rd
  have k0 := (Keep.refl noneOf w).alloc (.cells #[.pointer (some ⟨pr, 0, none⟩)] 61)
  have x0 := (Box.new w 61 #[.pointer (some ⟨pr, 0, none⟩)]).cell 0
  have hz : w.heap.size ≤ (w.alloc (.cells #[.pointer (some ⟨pr, 0, none⟩)] 61)).heap.size := k0.size
  have HC : Hid (Calls Try.prog 96 #[.pointer (some ⟨pr, 0, none⟩), .int .i64 8, .func (.func 97) #[] #[]] (w.alloc (.cells #[.pointer (some ⟨pr, 0, none⟩)] 61)) (GotEnts (w.alloc (.cells #[.pointer (some ⟨pr, 0, none⟩)] 61)) pr D (rdEnts s).1 (rdEnts s).2)) :=
    Lib.hid (list_ent _ pr D u s _ _ _ (fun i hi => Nat.lt_of_lt_of_le (hD i hi) hz) (hr.keep k0 id (fun _ _ => id)) rfl rfl (rdEnts s).1 rfl)
  have HB := Lib.hid (h.box.alloc (.cells #[.pointer (some ⟨pr, 0, none⟩)] 61))
  have HH := Lib.hid h
  have HO := Lib.hid ho
  have HK0 := Lib.hid (k0.mono (T := fun k => k = pr ∨ k = b) (fun _ _ h => h.elim))
  clear h hr k0 ho hD
  generalize rdEnts s = R at *
  go_enter Try.func90, Try.ntmps90
  go_wp2_with fail
  refine HC.out.mono ?_
  rintro e w1 ⟨x, ts, rfl, k1, hr1, hox, hts, hpl⟩
  have hb1 := HB.out.keep k1 HH.out.ne
  have c0 : w1.cell? ⟨b, o, none⟩ = some old := (hb1.cell o).trans HO.out
  have f0 := hb1.free o
  have HP := Lib.hid (RB.put hb1 HH.out.ne HH.out.nd hr1 o x)
  have HK := Lib.hid ((HK0.out.trans (k1.mono (T := fun k => k = pr ∨ k = b) (fun _ _ h => .inl h)) (fun _ _ h => h)).setCell (p := ⟨b, o, none⟩) (fun _ => .inr rfl) x)
  have HX := Lib.hid (((ents_own hox hts).mono (D' := fun k => w.heap.size ≤ k) (fun i _ hi => Nat.le_trans hz hi)).keep ((Keep.refl (fun k => k = b) w1).setCell (p := ⟨b, o, none⟩) (fun _ => rfl) x) (fun i _ hi e => by omega))
  have HPL := Lib.hid hpl
  obtain ⟨A, c, hx⟩ := own_shape hox
  subst hx
  clear k1 hr1 hb1 HC HB hox hts hz hpl
  go_wp2
  go_end0
  exact ⟨rfl, _, ts, HP.out, HK.out, HX.out, HPL.out⟩
def rdCfg (s : Rs) : Cf × Rs := ((decQ (s.text 16777216).1).1, (s.text 16777216).2.fail (decQ (s.text 16777216).1).2)
set_option maxRecDepth 100000 in
set_option maxHeartbeats 2000000 in
theorem rconfig_m (w : World) (pr b o : Nat) (D : Nat → Prop) (s : Rs) (cells : Array Value) (old old' : Value) (h : RB w pr b D s cells) (ho : cells[o]? = some old) (ho' : cells[o + 1]? = some old') :
    Calls Try.prog 88 #[.agg #[.pointer (some ⟨pr, 0, none⟩)], .pointer (some ⟨b, o, none⟩)] w fun e w' => e = .returned (.tuple #[]) ∧ ∃ va la, RB w' pr b D (rdCfg s).2 ((cells.setIfInBounds o va).setIfInBounds (o + 1) la) ∧ Keep (fun k => k = pr ∨ k = b) w w' ∧ Zs w' (fun k => w.heap.size ≤ k) va (rdCfg s).1.v ∧ Zs w' (fun k => w.heap.size ≤ k) la (rdCfg s).1.l := by
  obtain ⟨cs, s', e⟩ : ∃ cs s', s.text 16777216 = (cs, s') := ⟨_, _, rfl⟩
  have hcs : cs.length ≤ 16777216 := by have := text_few s 16777216; rw [e] at this; exact this
  have hf : rdCfg s = ((decQ cs).1, s'.fail (decQ cs).2) := by unfold rdCfg; rw [e]
  rw [hf]
  have hbl := h.box.lt
  have hpl : pr < w.heap.size := by obtain ⟨u, hr⟩ := h.rd; exact hr.box.lt
  obtain ⟨u, hr⟩ := h.rd
  have k0 := (Keep.refl noneOf w).alloc (.cells #[.pointer (some ⟨pr, 0, none⟩)] 61)
  have x0 := (Box.new w 61 #[.pointer (some ⟨pr, 0, none⟩)]).cell 0
  have HX := Lib.hid (Box.new w 61 #[.pointer (some ⟨pr, 0, none⟩)])
  have hz : w.heap.size ≤ (w.alloc (.cells #[.pointer (some ⟨pr, 0, none⟩)] 61)).heap.size := k0.size
  have HC := Lib.hid (readPart_to _ pr D u s s' cs (hr.keep k0 id (fun _ _ => id)) e)
  have HB := Lib.hid (h.box.alloc (.cells #[.pointer (some ⟨pr, 0, none⟩)] 61))
  have HH := Lib.hid h
  have HO := Lib.hid ho
  have HO' := Lib.hid ho'
  have HK0 := Lib.hid (k0.mono (T := fun k => k = pr ∨ k = b) (fun _ _ h => h.elim))
  have HLIM := Lib.hid lim_is
  have HCS := Lib.hid hcs
  have HDQ := Lib.hid (fun w (v : Value) (D' : Nat → Prop) (hs : Bytes w D' v cs) => cdecode_any w D' v cs hs (by rw [HLIM.out]; have := HCS.out; omega))
  obtain ⟨⟨cf, er⟩, hR⟩ : ∃ R, decQ cs = R := ⟨_, rfl⟩
  rw [hR] at HDQ ⊢
  clear h hr k0 ho ho' e hf hcs hR
  simp only
  go_enter Try.func88, Try.ntmps88
  go_wp2_with fail
  refine HC.out.mono ?_
  rintro e w1 ⟨u1, x, rfl, k1, hr1, hox, hnx⟩
  have HB1 := Lib.hid (HB.out.keep k1 HH.out.ne)
  have HX1 := Lib.hid (HX.out.keep k1 (by omega))
  have HR1 := Lib.hid hr1
  have HK1 := Lib.hid (HK0.out.trans (k1.mono (T := fun k => k = pr ∨ k = b) (fun _ _ h => .inl h)) (fun _ _ h => h))
  have HDC := Lib.hid (HDQ.out w1 x _ (Bytes.of_own hox))
  have hz1 : w.heap.size ≤ w1.heap.size := by have := k1.size; omega
  obtain ⟨A, c, hx⟩ := own_shape hox
  subst hx
  clear k1 hr1 HC HB HX hox hnx hz HK0 HDQ x0
  go_wp2_with fail
  refine HDC.out.mono ?_
  rintro e w2 ⟨v, rfl, ⟨va, la, rfl, hva, hla⟩, k2⟩
  obtain ⟨A1, a1, hA1, -⟩ := hva.shape
  obtain ⟨A2, a2, hA2, -⟩ := hla.shape
  subst hA1 hA2
  obtain ⟨l1, hl1⟩ : ∃ l, cf.v.length = l := ⟨_, rfl⟩
  obtain ⟨l2, hl2⟩ : ∃ l, cf.l.length = l := ⟨_, rfl⟩
  rw [hl1] at hva ⊢
  rw [hl2] at hla ⊢
  clear hl1 hl2
  have HB2 := Lib.hid ((HB1.out.keep k2 id).alloc (.cells #[.slice A1 l1 a1, .slice A2 l2 a2] 26))
  have HX2 := Lib.hid ((HX1.out.keep k2 id).alloc (.cells #[.slice A1 l1 a1, .slice A2 l2 a2] 26))
  have HY2 := Lib.hid (Box.new w2 26 #[.slice A1 l1 a1, .slice A2 l2 a2])
  have ka := (Keep.refl noneOf w2).alloc (.cells #[.slice A1 l1 a1, .slice A2 l2 a2] 26)
  have HR2 := Lib.hid ((HR1.out.keep k2 id (fun _ _ => id)).keep ka id (fun _ _ => id))
  have HK2 := Lib.hid ((HK1.out.trans (k2.mono (T := fun k => k = pr ∨ k = b) (fun _ _ h => h.elim)) (fun _ _ h => h)).alloc (.cells #[.slice A1 l1 a1, .slice A2 l2 a2] 26))
  have HV2 := Lib.hid (hva.keepN ka)
  have HL2 := Lib.hid (hla.keepN ka)
  have HF := Lib.hid (fail_any _ pr D u1 s'.left s'.err er HR2.out)
  have x1 : (w2.alloc (.cells #[.slice A1 l1 a1, .slice A2 l2 a2] 26)).cell? ⟨w.heap.size, 0, none⟩ = some (.pointer (some ⟨pr, 0, none⟩)) := HX2.out.cell 0
  have hz2 : w1.heap.size ≤ w2.heap.size := k2.size
  have hxl : w.heap.size < w2.heap.size := (HX1.out.keep k2 id).lt
  clear k2 ka hva hla HB1 HX1 HR1 HK1 HDC
  go_wp2_with fail
  refine HF.out.mono ?_
  rintro e w3 ⟨rfl, hr3, k3⟩
  have hb3 := HB2.out.keep k3 HH.out.ne
  have hy3 := HY2.out.keep k3 (by omega)
  have y0 : w3.cell? ⟨w2.heap.size, 0, none⟩ = some (.slice A1 l1 a1) := hy3.cell 0
  have y1 : w3.cell? ⟨w2.heap.size, 1, none⟩ = some (.slice A2 l2 a2) := hy3.cell 1
  have c0 : w3.cell? ⟨b, o, none⟩ = some old := (hb3.cell o).trans HO.out
  have c1 : w3.cell? ⟨b, o + 1, none⟩ = some old' := (hb3.cell (o + 1)).trans HO'.out
  have f0 := hb3.free o
  have f1 := hb3.free (o + 1)
  have hlf : (s'.fail er).left = s'.left := by unfold Rs.fail; split <;> rfl
  have hp1 := RB.put (s := s'.fail er) hb3 HH.out.ne HH.out.nd ⟨u1, by rw [hlf]; exact hr3⟩ o (.slice A1 l1 a1)
  have HP := Lib.hid (RB.put hp1.box HH.out.ne HH.out.nd hp1.rd (o + 1) (.slice A2 l2 a2))
  have HK := Lib.hid (((HK2.out.trans (k3.mono (T := fun k => k = pr ∨ k = b) (fun _ _ h => .inl h)) (fun _ _ h => h)).setCell (p := ⟨b, o, none⟩) (fun _ => .inr rfl) (.slice A1 l1 a1)).setCell (p := ⟨b, o + 1, none⟩) (fun _ => .inr rfl) (.slice A2 l2 a2))
  have kf : Keep (fun k => k = pr ∨ k = b) (w2.alloc (.cells #[.slice A1 l1 a1, .slice A2 l2 a2] 26)) ((w3.setCell ⟨b, o, none⟩ (.slice A1 l1 a1)).setCell ⟨b, o + 1, none⟩ (.slice A2 l2 a2)) := ((k3.mono (T := fun k => k = pr ∨ k = b) (fun _ _ h => .inl h)).setCell (p := ⟨b, o, none⟩) (fun _ => .inr rfl) (.slice A1 l1 a1)).setCell (p := ⟨b, o + 1, none⟩) (fun _ => .inr rfl) (.slice A2 l2 a2)
  have HV := Lib.hid ((HV2.out.keep kf (fun i _ hi e => by rcases e with e | e <;> omega)).mono (D' := fun k => w.heap.size ≤ k) (fun i _ hi => by omega))
  have HL := Lib.hid ((HL2.out.keep kf (fun i _ hi e => by rcases e with e | e <;> omega)).mono (D' := fun k => w.heap.size ≤ k) (fun i _ hi => by omega))
  clear k3 hr3 hb3 hy3 hp1 kf hlf HF HB2 HX2 HY2 HR2 HK2 HV2 HL2
  go_wp2
  go_end0
  exact ⟨rfl, _, _, HP.out, HK.out, HV.out, HL.out⟩
end Go.Proofs.Ytdikmmdkpfmocaa
