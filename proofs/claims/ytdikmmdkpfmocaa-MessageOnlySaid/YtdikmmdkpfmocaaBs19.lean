import Derived.Deep.RegionHeld3
import Derived.Test.YtdikmmdkpfmocaaBs09
import Derived.Test.YtdikmmdkpfmocaaBs16
import Derived.Test.YtdikmmdkpfmocaaBs18
namespace Go.Proofs.Ytdikmmdkpfmocaa
open Go.RowKit
def rdEnt (s : Rs) : Pe × Rs :=
  if decOk (s.text 16777216).1 = true then (⟨num (decI (s.text 16777216).1).1, num (decT (s.text 16777216).1).1, (num (decK (s.text 16777216).1).1 : Int), (decD (s.text 16777216).1).1⟩, (s.text 16777216).2)
  else (⟨0, 0, 0, []⟩, (s.text 16777216).2.fail 40)
def En.held (base : Nat) (W : World) (x : En) : Prop := (x.ix : Int) < 18446744073709551616 ∧ (x.te : Int) < 18446744073709551616 ∧ W.ownsRow base 5 1 x.dv x.da.length (x.da.map bv)
def GotEnt (w : World) (p : Nat) (D : Nat → Prop) (s : Rs) (e : Ending) (w' : World) : Prop :=
  ∃ x : En, e = .returned (.agg #[.int .u64 (x.ix : Int), .int .u64 (x.te : Int), .int .i64 x.k, x.dv]) ∧ Keep (fun k => k = p) w w' ∧ (∃ u, Rd w' p D u (rdEnt s).2.left (rdEnt s).2.err) ∧ x.held w.heap.size w' ∧ x.plain = (rdEnt s).1
theorem own_from {w : World} {base : Nat} {e : TypeId} {size : Nat} {v : Value} {n : Nat} {xs : List Value} (h : w.ownsRow 0 e size v n xs) (hb : ∀ k, v.ownBlock = some k → base ≤ k) : w.ownsRow base e size v n xs := by
  refine ⟨h.1, ?_⟩
  rcases h.2 with h | ⟨g, cap, cur, rfl, _, h3⟩
  · exact .inl h
  · exact .inr ⟨g, cap, cur, rfl, hb g rfl, h3⟩
set_option maxRecDepth 100000 in
set_option maxHeartbeats 1000000 in
theorem readPart_to (w : World) (p : Nat) (D : Nat → Prop) (u : Value) (s s' : Rs) (cs : List UInt8) (h : Rd w p D u s.left s.err) (e : s.text 16777216 = (cs, s')) :
    Calls Try.prog 94 #[.pointer (some ⟨p, 0, none⟩)] w (Copied w p D cs s') := by
  have T := Lib.hid (rtext_to w p D u s s' cs 16777216 (by decide) h e)
  clear h e
  go_enter Try.func94, Try.ntmps94
  go_wp2_with fail
  refine T.out.mono ?_
  rintro e w1 ⟨u1, x, rfl, k1, h1, ho, hn⟩
  have HX : Hid (Copied w p D cs s' (.returned x) w1) := Lib.hid ⟨u1, x, rfl, k1, h1, ho, hn⟩
  obtain ⟨A, c, rfl⟩ := own_shape ho
  clear k1 h1 ho hn
  go_wp2
  go_ret
  exact HX.out
theorem text_few (s : Rs) (most : Nat) : (s.text most).1.length ≤ most := by
  unfold Rs.text
  have := (frontV_facts s.left most).1
  split
  · exact Nat.zero_le _
  · split
    · exact Nat.zero_le _
    · split
      · exact Nat.zero_le _
      · simp only [List.length_take]; omega
theorem fill4 {w : World} {g : Nat} {t : TypeId} {a0 a1 a2 a3 : Value} (b0 b1 b2 b3 : Value) (h : Box w g t #[a0, a1, a2, a3]) : Box ((((w.setCell ⟨g, 0, none⟩ b0).setCell ⟨g, 1, none⟩ b1).setCell ⟨g, 2, none⟩ b2).setCell ⟨g, 3, none⟩ b3) g t #[b0, b1, b2, b3] := by
  simpa using (((h.put 0 b0).put 1 b1).put 2 b2).put 3 b3
theorem Keep.fill4 {w0 w : World} {S : Nat → Prop} {g : Nat} (h : Keep S w0 w) (hg : g < w0.heap.size → S g) (b0 b1 b2 b3 : Value) : Keep S w0 ((((w.setCell ⟨g, 0, none⟩ b0).setCell ⟨g, 1, none⟩ b1).setCell ⟨g, 2, none⟩ b2).setCell ⟨g, 3, none⟩ b3) :=
  (((h.setCell (p := ⟨g, 0, none⟩) hg b0).setCell (p := ⟨g, 1, none⟩) hg b1).setCell (p := ⟨g, 2, none⟩) hg b2).setCell (p := ⟨g, 3, none⟩) hg b3
set_option maxRecDepth 100000 in
set_option maxHeartbeats 2000000 in
theorem readEntry_to (w : World) (p : Nat) (D : Nat → Prop) (u : Value) (s : Rs) (hD : ∀ i, D i → i < w.heap.size) (h : Rd w p D u s.left s.err) :
    Calls Try.prog 97 #[.pointer (some ⟨p, 0, none⟩)] w (GotEnt w p D s) := by
  obtain ⟨cs, s', ht⟩ : ∃ cs s', s.text 16777216 = (cs, s') := ⟨_, _, rfl⟩
  have hcs : cs.length ≤ 16777216 := by have := text_few s 16777216; rw [ht] at this; exact this
  have hrd : rdEnt s = if decOk cs = true then (⟨num (decI cs).1, num (decT cs).1, (num (decK cs).1 : Int), (decD cs).1⟩, s') else (⟨0, 0, 0, []⟩, s'.fail 40) := by
    unfold rdEnt
    rw [ht]
  have hpl := h.box.lt
  have k0 := (Keep.refl (fun k => k = p) w).alloc (.cells #[.int .u64 0, .int .u64 0, .int .i64 0, .slice none 0 0] 81)
  have HK0 := Lib.hid k0
  have HX0 := Lib.hid (Box.new w 81 #[.int .u64 0, .int .u64 0, .int .i64 0, .slice none 0 0])
  have HP := Lib.hid (readPart_to (w.alloc (.cells #[.int .u64 0, .int .u64 0, .int .i64 0, .slice none 0 0] 81)) p D u s s' cs (h.keep ((Keep.refl noneOf w).alloc _) id (fun _ _ => id)) ht)
  have HR := Lib.hid hrd
  have HD := Lib.hid hD
  have HCS := Lib.hid hcs
  have HLIM := Lib.hid lim_is
  have HI := Lib.hid (num_lt64 (decI cs).1 (take_length _ _))
  have HT := Lib.hid (num_lt64 (decT cs).1 (take_length _ _))
  clear h k0 ht hrd hD hcs
  go_enter Try.func97, Try.ntmps97
  go_wp2_with fail
  refine HP.out.mono ?_
  rintro e w1 ⟨u1, x, rfl, k1, r1, ho, hn⟩
  have HK1 := Lib.hid (HK0.out.trans k1 (fun _ _ h => h))
  have HX1 := Lib.hid (HX0.out.keep k1 (by omega))
  have HR1 := Lib.hid r1
  have HDC := Lib.hid (decode_any w1 _ x cs (Bytes.of_own ho) (by rw [HLIM.out]; have := HCS.out; omega))
  obtain ⟨A, c, rfl⟩ := own_shape ho
  clear k1 r1 ho hn HK0 HX0 HP
  go_wp2_with fail
  refine HDC.out.mono ?_
  rintro e w2 ⟨k2, ⟨hf, rfl⟩ | ⟨hf, y, rfl, hoy, hny⟩⟩
  · have HRE : Hid (rdEnt s = (⟨0, 0, 0, []⟩, s'.fail 40)) := Lib.hid (by rw [HR.out, hf]; rfl)
    have HK2 := Lib.hid ((HK1.out.trans (k2.mono (fun _ _ h => h.elim)) (fun _ _ h => h)).alloc (.cells #[.int .u64 0, .int .u64 0, .int .i64 0, .slice none 0 0] 81))
    have HX2 := Lib.hid ((HX1.out.keep k2 id).alloc (.cells #[.int .u64 0, .int .u64 0, .int .i64 0, .slice none 0 0] 81))
    have HY2 := Lib.hid (Box.new w2 81 #[.int .u64 0, .int .u64 0, .int .i64 0, .slice none 0 0])
    have HR2 := Lib.hid ((HR1.out.keep k2 id (fun _ _ => id)).keep ((Keep.refl noneOf w2).alloc (.cells #[.int .u64 0, .int .u64 0, .int .i64 0, .slice none 0 0] 81)) id (fun _ _ => id))
    have HFL := Lib.hid (fail_any _ p D u1 s'.left s'.err 40 HR2.out)
    have hxl : w.heap.size < w2.heap.size := (HX1.out.keep k2 id).lt
    have hpl2 : p < w2.heap.size := by have := hpl; omega
    clear k2 hf HDC HK1 HX1 HR1 HR HI HT
    go_wp2_with fail
    refine HFL.out.mono ?_
    rintro e w3 ⟨rfl, r3, k3⟩
    have HK3 := Lib.hid (HK2.out.trans k3 (fun _ _ h => h))
    have HX3 := Lib.hid (HX2.out.keep k3 (by omega))
    have HY3 := Lib.hid (HY2.out.keep k3 (by omega))
    have HR3 := Lib.hid r3
    have y0 : w3.cell? ⟨w2.heap.size, 0, none⟩ = some (.int .u64 0) := HY3.out.cell 0
    have y1 : w3.cell? ⟨w2.heap.size, 1, none⟩ = some (.int .u64 0) := HY3.out.cell 1
    have y2 : w3.cell? ⟨w2.heap.size, 2, none⟩ = some (.int .i64 0) := HY3.out.cell 2
    have y3 : w3.cell? ⟨w2.heap.size, 3, none⟩ = some (.slice none 0 0) := HY3.out.cell 3
    have x0 : w3.cell? ⟨w.heap.size, 0, none⟩ = some (.int .u64 0) := HX3.out.cell 0
    have x1 : w3.cell? ⟨w.heap.size, 1, none⟩ = some (.int .u64 0) := HX3.out.cell 1
    have x2 : w3.cell? ⟨w.heap.size, 2, none⟩ = some (.int .i64 0) := HX3.out.cell 2
    have x3 : w3.cell? ⟨w.heap.size, 3, none⟩ = some (.slice none 0 0) := HX3.out.cell 3
    have f0 := HX3.out.free 0
    have f1 := HX3.out.free 1
    have f2 := HX3.out.free 2
    have f3 := HX3.out.free 3
    clear r3 k3 HFL HK2 HX2 HY2 HR2
    go_wp2
    have B := fill4 (.int .u64 0) (.int .u64 0) (.int .i64 0) (.slice none 0 0) HX3.out
    have K := HK3.out.fill4 (g := w.heap.size) (fun h => absurd h (Nat.lt_irrefl _)) (.int .u64 0) (.int .u64 0) (.int .i64 0) (.slice none 0 0)
    have KL := (Keep.refl (fun k => k = w.heap.size) w3).fill4 (g := w.heap.size) (fun _ => rfl) (.int .u64 0) (.int .u64 0) (.int .i64 0) (.slice none 0 0)
    generalize (((w3.setCell ⟨w.heap.size, 0, none⟩ (.int .u64 0)).setCell ⟨w.heap.size, 1, none⟩ (.int .u64 0)).setCell ⟨w.heap.size, 2, none⟩ (.int .i64 0)).setCell ⟨w.heap.size, 3, none⟩ (.slice none 0 0) = wf at *
    have t0 : wf.cell? ⟨w.heap.size, 0, none⟩ = some (.int .u64 0) := B.cell 0
    have t1 : wf.cell? ⟨w.heap.size, 1, none⟩ = some (.int .u64 0) := B.cell 1
    have t2 : wf.cell? ⟨w.heap.size, 2, none⟩ = some (.int .i64 0) := B.cell 2
    have t3 : wf.cell? ⟨w.heap.size, 3, none⟩ = some (.slice none 0 0) := B.cell 3
    refine bodyPost_ret (v := .agg #[.int .u64 0, .int .u64 0, .int .i64 0, .slice none 0 0]) (by simp [results, Try.results97, go_sem, t0, t1, t2, t3]) rfl ⟨⟨0, 0, 0, .slice none 0 0, []⟩, rfl, K, ⟨u1, ?_⟩, ⟨by decide, by decide, World.ownsRow_nil _ _ _ _⟩, by rw [HRE.out]; rfl⟩
    rw [HRE.out]
    have hlf : (s'.fail 40).left = s'.left := by unfold Rs.fail; split <;> rfl
    rw [hlf]
    exact HR3.out.keep KL (by omega) (fun i hi e => by have := HD.out i hi; omega)
  · obtain ⟨ci, hci⟩ : ∃ ci, (decI cs).1 = ci := ⟨_, rfl⟩
    obtain ⟨ct, hct⟩ : ∃ ct, (decT cs).1 = ct := ⟨_, rfl⟩
    obtain ⟨ck, hck⟩ : ∃ ck, (decK cs).1 = ck := ⟨_, rfl⟩
    obtain ⟨cd, hcd⟩ : ∃ cd, (decD cs).1 = cd := ⟨_, rfl⟩
    have HRE : Hid (rdEnt s = (⟨num ci, num ct, (num ck : Int), cd⟩, s')) := Lib.hid (by rw [HR.out, hf, ← hci, ← hct, ← hck, ← hcd]; rfl)
    rw [hci, hct, hck]
    rw [hcd] at hoy
    rw [hci] at HI
    rw [hct] at HT
    clear hci hct hck hcd
    obtain ⟨B1, d1, rfl⟩ := own_shape hoy
    have HK2 := Lib.hid ((HK1.out.trans (k2.mono (fun _ _ h => h.elim)) (fun _ _ h => h)).alloc (.cells #[.int .u64 (num ci : Int), .int .u64 (num ct : Int), .int .i64 (num ck : Int), .slice B1 cd.length d1] 81))
    have HX2 := Lib.hid ((HX1.out.keep k2 id).alloc (.cells #[.int .u64 (num ci : Int), .int .u64 (num ct : Int), .int .i64 (num ck : Int), .slice B1 cd.length d1] 81))
    have HY2 := Lib.hid (Box.new w2 81 #[.int .u64 (num ci : Int), .int .u64 (num ct : Int), .int .i64 (num ck : Int), .slice B1 cd.length d1])
    have HR2 := Lib.hid ((HR1.out.keep k2 id (fun _ _ => id)).keep ((Keep.refl noneOf w2).alloc (.cells #[.int .u64 (num ci : Int), .int .u64 (num ct : Int), .int .i64 (num ck : Int), .slice B1 cd.length d1] 81)) id (fun _ _ => id))
    have hw1 : w.heap.size < w1.heap.size := HX1.out.lt
    have HO2 := Lib.hid (own_keep (own_from hoy hny) ((Keep.refl noneOf w2).alloc (.cells #[.int .u64 (num ci : Int), .int .u64 (num ct : Int), .int .i64 (num ck : Int), .slice B1 cd.length d1] 81)) (fun _ _ => id))
    have HFL := Lib.hid (fail_any _ p D u1 s'.left s'.err 0 HR2.out)
    have hxl : w.heap.size < w2.heap.size := (HX1.out.keep k2 id).lt
    have hpl2 : p < w2.heap.size := by have := hpl; omega
    have hpl1 : p < w1.heap.size := by have := hpl; omega
    have hef : (Rs.fail ⟨s'.left, s'.err⟩ 0).err = s'.err := by unfold Rs.fail; split <;> simp_all
    rw [hef] at HFL
    clear k2 hf HDC HK1 HX1 HR1 HR hoy hny hef
    go_wp2_with fail
    refine HFL.out.mono ?_
    rintro e w3 ⟨rfl, r3, k3⟩
    have HK3 := Lib.hid (HK2.out.trans k3 (fun _ _ h => h))
    have HX3 := Lib.hid (HX2.out.keep k3 (by omega))
    have HY3 := Lib.hid (HY2.out.keep k3 (by omega))
    have HO3 := Lib.hid (own_keep HO2.out k3 (fun j hj => by have := (own_ge HO2.out hj).1; omega))
    have HR3 := Lib.hid r3
    have y0 : w3.cell? ⟨w2.heap.size, 0, none⟩ = some (.int .u64 (num ci : Int)) := HY3.out.cell 0
    have y1 : w3.cell? ⟨w2.heap.size, 1, none⟩ = some (.int .u64 (num ct : Int)) := HY3.out.cell 1
    have y2 : w3.cell? ⟨w2.heap.size, 2, none⟩ = some (.int .i64 (num ck : Int)) := HY3.out.cell 2
    have y3 : w3.cell? ⟨w2.heap.size, 3, none⟩ = some (.slice B1 cd.length d1) := HY3.out.cell 3
    have x0 : w3.cell? ⟨w.heap.size, 0, none⟩ = some (.int .u64 0) := HX3.out.cell 0
    have x1 : w3.cell? ⟨w.heap.size, 1, none⟩ = some (.int .u64 0) := HX3.out.cell 1
    have x2 : w3.cell? ⟨w.heap.size, 2, none⟩ = some (.int .i64 0) := HX3.out.cell 2
    have x3 : w3.cell? ⟨w.heap.size, 3, none⟩ = some (.slice none 0 0) := HX3.out.cell 3
    have f0 := HX3.out.free 0
    have f1 := HX3.out.free 1
    have f2 := HX3.out.free 2
    have f3 := HX3.out.free 3
    clear r3 k3 HFL HK2 HX2 HY2 HR2 HO2
    go_wp2
    have B := fill4 (.int .u64 (num ci : Int)) (.int .u64 (num ct : Int)) (.int .i64 (num ck : Int)) (.slice B1 cd.length d1) HX3.out
    have K := HK3.out.fill4 (g := w.heap.size) (fun h => absurd h (Nat.lt_irrefl _)) (.int .u64 (num ci : Int)) (.int .u64 (num ct : Int)) (.int .i64 (num ck : Int)) (.slice B1 cd.length d1)
    have KL := (Keep.refl (fun k => k = w.heap.size) w3).fill4 (g := w.heap.size) (fun _ => rfl) (.int .u64 (num ci : Int)) (.int .u64 (num ct : Int)) (.int .i64 (num ck : Int)) (.slice B1 cd.length d1)
    generalize (((w3.setCell ⟨w.heap.size, 0, none⟩ (.int .u64 (num ci : Int))).setCell ⟨w.heap.size, 1, none⟩ (.int .u64 (num ct : Int))).setCell ⟨w.heap.size, 2, none⟩ (.int .i64 (num ck : Int))).setCell ⟨w.heap.size, 3, none⟩ (.slice B1 cd.length d1) = wf at *
    have t0 : wf.cell? ⟨w.heap.size, 0, none⟩ = some (.int .u64 (num ci : Int)) := B.cell 0
    have t1 : wf.cell? ⟨w.heap.size, 1, none⟩ = some (.int .u64 (num ct : Int)) := B.cell 1
    have t2 : wf.cell? ⟨w.heap.size, 2, none⟩ = some (.int .i64 (num ck : Int)) := B.cell 2
    have t3 : wf.cell? ⟨w.heap.size, 3, none⟩ = some (.slice B1 cd.length d1) := B.cell 3
    refine bodyPost_ret (v := .agg #[.int .u64 (num ci : Int), .int .u64 (num ct : Int), .int .i64 (num ck : Int), .slice B1 cd.length d1]) (by simp [results, Try.results97, go_sem, t0, t1, t2, t3]) rfl ⟨⟨num ci, num ct, (num ck : Int), .slice B1 cd.length d1, cd⟩, rfl, K, ⟨u1, ?_⟩, ⟨HI.out, HT.out, ?_⟩, by rw [HRE.out]; rfl⟩
    · rw [HRE.out]
      exact HR3.out.keep KL (by omega) (fun i hi e => by have := HD.out i hi; omega)
    · exact own_keep (own_base HO3.out (by omega)) KL (fun j hj e => by have := (own_ge HO3.out hj).1; omega)
end Go.Proofs.Ytdikmmdkpfmocaa
