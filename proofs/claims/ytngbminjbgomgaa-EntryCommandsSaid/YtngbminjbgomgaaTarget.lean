/-
  entry.readGraph's second function: a target, read.
-/
import Derived.Test.YtngbminjbgomgaaItems
import Derived.Deep.RegionHeld3
namespace Go.Proofs.Ytngbminjbgomgaa
open Go.RowKit

theorem text_le (s : Rs) (most : Nat) : (s.text most).1.length ≤ most := by
  unfold Rs.text
  have := (frontV_facts s.left most).1
  split
  · exact Nat.zero_le _
  · split
    · exact Nat.zero_le _
    · split
      · exact Nat.zero_le _
      · simp only [List.length_take]; omega
theorem rdTexts_eq (n : Nat) (s : Rs) : rdTexts n s = rdL kText.one n s := by
  induction n generalizing s with
  | zero => rfl
  | succ n ih =>
    rw [rdTexts, rdL]
    split
    · rfl
    · show (strOf (s.text 32).1 :: (rdTexts n (s.text 32).2).1, (rdTexts n (s.text 32).2).2) = _
      rw [ih]
      rfl
theorem Keep.fresh {S : Nat → Prop} {w w' : World} (h : Keep S w w') {g i : Nat} (hg : w.heap.size ≤ g) (u : Value) : Keep S w (w'.setCell ⟨g, i, none⟩ u) := h.setCell (p := ⟨g, i, none⟩) (fun h => absurd h (by simp only; omega)) u

/-- A target that was read lies in memory, from base on. -/
def Tg.held (base : Nat) (W : World) (t : Tg) : Prop :=
  t.name.size ≤ 256 ∧ t.cmd.size ≤ 256 ∧ W.ownsRow base 9 1 t.nv t.needs.length (t.needs.map Value.string) ∧ ∀ x ∈ t.needs, x.size ≤ 32

theorem own_down {w : World} {base base' : Nat} {e : TypeId} {size : Nat} {v : Value} {n : Nat} {xs : List Value} (h : w.ownsRow base e size v n xs) (hb : base' ≤ base) : w.ownsRow base' e size v n xs := by
  refine ⟨h.1, ?_⟩
  rcases h.2 with h | ⟨g, cap, cur, h1, h2, h3⟩
  · exact .inl h
  · exact .inr ⟨g, cap, cur, h1, by omega, h3⟩
theorem Tg.held.ge {base base' : Nat} {W : World} {t : Tg} (h : t.held base W) (hb : base' ≤ base) : t.held base' W := ⟨h.1, h.2.1, own_down h.2.2.1 hb, h.2.2.2⟩

/-- What is behind a target's reading. -/
def GotTarget (w : World) (p : Nat) (D : Nat → Prop) (s : Rs) (e : Ending) (w' : World) : Prop :=
  ∃ t : Tg, e = .returned (.agg #[.string t.name, .string t.cmd, t.nv]) ∧ Keep (fun k => k = p) w w' ∧ (∃ u, Rd w' p D u (rdTarget s).2.left (rdTarget s).2.err) ∧ t.held w.heap.size w' ∧ ((rdTarget s).2.err = 0 → t.plain = (rdTarget s).1)

theorem fill3 {w : World} {g : Nat} {t : TypeId} {a0 a1 a2 : Value} (b0 b1 b2 : Value) (h : Box w g t #[a0, a1, a2]) : Box (((w.setCell ⟨g, 0, none⟩ b0).setCell ⟨g, 1, none⟩ b1).setCell ⟨g, 2, none⟩ b2) g t #[b0, b1, b2] := by
  simpa using ((h.put 0 b0).put 1 b1).put 2 b2

theorem target_done {w w2 w3 wf : World} {p : Nat} {D : Nat → Prop} {s : Rs} {cs1 cs2 : List UInt8} {fin : List ByteArray × Rs} {ss : List ByteArray} {A3 : Option Addr} {c3 : Nat} {u3 : Value} (hT : rdTarget s = (⟨strOf cs1, strOf cs2, fin.1⟩, fin.2)) (e5 : (if fin.2.err = 0 then fin.1 else []) = ss)
    (l1 : cs1.length ≤ 32) (l2 : cs2.length ≤ 256) (hD : ∀ i, D i → i < w.heap.size) (hp : p < w.heap.size) (k : Keep (fun k => k = p) w w3) (kr : Keep (fun k => k = w.heap.size) w3 wf) (r3 : Rd w3 p D u3 fin.2.left fin.2.err) (hw2 : w.heap.size < w2.heap.size)
    (o3 : w3.ownsRow w2.heap.size 9 1 (.slice A3 ss.length c3) ss.length (ss.map Value.string)) (l3 : ∀ x ∈ ss, x.size ≤ 32) :
    GotTarget w p D s (.returned (.agg #[.string (strOf cs1), .string (strOf cs2), .slice A3 ss.length c3])) wf := by
  refine ⟨⟨strOf cs1, strOf cs2, .slice A3 ss.length c3, ss⟩, rfl, k.trans kr (fun i hi e => by omega), ⟨u3, ?_⟩, ⟨?_, ?_, ?_, l3⟩, ?_⟩
  · rw [hT]
    exact r3.keep kr (by omega) (fun i hi e => by have := hD i hi; omega)
  · show (strOf cs1).size ≤ 256
    rw [← sb_length, sb_strOf]; omega
  · show (strOf cs2).size ≤ 256
    rw [← sb_length, sb_strOf]; omega
  · have := own_keep o3 kr (fun j hj e => by have := (own_ge o3 hj).1; omega)
    refine ⟨this.1, ?_⟩
    rcases this.2 with h | ⟨g, cap, cur, h1, h2, h3⟩
    · exact .inl h
    · exact .inr ⟨g, cap, cur, h1, by omega, h3⟩
  · intro he
    rw [hT] at he ⊢
    simp only at he
    rw [if_pos he] at e5
    subst e5
    rfl

set_option maxRecDepth 100000 in
set_option maxHeartbeats 2000000 in
theorem target_to (w : World) (p c : Nat) (D : Nat → Prop) (u : Value) (s : Rs) (hD : ∀ i, D i → i < w.heap.size) (h : Rd w p D u s.left s.err) (hc : Box w c 117 #[.func (.func 75) #[] #[]]) :
    Calls Try.prog 77 #[.pointer (some ⟨p, 0, none⟩), .pointer (some ⟨c, 0, none⟩)] w (GotTarget w p D s) := by
  obtain ⟨cs1, s1, e1⟩ : ∃ cs1 s1, s.text 32 = (cs1, s1) := ⟨_, _, rfl⟩
  obtain ⟨cs2, s2, e2⟩ : ∃ cs2 s2, s1.text 256 = (cs2, s2) := ⟨_, _, rfl⟩
  obtain ⟨n, s3, e3⟩ : ∃ n s3, s2.var 16 = (n, s3) := ⟨_, _, rfl⟩
  obtain ⟨fin, e4⟩ : ∃ fin, rdL kText.one n s3 = fin := ⟨_, rfl⟩
  obtain ⟨ss, e5⟩ : ∃ ss, (if fin.2.err = 0 then fin.1 else []) = ss := ⟨_, rfl⟩
  have l1 : cs1.length ≤ 32 := by have := text_le s 32; rw [e1] at this; exact this
  have l2 : cs2.length ≤ 256 := by have := text_le s1 256; rw [e2] at this; exact this
  have hT : rdTarget s = (⟨strOf cs1, strOf cs2, fin.1⟩, fin.2) := by
    unfold rdTarget
    simp only [e1, e2, e3, rdTexts_eq, e4]
  have hpl := h.box.lt
  have hcl := hc.lt
  have k0 := (Keep.refl (fun k => k = p) w).alloc (.cells #[.string ⟨#[]⟩, .string ⟨#[]⟩, .slice none 0 0] 102)
  have h0 := h.keep ((Keep.refl noneOf w).alloc (.cells #[.string ⟨#[]⟩, .string ⟨#[]⟩, .slice none 0 0] 102)) id (fun _ _ => id)
  have x0 := Box.new w 102 #[.string ⟨#[]⟩, .string ⟨#[]⟩, .slice none 0 0]
  have hne : c ≠ p := fun e => by
    subst e
    have := h.box
    unfold Box at this hc
    rw [this] at hc
    injection hc with hc
    injection hc with _ hc
    cases hc
  have MK : Hid (∀ w', Keep (fun k => k = p) w w' → w'.cell? ⟨c, 0, none⟩ = some (.func (.func 75) #[] #[])) := fun w' k => (hc.keep k hne).cell 0
  have HT := Lib.hid hT
  have H0 := Lib.hid h0
  have HX := Lib.hid x0
  clear hT h0 h x0 hc
  go_enter Try.func77, Try.ntmps77
  go_wp2
  generalize w.alloc (.cells #[.string ⟨#[]⟩, .string ⟨#[]⟩, .slice none 0 0] 102) = wa at *
  have hdr : wa.drew.heap.size = wa.heap.size := rfl
  have m0 : wa.drew.cell? ⟨c, 0, none⟩ = some (.func (.func 75) #[] #[]) := MK.out _ k0.drew
  have K0 : Keep (fun k => k = p) w wa.drew := k0.drew
  go_region_with
    (first | (go_at_call 75; refine (readName_to _ p D u s s1 cs1 (H0.out.keep (Keep.refl noneOf _).drew id (fun _ _ => id)) e1).mono ?_; rintro e w1 ⟨rfl, k1, u1, r1⟩; have K1 := K0.trans k1 (fun _ _ h => h); have m1 := MK.out _ K1) | (go_at_call 33; refine (rtext_to _ p D _ s1 s2 cs2 256 (by decide) (by assumption) e2).mono ?_; rintro e w2 ⟨u2, x2, rfl, k2, r2, o2, f2⟩; have q2 := run_str (Bytes.of_own o2); have K2 := K1.trans k2 (fun _ _ h => h); have m2 := MK.out _ K2) | (go_at_call 78; refine (list_text _ p D _ s2 s3 n fin (fun i hi => Nat.lt_of_lt_of_le (hD i hi) K2.size) (by assumption) e3 e4 ss e5).mono ?_; rintro e w3 ⟨v3, rfl, k3, ⟨u3, r3⟩, o3, l3⟩; obtain ⟨A3, c3, rfl⟩ := own_shape o3; have q3 := run_str ((Bytes.of_own o2).keep k3 (fun i _ hi e => by have := f2 i hi.symm; have := k1.size; have := k0.size; omega)); have X3 := ((HX.out.drew.keep k1 (by omega)).keep k2 (by omega)).keep k3 (by omega); have y0 : w3.cell? ⟨w.heap.size, 0, none⟩ = some (.string ⟨#[]⟩) := X3.cell 0; have y1 : w3.cell? ⟨w.heap.size, 1, none⟩ = some (.string ⟨#[]⟩) := X3.cell 1; have y2 : w3.cell? ⟨w.heap.size, 2, none⟩ = some (.slice none 0 0) := X3.cell 2; have z0 := X3.free 0; have z1 := X3.free 1; have z2 := X3.free 2))
  all_goals
    have kr : Keep (fun k => k = w.heap.size) w3 (((w3.setCell ⟨w.heap.size, 0, none⟩ (.string (strOf cs1))).setCell ⟨w.heap.size, 1, none⟩ (.string (strOf cs2))).setCell ⟨w.heap.size, 2, none⟩ (.slice A3 ss.length c3)) := (((Keep.refl (fun k => k = w.heap.size) w3).setCell (p := ⟨w.heap.size, 0, none⟩) (fun _ => rfl) _).setCell (p := ⟨w.heap.size, 1, none⟩) (fun _ => rfl) _).setCell (p := ⟨w.heap.size, 2, none⟩) (fun _ => rfl) _
    have B := fill3 (.string (strOf cs1)) (.string (strOf cs2)) (.slice A3 ss.length c3) X3
    have hw2 : w.heap.size < w2.heap.size := Nat.lt_of_lt_of_le HX.out.lt (Nat.le_trans k1.size k2.size)
    have R := target_done HT.out e5 l1 l2 hD hpl ((((k0.drew.trans k1 (fun _ _ h => h)).trans k2 (fun _ _ h => h)).trans k3 (fun _ _ h => h))) kr r3 hw2 o3 l3
    clear MK HT k0 K0 K1 K2 m0 m1 m2 H0 HX hdr k1 r1 k2 r2 o2 f2 q2 k3 r3 l3 o3 q3 X3 y0 y1 y2 z0 z1 z2 kr
    go_wp2
    generalize (((w3.setCell ⟨w.heap.size, 0, none⟩ (.string (strOf cs1))).setCell ⟨w.heap.size, 1, none⟩ (.string (strOf cs2))).setCell ⟨w.heap.size, 2, none⟩ (.slice A3 ss.length c3)) = wf at *
    have t0 : wf.cell? ⟨w.heap.size, 0, none⟩ = some (.string (strOf cs1)) := B.cell 0
    have t1 : wf.cell? ⟨w.heap.size, 1, none⟩ = some (.string (strOf cs2)) := B.cell 1
    have t2 : wf.cell? ⟨w.heap.size, 2, none⟩ = some (.slice A3 ss.length c3) := B.cell 2
    exact bodyPost_ret (v := .agg #[.string (strOf cs1), .string (strOf cs2), .slice A3 ss.length c3]) (by simp [results, Try.results77, go_sem, t0, t1, t2]) rfl R
end Go.Proofs.Ytngbminjbgomgaa
