import Derived.Deep.RegionHeld3
import Derived.Test.YtdikmmdkpfmocaaBs16
import Derived.Test.YtdikmmdkpfmocaaBs23
import Derived.Test.YtdikmmdkpfmocaaBs26
namespace Go.Proofs.Ytdikmmdkpfmocaa
open Go.RowKit Go.Shelf
def WS (w0 : World) (pw : Nat) (bs : List UInt8) (w : World) : Prop := ∃ v, Wr w pw v bs ∧ Went w0 pw (.slice none 0 0) w v
section
variable {w0 w w' : World} {pw : Nat} {bs : List UInt8}
theorem WS.later (h : WS w0 pw bs w) (k : Keep noneOf w w') : WS w0 pw bs w' := by
  obtain ⟨v, hw, hg⟩ := h
  exact ⟨v, ⟨hw.box.keep k id, own_keep hw.own k (fun _ _ => id), hw.few⟩, ⟨hg.keep.trans k (fun _ _ h => h.elim), hg.row⟩⟩
theorem WS.keep (h : WS w0 pw bs w) : Keep (fun k => k = pw) w0 w := by
  obtain ⟨v, hw, hg⟩ := h
  exact hg.keep.mono (fun i _ e => e.elim id (fun e => by cases e))
theorem WS.cell (h : WS w0 pw bs w) {b o : Nat} {u : Value} (hc : w0.cell? ⟨b, o, none⟩ = some u) (hb : b ≠ pw) : w.cell? ⟨b, o, none⟩ = some u :=
  (h.keep.cell (p := ⟨b, o, none⟩) (block_of_cell hc) hb).trans hc
end
set_option maxRecDepth 100000 in
set_option maxHeartbeats 1000000 in
theorem wlong_any (w0 w : World) (pw b o n : Nat) (bs : List UInt8) (h : WS w0 pw bs w) (hc : w0.cell? ⟨b, o, none⟩ = some (.int .u64 (n : Int))) (hb : b ≠ pw) (hn : (n : Int) < 18446744073709551616) (hl : bs.length + 8 ≤ lim) :
    Calls Try.prog 82 #[.agg #[.pointer (some ⟨pw, 0, none⟩)], .pointer (some ⟨b, o, none⟩)] w fun e w' => e = .returned (.tuple #[]) ∧ WS w0 pw (bs ++ be n 8) w' := by
  have k1 := ((Keep.refl noneOf w).alloc (.cells #[.pointer (some ⟨pw, 0, none⟩)] 50)).drew
  have h1 := h.later k1
  have c0 := h1.cell hc hb
  have x0 := (Box.new w 50 #[.pointer (some ⟨pw, 0, none⟩)]).drew.cell 0
  obtain ⟨v, hw, hg⟩ := h1
  have HG := Lib.hid hg
  have HC := Lib.hid (long_any _ pw v bs n hw hl hn)
  clear h k1 hw hg hc hn
  go_enter Try.func82, Try.ntmps82
  go_wp2
  go_region_with (go_at_call 15; refine HC.out.mono ?_; rintro e w1 ⟨rfl, v1, hw1, hg1⟩)
  all_goals
    go_end0
    exact ⟨rfl, v1, hw1, HG.out.trans hg1⟩
def b2 (b : Bool) : UInt8 := if b then 1 else 0
set_option maxRecDepth 100000 in
set_option maxHeartbeats 1000000 in
theorem wflag_any (w0 w : World) (pw b o : Nat) (g : Bool) (bs : List UInt8) (h : WS w0 pw bs w) (hc : w0.cell? ⟨b, o, none⟩ = some (.bool g)) (hb : b ≠ pw) (hl : bs.length < lim) :
    Calls Try.prog 81 #[.agg #[.pointer (some ⟨pw, 0, none⟩)], .pointer (some ⟨b, o, none⟩)] w fun e w' => e = .returned (.tuple #[]) ∧ WS w0 pw (bs ++ [b2 g]) w' := by
  have k1 := ((Keep.refl noneOf w).alloc (.cells #[.pointer (some ⟨pw, 0, none⟩)] 50))
  have h1 := h.later k1
  have c0 := h1.cell hc hb
  have x0 := (Box.new w 50 #[.pointer (some ⟨pw, 0, none⟩)]).cell 0
  obtain ⟨v, hw, hg⟩ := h1
  have HG := Lib.hid hg
  have HC1 := Lib.hid (byte_any _ pw v bs 1 hw hl (by decide) (by decide))
  have HC0 := Lib.hid (byte_any _ pw v bs 0 hw hl (by decide) (by decide))
  clear h k1 hw hg hc
  cases g
  · go_enter Try.func81, Try.ntmps81
    go_wp2_with fail
    refine HC0.out.mono ?_
    rintro e w1 ⟨rfl, v1, hw1, hg1⟩
    have HW := Lib.hid hw1
    have HG1 := Lib.hid hg1
    clear hw1 hg1
    go_wp2
    go_end0
    exact ⟨rfl, v1, HW.out, HG.out.trans HG1.out⟩
  · go_enter Try.func81, Try.ntmps81
    go_wp2_with fail
    refine HC1.out.mono ?_
    rintro e w1 ⟨rfl, v1, hw1, hg1⟩
    have HW := Lib.hid hw1
    have HG1 := Lib.hid hg1
    clear hw1 hg1
    go_wp2
    go_end0
    exact ⟨rfl, v1, HW.out, HG.out.trans HG1.out⟩
set_option maxRecDepth 100000 in
set_option maxHeartbeats 1000000 in
theorem wdata_any (w0 w : World) (pw b o : Nat) (D : Nat → Prop) (u : Value) (cs bs : List UInt8) (h : WS w0 pw bs w) (hc : w0.cell? ⟨b, o, none⟩ = some u) (hb : b ≠ pw) (hs : Bytes w0 D u cs) (hD : ∀ k, D k → k < w0.heap.size ∧ k ≠ pw) (hl : bs.length + cs.length + 9 ≤ lim) :
    Calls Try.prog 79 #[.agg #[.pointer (some ⟨pw, 0, none⟩)], .pointer (some ⟨b, o, none⟩)] w fun e w' => e = .returned (.tuple #[]) ∧ WS w0 pw (bs ++ textBytes cs) w' := by
  have k1 := ((Keep.refl noneOf w).alloc (.cells #[.pointer (some ⟨pw, 0, none⟩)] 50)).drew
  have h1 := h.later k1
  have c0 := h1.cell hc hb
  have x0 := (Box.new w 50 #[.pointer (some ⟨pw, 0, none⟩)]).drew.cell 0
  obtain ⟨v, hw, hg⟩ := h1
  have HG := Lib.hid hg
  have HC := Lib.hid (text_any _ pw v u bs cs D hw (hg.bytes hs (fun hd => (hD _ hd).2 rfl)) hl (fun k hk => ⟨(hD k hk).2, hg.row_new (hD k hk).1⟩))
  obtain ⟨A, c, rfl, -⟩ := hs
  clear h k1 hw hg hc hD
  go_enter Try.func79, Try.ntmps79
  go_wp2
  go_region_with (go_at_call 51; refine HC.out.mono ?_; rintro e w1 ⟨rfl, v1, hw1, hg1⟩)
  all_goals
    go_end0
    exact ⟨rfl, v1, hw1, HG.out.trans hg1⟩
theorem Wr.row_lt {w : World} {p : Nat} {v : Value} {bs : List UInt8} (h : Wr w p v bs) {k : Nat} (hk : v.ownBlock = some k) : k < w.heap.size := by
  rcases h.own.2 with ⟨rfl, _⟩ | ⟨g, cap, cur, rfl, _, hg, _⟩
  · cases hk
  · injection hk with hk
    subst hk
    exact (Array.getElem?_eq_some_iff.1 hg).1
set_option maxRecDepth 100000 in
set_option maxHeartbeats 1000000 in
theorem wconfig_any (w0 w : World) (pw b o : Nat) (D : Nat → Prop) (va la : Value) (c : Cf) (bs : List UInt8) (h : WS w0 pw bs w) (hc : w0.cell? ⟨b, o, none⟩ = some va) (hc' : w0.cell? ⟨b, o + 1, none⟩ = some la) (hb : b ≠ pw) (hv : Zs w0 D va c.v) (hla : Zs w0 D la c.l) (hD : ∀ k, D k → k ≠ pw)
    (hok : chkP c = 0) (hl : bs.length + (encP c).length + 9 ≤ lim) :
    Calls Try.prog 78 #[.agg #[.pointer (some ⟨pw, 0, none⟩)], .pointer (some ⟨b, o, none⟩)] w fun e w' => e = .returned (.tuple #[]) ∧ WS w0 pw (bs ++ textBytes (encP c)) w' := by
  have k1 := ((Keep.refl noneOf w).alloc (.cells #[.pointer (some ⟨pw, 0, none⟩)] 50))
  have h1 := h.later k1
  have c0 := h1.cell hc hb
  have c1 := h1.cell hc' hb
  have HX := Lib.hid (Box.new w 50 #[.pointer (some ⟨pw, 0, none⟩)])
  have H1 := Lib.hid h1
  have hcf : CfAt (w.alloc (.cells #[.pointer (some ⟨pw, 0, none⟩)] 50)) D (.agg #[va, la]) c := CfAt.keep ⟨_, _, rfl, hv, hla⟩ h1.keep (fun i _ hd => hD i hd)
  have HE := Lib.hid (cencode_any _ D _ c hcf)
  obtain ⟨A, ca, rfl, -⟩ := hv.shape
  obtain ⟨B, cb, rfl, -⟩ := hla.shape
  have HL := Lib.hid hl
  have HO := Lib.hid hok
  clear h k1 h1 hc hc' hD hv hla hcf hl hok
  go_enter Try.func78, Try.ntmps78
  go_wp2_with fail
  refine HE.out.mono ?_
  rintro e w1 (⟨_, u, rfl, hu, k1⟩ | ⟨hne, -, -⟩)
  · obtain ⟨v, hw, hg⟩ := H1.out
    have hlt : ∀ k, v.ownBlock = some k → k < (w.alloc (.cells #[.pointer (some ⟨pw, 0, none⟩)] 50)).heap.size := fun k hk => hw.row_lt hk
    have hpl := hw.box.lt
    have HG : Hid (Went w0 pw (.slice none 0 0) w1 v) := Lib.hid ⟨hg.keep.trans k1 (fun _ _ h => h.elim), hg.row⟩
    have x1 := (HX.out.keep k1 id).cell 0
    have HC := Lib.hid (text_any w1 pw v u bs (encP c) _ ⟨hw.box.keep k1 id, own_keep hw.own k1 (fun _ _ => id), hw.few⟩ hu HL.out (fun k hk => ⟨fun e => by subst e; exact absurd hpl (Nat.not_lt.2 hk), fun e => absurd (hlt k e.symm) (Nat.not_lt.2 hk)⟩))
    clear k1 hw hg hlt hpl c0 c1 HX H1
    obtain ⟨A', c', rfl, -⟩ := hu
    go_wp2_with fail
    refine HC.out.mono ?_
    rintro e w2 ⟨rfl, v1, hw1, hg1⟩
    have HW := Lib.hid hw1
    have HG1 := Lib.hid hg1
    clear hw1 hg1
    go_wp2
    go_end0
    exact ⟨rfl, v1, HW.out, HG.out.trans HG1.out⟩
  · exact absurd HO.out (by rw [hne]; decide)
def encE (x : Pe) : List UInt8 := textBytes (entBytes x.ix x.te x.k.toNat x.da)
def okE (x : Pe) : Prop := entRight x.ix x.te x.k x.da.length = true
theorem entBytes_few (x : Pe) (h : okE x) : (entBytes x.ix x.te x.k.toNat x.da).length ≤ 65562 := by
  obtain ⟨_, _, hn, _⟩ := (entRight_iff _ _ _ _).1 h
  have hv := varBytes_length x.da.length
  have hm := varMore_le (varFirst x.da.length)
  unfold entBytes textBytes
  simp only [List.length_append, be_length, List.length_cons, List.length_nil]
  omega
theorem encE_few (x : Pe) (h : okE x) : (encE x).length ≤ 65571 := by
  have := entBytes_few x h
  have hv := varBytes_length (entBytes x.ix x.te x.k.toNat x.da).length
  have hm := varMore_le (varFirst (entBytes x.ix x.te x.k.toNat x.da).length)
  unfold encE textBytes
  rw [List.length_append]
  omega
set_option maxRecDepth 100000 in
set_option maxHeartbeats 1000000 in
theorem putEntry_any (w0 w : World) (pw : Nat) (D : Nat → Prop) (x : En) (bs : List UInt8) (h : WS w0 pw bs w) (hx : x.lies w0 D) (hD : ∀ k, D k → k ≠ pw) (hok : okE x.plain) (hl : bs.length + 65571 ≤ lim) :
    Calls Try.prog 85 #[.pointer (some ⟨pw, 0, none⟩), x.agg] w fun e w' => e = .returned (.tuple #[]) ∧ WS w0 pw (bs ++ encE x.plain) w' := by
  have hfw := entBytes_few _ hok
  obtain ⟨xi, xt, xk, xd, xs⟩ := x
  unfold En.agg
  simp only
  have h1 := h.later ((Keep.refl noneOf w).alloc (.cells #[.int .u64 (xi : Int), .int .u64 (xt : Int), .int .i64 xk, xd] 81))
  have hd := hx.da.keep h1.keep (fun i _ hd => hD i hd)
  have HE := Lib.hid (encode_any _ D xi xt xk xd xs hx.ix hx.te hd)
  obtain ⟨A, c, hxd, -⟩ := hx.da
  simp only at hxd
  subst hxd
  have H1 := Lib.hid h1
  have HL := Lib.hid hl
  have HO : Hid (entRight xi xt xk xs.length = true) := Lib.hid hok
  have HF : Hid ((entBytes xi xt xk.toNat xs).length ≤ 65562) := Lib.hid hfw
  have HP : Hid (encE (En.plain ⟨xi, xt, xk, .slice A xs.length c, xs⟩) = textBytes (entBytes xi xt xk.toNat xs)) := Lib.hid rfl
  rw [HP.out]
  clear h h1 hx hD hd hok hfw hl HP
  go_enter Try.func85, Try.ntmps85
  go_wp2_with fail
  refine HE.out.mono ?_
  rintro e w1 ⟨k1, ⟨hne, -⟩ | ⟨-, u, rfl, hown, hnew⟩⟩
  · exact absurd HO.out (by rw [hne]; decide)
  · obtain ⟨v, hw, hg⟩ := H1.out
    have hlt := fun k (hk : v.ownBlock = some k) => hw.row_lt hk
    have hpl := hw.box.lt
    have HG : Hid (Went w0 pw (.slice none 0 0) w1 v) := Lib.hid ⟨hg.keep.trans k1 (fun _ _ h => h.elim), hg.row⟩
    have hu := (Bytes.of_own hown)
    have HC := Lib.hid (text_any w1 pw v u bs _ _ ⟨hw.box.keep k1 id, own_keep hw.own k1 (fun _ _ => id), hw.few⟩ hu (by have := HF.out; have := HL.out; omega) (fun k hk => ⟨fun e => by subst e; exact absurd hpl (Nat.not_lt.2 (hnew _ hk.symm)), fun e => absurd (hlt k e.symm) (Nat.not_lt.2 (hnew _ hk.symm))⟩))
    obtain ⟨A', c', rfl⟩ := own_shape hown
    clear k1 hw hg hlt hpl H1 hu hown hnew HE
    go_wp2_with fail
    refine HC.out.mono ?_
    rintro e w2 ⟨rfl, v1, hw1, hg1⟩
    have HW := Lib.hid hw1
    have HG1 := Lib.hid hg1
    clear hw1 hg1
    go_wp2
    go_end0
    exact ⟨rfl, v1, HW.out, HG.out.trans HG1.out⟩
end Go.Proofs.Ytdikmmdkpfmocaa
