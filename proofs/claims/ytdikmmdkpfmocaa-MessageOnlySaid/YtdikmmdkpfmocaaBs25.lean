import Derived.Shelf.Abstract
import Derived.Test.YtdikmmdkpfmocaaBs24
namespace Go.Proofs.Ytdikmmdkpfmocaa
open Go.RowKit Go.Shelf
def indexG {α : Type} (p : α → Bool) (l : List α) : Int := match l.findIdx? p with
  | some i => (i : Int)
  | none => -1
theorem indexG_some {α : Type} {p : α → Bool} {l : List α} {k : Nat} (hk : k < l.length) (h : p l[k] = true) (hb : ∀ j (hj : j < l.length), j < k → p l[j] = false) : indexG p l = k := by
  unfold indexG
  have : l.findIdx? p = some k := by
    rw [List.findIdx?_eq_some_iff_getElem]
    exact ⟨hk, h, fun j hj => by rw [hb j (by omega) hj]; decide⟩
  rw [this]
theorem indexG_none {α : Type} {p : α → Bool} {l : List α} (h : ∀ j (hj : j < l.length), p l[j] = false) : indexG p l = -1 := by
  unfold indexG
  have : l.findIdx? p = none := by
    rw [List.findIdx?_eq_none_iff]
    intro x hx
    obtain ⟨j, hj, rfl⟩ := List.getElem_of_mem hx
    exact h j hj
  rw [this]
theorem indexG_any {α : Type} (p : α → Bool) (l : List α) : decide (0 ≤ indexG p l) = l.any p := by
  unfold indexG
  cases hq : l.findIdx? p with
  | none =>
    rw [List.findIdx?_eq_none_iff] at hq
    symm
    rw [List.any_eq_false.2 (fun x hx => by simp [hq x hx])]
    rfl
  | some i =>
    rw [List.findIdx?_eq_some_iff_getElem] at hq
    obtain ⟨hi, h1, _⟩ := hq
    rw [List.any_eq_true.2 ⟨l[i], List.getElem_mem hi, h1⟩]
    exact decide_eq_true (by simp)
def CanCall (g : Nat) : Prop := ∀ (args : Array Value) (w : World), (callFunc g args).run Try.prog w = .ok (.enter g args) w
def TellsOn (S : Nat → Prop) (g : Nat) (lb : Array Value) (l : List Int) (q : Int → Bool) (w : World) : Prop :=
  ∀ (W : World) (z : Int), Keep S w W → z ∈ l → Calls Try.prog g (#[.int .i64 z] ++ lb) W (TellsB (q z) W)
theorem TellsOn.later {S : Nat → Prop} {g : Nat} {lb : Array Value} {l : List Int} {q : Int → Bool} {w w' : World} (h : TellsOn S g lb l q w) (k : Keep S w w') : TellsOn S g lb l q w' :=
  fun W x k' hx => h W x (k.trans k' (fun _ _ h => h)) hx
set_option maxRecDepth 100000 in
set_option maxHeartbeats 1000000 in
theorem indexFunc_any (S : Nat → Prop) (w : World) (D : Nat → Prop) (v : Value) (l : List Int) (h : Zs w D v l) (g : Nat) (lb : Array Value) (q : Int → Bool) (eg : CanCall g) (hf : TellsOn S g lb l q w) :
    Calls Try.prog 60 #[v, .func (.func g) #[] lb] w (TellsN (indexG q l) w) := by
  obtain ⟨A, c, rfl, hlc, hcm, _⟩ := h.shape
  have H := Lib.hid h
  unfold maxLen at hcm
  generalize hR : indexG q l = R
  have HR := Lib.hid hR
  have HF := Lib.hid hf
  have HEG := Lib.hid eg
  clear hR h hf eg
  go_enter Try.func60, Try.ntmps60
  go_wp2
  go_loopw [8] (fun i wr => ∃ k : Nat, k ≤ l.length ∧ i = .int .i64 k ∧ (∀ j (hj : j < l.length), j < k → q l[j] = false) ∧ Keep noneOf w wr) (fun i _ => l.length - (intOf i).toNat)
  case atStart => exact ⟨0, Nat.zero_le _, rfl, fun j _ hj => absurd hj (by omega), Keep.refl _ _⟩
  case round =>
    obtain ⟨k, hk, rfl, hall, hkeep⟩ := hrel
    have HA := Lib.hid hall
    have HK := Lib.hid hkeep
    clear hall
    by_cases hlt : k < l.length
    · obtain ⟨b, o, rfl, hblk, _, hc0⟩ := H.out.cell hlt
      have hc : wr.cell? ⟨b, o + k, none⟩ = some (.int .i64 l[k]) := (hkeep.cell (p := ⟨b, o + k, none⟩) hblk id).trans hc0
      have HC := Lib.hid (HF.out wr l[k] (hkeep.mono (fun _ _ e => e.elim)) (List.getElem_mem hlt))
      have q0 : (0 : Int) ≤ (k : Int) := by omega
      have q1 : (k : Int) < (l.length : Int) := by omega
      have HX := Lib.hid (show q l[k] = q l[k] from rfl)
      clear hkeep hc0
      cases hb : q l[k] with
      | true =>
        have hRk : R = (k : Int) := by rw [← HR.out]; exact indexG_some hlt hb HA.out
        subst hRk
        rw [hb] at HC
        clear hb HX
        generalize l[k] = x at *
        have eg : ∀ (args : Array Value) (w : World), (callFunc g args).run Try.prog w = .ok (.enter g args) w := HEG.out
        go_wp2_with fail
        refine HC.out.mono ?_
        rintro e w' ⟨rfl, k'⟩
        have HK' := Lib.hid (HK.out.trans k' (fun _ _ h => h))
        clear k' eg
        go_wp2
        go_ret
        exact ⟨rfl, HK'.out⟩
      | false =>
        have HB := Lib.hid hb
        rw [hb] at HC
        clear hb HX
        generalize hxx : l[k] = x at *
        have HXX := Lib.hid hxx
        clear hxx
        have eg : ∀ (args : Array Value) (w : World), (callFunc g args).run Try.prog w = .ok (.enter g args) w := HEG.out
        go_wp2_with fail
        refine HC.out.mono ?_
        rintro e w' ⟨rfl, k'⟩
        have HK' := Lib.hid (HK.out.trans k' (fun _ _ h => h))
        clear k' eg
        go_wp2
        go_roundw
        case rel =>
          refine ⟨k + 1, by omega, by go_num, fun j hj hjk => ?_, HK'.out⟩
          rcases Nat.lt_or_ge j k with h | h
          · exact HA.out j hj h
          · have : j = k := by omega
            subst this
            rw [HXX.out]
            exact HB.out
        case measure => simp [intOf]; omega
    · have hRk : R = -1 := by rw [← HR.out]; exact indexG_none (fun j hj => HA.out j hj (by omega))
      subst hRk
      have q1 : ¬ (k : Int) < (l.length : Int) := by omega
      clear hkeep
      go_wp2
      go_ret
      exact ⟨rfl, HK.out⟩
set_option maxRecDepth 100000 in
set_option maxHeartbeats 1000000 in
theorem containsFunc_any (S : Nat → Prop) (w : World) (D : Nat → Prop) (v : Value) (l : List Int) (h : Zs w D v l) (g : Nat) (lb : Array Value) (q : Int → Bool) (eg : CanCall g) (hf : TellsOn S g lb l q w) :
    Calls Try.prog 55 #[v, .func (.func g) #[] lb] w (TellsB (l.any q) w) := by
  have HI := Lib.hid (indexFunc_any S w D v l h g lb q eg hf)
  obtain ⟨A, c, rfl, _⟩ := h.shape
  have HA := Lib.hid (indexG_any q l)
  generalize indexG q l = r at *
  generalize l.any q = R at *
  clear h eg hf
  go_enter Try.func55, Try.ntmps55
  go_wp2_with fail
  refine HI.out.mono ?_
  rintro e w1 ⟨rfl, k1⟩
  have HK := Lib.hid k1
  clear k1
  go_wp2
  go_ret
  exact ⟨ret_bool HA.out, HK.out⟩
theorem can_over : CanCall 56 := enters_of Try.func56 (by kernel_rfl) rfl
set_option maxRecDepth 100000 in
set_option maxHeartbeats 1000000 in
theorem over1_any (w : World) (D : Nat → Prop) (p : Nat) (a b : Value) (c : Cf) (z : Int) (hb : Box w p 26 #[a, b]) (h : CfAt w D (.agg #[a, b]) c) :
    Calls Try.prog 56 #[.int .i64 z, .pointer (some ⟨p, 0, none⟩)] w (TellsB (inP c.v z) w) := by
  have HV := Lib.hid (votes_any w D _ c z h)
  have x0 : w.cell? ⟨p, 0, none⟩ = some a := hb.cell 0
  have x1 : w.cell? ⟨p, 1, none⟩ = some b := hb.cell 1
  obtain ⟨_, _, he, h1, h2⟩ := h
  obtain ⟨rfl, rfl⟩ : a = _ ∧ b = _ := by simpa using he
  obtain ⟨A, ca, rfl, _⟩ := h1.shape
  obtain ⟨B, cb, rfl, _⟩ := h2.shape
  generalize inP c.v z = R at *
  clear h1 h2 hb he
  go_enter Try.func56, Try.ntmps56
  go_wp2_with fail
  refine HV.out.mono ?_
  rintro e w1 ⟨rfl, k1⟩
  go_wp2
  go_ret
  exact ⟨rfl, k1⟩
set_option maxRecDepth 100000 in
set_option maxHeartbeats 1000000 in
theorem overlap_any (w : World) (D : Nat → Prop) (v : Value) (c : Cf) (h : CfAt w D v c) :
    Calls Try.prog 53 #[v] w (TellsB (overP c) w) := by
  have HH := Lib.hid h
  obtain ⟨a, b, rfl, h1, h2⟩ := h
  obtain ⟨A, ca, rfl, _⟩ := h1.shape
  obtain ⟨B, cb, rfl, _⟩ := h2.shape
  have K0 := (Keep.refl noneOf w).alloc (.cells #[.slice A c.v.length ca, .slice B c.l.length cb] 26)
  have X0 := Box.new w 26 #[.slice A c.v.length ca, .slice B c.l.length cb]
  have HC := Lib.hid (containsFunc_any noneOf _ D _ c.l (h2.keepN K0) 56 #[.pointer (some ⟨w.heap.size, 0, none⟩)] (fun x => inP c.v x) can_over
    (fun W z k _ => over1_any W D _ _ _ c z (X0.keep k id) (HH.out.keepN (K0.trans k (fun _ _ h => h)))))
  have HK0 := Lib.hid K0
  have e1 : c.l.any (fun x => inP c.v x) = overP c := rfl
  rw [e1] at HC
  generalize overP c = R at *
  clear h1 h2 K0 X0 e1
  go_enter Try.func53, Try.ntmps53
  go_wp2_with fail
  refine HC.out.mono ?_
  rintro e w1 ⟨rfl, k1⟩
  have HK1 := Lib.hid (HK0.out.trans k1 (fun _ _ h => h))
  clear k1
  go_wp2
  go_ret
  exact ⟨rfl, HK1.out⟩
set_option maxRecDepth 100000 in
set_option maxHeartbeats 1000000 in
theorem check_any (w : World) (D : Nat → Prop) (v : Value) (c : Cf) (h : CfAt w D v c) :
    Calls Try.prog 47 #[v] w (TellsN (chkP c) w) := by
  obtain ⟨R, hR⟩ : ∃ R, chkP c = R := ⟨_, rfl⟩
  rw [hR]
  unfold chkP at hR
  have HR := Lib.hid hR
  have HH := Lib.hid h
  obtain ⟨a, b, rfl, h1, h2⟩ := h
  obtain ⟨A, ca, rfl, hla, hma, _⟩ := h1.shape
  obtain ⟨B, cb, rfl, hlb, hmb, _⟩ := h2.shape
  have H1 := Lib.hid h1
  have H2 := Lib.hid h2
  unfold maxLen at hma hmb
  have K0 := (Keep.refl noneOf w).alloc (.cells #[.slice A c.v.length ca, .slice B c.l.length cb] 26)
  have X0 := Box.new w 26 #[.slice A c.v.length ca, .slice B c.l.length cb]
  have HK0 := Lib.hid K0
  have HX0 := Lib.hid X0
  have C1 := Lib.hid (ascend_any _ D _ c.v (h1.keepN K0))
  have C2 := Lib.hid (ascend_any _ D _ c.l (h2.keepN K0))
  clear h1 h2 X0 hR K0
  by_cases hn : c.v.length = 0
  · have g1 : ((c.v.length : Int) == 0) = true := by rw [beq_iff_eq]; omega
    have hz : R = 140 := by rw [← HR.out, if_pos hn]
    subst hz
    clear hn
    go_enter Try.func47, Try.ntmps47
    go_wp2
    go_ret
    exact ⟨rfl, HK0.out⟩
  · have g1 : ((c.v.length : Int) == 0) = false := by rw [beq_eq_false_iff_ne]; omega
    rw [if_neg hn] at HR
    clear hn
    cases hq1 : ascP c.v with
    | false =>
      rw [hq1] at C1
      have hz : R = 140 := by rw [← HR.out, if_pos hq1]
      subst hz
      clear hq1
      go_enter Try.func47, Try.ntmps47
      go_wp2_with fail
      refine C1.out.mono ?_
      rintro e w1 ⟨rfl, rfl⟩
      go_wp2
      go_ret
      exact ⟨rfl, HK0.out⟩
    | true =>
      rw [hq1] at C1
      rw [hq1, if_neg (by decide)] at HR
      clear hq1
      cases hq2 : ascP c.l with
      | false =>
        rw [hq2] at C2
        have hz : R = 140 := by rw [← HR.out, if_pos hq2]
        subst hz
        clear hq2
        go_enter Try.func47, Try.ntmps47
        go_wp2_with fail
        refine C1.out.mono ?_
        rintro e w1 ⟨rfl, rfl⟩
        go_wp2_with fail
        refine C2.out.mono ?_
        rintro e w1 ⟨rfl, rfl⟩
        go_wp2
        go_ret
        exact ⟨rfl, HK0.out⟩
      | true =>
        rw [hq2] at C2
        rw [hq2, if_neg (by decide)] at HR
        have C3 := Lib.hid (overlap_any _ D _ c (HH.out.keepN HK0.out))
        clear hq2
        cases hq3 : overP c with
        | true =>
          rw [hq3] at C3
          have hz : R = 140 := by rw [← HR.out, if_pos hq3]
          subst hz
          clear hq3
          go_enter Try.func47, Try.ntmps47
          go_wp2_with fail
          refine C1.out.mono ?_
          rintro e w1 ⟨rfl, rfl⟩
          go_wp2_with fail
          refine C2.out.mono ?_
          rintro e w1 ⟨rfl, rfl⟩
          go_wp2_with fail
          refine C3.out.mono ?_
          rintro e w1 ⟨rfl, k1⟩
          have HK1 := Lib.hid (HK0.out.trans k1 (fun _ _ h => h))
          clear k1
          go_wp2
          go_ret
          exact ⟨rfl, HK1.out⟩
        | false =>
          rw [hq3] at C3
          have hz : R = 0 := by rw [← HR.out, if_neg (by rw [hq3]; decide)]
          subst hz
          clear hq3
          go_enter Try.func47, Try.ntmps47
          go_wp2_with fail
          refine C1.out.mono ?_
          rintro e w1 ⟨rfl, rfl⟩
          go_wp2_with fail
          refine C2.out.mono ?_
          rintro e w1 ⟨rfl, rfl⟩
          go_wp2_with fail
          refine C3.out.mono ?_
          rintro e w1 ⟨rfl, k1⟩
          have HK1 := Lib.hid (HK0.out.trans k1 (fun _ _ h => h))
          clear k1
          go_wp2
          go_ret
          exact ⟨rfl, HK1.out⟩
end Go.Proofs.Ytdikmmdkpfmocaa
