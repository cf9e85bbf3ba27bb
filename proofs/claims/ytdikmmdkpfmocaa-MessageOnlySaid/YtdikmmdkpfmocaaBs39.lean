import Derived.Test.YtdikmmdkpfmocaaBs33
import Derived.Test.YtdikmmdkpfmocaaBs38
namespace Go.Proofs.Ytdikmmdkpfmocaa
open Go.RowKit Go.Shelf
def encEs (l : List Pe) : List UInt8 := UInt8.ofNat l.length :: l.flatMap encE
theorem encEs_few (l : List Pe) (hok : ∀ x ∈ l, okE x) : ∀ k, ((l.take k).flatMap encE).length ≤ k * 65571 := by
  intro k
  induction k with
  | zero => simp
  | succ k ih =>
    rw [List.take_add_one, List.flatMap_append, List.length_append, Nat.succ_mul]
    generalize k * 65571 = K at *
    cases hx : l[k]? with
    | none => simp only [Option.toList_none, List.flatMap_nil, List.length_nil]; omega
    | some x =>
      have := encE_few x (hok x (List.mem_of_getElem? hx))
      simp only [Option.toList_some, List.flatMap_cons, List.flatMap_nil, List.append_nil]
      omega
theorem can_putEntry : CanCall 85 := enters_of Try.func85 (by kernel_rfl) rfl
set_option maxRecDepth 100000 in
set_option maxHeartbeats 1000000 in
theorem putEntries_any (w0 w : World) (pw : Nat) (D : Nat → Prop) (vl : Value) (l : List En) (bs : List UInt8) (h : WS w0 pw bs w) (hx : Ens w0 D vl l) (hD : ∀ k, D k → k ≠ pw) (h8 : l.length ≤ 8) (hok : ∀ x ∈ l.map En.plain, okE x) (hl : bs.length ≤ 1000) :
    Calls Try.prog 84 #[.pointer (some ⟨pw, 0, none⟩), vl, .func (.func 85) #[] #[]] w fun e w' => e = .returned (.tuple #[]) ∧ WS w0 pw (bs ++ encEs (l.map En.plain)) w' := by
  obtain ⟨A, c, rfl⟩ := hx.shape
  have HX := Lib.hid hx
  have HP := Lib.hid hD
  have HO := Lib.hid hok
  have HF := Lib.hid (encEs_few (l.map En.plain) hok)
  obtain ⟨v, hw, hg⟩ := h
  have HG := Lib.hid hg
  have HV := Lib.hid (var_any w pw v bs l.length hw (by rw [lim_is]; omega) (by omega))
  rw [var_few (by omega)] at HV
  have e64 : IntKind.u64.wrap (l.length : Int) = (l.length : Int) := by rw [wrap64, Nat.mod_eq_of_lt (by omega)]
  have HLIM := Lib.hid lim_is
  have HE : Hid (encEs (l.map En.plain) = UInt8.ofNat l.length :: ((l.map En.plain).take l.length).flatMap encE) := Lib.hid (by
    unfold encEs
    rw [List.take_of_length_le (by rw [List.length_map]; exact Nat.le_refl _), List.length_map])
  rw [HE.out]
  clear hx hD hok hw hg
  go_enter Try.func84, Try.ntmps84
  go_wp2_with fail
  refine HV.out.mono ?_
  rintro e w1 ⟨rfl, v1, hw1, hg1⟩
  have HW1 : Hid (WS w0 pw (bs ++ [UInt8.ofNat l.length]) w1) := Lib.hid ⟨v1, hw1, HG.out.trans hg1⟩
  clear hw1 hg1 HV HG e64
  go_wp2
  go_loopw [15] (fun i wr => ∃ (k : Nat), k ≤ l.length ∧ i = .int .i64 k ∧ WS w0 pw (bs ++ (UInt8.ofNat l.length :: ((l.map En.plain).take k).flatMap encE)) wr) (fun i _ => l.length - (intOf i).toNat)
  case atStart => exact ⟨0, Nat.zero_le _, rfl, HW1.out⟩
  case round =>
    obtain ⟨k, hk, rfl, hw⟩ := hrel
    have HW := Lib.hid hw
    by_cases hlt : k < l.length
    · have hx : l[k]? = some l[k] := List.getElem?_eq_getElem hlt
      have hes := HX.out.keep hw.keep (fun i _ hd => HP.out i hd)
      obtain ⟨b, o, rfl, hblk, hbl, hcell⟩ := hes.1.cell (fun _ => rfl) hx
      have hxl := HX.out.2 _ (List.getElem_mem hlt)
      have hxo := HO.out _ (List.mem_map.2 ⟨_, List.getElem_mem hlt, rfl⟩)
      have HS := Lib.hid (show (bs ++ (UInt8.ofNat l.length :: ((l.map En.plain).take k).flatMap encE)) ++ encE l[k].plain = bs ++ (UInt8.ofNat l.length :: ((l.map En.plain).take (k + 1)).flatMap encE) by
        rw [List.take_add_one, List.getElem?_map, hx, List.flatMap_append]
        simp)
      obtain ⟨c0, c1, c2, c3⟩ := en_cells hcell
      have hxd := hxl.da
      generalize l[k] = x at *
      obtain ⟨xi, xt, xk, xd, xs⟩ := x
      obtain ⟨Ax, cx, hxd, -⟩ := hxd
      simp only at hxd
      subst hxd
      simp only at c0 c1 c2 c3
      have HPE := Lib.hid (putEntry_any w0 (wr.alloc (.cells #[.int .u64 (xi : Int), .int .u64 (xt : Int), .int .i64 xk, .slice Ax xs.length cx] 81)) pw D ⟨xi, xt, xk, .slice Ax xs.length cx, xs⟩ _ (hw.later ((Keep.refl noneOf wr).alloc _)) hxl HP.out hxo (by
        rw [HLIM.out]
        have := HF.out k
        simp only [List.length_append, List.length_cons]
        omega))
      have q0 : (0 : Int) ≤ (k : Int) := by omega
      have q1 : (k : Int) < (l.length : Int) := by omega
      have eg : ∀ (args : Array Value) (w : World), (callFunc 85 args).run Try.prog w = .ok (.enter 85 args) w := can_putEntry
      clear hx hes hcell hxl hxo hw
      go_wp2_with fail
      refine HPE.out.mono ?_
      rintro e w2 ⟨rfl, hw2⟩
      rw [HS.out] at hw2
      have HW2 := Lib.hid hw2
      clear hw2 eg HPE HS
      go_wp2
      go_roundw
      case rel => exact ⟨k + 1, by omega, by go_num, HW2.out⟩
      case measure => simp [intOf]; omega
    · obtain rfl : k = l.length := by omega
      go_wp2
      go_end0
      exact ⟨rfl, HW.out⟩
set_option maxRecDepth 100000 in
set_option maxHeartbeats 1000000 in
theorem wentries_any (w0 w : World) (pw b o : Nat) (D : Nat → Prop) (vl : Value) (l : List En) (bs : List UInt8) (h : WS w0 pw bs w) (hc : w0.cell? ⟨b, o, none⟩ = some vl) (hb : b ≠ pw) (hx : Ens w0 D vl l) (hD : ∀ k, D k → k ≠ pw) (h8 : l.length ≤ 8) (hok : ∀ x ∈ l.map En.plain, okE x) (hl : bs.length ≤ 1000) :
    Calls Try.prog 80 #[.agg #[.pointer (some ⟨pw, 0, none⟩)], .pointer (some ⟨b, o, none⟩)] w fun e w' => e = .returned (.tuple #[]) ∧ WS w0 pw (bs ++ encEs (l.map En.plain)) w' := by
  have k1 := ((Keep.refl noneOf w).alloc (.cells #[.pointer (some ⟨pw, 0, none⟩)] 50)).drew
  have h1 := h.later k1
  have c0 := h1.cell hc hb
  have x0 := (Box.new w 50 #[.pointer (some ⟨pw, 0, none⟩)]).drew.cell 0
  have HC := Lib.hid (putEntries_any w0 _ pw D vl l bs h1 hx hD h8 hok hl)
  obtain ⟨A, c, rfl⟩ := hx.shape
  clear h k1 h1 hc hD hok hx h8
  go_enter Try.func80, Try.ntmps80
  go_wp2
  go_region_with (go_at_call 84; refine HC.out.mono ?_; rintro e w1 ⟨rfl, hw1⟩)
  all_goals
    go_end0
    exact ⟨rfl, hw1⟩
end Go.Proofs.Ytdikmmdkpfmocaa
