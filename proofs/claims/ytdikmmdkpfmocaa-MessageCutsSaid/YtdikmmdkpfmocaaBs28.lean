import Derived.Deep.DeepCutAuto
import Derived.Test.YtdikmmdkpfmocaaBs27
namespace Go.Proofs.Ytdikmmdkpfmocaa
open Go.RowKit
def Decd (r : Cf × Int) (w : World) (e : Ending) (w' : World) : Prop := ∃ v, e = .returned (.tuple #[v, .int .i64 r.2]) ∧ CfAt w' (fun k => w.heap.size ≤ k) v r.1 ∧ Keep noneOf w w'
theorem list_rd (w : World) (p : Nat) (D : Nat → Prop) (u : Value) (s : Rs) (hD : ∀ i, D i → i < w.heap.size) (h : Rd w p D u s.left s.err) :
    Calls Try.prog 98 #[.pointer (some ⟨p, 0, none⟩), .int .i64 8, .func (.func 99) #[] #[]] w (GotNodes w p D (rdZs s).1 (rdZs s).2) :=
  list_node w p D u s _ _ _ hD h rfl rfl _ rfl
set_option maxRecDepth 100000 in
set_option maxHeartbeats 1000000 in
theorem cdecode_any (w : World) (D : Nat → Prop) (v : Value) (bs : List UInt8) (hs : Bytes w D v bs) (hl : bs.length ≤ lim) :
    Calls Try.prog 93 #[v] w (Decd (decQ bs) w) := by
  obtain ⟨R, hR⟩ : ∃ R, decQ bs = R := ⟨_, rfl⟩
  rw [hR]
  rw [← dec_same] at hR
  unfold decP at hR
  obtain ⟨Z1, hZ1⟩ : ∃ Z, rdZs ⟨bs, 0⟩ = Z := ⟨_, rfl⟩
  rw [hZ1] at hR
  obtain ⟨Z2, hZ2⟩ : ∃ Z, rdZs Z1.2 = Z := ⟨_, rfl⟩
  rw [hZ2] at hR
  have HR := Lib.hid hR
  have HZ1 := Lib.hid hZ1
  have HZ2 := Lib.hid hZ2
  clear hR hZ1 hZ2
  have K0 := (Keep.refl noneOf w).alloc (.cells #[.slice none 0 0, .slice none 0 0] 26)
  have X0 := Box.new w 26 #[.slice none 0 0, .slice none 0 0]
  have HRD := Lib.hid (read_any _ D v bs (hs.keep K0 (fun _ _ _ => id)) hl)
  have HX0 := Lib.hid X0
  have HK0 := Lib.hid K0
  clear X0 K0 hs
  go_enter Try.func93, Try.ntmps93
  go_wp2_with fail
  refine HRD.out.mono ?_
  rintro e w1 ⟨p, u, rfl, hp, k1, r1⟩
  rw [World.size_alloc] at hp
  have HX1 := Lib.hid (HX0.out.keep k1 id)
  have HK1 := Lib.hid (HK0.out.trans k1 (fun _ _ h => h))
  have hp1 := r1.box.lt
  have hs1 := k1.size
  rw [World.size_alloc] at hs1
  have R1 : Rd w1 p (fun i => i < w1.heap.size) u bs 0 := ⟨r1.box, r1.bytes.mono (fun i hi hd => ⟨hi, hd.2⟩), r1.few⟩
  have L1 := Lib.hid (list_rd w1 p _ u ⟨bs, 0⟩ (fun i h => h) R1)
  rw [HZ1.out] at L1
  clear r1 R1 k1 HRD HX0 HK0
  go_wp2_with fail
  refine L1.out.mono ?_
  rintro e w2 ⟨v1, rfl, k2, ⟨u2, r2⟩, o1⟩
  have L2 := Lib.hid (list_rd w2 p _ u2 Z1.2 (fun i h => Nat.lt_of_lt_of_le h k2.size) r2)
  rw [HZ2.out] at L2
  obtain ⟨A1, c1, rfl⟩ := own_shape o1
  have HV1 := Lib.hid (show Zs w2 (fun k => w1.heap.size ≤ k) _ Z1.1 from Zs.of_own o1)
  have HX2 := Lib.hid (HX1.out.keep k2 (fun e => by omega))
  have HK2 := Lib.hid (HK1.out.trans k2 (fun i hi (e : i = p) => by omega))
  have hs2 := k2.size
  clear k2 r2 o1 L1 HX1 HK1
  go_wp2_with fail
  refine L2.out.mono ?_
  rintro e w3 ⟨v2, rfl, k3, ⟨u3, r3⟩, o2⟩
  obtain ⟨A2, c2, rfl⟩ := own_shape o2
  have HV2 := Lib.hid (show Zs w3 (fun k => w1.heap.size ≤ k) _ Z2.1 from (Zs.of_own o2).mono (fun i _ h => by omega))
  have HV3 := Lib.hid (HV1.out.keep k3 (fun i _ h e => by omega))
  have HX3 := Lib.hid (HX2.out.keep k3 (fun e => by omega))
  have HK3 := Lib.hid (HK2.out.trans k3 (fun i hi (e : i = p) => by omega))
  have hs3 := k3.size
  have HE := Lib.hid r3
  clear k3 r3 o2 L2 HX2 HK2 HV1
  go_upto_region 3 with fail
  have ka : Keep noneOf w3 (w3.alloc (.cells #[.slice A1 Z1.1.length c1, .slice A2 Z2.1.length c2] 26)) := (Keep.refl noneOf w3).alloc _
  have HX4 := Lib.hid (HX3.out.keep ka id)
  have HK4 := Lib.hid (HK3.out.trans ka (fun _ _ h => h))
  have HB4 := Lib.hid (Box.new w3 26 #[.slice A1 Z1.1.length c1, .slice A2 Z2.1.length c2])
  have HC4 := Lib.hid (show CfAt (w3.alloc (.cells #[.slice A1 Z1.1.length c1, .slice A2 Z2.1.length c2] 26)) (fun k => w1.heap.size ≤ k) (.agg #[.slice A1 Z1.1.length c1, .slice A2 Z2.1.length c2]) ⟨Z1.1, Z2.1⟩ from ⟨_, _, rfl, HV3.out.keepN ka, HV2.out.keepN ka⟩)
  have HE4 := Lib.hid (end_any _ p _ u3 _ _ (HE.out.keep ka id (fun _ _ => id)))
  have EE : Rs.end_ ⟨Z2.2.left, Z2.2.err⟩ = Z2.2.end_ := rfl
  rw [EE] at HE4
  clear ka HX3 HK3 HV2 HV3 HE EE
  generalize w3.alloc (.cells #[.slice A1 Z1.1.length c1, .slice A2 Z2.1.length c2] 26) = w4 at *
  obtain ⟨EN, hEN⟩ : ∃ z, Z2.2.end_ = z := ⟨_, rfl⟩
  rw [hEN] at HE4 HR
  clear hEN
  by_cases he : EN = 0
  · subst he
    have HCK := Lib.hid (check_any w4 _ _ _ HC4.out)
    obtain ⟨CK, hCK⟩ : ∃ z, chkP ⟨Z1.1, Z2.1⟩ = z := ⟨_, rfl⟩
    rw [hCK] at HCK HR
    clear hCK
    have b0 : w4.cell? ⟨w3.heap.size, 0, none⟩ = some (.slice A1 Z1.1.length c1) := HB4.out.cell 0
    have b1 : w4.cell? ⟨w3.heap.size, 1, none⟩ = some (.slice A2 Z2.1.length c2) := HB4.out.cell 1
    go_wp2_with (go_at_call 23; refine HE4.out.mono ?_; rintro e w4' ⟨rfl, rfl⟩)
    refine HCK.out.mono ?_
    rintro e w5 ⟨rfl, k5⟩
    have HX5 := Lib.hid (HX4.out.keep k5 id)
    have HB5 := Lib.hid (HB4.out.keep k5 id)
    have HK5 := Lib.hid (HK4.out.trans k5 (fun _ _ h => h))
    have HC5 := Lib.hid (HC4.out.keepN k5)
    clear k5 b0 b1 HCK HE4 HX4 HB4 HK4 HC4
    have b0 : w5.cell? ⟨w3.heap.size, 0, none⟩ = some (.slice A1 Z1.1.length c1) := HB5.out.cell 0
    have b1 : w5.cell? ⟨w3.heap.size, 1, none⟩ = some (.slice A2 Z2.1.length c2) := HB5.out.cell 1
    have x0 := HX5.out.cell 0
    have x1 := HX5.out.cell 1
    have f0 := HX5.out.free 0
    have f1 := HX5.out.free 1
    by_cases hc : CK = 0
    · subst hc
      obtain rfl : R = (⟨Z1.1, Z2.1⟩, 0) := HR.out.symm.trans (if_pos (by simp))
      clear HR
      have HBX := Lib.hid ((HX5.out.put 0 (.slice A1 Z1.1.length c1)).put 1 (.slice A2 Z2.1.length c2))
      have HKE := Lib.hid ((HK5.out.setCell (p := ⟨w.heap.size, 0, none⟩) (fun hh => absurd hh (by show ¬ w.heap.size < w.heap.size; omega)) (.slice A1 Z1.1.length c1)).setCell (p := ⟨w.heap.size, 1, none⟩) (fun hh => absurd hh (by show ¬ w.heap.size < w.heap.size; omega)) (.slice A2 Z2.1.length c2))
      have HKX := Lib.hid (((Keep.refl (fun i => i = w.heap.size) w5).setCell (p := ⟨w.heap.size, 0, none⟩) (fun _ => rfl) (.slice A1 Z1.1.length c1)).setCell (p := ⟨w.heap.size, 1, none⟩) (fun _ => rfl) (.slice A2 Z2.1.length c2))
      go_wp2
      have r0 := HBX.out.cell 0
      have r1 := HBX.out.cell 1
      generalize (w5.setCell ⟨w.heap.size, 0, none⟩ (.slice A1 Z1.1.length c1)).setCell ⟨w.heap.size, 1, none⟩ (.slice A2 Z2.1.length c2) = we at *
      exact bodyPost_ret (v := .tuple #[.agg #[.slice A1 Z1.1.length c1, .slice A2 Z2.1.length c2], .int .i64 0]) (by simp [results, Try.results93, go_sem, r0, r1]) rfl ⟨_, rfl, (HC5.out.keep HKX.out (fun i _ h e => by omega)).mono (fun i _ h => by omega), HKE.out⟩
    · have hcb : (CK != 0) = true := by rw [bne_iff_ne]; exact hc
      obtain rfl : R = (⟨[], []⟩, 140) := HR.out.symm.trans (if_neg (by simp [hc]))
      clear hc HR
      have HBX := Lib.hid ((HX5.out.put 0 (.slice none 0 0)).put 1 (.slice none 0 0))
      have HKE := Lib.hid ((HK5.out.setCell (p := ⟨w.heap.size, 0, none⟩) (fun hh => absurd hh (by show ¬ w.heap.size < w.heap.size; omega)) (.slice none 0 0)).setCell (p := ⟨w.heap.size, 1, none⟩) (fun hh => absurd hh (by show ¬ w.heap.size < w.heap.size; omega)) (.slice none 0 0))
      have HKX := Lib.hid (((Keep.refl (fun i => i = w.heap.size) w5).setCell (p := ⟨w.heap.size, 0, none⟩) (fun _ => rfl) (.slice none 0 0)).setCell (p := ⟨w.heap.size, 1, none⟩) (fun _ => rfl) (.slice none 0 0))
      go_wp2
      have r0 := HBX.out.cell 0
      have r1 := HBX.out.cell 1
      generalize (w5.setCell ⟨w.heap.size, 0, none⟩ (.slice none 0 0)).setCell ⟨w.heap.size, 1, none⟩ (.slice none 0 0) = we at *
      exact bodyPost_ret (v := .tuple #[.agg #[.slice none 0 0, .slice none 0 0], .int .i64 140]) (by simp [results, Try.results93, go_sem, r0, r1]) rfl ⟨_, rfl, CfAt.nil _ _, HKE.out⟩
  · have hb : (EN != 0) = true := by rw [bne_iff_ne]; exact he
    obtain rfl : R = (⟨[], []⟩, 140) := HR.out.symm.trans (if_neg (fun h => he h.1))
    have x0 := HX4.out.cell 0
    have x1 := HX4.out.cell 1
    have f0 := HX4.out.free 0
    have f1 := HX4.out.free 1
    clear he HR
    have HBX := Lib.hid ((HX4.out.put 0 (.slice none 0 0)).put 1 (.slice none 0 0))
    have HKE := Lib.hid ((HK4.out.setCell (p := ⟨w.heap.size, 0, none⟩) (fun hh => absurd hh (by show ¬ w.heap.size < w.heap.size; omega)) (.slice none 0 0)).setCell (p := ⟨w.heap.size, 1, none⟩) (fun hh => absurd hh (by show ¬ w.heap.size < w.heap.size; omega)) (.slice none 0 0))
    have HKX := Lib.hid (((Keep.refl (fun i => i = w.heap.size) w4).setCell (p := ⟨w.heap.size, 0, none⟩) (fun _ => rfl) (.slice none 0 0)).setCell (p := ⟨w.heap.size, 1, none⟩) (fun _ => rfl) (.slice none 0 0))
    go_wp2_with (go_at_call 23; refine HE4.out.mono ?_; rintro e w4' ⟨rfl, rfl⟩)
    have r0 := HBX.out.cell 0
    have r1 := HBX.out.cell 1
    generalize (w4.setCell ⟨w.heap.size, 0, none⟩ (.slice none 0 0)).setCell ⟨w.heap.size, 1, none⟩ (.slice none 0 0) = we at *
    exact bodyPost_ret (v := .tuple #[.agg #[.slice none 0 0, .slice none 0 0], .int .i64 140]) (by simp [results, Try.results93, go_sem, r0, r1]) rfl ⟨_, rfl, CfAt.nil _ _, HKE.out⟩
end Go.Proofs.Ytdikmmdkpfmocaa
