import Derived.Test.YtdikmmdkpfmocaaBs04
import Derived.Test.YtdikmmdkpfmocaaBs06
namespace Go.Proofs.Ytdikmmdkpfmocaa
open Go.RowKit
def decI (bs : List UInt8) : List UInt8 × Rs := Rs.take ⟨bs, 0⟩ 8
def decT (bs : List UInt8) : List UInt8 × Rs := (decI bs).2.take 8
def decK (bs : List UInt8) : List UInt8 × Rs := (decT bs).2.take 1
def decD (bs : List UInt8) : List UInt8 × Rs := (decK bs).2.text 65536
def decOk (bs : List UInt8) : Bool := decide ((decD bs).2.end_ = 0) && entRight (num (decI bs).1) (num (decT bs).1) (num (decK bs).1 : Int) (decD bs).1.length
def Decoded' (w : World) (ci ct ck cd : List UInt8) (ok : Bool) (e : Ending) (w' : World) : Prop :=
  Keep noneOf w w' ∧
  ((ok = false ∧ e = .returned (.tuple #[.agg #[.int .u64 0, .int .u64 0, .int .i64 0, .slice none 0 0], .int .i64 40])) ∨
   (ok = true ∧ ∃ x, e = .returned (.tuple #[.agg #[.int .u64 (num ci : Int), .int .u64 (num ct : Int), .int .i64 (num ck : Int), x], .int .i64 0]) ∧
     w'.ownsRow 0 5 1 x cd.length (cd.map bv) ∧ ∀ k, x.ownBlock = some k → w.heap.size ≤ k))
def Decoded (w : World) (bs : List UInt8) : Ending → World → Prop := Decoded' w (decI bs).1 (decT bs).1 (decK bs).1 (decD bs).1 (decOk bs)
set_option maxRecDepth 100000 in
set_option maxHeartbeats 1000000 in
theorem decode_core (w : World) (D : Nat → Prop) (v : Value) (bs ci ct ck cd : List UInt8) (si st sk sd : Rs) (er : Int) (hs : Bytes w D v bs) (hl : bs.length ≤ lim)
    (ei : Rs.take ⟨bs, 0⟩ 8 = (ci, si)) (et : si.take 8 = (ct, st)) (ek : st.take 1 = (ck, sk)) (ed : sk.text 65536 = (cd, sd)) (ee : sd.end_ = er) (hkk : num ck < 256) :
    Calls Try.prog 103 #[v] w (Decoded' w ci ct ck cd (decide (er = 0) && entRight (num ci) (num ct) (num ck : Int) cd.length)) := by
  have hs0 := hs.keep ((Keep.refl noneOf w).alloc (.cells #[.int .u64 0, .int .u64 0, .int .i64 0, .slice none 0 0] 81)) (fun _ _ _ h => h)
  have hx0 := Box.new w 81 #[.int .u64 0, .int .u64 0, .int .i64 0, .slice none 0 0]
  have hk0 := (Keep.refl noneOf w).alloc (.cells #[.int .u64 0, .int .u64 0, .int .i64 0, .slice none 0 0] 81)
  have EI := Lib.hid ei
  have ET := Lib.hid et
  have EK := Lib.hid ek
  have ED := Lib.hid ed
  have EE := Lib.hid ee
  clear ei et ek ed ee
  go_enter Try.func103, Try.ntmps103
  go_wp2_with fail
  refine (read_any _ D v bs hs0 hl).mono ?_
  rintro e w1 ⟨p, u1, rfl, hp, k1, h1⟩
  have hx1 := hx0.keep k1 id
  have k1' := hk0.trans k1 (fun _ _ h => h)
  have hp' : w.heap.size < p := by simp at hp; omega
  clear hs0 hx0 hk0 k1 hp
  go_wp2_with fail
  refine (rlong_to w1 p _ u1 ⟨bs, 0⟩ si ci h1 EI.out).mono ?_
  rintro e w2 ⟨rfl, k2, u2, h2⟩
  go_wp2_with fail
  refine (rlong_to w2 p _ u2 si st ct h2 ET.out).mono ?_
  rintro e w3 ⟨rfl, k3, u3, h3⟩
  go_wp2_with fail
  refine (rbyte_to w3 p _ u3 st sk ck h3 EK.out).mono ?_
  rintro e w4 ⟨rfl, k4, u4, h4⟩
  go_wp2_with fail
  refine (rtext_to w4 p _ u4 sk sd cd 65536 (by decide) h4 ED.out).mono ?_
  rintro e w5 ⟨u5, x5, rfl, k5, h5, o5, n5⟩
  obtain ⟨A5, c5, rfl⟩ := own_shape o5
  have K15 : Keep (fun k => k = p) w1 w5 := ((k2.trans k3 (fun _ _ h => h)).trans k4 (fun _ _ h => h)).trans k5 (fun _ _ h => h)
  have hx5 := hx1.keep K15 (by omega)
  have K05 : Keep noneOf w w5 := k1'.trans K15 (fun i hi h => by omega)
  have hn5 : ∀ k, (Value.slice A5 cd.length c5).ownBlock = some k → w.heap.size ≤ k := fun k hk => by
    have := n5 k hk
    have := ((k2.trans k3 (fun _ _ h => h)).trans k4 (fun _ _ h => h)).size
    have := k1'.size
    omega
  have hsz5 : w.heap.size < w5.heap.size := hx5.lt
  clear k2 k3 k4 k5 K15 h1 h2 h3 h4 hx1 k1' n5
  have ka := (Keep.refl noneOf w5).alloc (.cells #[.int .u64 (num ci : Int), .int .u64 (num ct : Int), .int .i64 (num ck : Int), .slice A5 cd.length c5] 81)
  have hy := Box.new w5 81 #[.int .u64 (num ci : Int), .int .u64 (num ct : Int), .int .i64 (num ck : Int), .slice A5 cd.length c5]
  have hx6 := hx5.keep ka id
  have h6 := h5.keep ka id (fun _ _ => id)
  have o6 := own_keep o5 ka (fun _ _ => id)
  have K06 := K05.trans ka (fun _ _ h => h)
  clear ka h5 o5 hx5 K05
  go_wp2_with fail
  refine (end_to _ p _ u5 sd er h6 EE.out).mono ?_
  rintro e w6 ⟨rfl, rfl⟩
  by_cases he : er = 0
  · subst he
    go_wp2_with fail
    refine (rightEntry_any _ (num ci) (num ct) (num ck) A5 cd.length c5).mono ?_
    rintro e w7 ⟨rfl, k7⟩
    have hx7 := hx6.keep k7 id
    have hy7 := hy.keep k7 id
    have o7 := own_keep o6 k7 (fun _ _ => id)
    have K07 := K06.trans k7 (fun _ _ h => h)
    clear hx6 hy o6 K06 k7 h6
    cases hr : entRight (num ci) (num ct) (num ck : Int) cd.length with
    | false =>
      have q0 : w7.cell? ⟨w.heap.size, 0, none⟩ = some (.int .u64 0) := hx7.cell 0
      have q1 : w7.cell? ⟨w.heap.size, 1, none⟩ = some (.int .u64 0) := hx7.cell 1
      have q2 : w7.cell? ⟨w.heap.size, 2, none⟩ = some (.int .i64 0) := hx7.cell 2
      have q3 : w7.cell? ⟨w.heap.size, 3, none⟩ = some (.slice none 0 0) := hx7.cell 3
      have f0 := hx7.free 0
      have f1 := hx7.free 1
      have f2 := hx7.free 2
      have f3 := hx7.free 3
      have HR := Lib.hid hr
      clear hr
      go_wp2
      have hB := (((hx7.put 0 (.int .u64 0)).put 1 (.int .u64 0)).put 2 (.int .i64 0)).put 3 (.slice none 0 0)
      have hK := (((K07.setCell (p := ⟨w.heap.size, 0, none⟩) (fun h => absurd h (Nat.lt_irrefl _)) (.int .u64 0)).setCell (p := ⟨w.heap.size, 1, none⟩) (fun h => absurd h (Nat.lt_irrefl _)) (.int .u64 0)).setCell (p := ⟨w.heap.size, 2, none⟩) (fun h => absurd h (Nat.lt_irrefl _)) (.int .i64 0)).setCell (p := ⟨w.heap.size, 3, none⟩) (fun h => absurd h (Nat.lt_irrefl _)) (.slice none 0 0)
      generalize (((w7.setCell ⟨w.heap.size, 0, none⟩ (.int .u64 0)).setCell ⟨w.heap.size, 1, none⟩ (.int .u64 0)).setCell ⟨w.heap.size, 2, none⟩ (.int .i64 0)).setCell ⟨w.heap.size, 3, none⟩ (.slice none 0 0) = wf at *
      have r0 : wf.cell? ⟨w.heap.size, 0, none⟩ = some (.int .u64 0) := hB.cell 0
      have r1 : wf.cell? ⟨w.heap.size, 1, none⟩ = some (.int .u64 0) := hB.cell 1
      have r2 : wf.cell? ⟨w.heap.size, 2, none⟩ = some (.int .i64 0) := hB.cell 2
      have r3 : wf.cell? ⟨w.heap.size, 3, none⟩ = some (.slice none 0 0) := hB.cell 3
      exact bodyPost_ret (v := .tuple #[.agg #[.int .u64 0, .int .u64 0, .int .i64 0, .slice none 0 0], .int .i64 40]) (by simp [results, Try.results103, go_sem, r0, r1, r2, r3]) rfl ⟨hK, .inl ⟨by rw [HR.out]; rfl, rfl⟩⟩
    | true =>
      have q0 : w7.cell? ⟨w.heap.size, 0, none⟩ = some (.int .u64 0) := hx7.cell 0
      have q1 : w7.cell? ⟨w.heap.size, 1, none⟩ = some (.int .u64 0) := hx7.cell 1
      have q2 : w7.cell? ⟨w.heap.size, 2, none⟩ = some (.int .i64 0) := hx7.cell 2
      have q3 : w7.cell? ⟨w.heap.size, 3, none⟩ = some (.slice none 0 0) := hx7.cell 3
      have f0 := hx7.free 0
      have f1 := hx7.free 1
      have f2 := hx7.free 2
      have f3 := hx7.free 3
      have HR := Lib.hid hr
      have y0 : w7.cell? ⟨w5.heap.size, 0, none⟩ = some (.int .u64 (num ci : Int)) := hy7.cell 0
      have y1 : w7.cell? ⟨w5.heap.size, 1, none⟩ = some (.int .u64 (num ct : Int)) := hy7.cell 1
      have y2 : w7.cell? ⟨w5.heap.size, 2, none⟩ = some (.int .i64 (num ck : Int)) := hy7.cell 2
      have y3 : w7.cell? ⟨w5.heap.size, 3, none⟩ = some (.slice A5 cd.length c5) := hy7.cell 3
      have hne : ∀ k, (Value.slice A5 cd.length c5).ownBlock = some k → k ≠ w.heap.size := by
        intro k hk e
        subst e
        rcases o7.2 with ⟨e, _⟩ | ⟨g, cap, cur, e, _, hg, _⟩
        · rw [e] at hk; cases hk
        · rw [e] at hk
          have : g = w.heap.size := by injection hk
          subst this
          exact Box.ne (t := 5) (cs := cur) hg hx7 (by decide) rfl
      have HNE := Lib.hid hne
      clear hr hne
      go_wp2
      have hB := (((hx7.put 0 (.int .u64 (num ci : Int))).put 1 (.int .u64 (num ct : Int))).put 2 (.int .i64 (num ck : Int))).put 3 (.slice A5 cd.length c5)
      have hK := (((K07.setCell (p := ⟨w.heap.size, 0, none⟩) (fun h => absurd h (Nat.lt_irrefl _)) (.int .u64 (num ci : Int))).setCell (p := ⟨w.heap.size, 1, none⟩) (fun h => absurd h (Nat.lt_irrefl _)) (.int .u64 (num ct : Int))).setCell (p := ⟨w.heap.size, 2, none⟩) (fun h => absurd h (Nat.lt_irrefl _)) (.int .i64 (num ck : Int))).setCell (p := ⟨w.heap.size, 3, none⟩) (fun h => absurd h (Nat.lt_irrefl _)) (.slice A5 cd.length c5)
      have hL := ((((Keep.refl (fun k => k = w.heap.size) w7).setCell (p := ⟨w.heap.size, 0, none⟩) (fun _ => rfl) (.int .u64 (num ci : Int))).setCell (p := ⟨w.heap.size, 1, none⟩) (fun _ => rfl) (.int .u64 (num ct : Int))).setCell (p := ⟨w.heap.size, 2, none⟩) (fun _ => rfl) (.int .i64 (num ck : Int))).setCell (p := ⟨w.heap.size, 3, none⟩) (fun _ => rfl) (.slice A5 cd.length c5)
      generalize (((w7.setCell ⟨w.heap.size, 0, none⟩ (.int .u64 (num ci : Int))).setCell ⟨w.heap.size, 1, none⟩ (.int .u64 (num ct : Int))).setCell ⟨w.heap.size, 2, none⟩ (.int .i64 (num ck : Int))).setCell ⟨w.heap.size, 3, none⟩ (.slice A5 cd.length c5) = wf at *
      have r0 : wf.cell? ⟨w.heap.size, 0, none⟩ = some (.int .u64 (num ci : Int)) := hB.cell 0
      have r1 : wf.cell? ⟨w.heap.size, 1, none⟩ = some (.int .u64 (num ct : Int)) := hB.cell 1
      have r2 : wf.cell? ⟨w.heap.size, 2, none⟩ = some (.int .i64 (num ck : Int)) := hB.cell 2
      have r3 : wf.cell? ⟨w.heap.size, 3, none⟩ = some (.slice A5 cd.length c5) := hB.cell 3
      exact bodyPost_ret (v := .tuple #[.agg #[.int .u64 (num ci : Int), .int .u64 (num ct : Int), .int .i64 (num ck : Int), .slice A5 cd.length c5], .int .i64 0]) (by simp [results, Try.results103, go_sem, r0, r1, r2, r3]) rfl
        ⟨hK, .inr ⟨by rw [HR.out]; rfl, _, rfl, own_keep o7 hL HNE.out, hn5⟩⟩
  · have g' : (er != 0) = true := by rw [bne_iff_ne]; exact he
    have HE := Lib.hid he
    generalize w5.alloc (.cells #[.int .u64 (num ci : Int), .int .u64 (num ct : Int), .int .i64 (num ck : Int), .slice A5 cd.length c5] 81) = w7 at *
    have hx7 := hx6
    have K07 := K06
    clear he h6 hy o6 hx6 K06
    have q0 : w7.cell? ⟨w.heap.size, 0, none⟩ = some (.int .u64 0) := hx7.cell 0
    have q1 : w7.cell? ⟨w.heap.size, 1, none⟩ = some (.int .u64 0) := hx7.cell 1
    have q2 : w7.cell? ⟨w.heap.size, 2, none⟩ = some (.int .i64 0) := hx7.cell 2
    have q3 : w7.cell? ⟨w.heap.size, 3, none⟩ = some (.slice none 0 0) := hx7.cell 3
    have f0 := hx7.free 0
    have f1 := hx7.free 1
    have f2 := hx7.free 2
    have f3 := hx7.free 3
    go_wp2
    have hB := (((hx7.put 0 (.int .u64 0)).put 1 (.int .u64 0)).put 2 (.int .i64 0)).put 3 (.slice none 0 0)
    have hK := (((K07.setCell (p := ⟨w.heap.size, 0, none⟩) (fun h => absurd h (Nat.lt_irrefl _)) (.int .u64 0)).setCell (p := ⟨w.heap.size, 1, none⟩) (fun h => absurd h (Nat.lt_irrefl _)) (.int .u64 0)).setCell (p := ⟨w.heap.size, 2, none⟩) (fun h => absurd h (Nat.lt_irrefl _)) (.int .i64 0)).setCell (p := ⟨w.heap.size, 3, none⟩) (fun h => absurd h (Nat.lt_irrefl _)) (.slice none 0 0)
    generalize (((w7.setCell ⟨w.heap.size, 0, none⟩ (.int .u64 0)).setCell ⟨w.heap.size, 1, none⟩ (.int .u64 0)).setCell ⟨w.heap.size, 2, none⟩ (.int .i64 0)).setCell ⟨w.heap.size, 3, none⟩ (.slice none 0 0) = wf at *
    have r0 : wf.cell? ⟨w.heap.size, 0, none⟩ = some (.int .u64 0) := hB.cell 0
    have r1 : wf.cell? ⟨w.heap.size, 1, none⟩ = some (.int .u64 0) := hB.cell 1
    have r2 : wf.cell? ⟨w.heap.size, 2, none⟩ = some (.int .i64 0) := hB.cell 2
    have r3 : wf.cell? ⟨w.heap.size, 3, none⟩ = some (.slice none 0 0) := hB.cell 3
    exact bodyPost_ret (v := .tuple #[.agg #[.int .u64 0, .int .u64 0, .int .i64 0, .slice none 0 0], .int .i64 40]) (by simp [results, Try.results103, go_sem, r0, r1, r2, r3]) rfl ⟨hK, .inl ⟨by simp [HE.out], rfl⟩⟩
theorem decode_any (w : World) (D : Nat → Prop) (v : Value) (bs : List UInt8) (hs : Bytes w D v bs) (hl : bs.length ≤ lim) :
    Calls Try.prog 103 #[v] w (Decoded w bs) :=
  decode_core w D v bs _ _ _ _ _ _ _ _ _ hs hl rfl rfl rfl rfl rfl (num_one _ (take_length _ _))
end Go.Proofs.Ytdikmmdkpfmocaa
