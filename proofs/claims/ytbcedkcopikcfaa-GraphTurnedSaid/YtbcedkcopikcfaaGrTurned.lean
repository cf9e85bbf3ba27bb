/-
  Proved: dockyardlaw07.GraphTurned answers true for every input that can be read, and leaves its arguments as they were. No conditions.
-/
import Derived.Test.YtbcedkcopikcfaaGrAlive
import Derived.Test.YtbcedkcopikcfaaGrMath
import Derived.Test.YtbcedkcopikcfaaGrOpen
namespace Go.Proofs.Ytbcedkcopikcfaa
open Go.ChangeShapes Go.WideShapes Go.ChangeAt Go.RowKit

theorem nodup_rev {α : Type} (l : List α) : l.reverse.Nodup ↔ l.Nodup := by
  unfold List.Nodup
  rw [List.pairwise_reverse]
  constructor <;> exact fun h => h.imp (fun h => h.symm)
/-- A target the other way round. -/
def turnP (p : Pt) : Pt := ⟨p.name, p.cmd, p.needs.reverse⟩
theorem alike_turned (ps : List Pt) : Alike ps (ps.reverse.map turnP) := by
  refine ⟨by simp, fun p hp => ⟨turnP p, List.mem_map.2 ⟨p, by simpa using hp, rfl⟩, rfl, rfl, by simp [turnP], nodup_rev _, fun m => by simp [turnP]⟩, fun q hq => ?_, ?_⟩
  · obtain ⟨p, hp, rfl⟩ := List.mem_map.1 hq
    exact ⟨p, by simpa using hp, rfl, rfl, by simp [turnP], nodup_rev _, fun m => by simp [turnP]⟩
  · rw [List.map_map, show (Pt.name ∘ turnP) = Pt.name from rfl, List.map_reverse, nodup_rev]

theorem strinfo : (Try.prog.info? 9).map (fun i => (i.zero, i.size, i.bytes)) = some (some (.string ⟨#[]⟩), 1, 16) := by kernel_rfl
theorem tginfo : (Try.prog.info? 39).map (fun i => (i.zero, i.size, i.bytes)) = some (some (.agg #[.string ⟨#[]⟩, .string ⟨#[]⟩, .slice none 0 0]), 3, 56) := by kernel_rfl

/-- A target whose needs lie in a row of their own. -/
def heldT (base : Nat) (w : World) (t : Tg) : Prop := t.name.size ≤ maxLen ∧ t.cmd.size ≤ maxLen ∧ w.ownsRow base 9 1 t.nv t.needs.length (t.needs.map Value.string) ∧ ∀ s ∈ t.needs, s.size ≤ maxLen
theorem heldT.keep {base : Nat} {w w' : World} {t : Tg} {S : Nat → Prop} (h : heldT base w t) (k : Keep S w w') (hS : ∀ i, i < w.heap.size → S i → ∃ cs fz, w.heap[i]? = some (.cells cs 39 fz) ∨ w.heap[i]? = some (.cells cs 24 fz)) : heldT base w' t := by
  refine ⟨h.1, h.2.1, own_keep h.2.2.1 k (fun j hj hs => ?_), h.2.2.2⟩
  rcases h.2.2.1.2 with ⟨hv, _⟩ | ⟨g, cap, cur, hv, _, hg, _⟩
  · rw [hv] at hj
    cases hj
  · rw [hv] at hj
    have : g = j := by simpa [Value.ownBlock] using hj
    subst this
    obtain ⟨cs, fz, h1 | h1⟩ := hS g (Array.getElem?_eq_some_iff.1 hg).1 hs
    all_goals
      rw [hg] at h1
      injection h1 with h1
      injection h1 with _ h2
      exact absurd h2 (by decide)
theorem Tgs.of_held {w : World} {base : Nat} {v : Value} {ts : List Tg} (h : w.ownsRow base 39 3 v ts.length (ts.flatMap Tg.cells)) (hl : ∀ t ∈ ts, heldT base w t) : Tgs w (fun k => base ≤ k) v ts :=
  ⟨Row.of_own h, fun t ht => ⟨(hl t ht).1, (hl t ht).2.1, Row.of_own (hl t ht).2.2.1, (hl t ht).2.2.2⟩⟩

theorem cell_three_new (w : World) (x y z : Value) (t : TypeId) : ∀ j u, [x, y, z][j]? = some u → (w.alloc (.cells #[x, y, z] t)).cell? ((⟨w.heap.size, 0, none⟩ : Addr).add j) = some u := by
  intro j u hu
  have hb := Box.new w t #[x, y, z]
  rw [Addr.add]
  split
  · rename_i h0
    subst h0
    rw [hb.cell]
    simpa using hu
  · show (w.alloc (.cells #[x, y, z] t)).cell? ⟨w.heap.size, 0 + j, none⟩ = some u
    rw [Nat.zero_add, hb.cell]
    simpa using hu

theorem own_row {w : World} {base : Nat} {e : TypeId} {size : Nat} {v : Value} {n : Nat} {xs : List Value} (h : w.ownsRow base e size v n xs) {k : Nat} (hk : some k = v.ownBlock) : base ≤ k ∧ ∃ cs fz, w.heap[k]? = some (.cells cs e fz) := by
  rcases h.2 with ⟨rfl, _⟩ | ⟨g, cap, cur, rfl, hb, hg, _⟩
  · cases hk
  · have : k = g := by simpa [Value.ownBlock] using hk
    subst this
    exact ⟨hb, _, _, hg⟩

theorem own_base {w : World} {base base' : Nat} {e : TypeId} {size : Nat} {v : Value} {n : Nat} {xs : List Value} (h : w.ownsRow base e size v n xs) (hb : base' ≤ base) : w.ownsRow base' e size v n xs := by
  refine ⟨h.1, ?_⟩
  rcases h.2 with h0 | ⟨g, cap, cur, hv, hg, rest⟩
  · exact .inl h0
  · exact .inr ⟨g, cap, cur, hv, Nat.le_trans hb hg, rest⟩
theorem drop_rev {α : Type} {l : List α} {m : Nat} {x : α} (h : l[m]? = some x) : (l.drop m).reverse = (l.drop (m + 1)).reverse ++ [x] := by
  obtain ⟨hm, rfl⟩ := List.getElem?_eq_some_iff.1 h
  rw [List.drop_eq_getElem_cons hm, List.reverse_cons]

set_option maxRecDepth 100000 in
set_option maxHeartbeats 4000000 in
theorem turned_walk (w : World) (A : Option Addr) (c : Nat) (ts : List Tg) (h : Tgs w (fun _ => True) (.slice A ts.length c) ts) (h56 : ts.length * 56 ≤ reachBytes) (h16 : ∀ t ∈ ts, t.needs.length * 16 ≤ reachBytes) :
    Calls Try.prog 6 #[.agg #[.slice A ts.length c]] w fun e w' => e = .returned (.bool true) ∧ Keep noneOf w w' := by
  have HH := Lib.hid h
  have hR : reachBytes = 140737488351232 := rfl
  rw [hR] at h56 h16
  have H16 := Lib.hid h16
  obtain ⟨A', c', hv, hlc, hcm, hn, hxl, hc⟩ := h.1
  obtain ⟨rfl, rfl⟩ : A = A' ∧ c = c' := by simpa using hv
  unfold maxLen at hcm
  have HC := Lib.hid hc
  have HT := Lib.hid h.2
  obtain ⟨i9, hi9, hz9, hs9, hb9⟩ := info_parts strinfo
  obtain ⟨i39, hi39, hz39, hs39, hb39⟩ := info_parts tginfo
  have HK0 := Lib.hid (((Keep.refl noneOf w).alloc (.cells #[.slice A ts.length c] 24)).alloc (.cells #[.slice none 0 0] 24))
  have HX0 := Lib.hid ((Box.new w 24 #[.slice A ts.length c]).alloc (.cells #[.slice none 0 0] 24))
  have hy0 := Box.new (w.alloc (.cells #[.slice A ts.length c] 24)) 24 #[.slice none 0 0]
  rw [show (w.alloc (.cells #[.slice A ts.length c] 24)).heap.size = w.heap.size + 1 from by simp] at hy0
  have HY0 := Lib.hid hy0
  clear h h16 hR hv hxl hc hn hy0
  go_enter Try.func6, Try.ntmps6
  go_wp2
  go_loopw [4] (fun i wr => ∃ (m : Nat) (hv : Value) (hts : List Tg), m ≤ ts.length ∧ i = .int .i64 ((m : Int) - 1) ∧ Keep noneOf w wr ∧ Box wr w.heap.size 24 #[.slice A ts.length c] ∧ Box wr (w.heap.size + 1) 24 #[hv] ∧ wr.ownsRow (w.heap.size + 2) 39 3 hv hts.length (hts.flatMap Tg.cells) ∧ (∀ t ∈ hts, heldT (w.heap.size + 2) wr t) ∧ hts.length + m = ts.length ∧ hts.map Tg.plain = ((ts.drop m).map Tg.plain).reverse.map turnP) (fun i _ => (intOf i + 1).toNat)
  case atStart => exact ⟨ts.length, .slice none 0 0, [], Nat.le_refl _, rfl, HK0.out, HX0.out, HY0.out, World.ownsRow_nil _ _ _ _, by simp, by simp, by simp⟩
  case round =>
    obtain ⟨m, hv, hts, hm, rfl, hkeep, hX, hY, hown, hheld, hlen, hpl⟩ := hrel
    have x0 : wr.cell? ⟨w.heap.size, 0, none⟩ = some (.slice A ts.length c) := hX.cell 0
    obtain ⟨Ah, ch, rfl⟩ := own_shape hown
    have y0 : wr.cell? ⟨w.heap.size + 1, 0, none⟩ = some (.slice Ah hts.length ch) := hY.cell 0
    have hz := hY.lt
    have HKP := Lib.hid hkeep
    have HX := Lib.hid hX
    have HY := Lib.hid hY
    have HOWN := Lib.hid hown
    have HHELD := Lib.hid hheld
    have HPL := Lib.hid hpl
    clear hX hY hown hheld hpl HK0 HX0 HY0
    cases m with
    | zero =>
      rw [show (((0 : Nat) : Int) - 1) = (-1 : Int) from rfl]
      have TH := Tgs.of_held HOWN.out HHELD.out
      have hpe : hts.map Tg.plain = (ts.map Tg.plain).reverse.map turnP := by have := HPL.out; rwa [List.drop_zero] at this
      have hck : grCheck (hts.map Tg.plain) = grCheck (ts.map Tg.plain) := by rw [hpe]; exact (alike_turned _).check
      have hol : (grOrder (hts.map Tg.plain)).length = (grOrder (ts.map Tg.plain)).length := by
        unfold grOrder
        rw [hck]
        split
        · rename_i h0
          have e1 := (check_fits h0).2.2.2
          have e2 := places_le (ts.map Tg.plain)
          have e3 := (check_fits (hck.trans h0)).2.2.2
          have e4 := places_le (hts.map Tg.plain)
          simp only [List.length_map] at e1 e2 e3 e4
          omega
        · rfl
      have CK : Hid (∀ (w' : World) (v : Value), Keep noneOf wr w' → (v = .slice Ah hts.length ch ∨ v = .slice A ts.length c) → Calls Try.prog 9 #[.agg #[v]] w' fun e w'' => e = .returned (.int .i64 (grCheck (ts.map Tg.plain))) ∧ Keep noneOf w' w'') := fun w' v k' hv => by
        rcases hv with rfl | rfl
        · have := check_any w' _ _ hts (TH.keep k' (fun _ _ _ => id))
          rwa [hck] at this
        · exact check_any w' _ _ ts (HH.out.keep (HKP.out.trans k' (fun _ _ h => h)) (fun _ _ _ => id))
      have OK : Hid (∀ (w' : World) (v : Value), Keep noneOf wr w' → (v = .slice Ah hts.length ch ∨ v = .slice A ts.length c) → Calls Try.prog 16 #[.agg #[v]] w' fun e w'' => ∃ A9 c9, e = .returned (.slice A9 (grOrder (ts.map Tg.plain)).length c9) ∧ Keep noneOf w' w'') := fun w' v k' hv => by
        rcases hv with rfl | rfl
        · refine (order_any w' _ _ hts (TH.keep k' (fun _ _ _ => id))).mono ?_
          rintro e w'' ⟨v9, rfl, i9', k9⟩
          obtain ⟨A9, c9, rfl⟩ := i9'.shape
          exact ⟨A9, c9, by rw [hol], k9⟩
        · refine (order_any w' _ _ ts (HH.out.keep (HKP.out.trans k' (fun _ _ h => h)) (fun _ _ _ => id))).mono ?_
          rintro e w'' ⟨v9, rfl, i9', k9⟩
          obtain ⟨A9, c9, rfl⟩ := i9'.shape
          exact ⟨A9, c9, rfl, k9⟩
      have MK : Hid (∀ w', Keep noneOf wr w' → w'.cell? ⟨w.heap.size, 0, none⟩ = some (.slice A ts.length c) ∧ w'.cell? ⟨w.heap.size + 1, 0, none⟩ = some (.slice Ah hts.length ch)) := fun w' k => ⟨(HX.out.keep k id).cell 0, (HY.out.keep k id).cell 0⟩
      have K00 := Keep.refl noneOf wr
      generalize grCheck (ts.map Tg.plain) = R at *
      generalize (grOrder (ts.map Tg.plain)).length = N at *
      clear TH hpe hck hol HHELD HOWN HPL HX HY x0 y0 hkeep
      go_wp2
      go_region_held3 (fun w' => Keep noneOf wr w' ∧ w'.cell? ⟨w.heap.size, 0, none⟩ = some (.slice A ts.length c) ∧ w'.cell? ⟨w.heap.size + 1, 0, none⟩ = some (.slice Ah hts.length ch)) (first | exact ⟨K00.drew, MK.out _ K00.drew⟩ | (refine (fun k => ⟨k, MK.out _ k⟩) ?_; exact Keep.trans (And.left (by assumption)) (by assumption) (fun _ _ h => h)))
        (first | (go_at_call 8; refine (alive_any _).mono ?_; rintro e wA ⟨rfl, kA⟩) | (go_at_call 9; refine (CK.out _ _ (And.left (by assumption)) (by first | exact .inl rfl | exact .inr rfl)).mono ?_; rintro e wC ⟨rfl, kC⟩) | (go_at_call 16; refine (OK.out _ _ (And.left (by assumption)) (by first | exact .inl rfl | exact .inr rfl)).mono ?_; rintro e wO ⟨AO, cO, rfl, kO⟩))
      have KO : Keep noneOf wr wO := by
        refine Keep.trans ?_ kO (fun _ _ h => h)
        repeat (first | exact K00.drew | (refine Keep.trans ?_ (by assumption) (fun _ _ h => h)))
      have KF := HKP.out.trans KO (fun _ _ h => h)
      clear CK OK MK K00
      go_wp2
      go_ret
      exact ⟨rfl, KF⟩
    | succ q =>
      rw [show (((q + 1 : Nat) : Int) - 1) = (q : Int) from by omega]
      have hq : q < ts.length := by omega
      obtain ⟨ad, rfl, hsp, hblk, hD, hcell⟩ := HC.out (by omega)
      obtain ⟨b, o, sp⟩ := ad
      simp only at hsp hblk hD hcell
      subst hsp
      have HS := Lib.hid (List.getElem?_eq_getElem hq)
      have hlies := HT.out _ (List.getElem_mem hq)
      have hs16 := H16.out _ (List.getElem_mem hq)
      generalize ts[q] = t at *
      obtain ⟨c0, c1, c2⟩ := tgs_at hkeep hblk hcell HS.out
      obtain ⟨nm, cm, nv, ss⟩ := t
      obtain ⟨l1, l2, ⟨A2, cp2, hnv, hl2, hm2, _, _, hrow⟩, hstr⟩ := hlies
      simp only at c0 c1 c2 hnv l1 l2 hl2 hrow hs16 hstr
      subst hnv
      unfold maxLen at hm2
      have HROW := Lib.hid hrow
      have HSTR := Lib.hid hstr
      have HL1 := Lib.hid l1
      have HL2 := Lib.hid l2
      have ka := (Keep.refl noneOf wr).alloc (.cells #[.string nm, .string cm, .slice A2 ss.length cp2] 39)
      have HKA := Lib.hid ka
      have HK1 := Lib.hid (hkeep.alloc (.cells #[.string nm, .string cm, .slice A2 ss.length cp2] 39))
      have HT1 := Lib.hid (Box.new wr 39 #[.string nm, .string cm, .slice A2 ss.length cp2])
      have hsz : (wr.alloc (.cells #[.string nm, .string cm, .slice A2 ss.length cp2] 39)).heap.size = wr.heap.size + 1 := by simp
      have HSZ := Lib.hid hsz
      clear hcell hkeep hrow hstr l1 l2 ka hsz
      have g1 : (0 : Int) ≤ (q : Int) := by omega
      have g2 : (q : Int) < (ts.length : Int) := by omega
      go_wp2
      generalize hW : wr.alloc (.cells #[.string nm, .string cm, .slice A2 ss.length cp2] 39) = W1 at *
      clear hW
      generalize wr.heap.size = tb at *
      go_loopw [6, 7] (fun nv i wx => ∃ a : Nat, a ≤ ss.length ∧ i = .int .i64 ((a : Int) - 1) ∧ Keep noneOf W1 wx ∧ wx.ownsRow W1.heap.size 9 1 nv (ss.drop a).reverse.length ((ss.drop a).reverse.map Value.string)) (fun _ i _ => (intOf i + 1).toNat)
      case atStart => exact ⟨ss.length, Nat.le_refl _, rfl, Keep.refl _ _, by rw [List.drop_length]; exact World.ownsRow_nil _ _ _ _⟩
      case round =>
        obtain ⟨a, ha, rfl, hka, hrow⟩ := hrel
        have T2 := HT1.out.keep hka id
        have t2 : wr.cell? ⟨tb, 2, none⟩ = some (.slice A2 ss.length cp2) := T2.cell 2
        have hzz := T2.lt
        have HKW := Lib.hid hka
        have HRW := Lib.hid hrow
        clear hka hrow
        cases a with
        | zero =>
          rw [show (((0 : Nat) : Int) - 1) = (-1 : Int) from rfl]
          have HR0 := HRW.out
          rw [List.drop_zero, List.length_reverse] at HR0
          obtain ⟨An, cn, hvn⟩ := own_shape HR0
          subst hvn
          have x1 : wr.cell? ⟨w.heap.size, 0, none⟩ = some (.slice (some ⟨b, o, none⟩) ts.length c) := ((HX.out.keep HKA.out id).keep HKW.out id).cell 0
          have Y1 := (HY.out.keep HKA.out id).keep HKW.out id
          have y1 : wr.cell? ⟨w.heap.size + 1, 0, none⟩ = some (.slice Ah hts.length ch) := Y1.cell 0
          have t0 : wr.cell? ⟨tb, 0, none⟩ = some (.string nm) := T2.cell 0
          have t1 : wr.cell? ⟨tb, 1, none⟩ = some (.string cm) := T2.cell 1
          have O1 := own_keep (own_keep HOWN.out HKA.out (fun _ _ h => h)) HKW.out (fun _ _ h => h)
          have HO1 := Lib.hid O1
          have HR1 := Lib.hid HR0
          have HY1 := Lib.hid Y1
          have hw1 := HKW.out.size
          have hzW : wr.heap.size ≥ W1.heap.size := hw1
          have ka2 := (Keep.refl noneOf wr).alloc (.cells #[.string nm, .string cm, .slice An ss.length cn] 39)
          have HNO : Hid (∀ j, some j = (Value.slice Ah hts.length ch).ownBlock → w.heap.size + 2 ≤ j ∧ ∃ cs fz, (wr.alloc (.cells #[.string nm, .string cm, .slice An ss.length cn] 39)).heap[j]? = some (.cells cs 39 fz)) := fun j hj => own_row (HO1.out.alloc _) hj
          have HAB : Hid (∀ w4, (wr.alloc (.cells #[.string nm, .string cm, .slice An ss.length cn] 39)).grownBy w4 (Value.slice Ah hts.length ch).ownBlock → Box w4 (w.heap.size + 1) 24 #[.slice Ah hts.length ch]) := fun w4 hg => (HY1.out.keep ka2 id).keep (Keep.of_grown hg) (fun hs => absurd (HNO.out _ hs).1 (by omega))
          have HKA2 := Lib.hid ka2
          clear HRW HR0 O1 Y1 T2 ka2
          go_wp2_with (at_builtin; refine wpList_append_own _ rfl _ _ 22 rfl (w.heap.size + 2) 39 i39 _ 3 56 Try.underlying22 hi39 hz39 hs39 hb39 rfl (by decide) _ _ _ rfl (HO1.out.alloc _) ⟨wr.heap.size, 0, none⟩ 1 1 [.string nm, .string cm, .slice An ss.length cn] rfl rfl (cell_three_new _ _ _ _ _) (by simp [Value.oneCell']) (by unfold maxLen; omega) (by omega) (by simp; omega) ?_; intro v' w4 hown' hgrow _; have Y4 := HAB.out w4 hgrow; obtain ⟨A4, c4, hv4⟩ := own_shape hown'; subst hv4; have y4 : w4.cell? ⟨w.heap.size + 1, 0, none⟩ = some (.slice Ah hts.length ch) := Y4.cell 0; have f4 := Y4.free 0)
          have HKG := Lib.hid (Keep.of_grown hgrow)
          have HY4 := Lib.hid Y4
          have HO4 := Lib.hid hown'
          go_roundw
          case rel =>
            have ks := (Keep.refl (fun k => k = w.heap.size + 1) w4).setCell (p := ⟨w.heap.size + 1, 0, none⟩) (fun _ => rfl) (.slice A4 (hts.length + 1) c4)
            have K4 : Keep noneOf w w4 := (((HK1.out.trans HKW.out (fun _ _ h => h)).trans HKA2.out (fun _ _ h => h)).trans HKG.out (fun j hj hs => absurd (HNO.out j hs).1 (by omega)))
            have hg39 : ∀ (t : Tg), heldT (w.heap.size + 2) wr t → heldT (w.heap.size + 2) (w4.setCell ⟨w.heap.size + 1, 0, none⟩ (.slice A4 (hts.length + 1) c4)) t := fun t ht =>
              ((ht.keep HKA2.out (fun _ _ h => h.elim)).keep HKG.out (fun i _ hs => by obtain ⟨_, cs, fz, h⟩ := HNO.out i hs; exact ⟨cs, fz, .inl h⟩)).keep ks (fun i _ hs => by subst hs; exact ⟨_, _, .inr HY4.out⟩)
            refine ⟨q, .slice A4 (hts.length + 1) c4, hts ++ [⟨nm, cm, .slice An ss.length cn, ss.reverse⟩], by omega, rfl, K4.trans ks (fun j hj hs => by omega), ?_, ?_, ?_, ?_, ?_, ?_⟩
            · exact ((((HX.out.keep HKA.out id).keep HKW.out id).keep HKA2.out id).keep HKG.out (fun hs => absurd (HNO.out _ hs).1 (by omega))).keep ks (by omega)
            · exact HY4.out.put 0 _
            · rw [List.length_append, List.flatMap_append]
              exact own_keep HO4.out ks (fun j hj e => by have := (HO4.out.lt j hj).1; omega)
            · intro t ht
              rcases List.mem_append.1 ht with ht | ht
              · exact hg39 t (((HHELD.out t ht).keep HKA.out (fun _ _ h => h.elim)).keep HKW.out (fun _ _ h => h.elim))
              · simp only [List.mem_singleton] at ht
                subst ht
                exact hg39 _ ⟨HL1.out, HL2.out, by rw [List.length_reverse]; exact own_base HR1.out (by have := HSZ.out; omega), fun s hs => HSTR.out s (by simpa using hs)⟩
            · simp
              omega
            · obtain ⟨hq1, hq2⟩ := List.getElem?_eq_some_iff.1 HS.out
              rw [List.map_append, HPL.out, List.drop_eq_getElem_cons hq1, hq2]
              simp [turnP, Tg.plain]
          case measure => simp [intOf]
        | succ a' =>
          rw [show (((a' + 1 : Nat) : Int) - 1) = (a' : Int) from by omega]
          have hal : a' < ss.length := by omega
          obtain ⟨ad2, rfl, hsp2, hblk2, _, hcell2⟩ := HROW.out (by omega)
          obtain ⟨bb, oo, sp2⟩ := ad2
          simp only at hsp2 hblk2 hcell2
          subst hsp2
          have hck : wr.cell? ⟨bb, oo + a', none⟩ = some (.string ss[a']) := ((HK1.out.trans HKW.out (fun _ _ h => h)).cell (p := ⟨bb, oo + a', none⟩) hblk2 id).trans (hcell2 a' _ (by rw [List.getElem?_map, List.getElem?_eq_getElem hal]; rfl))
          have HDR := Lib.hid (drop_rev (List.getElem?_eq_getElem hal))
          generalize ss[a'] = sx at *
          have hdl : (ss.drop (a' + 1)).reverse.length ≤ ss.length := by simp
          generalize (ss.drop (a' + 1)).reverse = ls at *
          clear hcell2 T2
          have hw1 := HKW.out.size
          have f1 : (0 : Int) ≤ (a' : Int) := by omega
          have f2 : (a' : Int) < (ss.length : Int) := by omega
          go_wp2_with (at_builtin; refine wpList_append_own _ rfl _ _ 37 rfl W1.heap.size 9 i9 _ 1 16 Try.underlying37 hi9 hz9 hs9 hb9 rfl (by decide) _ _ _ rfl (HRW.out.alloc _) ⟨wr.heap.size, 0, none⟩ 1 1 [.string sx] rfl rfl (cell_one_new _ _ _) (by simp [Value.oneCell']) (by unfold maxLen; omega) (by omega) (by simp; omega) ?_; intro v' w4 hown' hgrow _)
          have kg := Keep.of_grown hgrow
          have ka2 := (Keep.refl noneOf wr).alloc (.cells #[.string sx] 9)
          have hno : ∀ j, some j = u6.ownBlock → W1.heap.size ≤ j := fun j hj => (HRW.out.lt j hj.symm).1
          go_wp2
          go_roundw
          case rel =>
            refine ⟨a', by omega, rfl, (HKW.out.trans ka2 (fun _ _ h => h)).trans kg (fun j hj hs => absurd (hno j hs) (by omega)), ?_⟩
            rw [HDR.out, List.length_append, List.map_append]
            exact hown'
          case measure => simp [intOf]

namespace GraphTurned
set_option maxRecDepth 100000 in
theorem lifted (os : Os) (started : os.Started) (H : Type) (enc : TypeId × Value → H) :
    ReturnsInHanded {} Try.checked os 6 .any (Rows.graphTurnedSpec.pre6 enc Try.prog Try.f6 Rows.graphTurnedRow.domain false) (Rows.graphTurnedSpec.post enc Try.prog Try.f6 false true false false) := by
  refine returnsInHanded_of_change_sized (C := Try.checked) own started (by kernel_rfl) Try.func6
    (ChangeSpec.witness6 (enc := enc) (C := Try.checked) false ⟨#[], #[.agg #[.slice none 0 0]], []⟩ 8 (by kernel_rfl) (by kernel_rfl) (by kernel_rfl) (by kernel_rfl)) ?_
  intro W base args ds gs before hval0 hW hcnd hsz _
  have hval : ∀ (j : Nat) t v, Try.f6.params[j]? = some t → args[j]? = some v → Value.okWide Try.prog W .any base t v := hval0
  have hW' := hW
  obtain ⟨p, q, hA0, hV, rfl, hfz, hnd⟩ := hW
  have hA : DataW.TrodAll enc Try.prog W 0 (fun _ => true) true Try.f6.params.toList args.toList ds p := hA0
  rw [Try.params6] at hA hval
  obtain ⟨v0, vs0, d0, ds0, p0, q0, hargs, rfl, rfl, h0, r0⟩ := trodAll_cons hA
  obtain ⟨rfl, rfl, rfl⟩ := trodAll_nil r0
  obtain rfl : args = #[v0] := by cases args; simp_all
  obtain ⟨rfl, rfl⟩ := trodVars_none hV
  have k0 := h0
  have lt0 : ∀ x ∈ p0, x.block < W.heap.size := by obtain ⟨m, hm⟩ := k0; exact DataW.trod_lt m _ _ _ hm
  obtain ⟨A0, c0, ts0, rfl, hts0, h560, h160⟩ := open_graph (hval 0 24 v0 rfl rfl) h0 (light_arg hsz (j := 0) rfl rfl)
  clear hA0 hval0
  refine (turned_walk W A0 c0 ts0 hts0 h560 h160).mono fun e W' ⟨he, bel0⟩ => ?_
  subst he
  have bel := bel0.all
  exact ⟨_, rfl, _, _, _, [], _, [], hW', trodAll_mk1 (shut_bool Try.underlying4 _), (trodAll_cons_mk (Below.trod laidOut (by kernel_rfl) (of_decide_eq_true (by kernel_rfl)) k0 bel lt0) trodAll_mk0), rfl, bel.frame _, fun h => by cases h⟩

theorem over : Rows.graphTurnedRow.holds Try.pinned (OpenSpec.ofChange Rows.graphTurnedSpec) :=
  OpenClaim.holds_of_wide 6 Try.f6 rfl rfl rfl rfl rfl rfl rfl ⟨rfl, rfl, rfl, rfl, rfl⟩ rfl rfl rfl rfl rfl (by kernel_rfl) Try.func6 (by kernel_rfl)
    (of_decide_eq_true (by kernel_rfl)) (by unfold Func.isWrapper; first | (rw [if_pos (by decide +kernel)]; kernel_rfl) | (rw [if_neg (by decide +kernel)]; exact ⟨rfl, rfl⟩))
    (fun os started H enc _ => lifted os started H enc)

theorem proved : Rows.GraphTurnedSaid := over
end GraphTurned
end Go.Proofs.Ytbcedkcopikcfaa
