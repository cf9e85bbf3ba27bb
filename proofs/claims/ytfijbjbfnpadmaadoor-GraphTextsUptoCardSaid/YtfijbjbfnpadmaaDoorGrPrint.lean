/-
  graph.Print: the text of a graph.
-/
import Derived.Test.YtfijbjbfnpadmaaDoorGrCheck
import Derived.Test.YtfijbjbfnpadmaaDoorBld
namespace Go.Proofs.YtfijbjbfnpadmaaDoor
open Go.RowKit

/-- A need behind a blank. -/
def needText (s : ByteArray) : List UInt8 := 32 :: s.data.toList
/-- A target's lines. -/
def cmdText (s : ByteArray) : List UInt8 := if s.size = 0 then [] else 9 :: s.data.toList ++ [10]
def ptText (p : Pt) : List UInt8 := p.name.data.toList ++ [58] ++ p.needs.flatMap needText ++ [10] ++ cmdText p.cmd
/-- A graph's text. -/
def grText (ps : List Pt) : List UInt8 := ps.flatMap ptText

/-- Within all limits. -/
def Lim (t : Tg) : Prop := t.name.size ≤ 32 ∧ t.cmd.size ≤ 256 ∧ t.needs.length ≤ 16 ∧ ∀ s ∈ t.needs, s.size ≤ 32

theorem check_lim {ts : List Tg} (h : grCheck (ts.map Tg.plain) = 0) : ts.length ≤ 32 ∧ ∀ t ∈ ts, Lim t := by
  obtain ⟨hf, _, hc, _⟩ := check_fits h
  have hfit : ∀ t ∈ ts, t.name.size ≤ 32 ∧ t.cmd.size ≤ 256 ∧ t.needs.length ≤ 16 := fun t ht => by
    unfold grFits at hf
    rw [Bool.and_eq_true, List.all_eq_true] at hf
    have h2 := hf.2 t.plain (List.mem_map.2 ⟨t, ht, rfl⟩)
    unfold ptFits at h2
    rw [Bool.and_eq_true, Bool.and_eq_true, decide_eq_true_eq, decide_eq_true_eq, decide_eq_true_eq] at h2
    exact ⟨h2.1.1, h2.1.2, h2.2⟩
  refine ⟨(fits_few hf).1, fun t ht => ⟨(hfit t ht).1, (hfit t ht).2.1, (hfit t ht).2.2, fun s hs => ?_⟩⟩
  unfold grClosed at hc
  rw [List.all_eq_true] at hc
  have h2 := of_decide_eq_true (hc t.plain (List.mem_map.2 ⟨t, ht, rfl⟩))
  unfold needsOf at h2
  cases hn : findIx (ts.map Tg.plain) s with
  | none =>
    have h3 := List.filterMap_length_eq_length.1 h2 s hs
    rw [hn] at h3
    cases h3
  | some k =>
    obtain ⟨p, hp, rfl⟩ := findIx_name hn
    obtain ⟨t', ht', rfl⟩ := plain_of hp
    exact (hfit t' (List.mem_of_getElem? ht')).1

theorem flat_le {α : Type} (f : α → List UInt8) (l : List α) (n : Nat) (h : ∀ x ∈ l, (f x).length ≤ n) : (l.flatMap f).length ≤ l.length * n := by
  induction l with
  | nil => simp
  | cons a l ih =>
    have h1 := h a (by simp)
    have h2 := ih (fun x hx => h x (by simp [hx]))
    rw [List.flatMap_cons, List.length_append, List.length_cons, Nat.succ_mul]
    omega
theorem needs_le {t : Tg} (h : Lim t) (k : Nat) : ((t.needs.take k).flatMap needText).length ≤ 16 * 33 := by
  have h1 := flat_le needText (t.needs.take k) 33 (fun s hs => by
    have := h.2.2.2 s (List.mem_of_mem_take hs)
    simp only [needText, List.length_cons, Array.length_toList]
    have e : s.data.size = s.size := rfl
    omega)
  have h2 : (t.needs.take k).length ≤ 16 := Nat.le_trans (List.length_take_le' _ _) h.2.2.1
  omega
theorem cmdText_le {s : ByteArray} (h : s.size ≤ 256) : (cmdText s).length ≤ 258 := by
  unfold cmdText
  split
  · simp
  · simp only [List.length_cons, List.length_append, Array.length_toList, List.length_nil]
    have e : s.data.size = s.size := rfl
    omega
theorem ptText_le {t : Tg} (h : Lim t) : (ptText t.plain).length ≤ 1000 := by
  have h1 := needs_le h t.needs.length
  rw [List.take_length] at h1
  have h2 := cmdText_le h.2.1
  have h3 : t.name.data.toList.length = t.name.size := by rw [Array.length_toList]; rfl
  have h4 := h.1
  unfold ptText Tg.plain
  simp only [List.length_append, List.length_cons, List.length_nil]
  omega
theorem grText_le {ts : List Tg} (h : ∀ t ∈ ts, Lim t) (hl : ts.length ≤ 32) (k : Nat) : (grText ((ts.take k).map Tg.plain)).length ≤ 32000 := by
  have h1 := flat_le ptText ((ts.take k).map Tg.plain) 1000 (fun p hp => by
    obtain ⟨t, ht, rfl⟩ := List.mem_map.1 hp
    exact ptText_le (h t (List.mem_of_mem_take ht)))
  rw [List.length_map] at h1
  have h2 : (ts.take k).length ≤ 32 := Nat.le_trans (List.length_take_le' _ _) hl
  unfold grText
  omega
theorem grText_more {ts : List Tg} {k : Nat} {t : Tg} (h : ts[k]? = some t) : grText ((ts.take (k + 1)).map Tg.plain) = grText ((ts.take k).map Tg.plain) ++ ptText t.plain := by
  unfold grText
  rw [List.take_add_one, h, List.map_append, List.flatMap_append]
  simp
theorem needText_more {ss : List ByteArray} {k : Nat} {s : ByteArray} (h : ss[k]? = some s) : (ss.take (k + 1)).flatMap needText = (ss.take k).flatMap needText ++ needText s := by
  rw [List.take_add_one, h, List.flatMap_append]
  simp

/-- What Print answers. -/
def printOf (ps : List Pt) : List UInt8 := if grCheck ps = 0 then grText ps else []

/-- A block that is no bytes and is not the builder's stays. -/
theorem box_bld {w w' : World} {B b g : Nat} {t : TypeId} {cs : Array Value} (h : Box w g t cs) (k : Keep (bldS B b w) w w') (hne : g ≠ b) (ht : t ≠ 5) : Box w' g t cs := by
  refine h.keep k ?_
  rintro ⟨_, h1 | ⟨cs', fz, h1⟩⟩
  · exact hne h1
  · unfold Box at h
    rw [h] at h1
    injection h1 with h1
    injection h1 with _ h2
    exact ht h2
theorem keep_bld {w0 w w' : World} {B b : Nat} (h : Keep noneOf w0 w) (k : Keep (bldS B b w) w w') (hB : w0.heap.size ≤ B) : Keep noneOf w0 w' :=
  h.trans k (fun i hi hs => absurd hs.1 (by omega))

theorem bld_alloc {T e : TypeId} {B b : Nat} {bs : List Value} {w : World} (h : Lib.IsBuilder T e B b bs w) (o : Obj) : Lib.IsBuilder T e B b bs (w.alloc o) := by
  have key : ∀ p, Lib.BuilderAt T e B b p bs w → Lib.BuilderAt T e B b p bs (w.alloc o) := fun p ⟨hB, v, hb, hown, hne⟩ =>
    ⟨hB, v, (Below.heap_alloc w o b (Array.getElem?_eq_some_iff.1 hb).1).trans hb, hown.alloc o, hne⟩
  exact h.elim (fun h => .inl (key _ h)) (fun h => .inr (key _ h))

theorem Keep.below_trans {w w' w'' : World} {S : Nat → Prop} {B : Nat} (h : Keep S w w') (k : Below B w' w'') (hB : w.heap.size ≤ B) : Keep S w w'' :=
  ⟨k.os.trans h.os, k.tape.trans h.tape, k.output.trans h.output, Nat.le_trans h.size k.size, fun i hi hs => (k.block i (by omega)).trans (h.block i hi hs)⟩
theorem bc_app (acc : List UInt8) (s : ByteArray) : Lib.byteCells acc ++ Lib.strCells s = Lib.byteCells (acc ++ s.data.toList) := by simp [Lib.byteCells, Lib.strCells]
theorem data_app (a b : ByteArray) : (a ++ b).data.toList = a.data.toList ++ b.data.toList := by simp
theorem bld_lt {T e : TypeId} {B b : Nat} {bs : List Value} {w : World} (h : Lib.IsBuilder T e B b bs w) : b < w.heap.size := by rcases h with h | h <;> exact h.lt

set_option maxRecDepth 100000 in
set_option maxHeartbeats 1000000 in
theorem print_any (w : World) (D : Nat → Prop) (v : Value) (ts : List Tg) (h : Tgs w D v ts) :
    Calls Tryd.prog 5 #[.agg #[v]] w fun e w' => e = .returned (.tuple #[.string ⟨(printOf (ts.map Tg.plain)).toArray⟩, .int .i64 (grCheck (ts.map Tg.plain))]) ∧ Keep noneOf w w' := by
  have HH := Lib.hid h
  obtain ⟨A, c, rfl, hlc, hcm, hn, hxl, hc⟩ := h.1
  unfold maxLen at hcm
  have ka := (Keep.refl noneOf w).alloc (.cells #[.slice A ts.length c] 24)
  have HK0 := Lib.hid ka
  have HX0 := Lib.hid (Box.new w 24 #[.slice A ts.length c])
  have HCK := Lib.hid (check_any _ D _ ts (HH.out.keep ka (fun _ _ _ => id)))
  have HC := Lib.hid hc
  have HT := Lib.hid h.2
  clear hc h hxl hn ka
  by_cases hq : grCheck (ts.map Tg.plain) = 0
  · obtain ⟨h32, hlim⟩ := check_lim hq
    have hR : printOf (ts.map Tg.plain) = grText (ts.map Tg.plain) := by unfold printOf; rw [if_pos hq]
    rw [hq] at HCK ⊢
    rw [hR]
    have HLIM := Lib.hid hlim
    clear hq hlim hR
    go_enter Tryd.func5, Tryd.ntmps5
    go_wp2_with fail
    refine HCK.out.mono ?_
    rintro e w1 ⟨rfl, k1⟩
    have K1 := HK0.out.trans k1 (fun _ _ h => h)
    have X1 := HX0.out.keep k1 id
    have x1 : w1.cell? ⟨w.heap.size, 0, none⟩ = some (.slice A ts.length c) := X1.cell 0
    have hz1 := X1.lt
    have HB1 := Lib.hid (Lib.fresh_isBuilder 37 5 w1)
    have HK1 := Lib.hid (K1.alloc (.cells #[.pointer none, .slice none 0 0] 37))
    clear HCK HK0 HX0 k1 K1 X1
    go_wp2_with fail
    generalize w1.heap.size = b at *
    go_loopw [18] (fun i wr => ∃ k : Nat, k ≤ ts.length ∧ i = .int .i64 k ∧ Keep noneOf w wr ∧ Lib.IsBuilder 37 5 b b (Lib.byteCells (grText ((ts.take k).map Tg.plain))) wr) (fun i _ => ts.length - (intOf i).toNat)
    case atStart => exact ⟨0, Nat.zero_le _, rfl, HK1.out, HB1.out⟩
    case round =>
      obtain ⟨k, hk, rfl, hkeep, hb⟩ := hrel
      by_cases hlt : k < ts.length
      · obtain ⟨ad, rfl, hsp, hblk, hD, hcell⟩ := HC.out (by omega)
        obtain ⟨b0, o, sp⟩ := ad
        simp only at hsp hblk hD hcell
        subst hsp
        have HS := Lib.hid (List.getElem?_eq_getElem hlt)
        have hlies := HT.out _ (List.getElem_mem hlt)
        have hlim := HLIM.out _ (List.getElem_mem hlt)
        generalize ts[k] = t at *
        obtain ⟨c0, c1, c2⟩ := tgs_at hkeep hblk hcell HS.out
        obtain ⟨nm, cm, nv, ss⟩ := t
        obtain ⟨l1, l2, ⟨A2, cp2, hnv, hl2, hm2, _, _, hrow⟩, _⟩ := hlies
        simp only at c0 c1 c2 hnv l1 l2 hl2 hrow
        subst hnv
        unfold maxLen at hm2
        have HLT := Lib.hid hlim
        have n1 : nm.size ≤ 32 := hlim.1
        have n2 : cm.size ≤ 256 := hlim.2.1
        have n3 : ss.length ≤ 16 := hlim.2.2.1
        have HN4 : Hid (∀ s ∈ ss, s.size ≤ 32) := hlim.2.2.2
        have HROW := Lib.hid hrow
        have hbz : b < wr.heap.size := by rcases hb with hb | hb <;> exact hb.lt
        have hgl := grText_le HLIM.out h32 k
        have HGM := Lib.hid (grText_more HS.out)
        generalize grText ((ts.take k).map Tg.plain) = acc at *
        have ka := (Keep.refl noneOf wr).alloc (.cells #[.string nm, .string cm, .slice A2 ss.length cp2] 40)
        have B0 := bld_alloc hb (.cells #[.string nm, .string cm, .slice A2 ss.length cp2] 40)
        have HKA := Lib.hid (hkeep.alloc (.cells #[.string nm, .string cm, .slice A2 ss.length cp2] 40))
        have HY := Lib.hid (Box.new wr 40 #[.string nm, .string cm, .slice A2 ss.length cp2])
        have HW1 := Lib.hid (writeString_any b b _ (nm ++ ⟨#[58]⟩) _ B0 (by rw [Lib.byteCells_length, ByteArray.size_append]; have : (⟨#[58]⟩ : ByteArray).size = 1 := rfl; omega) (by simp; omega))
        clear hlim l1 l2 hrow hb hkeep hcell ka B0 HK1 HB1
        go_wp2_with fail
        refine HW1.out.mono ?_
        rintro e w2 ⟨rfl, b2, k2⟩
        have K2 := keep_bld HKA.out k2 (by omega)
        have Y2 := box_bld HY.out k2 (by omega) (by decide)
        rw [bc_app, data_app] at b2
        have hacc1 : (acc ++ (nm.data.toList ++ [58])).length ≤ 32100 := by
          have e : nm.data.toList.length = nm.size := by rw [Array.length_toList]; rfl
          simp only [List.length_append, List.length_cons, List.length_nil]
          omega
        have hb58 : (acc ++ (nm.data.toList ++ (⟨#[58]⟩ : ByteArray).data.toList)) = acc ++ (nm.data.toList ++ [58]) := rfl
        rw [hb58] at b2
        obtain ⟨acc1, ha1⟩ : ∃ acc1, acc ++ (nm.data.toList ++ [58]) = acc1 := ⟨_, rfl⟩
        rw [ha1] at b2 hacc1
        have HA1 := Lib.hid ha1
        have y2 : w2.cell? ⟨wr.heap.size, 2, none⟩ = some (.slice A2 ss.length cp2) := Y2.cell 2
        have HK2 := Lib.hid K2
        have HY2 := Lib.hid Y2
        have HB2 := Lib.hid b2
        clear HKA HY HW1 k2 ha1 hb58 K2 Y2 b2
        have htb : b < wr.heap.size := hbz
        go_wp2_with fail
        generalize wr.heap.size = tb at *
        go_loopw [29] (fun i wr => ∃ m : Nat, m ≤ ss.length ∧ i = .int .i64 m ∧ Keep noneOf w wr ∧ Box wr tb 40 #[.string nm, .string cm, .slice A2 ss.length cp2] ∧ Lib.IsBuilder 37 5 b b (Lib.byteCells (acc1 ++ (ss.take m).flatMap needText)) wr) (fun i _ => ss.length - (intOf i).toNat)
        case atStart => exact ⟨0, Nat.zero_le _, rfl, HK2.out, HY2.out, by simpa using HB2.out⟩
        case round =>
          obtain ⟨m, hm, rfl, hkeep2, hY, hb⟩ := hrel
          have hnl := needs_le HLT.out m
          have hnl' : ((ss.take m).flatMap needText).length ≤ 528 := hnl
          have hbw := bld_lt hb
          by_cases hlt2 : m < ss.length
          · obtain ⟨ad2, rfl, hsp2, hblk2, _, hcell2⟩ := HROW.out (by omega)
            obtain ⟨bb, oo, sp2⟩ := ad2
            simp only at hsp2 hblk2 hcell2
            subst hsp2
            have hck : wr.cell? ⟨bb, oo + m, none⟩ = some (.string ss[m]) := (hkeep2.cell (p := ⟨bb, oo + m, none⟩) hblk2 id).trans (hcell2 m _ (by simp [List.getElem?_eq_getElem hlt2]))
            have hs32 := HN4.out _ (List.getElem_mem hlt2)
            have HNM := Lib.hid (needText_more (List.getElem?_eq_getElem hlt2))
            generalize ss[m] = s at *
            have HW := Lib.hid (writeString_any b b _ ((⟨#[32]⟩ : ByteArray) ++ s) _ hb (by rw [Lib.byteCells_length, ByteArray.size_append, List.length_append]; have : (⟨#[32]⟩ : ByteArray).size = 1 := rfl; omega) (by omega))
            have HY3 := Lib.hid hY
            have HK3 := Lib.hid hkeep2
            clear hcell2 hb hY hkeep2 hnl HK2 HY2 HB2
            go_wp2_with fail
            refine HW.out.mono ?_
            rintro e w3 ⟨rfl, b3, k3⟩
            rw [bc_app, data_app, List.append_assoc] at b3
            go_wp2
            go_roundw
            case rel =>
              refine ⟨m + 1, by omega, by go_num, keep_bld HK3.out k3 (by omega), box_bld HY3.out k3 (by omega) (by decide), ?_⟩
              rw [HNM.out]
              exact b3
            case measure => simp [intOf]; omega
          · have hte : ss.take m = ss := List.take_of_length_le (by omega)
            rw [hte] at hb hnl'
            have HW := Lib.hid (writeString_any b b _ (⟨#[10]⟩ : ByteArray) _ hb (by rw [Lib.byteCells_length, List.length_append]; have : (⟨#[10]⟩ : ByteArray).size = 1 := rfl; omega) (by omega))
            have HY3 := Lib.hid hY
            have HK3 := Lib.hid hkeep2
            clear hb hY hkeep2 hnl hte HK2 HY2 HB2
            go_wp2_with fail
            refine HW.out.mono ?_
            rintro e w3 ⟨rfl, b3, k3⟩
            have K3 := keep_bld HK3.out k3 (by omega)
            have Y3 := box_bld HY3.out k3 (by omega) (by decide)
            have y1 : w3.cell? ⟨tb, 1, none⟩ = some (.string cm) := Y3.cell 1
            rw [bc_app] at b3
            have hbw3 := bld_lt b3
            by_cases hcm0 : cm.size = 0
            · have HF := Lib.hid (show ptText (Tg.plain ⟨nm, cm, .slice A2 ss.length cp2, ss⟩) = nm.data.toList ++ [58] ++ ss.flatMap needText ++ [10] by
                unfold ptText cmdText Tg.plain
                simp [hcm0])
              have hce : cm.toList = [] := by
                rw [ByteArray.toList_eq]
                exact List.eq_nil_of_length_eq_zero (by rw [Array.length_toList]; exact hcm0)
              have hcc : (!cm.toList.isEmpty) = false := by rw [hce]; rfl
              clear hcm0
              go_wp2
              go_roundw
              case rel =>
                refine ⟨k + 1, by omega, by go_num, K3, ?_⟩
                rw [HGM.out, HF.out, ← List.append_assoc, ← List.append_assoc, HA1.out]
                exact b3
              case measure => simp [intOf]; omega
            · have HF := Lib.hid (show ptText (Tg.plain ⟨nm, cm, .slice A2 ss.length cp2, ss⟩) = nm.data.toList ++ [58] ++ ss.flatMap needText ++ [10] ++ (9 :: cm.data.toList ++ [10]) by
                unfold ptText cmdText Tg.plain
                simp [hcm0])
              have hcc : (!cm.toList.isEmpty) = true := by rw [str_some]; simpa using hcm0
              have hcd : cm.toList.isEmpty = false := by simpa using hcc
              have HW2 := Lib.hid (writeString_any b b _ ((⟨#[9]⟩ : ByteArray) ++ cm ++ (⟨#[10]⟩ : ByteArray)) _ b3 (by rw [Lib.byteCells_length, ByteArray.size_append, ByteArray.size_append, List.length_append, List.length_append]; have : (⟨#[9]⟩ : ByteArray).size = 1 := rfl; have : (⟨#[10]⟩ : ByteArray).size = 1 := rfl; have : (⟨#[10]⟩ : ByteArray).data.toList.length = 1 := rfl; omega) (by omega))
              have HK4 := Lib.hid K3
              clear hcm0 b3 K3 HW k3
              go_wp2_with fail
              refine HW2.out.mono ?_
              rintro e w4 ⟨rfl, b4, k4⟩
              rw [bc_app, data_app, data_app] at b4
              go_wp2
              go_roundw
              case rel =>
                refine ⟨k + 1, by omega, by go_num, keep_bld HK4.out k4 (by omega), ?_⟩
                rw [HGM.out, HF.out, show acc ++ (nm.data.toList ++ [58] ++ ss.flatMap needText ++ [10] ++ (9 :: cm.data.toList ++ [10])) = acc1 ++ ss.flatMap needText ++ (⟨#[10]⟩ : ByteArray).data.toList ++ ((⟨#[9]⟩ : ByteArray).data.toList ++ cm.data.toList ++ (⟨#[10]⟩ : ByteArray).data.toList) from by rw [← HA1.out]; simp]
                exact b4
              case measure => simp [intOf]; omega
      · have hte : ts.take k = ts := List.take_of_length_le (by omega)
        rw [hte] at hb
        have hbw := bld_lt hb
        have HW := Lib.hid (bldString b b _ _ hb (by omega))
        have HKP := Lib.hid hkeep
        clear hb hkeep hte HK1 HB1
        go_wp2_with fail
        refine HW.out.mono ?_
        rintro e w4 ⟨rfl, k4⟩
        go_wp2
        go_ret2
        exact ⟨rfl, HKP.out.below_trans k4 (by omega)⟩
  · have hR : printOf (ts.map Tg.plain) = [] := by unfold printOf; rw [if_neg hq]
    rw [hR]
    have g : (grCheck (ts.map Tg.plain) != 0) = true := by rw [bne_iff_ne]; exact hq
    have g' : (grCheck (ts.map Tg.plain) == 0) = false := by rw [beq_eq_false_iff_ne]; exact hq
    generalize grCheck (ts.map Tg.plain) = R at *
    clear hq hR HT HC
    go_enter Tryd.func5, Tryd.ntmps5
    go_wp2_with fail
    refine HCK.out.mono ?_
    rintro e w1 ⟨rfl, k1⟩
    have K1 := HK0.out.trans k1 (fun _ _ h => h)
    go_wp2
    go_ret2
    exact ⟨rfl, K1⟩
end Go.Proofs.YtfijbjbfnpadmaaDoor
