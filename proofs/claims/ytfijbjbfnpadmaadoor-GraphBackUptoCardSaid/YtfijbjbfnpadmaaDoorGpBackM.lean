/-
  Texts of graphs, written then read, and read then written, plainly.
-/
import Derived.Test.YtfijbjbfnpadmaaDoorGpCutM
import Derived.Test.YtfijbjbfnpadmaaDoorGrPrint
import Derived.Test.YtfijbjbfnpadmaaDoorGrMath
namespace Go.Proofs.YtfijbjbfnpadmaaDoor

theorem grText_cons (p : Pt) (ps : List Pt) : grText (p :: ps) = ptText p ++ grText ps := by unfold grText; rw [List.flatMap_cons]
theorem grText_app (ps qs : List Pt) : grText (ps ++ qs) = grText ps ++ grText qs := by unfold grText; rw [List.flatMap_append]
theorem split_join (c : UInt8) : ∀ (l : List UInt8) (h : List UInt8) (t : List (List UInt8)), splitB c l = h :: t → l = h ++ t.flatMap (fun x => c :: x)
  | [], h, t, e => by
    rw [show splitB c [] = [[]] from rfl] at e
    injection e with e1 e2
    subst e1 e2
    rfl
  | b :: l, h, t, e => by
    obtain ⟨h1, t1, e1⟩ := splitB_ne c l
    have ih := split_join c l h1 t1 e1
    rw [splitB, e1] at e
    split at e
    · rename_i hb
      injection e with e2 e3
      subst e2 e3 hb
      rw [List.flatMap_cons, ih]
      rfl
    · injection e with e2 e3
      subst e2 e3
      rw [List.cons_append, ← ih]
theorem split_words (ws : List (List UInt8)) (h : ∀ w ∈ ws, ∀ b ∈ w, b ≠ 32) : ∀ (w0 : List UInt8), (∀ b ∈ w0, b ≠ 32) → splitB 32 (w0 ++ ws.flatMap (fun x => 32 :: x)) = w0 :: ws := by
  induction ws with
  | nil =>
    intro w0 h0
    simp only [List.flatMap_nil, List.append_nil]
    exact split_out h0
  | cons w ws ih =>
    intro w0 h0
    rw [List.flatMap_cons, List.cons_append, split_in _ h0, ih (fun x hx => h x (List.mem_cons_of_mem _ hx)) w (h w List.mem_cons_self)]
theorem good_byte {w : List UInt8} (h : goodW w = true) {b : UInt8} (hb : b ∈ w) : wordB b = true := by
  unfold goodW at h
  rw [Bool.and_eq_true] at h
  exact List.all_eq_true.1 h.1 b hb
theorem rest_words {ws : List (List UInt8)} (h : ∀ w ∈ ws, goodW w = true) : restP (ws.flatMap (fun x => 32 :: x)) = some ws := by
  have e := split_words ws (fun w hw b hb => wordB_ne (good_byte (h w hw) hb) (.inr (.inl rfl))) [] (fun b hb => by cases hb)
  rw [List.nil_append] at e
  unfold restP
  rw [e]
  simp only
  rw [if_pos (List.all_eq_true.2 h)]
theorem rest_text {r : List UInt8} {ws : List (List UInt8)} (h : restP r = some ws) : r = ws.flatMap (fun x => 32 :: x) := by
  unfold restP at h
  obtain ⟨h1, t, e⟩ := splitB_ne 32 r
  rw [e] at h
  cases h1 with
  | nil =>
    simp only at h
    split at h
    · injection h with h
      subst h
      have := split_join 32 r [] t e
      simpa using this
    · cases h
  | cons x l => cases h
theorem line_words {a : List UInt8} {ws : List (List UInt8)} (ha : goodW a = true) (h : ∀ w ∈ ws, goodW w = true) : lineP (a ++ 58 :: ws.flatMap (fun x => 32 :: x)) = some (a, ws) := by
  rw [line_some _ (fun b hb => wordB_ne (good_byte ha hb) (.inl rfl)), if_pos ha, rest_words h]
  rfl
theorem line_text {l a : List UInt8} {ws : List (List UInt8)} (h : lineP l = some (a, ws)) : l = a ++ 58 :: ws.flatMap (fun x => 32 :: x) := by
  rcases byte_cases 58 l with hn | ⟨a', r, rfl, ha⟩
  · rw [line_none hn] at h
    cases h
  · rw [line_some r ha] at h
    split at h
    · cases hr : restP r with
      | none => rw [hr] at h; cases h
      | some ws' =>
        rw [hr] at h
        simp only [Option.map_some, Option.some.injEq, Prod.mk.injEq] at h
        obtain ⟨rfl, rfl⟩ := h
        rw [rest_text hr]
    · cases h

/-! read, then written -/
theorem ptText_line (a : List UInt8) (ws : List (List UInt8)) : ptText ⟨mk a, ⟨#[]⟩, ws.map mk⟩ = a ++ 58 :: ws.flatMap (fun x => 32 :: x) ++ [10] := by
  unfold ptText cmdText
  rw [if_pos (show (⟨#[]⟩ : ByteArray).size = 0 from rfl)]
  have e : (ws.map mk).flatMap needText = ws.flatMap (fun x => 32 :: x) := by
    rw [List.flatMap_map]
    rfl
  show a ++ [58] ++ (ws.map mk).flatMap needText ++ [10] ++ [] = _
  rw [e]
  simp
theorem add_text {ps qs : List Pt} {l : List UInt8} (h : addLineP ps l = some qs) : grText qs = grText ps ++ l ++ [10] := by
  cases l with
  | nil => cases h
  | cons b c =>
    by_cases hb : b = 9
    · subst hb
      have h' : (match ps.getLast? with
        | none => none
        | some t => if c = [] ∨ t.cmd.size ≠ 0 then none else some (ps.dropLast ++ [(⟨t.name, mk c, t.needs⟩ : Pt)])) = some qs := h
      cases hp : ps.getLast? with
      | none => rw [hp] at h'; cases h'
      | some t =>
        rw [hp] at h'
        simp only at h'
        split at h'
        · cases h'
        · rename_i hc
          injection h' with h'
          subst h'
          have hps : ps = ps.dropLast ++ [t] := by
            have hne : ps ≠ [] := by rintro rfl; cases hp
            have := List.dropLast_concat_getLast hne
            rw [List.getLast?_eq_some_getLast hne] at hp
            injection hp with hp
            rw [hp] at this
            exact this.symm
          have hcm : t.cmd.size = 0 := Classical.byContradiction fun hh => hc (.inr hh)
          have hcn : c ≠ [] := fun hh => hc (.inl hh)
          have hcl : (mk c).size ≠ 0 := by
            rw [mk_size]
            cases c with
            | nil => exact absurd rfl hcn
            | cons x l => simp
          rw [grText_app]
          conv => rhs; rw [hps]
          rw [grText_app]
          have e1 : grText [(⟨t.name, mk c, t.needs⟩ : Pt)] = grText [t] ++ (9 :: c) ++ [10] := by
            unfold grText
            simp only [List.flatMap_cons, List.flatMap_nil, List.append_nil]
            unfold ptText cmdText
            rw [if_pos hcm, if_neg hcl]
            show _ ++ (9 :: c ++ [10]) = _
            simp
          rw [e1]
          simp
    · have h' : (lineP (b :: c)).map (fun q => ps ++ [(⟨mk q.1, ⟨#[]⟩, q.2.map mk⟩ : Pt)]) = some qs := by
        have : addLineP ps (b :: c) = (if b = 9 then _ else (lineP (b :: c)).map (fun q => ps ++ [(⟨mk q.1, ⟨#[]⟩, q.2.map mk⟩ : Pt)])) := rfl
        rw [this, if_neg hb] at h
        exact h
      cases hl : lineP (b :: c) with
      | none => rw [hl] at h'; cases h'
      | some q =>
        rw [hl] at h'
        injection h' with h'
        subst h'
        obtain ⟨a, ws⟩ := q
        rw [line_text hl, grText_app]
        unfold grText
        simp only [List.flatMap_cons, List.flatMap_nil, List.append_nil, ptText_line]
        simp
theorem parse_text : ∀ (n : Nat) (l : List UInt8) (ps qs : List Pt), l.length ≤ n → parseL (splitB 10 l) ps = some qs → grText qs = grText ps ++ l
  | n, l, ps, qs, hn, h => by
    rcases byte_cases 10 l with hb | ⟨a, r, rfl, ha⟩
    · cases l with
      | nil =>
        rw [parse_nil] at h
        injection h with h
        rw [h]
        simp
      | cons x l =>
        rw [parse_end ps hb (by simp)] at h
        cases h
    · rw [split_in r ha] at h
      have e : parseL (a :: splitB 10 r) ps = (addLineP ps a).bind (parseL (splitB 10 r)) := by
        obtain ⟨m, ls, e⟩ := splitB_ne 10 r
        rw [e]
        rfl
      rw [e] at h
      cases n with
      | zero => simp at hn
      | succ n =>
        cases hq : addLineP ps a with
        | none => rw [hq] at h; cases h
        | some ps' =>
          rw [hq] at h
          have ih := parse_text n r ps' qs (by simp at hn; omega) h
          rw [ih, add_text hq]
          simp

/-! written, then read -/
theorem name_good {s : ByteArray} (h : isNameB s = true) : goodW (bl s) = true ∧ (∀ b ∈ bl s, b ≠ 10) ∧ ∃ b c, bl s = b :: c ∧ b ≠ 9 := by
  unfold isNameB at h
  rw [Bool.and_eq_true, decide_eq_true_eq] at h
  obtain ⟨h1, h2⟩ := h
  have hall : ∀ b ∈ bl s, nameB b = true := List.all_eq_true.1 h1
  have hb : ∀ b ∈ bl s, 33 ≤ b.toNat ∧ b.toNat ≠ 58 := fun b hb => by
    have := hall b hb
    unfold nameB at this
    simp only [Bool.and_eq_true, decide_eq_true_eq] at this
    exact ⟨this.1.1, this.2⟩
  have hne : bl s ≠ [] := fun e => h2 (by rw [← bl_length, e]; rfl)
  refine ⟨?_, fun b hbb e => ?_, ?_⟩
  · unfold goodW
    rw [Bool.and_eq_true]
    refine ⟨List.all_eq_true.2 fun b hbb => ?_, ?_⟩
    · obtain ⟨h3, h4⟩ := hb b hbb
      unfold wordB
      simp only [Bool.and_eq_true, decide_eq_true_eq]
      omega
    · cases hx : bl s with
      | nil => exact absurd hx hne
      | cons x l => rfl
  · obtain ⟨h3, _⟩ := hb b hbb
    rw [e] at h3
    exact absurd h3 (by decide)
  · cases hx : bl s with
    | nil => exact absurd hx hne
    | cons x l =>
      refine ⟨x, l, rfl, fun e => ?_⟩
      obtain ⟨h3, _⟩ := hb x (by rw [hx]; exact List.mem_cons_self)
      rw [e] at h3
      exact absurd h3 (by decide)
theorem cmd_no10 {s : ByteArray} (h : isCmdB s = true) : ∀ b ∈ bl s, b ≠ 10 := fun b hb e => by
  have := List.all_eq_true.1 h b hb
  rw [e] at this
  exact absurd this (by decide)
/-- May a target be written and read? -/
def textOk (p : Pt) : Prop := isNameB p.name = true ∧ isCmdB p.cmd = true ∧ ∀ m ∈ p.needs, isNameB m = true
theorem words_bl (p : Pt) : (p.needs.map bl).flatMap (fun x => 32 :: x) = p.needs.flatMap needText := by
  rw [List.flatMap_map]
  rfl
theorem map_mk_bl (l : List ByteArray) : (l.map bl).map mk = l := by
  rw [List.map_map]
  exact List.map_id _
theorem parse_cons {a : List UInt8} (r : List UInt8) (ps : List Pt) (ha : ∀ b ∈ a, b ≠ 10) : parseL (splitB 10 (a ++ 10 :: r)) ps = (addLineP ps a).bind (parseL (splitB 10 r)) := by
  rw [split_in r ha]
  obtain ⟨m, ls, e⟩ := splitB_ne 10 r
  rw [e]
  rfl
theorem parse_target (p : Pt) (h : textOk p) (r : List UInt8) (ps : List Pt) : parseL (splitB 10 (ptText p ++ r)) ps = parseL (splitB 10 r) (ps ++ [p]) := by
  obtain ⟨hn, hc, hw⟩ := h
  obtain ⟨g1, g2, x, l, g3, g4⟩ := name_good hn
  have hline : lineP (bl p.name ++ 58 :: (p.needs.map bl).flatMap (fun x => 32 :: x)) = some (bl p.name, p.needs.map bl) := line_words g1 (fun w hw' => by
    obtain ⟨m, hm, rfl⟩ := List.mem_map.1 hw'
    exact (name_good (hw m hm)).1)
  have hno : ∀ b ∈ bl p.name ++ 58 :: (p.needs.map bl).flatMap (fun x => 32 :: x), b ≠ 10 := fun b hb => by
    rcases List.mem_append.1 hb with hb | hb
    · exact g2 b hb
    · rcases List.mem_cons.1 hb with rfl | hb
      · decide
      · obtain ⟨w, hw1, hw2⟩ := List.mem_flatMap.1 hb
        obtain ⟨m, hm, rfl⟩ := List.mem_map.1 hw1
        rcases List.mem_cons.1 hw2 with rfl | hw2
        · decide
        · exact (name_good (hw m hm)).2.1 b hw2
  have hadd : addLineP ps (bl p.name ++ 58 :: (p.needs.map bl).flatMap (fun x => 32 :: x)) = some (ps ++ [⟨p.name, ⟨#[]⟩, p.needs⟩]) := by
    have e : addLineP ps (bl p.name ++ 58 :: (p.needs.map bl).flatMap (fun x => 32 :: x)) = (lineP (bl p.name ++ 58 :: (p.needs.map bl).flatMap (fun x => 32 :: x))).map (fun q => ps ++ [(⟨mk q.1, ⟨#[]⟩, q.2.map mk⟩ : Pt)]) := by
      rw [g3, List.cons_append]
      show (if x = 9 then _ else _) = _
      rw [if_neg g4]
    rw [e, hline]
    simp only [Option.map_some, mk_bl, map_mk_bl]
  have htext : ptText p ++ r = (bl p.name ++ 58 :: (p.needs.map bl).flatMap (fun x => 32 :: x)) ++ 10 :: (cmdText p.cmd ++ r) := by
    rw [words_bl]
    unfold ptText
    show bl p.name ++ [58] ++ p.needs.flatMap needText ++ [10] ++ cmdText p.cmd ++ r = _
    simp
  rw [htext, parse_cons _ _ hno, hadd]
  show parseL (splitB 10 (cmdText p.cmd ++ r)) (ps ++ [⟨p.name, ⟨#[]⟩, p.needs⟩]) = _
  by_cases hz : p.cmd.size = 0
  · unfold cmdText
    rw [if_pos hz, List.nil_append]
    have e : p.cmd = ⟨#[]⟩ := by
      have h0 : bl p.cmd = [] := List.eq_nil_of_length_eq_zero (by rw [bl_length, hz])
      rw [← mk_bl p.cmd, h0]
      rfl
    obtain ⟨a, b, c⟩ := p
    simp only at e
    rw [e]
  · have hcne : bl p.cmd ≠ [] := fun e => hz (by rw [← bl_length, e]; rfl)
    have e1 : cmdText p.cmd ++ r = (9 :: bl p.cmd) ++ 10 :: r := by
      unfold cmdText
      rw [if_neg hz]
      show 9 :: bl p.cmd ++ [10] ++ r = _
      simp
    rw [e1, parse_cons _ _ (fun b hb => by
      rcases List.mem_cons.1 hb with rfl | hb
      · decide
      · exact cmd_no10 hc b hb)]
    have e2 : addLineP (ps ++ [⟨p.name, ⟨#[]⟩, p.needs⟩]) (9 :: bl p.cmd) = some (ps ++ [p]) := by
      show (match (ps ++ [(⟨p.name, ⟨#[]⟩, p.needs⟩ : Pt)]).getLast? with
        | none => none
        | some t => if bl p.cmd = [] ∨ t.cmd.size ≠ 0 then none else some ((ps ++ [(⟨p.name, ⟨#[]⟩, p.needs⟩ : Pt)]).dropLast ++ [(⟨t.name, mk (bl p.cmd), t.needs⟩ : Pt)])) = _
      rw [List.getLast?_concat, List.dropLast_concat]
      simp only
      rw [if_neg (fun h => h.elim hcne (fun h => h rfl)), mk_bl]
    rw [e2]
    rfl
theorem parse_print : ∀ (qs ps : List Pt), (∀ p ∈ qs, textOk p) → parseL (splitB 10 (grText qs)) ps = some (ps ++ qs)
  | [], ps, _ => by
    show parseL (splitB 10 []) ps = _
    rw [parse_nil, List.append_nil]
  | q :: qs, ps, h => by
    rw [grText_cons, parse_target q (h q List.mem_cons_self), parse_print qs (ps ++ [q]) (fun p hp => h p (List.mem_cons_of_mem _ hp)), List.append_assoc]
    rfl
theorem check_text {ps : List Pt} (h : grCheck ps = 0) : ∀ p ∈ ps, textOk p := by
  obtain ⟨_, hf, hc, _⟩ := check_fits h
  obtain ⟨_, _, hal⟩ := (grFormed_iff ps).1 hf
  have hn := (grClosed_iff ps).1 hc
  exact fun p hp => ⟨(hal p hp).1, (hal p hp).2.1, fun m hm => by
    obtain ⟨q, hq, rfl⟩ := hn p hp m hm
    exact (hal q hq).1⟩
/-- What is written is read as it was. -/
theorem back_print {ps : List Pt} (h : grCheck ps = 0) : parseRes (grText ps) = (ps, 0) := by
  have e : parseP (grText ps) = some ps := parse_print ps [] (check_text h)
  unfold parseRes
  rw [e]
  simp only
  rw [if_pos h]
/-- What is read is written as the same text. -/
theorem back_parse {s : List UInt8} {ps : List Pt} {e : Int} (h : parseRes s = (ps, e)) : e ≠ 0 ∨ (grCheck ps = 0 ∧ grText ps = s) := by
  unfold parseRes at h
  cases hp : parseP s with
  | none =>
    rw [hp] at h
    injection h with _ h
    exact .inl (by rw [← h]; decide)
  | some qs =>
    rw [hp] at h
    simp only at h
    split at h
    · rename_i hq
      injection h with h1 h2
      subst h1
      exact .inr ⟨hq, by have := parse_text s.length s [] qs (Nat.le_refl _) hp; simpa [grText] using this⟩
    · rename_i hq
      injection h with _ h2
      exact .inl (by rw [← h2]; exact hq)
end Go.Proofs.YtfijbjbfnpadmaaDoor
