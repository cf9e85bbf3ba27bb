import Derived.Test.YtkoikmdmejhhhaaGreatBs02
import Derived.Test.YtkoikmdmejhhhaaGreatBs04
import Derived.Test.YtkoikmdmejhhhaaGreatBs06
namespace Go.Proofs.YtkoikmdmejhhhaaGreat
def Ordered (nd : List (List Nat)) (l : List Nat) : Prop := ∀ (i p : Nat), l[i]? = some p → p < nd.length ∧ p ∉ l.take i ∧ ∀ n ∈ nd.getD p [], n ∈ l.take i
theorem Ordered.nil (nd : List (List Nat)) : Ordered nd [] := fun i p h => by simp at h
theorem Ordered.more {nd : List (List Nat)} {l : List Nat} {q : Nat} (h : Ordered nd l) (hq : nextOf nd l = some q) : Ordered nd (l ++ [q]) := by
  intro i p hp
  rcases Nat.lt_or_ge i l.length with hi | hi
  · rw [List.getElem?_append_left hi] at hp
    rw [List.take_append_of_le_length (by omega)]
    exact h i p hp
  · rw [List.getElem?_append_right hi] at hp
    have hi0 : i - l.length = 0 := by
      have := (List.getElem?_eq_some_iff.1 hp).1
      simp at this
      omega
    rw [hi0] at hp
    have hpq : q = p := by simpa using hp
    subst hpq
    have hil : i = l.length := by omega
    subst hil
    rw [List.take_left']
    · refine ⟨nextOf_lt hq, nextOf_new hq, fun n hn => ?_⟩
      have hok := nextOf_ok hq
      unfold okAt at hok
      rw [Bool.and_eq_true, List.all_eq_true] at hok
      have := hok.2 n hn
      rwa [List.contains_iff_mem] at this
    · rfl
theorem Ordered.steps {nd : List (List Nat)} (k : Nat) {l : List Nat} (h : Ordered nd l) : Ordered nd (stepsOf nd k l) := by
  induction k generalizing l with
  | zero => exact h
  | succ k ih =>
    simp only [stepsOf]
    cases hq : nextOf nd l with
    | none => exact h
    | some q => exact ih (h.more hq)
theorem Ordered.places (ps : List Pt) : Ordered (ps.map (needsOf ps)) (placesOf ps) := Ordered.steps _ (Ordered.nil _)
theorem Ordered.nodup {nd : List (List Nat)} {l : List Nat} (h : Ordered nd l) : l.Nodup := by
  rw [List.nodup_iff_pairwise_ne, List.pairwise_iff_getElem]
  intro i j hi hj hij e
  have := (h j l[j] (List.getElem?_eq_getElem hj)).2.1
  exact this (e ▸ List.mem_of_getElem? (i := i) (by rw [List.getElem?_take, if_pos hij]; exact List.getElem?_eq_getElem hi))
theorem Ordered.lt {nd : List (List Nat)} {l : List Nat} (h : Ordered nd l) : ∀ x ∈ l, x < nd.length := fun x hx => by
  obtain ⟨i, hi⟩ := List.getElem?_of_mem hx
  exact (h i x hi).1
theorem places_le (ps : List Pt) : (placesOf ps).length ≤ ps.length := by
  have h := Ordered.places ps
  have := nodup_le h.nodup h.lt
  simpa using this
theorem places_at {ps : List Pt} {i p : Nat} (h : (placesOf ps)[i]? = some p) : p < ps.length ∧ p ∉ (placesOf ps).take i ∧ ∀ n ∈ needsAt ps (p : Int), n ∈ (placesOf ps).take i := by
  obtain ⟨h1, h2, h3⟩ := Ordered.places ps i p h
  rw [List.length_map] at h1
  refine ⟨h1, h2, fun n hn => h3 n ?_⟩
  unfold needsAt at hn
  rw [if_pos (by omega), Int.toNat_natCast, List.getElem?_eq_getElem h1] at hn
  rw [List.getD_eq_getElem?_getD, List.getElem?_map, List.getElem?_eq_getElem h1]
  exact hn
end Go.Proofs.YtkoikmdmejhhhaaGreat
namespace Go.Proofs.YtkoikmdmejhhhaaGreat
open Go.RowKit
theorem fits_few {ts : List Tg} (h : grFits (ts.map Tg.plain) = true) : ts.length ≤ 32 ∧ fewNeeds ts := by
  unfold grFits at h
  rw [Bool.and_eq_true, List.all_eq_true, decide_eq_true_eq, List.length_map] at h
  refine ⟨h.1, fun t ht => ?_⟩
  have h2 := h.2 t.plain (List.mem_map.2 ⟨t, ht, rfl⟩)
  unfold ptFits at h2
  rw [Bool.and_eq_true, Bool.and_eq_true, decide_eq_true_eq, decide_eq_true_eq, decide_eq_true_eq] at h2
  have h3 : t.needs.length ≤ 16 := h2.2
  omega
set_option maxRecDepth 100000 in
set_option maxHeartbeats 1000000 in
theorem check_any (w : World) (D : Nat → Prop) (v : Value) (ts : List Tg) (h : Tgs w D v ts) :
    Calls Tryz.prog 110 #[.agg #[v]] w fun e w' => e = .returned (.int .i64 (grCheck (ts.map Tg.plain))) ∧ Keep noneOf w w' := by
  have HH := Lib.hid h
  obtain ⟨A, c, rfl, hlc, hcm, hn, hxl, hc⟩ := h.1
  unfold maxLen at hcm
  have EC := Lib.hid (show grCheck (ts.map Tg.plain) = if grFits (ts.map Tg.plain) = false then 71 else if grFormed (ts.map Tg.plain) = false then 70 else if grClosed (ts.map Tg.plain) = false then 72 else if (placesOf (ts.map Tg.plain)).length < (ts.map Tg.plain).length then 73 else 0 from rfl)
  generalize grCheck (ts.map Tg.plain) = R at *
  have ka := (Keep.refl noneOf w).alloc (.cells #[.slice A ts.length c] 35)
  have HK0 := Lib.hid ka
  have HX0 := Lib.hid (Box.new w 35 #[.slice A ts.length c])
  have FI := grFits_any _ D _ ts (HH.out.keep ka (fun _ _ _ => id))
  clear hc h hxl hn
  cases hF : grFits (ts.map Tg.plain) with
  | false =>
    have hR : R = 71 := by rw [EC.out, if_pos hF]
    subst hR
    rw [hF] at FI
    have HFI := Lib.hid FI
    clear FI hF ka
    go_enter Tryz.func110, Tryz.ntmps110
    go_wp2_with fail
    refine HFI.out.mono ?_
    rintro e w1 ⟨rfl, k1⟩
    go_wp2
    go_ret
    exact ⟨rfl, HK0.out.trans k1 (fun _ _ h => h)⟩
  | true =>
    obtain ⟨h32, hfew⟩ := fits_few hF
    have HFEW := Lib.hid hfew
    rw [hF, if_neg (by decide)] at EC
    rw [hF] at FI
    have HFI := Lib.hid FI
    clear FI hF ka hfew
    go_enter Tryz.func110, Tryz.ntmps110
    go_wp2_with fail
    refine HFI.out.mono ?_
    rintro e w1 ⟨rfl, k1⟩
    have K1 := HK0.out.trans k1 (fun _ _ h => h)
    have X1 := HX0.out.keep k1 id
    have x1 : w1.cell? ⟨w.heap.size, 0, none⟩ = some (.slice A ts.length c) := X1.cell 0
    have FO := grFormed_any w1 D _ ts (HH.out.keep K1 (fun _ _ _ => id))
    clear HFI HK0 HX0 k1
    cases hF : grFormed (ts.map Tg.plain) with
    | false =>
      have hR : R = 70 := by rw [EC.out, if_pos hF]
      subst hR
      rw [hF] at FO
      have HFO := Lib.hid FO
      clear FO hF
      go_wp2_with fail
      refine HFO.out.mono ?_
      rintro e w2 ⟨rfl, k2⟩
      go_wp2
      go_ret
      exact ⟨rfl, K1.trans k2 (fun _ _ h => h)⟩
    | true =>
      rw [hF, if_neg (by decide)] at EC
      rw [hF] at FO
      have HFO := Lib.hid FO
      clear FO hF
      go_wp2_with fail
      refine HFO.out.mono ?_
      rintro e w2 ⟨rfl, k2⟩
      have K2 := K1.trans k2 (fun _ _ h => h)
      have X2 := X1.keep k2 id
      have x2 : w2.cell? ⟨w.heap.size, 0, none⟩ = some (.slice A ts.length c) := X2.cell 0
      have CL := grClosed_any w2 D _ ts (HH.out.keep K2 (fun _ _ _ => id)) HFEW.out
      clear HFO K1 X1 x1 k2
      cases hF : grClosed (ts.map Tg.plain) with
      | false =>
        have hR : R = 72 := by rw [EC.out, if_pos hF]
        subst hR
        rw [hF] at CL
        have HCL := Lib.hid CL
        clear CL hF
        go_wp2_with fail
        refine HCL.out.mono ?_
        rintro e w3 ⟨rfl, k3⟩
        go_wp2
        go_ret
        exact ⟨rfl, K2.trans k3 (fun _ _ h => h)⟩
      | true =>
        rw [hF, if_neg (by decide)] at EC
        rw [hF] at CL
        have HCL := Lib.hid CL
        clear CL hF
        go_wp2_with fail
        refine HCL.out.mono ?_
        rintro e w3 ⟨rfl, k3⟩
        have K3 := K2.trans k3 (fun _ _ h => h)
        have X3 := X2.keep k3 id
        clear HCL K2 X2 x2 k3
        have HX3 := Lib.hid X3
        have HK3 := Lib.hid K3
        have MK : Hid (∀ w', Keep noneOf w3 w' → w'.cell? ⟨w.heap.size, 0, none⟩ = some (.slice A ts.length c)) := fun w' k => (X3.keep k id).cell 0
        have AR : Hid (∀ w', Keep noneOf w3 w' → Calls Tryz.prog 141 #[.agg #[.slice A ts.length c]] w' (ToldInts (placesOf (ts.map Tg.plain)) w')) := fun w' k' => arranged_any w' D _ ts (HH.out.keep (HK3.out.trans k' (fun _ _ h => h)) (fun _ _ _ => id)) HFEW.out h32
        rw [List.length_map] at EC
        have hpl : (placesOf (ts.map Tg.plain)).length ≤ 32 ∨ True := .inr trivial
        generalize placesOf (ts.map Tg.plain) = pl at *
        have K00 := Keep.refl noneOf w3
        clear X3 K3 hpl
        go_wp2
        go_region_held3 (fun w' => Keep noneOf w3 w' ∧ w'.cell? ⟨w.heap.size, 0, none⟩ = some (.slice A ts.length c)) (first | exact ⟨K00.drew, MK.out _ K00.drew⟩ | (refine (fun k => ⟨k, MK.out _ k⟩) ?_; exact Keep.trans (And.left (by assumption)) (by assumption) (fun _ _ h => h)))
          (first | (go_at_call 141; refine (AR.out _ (And.left (by assumption))).mono ?_; rintro e w' ⟨v', rfl, hi', k'⟩; obtain ⟨A', c', hv'⟩ := hi'.shape; subst hv'))
        have k4 : Keep noneOf w3 w' := K00.drew.trans k' (fun _ _ h => h)
        have K4 := HK3.out.trans k4 (fun _ _ h => h)
        clear hi' k' k4 AR MK K00 HK3 HX3
        by_cases hq : pl.length < ts.length
        · have hR : R = 73 := by rw [EC.out, if_pos hq]
          subst hR
          go_wp2
          go_ret
          exact ⟨rfl, K4⟩
        · have hR : R = 0 := by rw [EC.out, if_neg hq]
          subst hR
          go_wp2
          go_ret
          exact ⟨rfl, K4⟩
theorem check_fits {ps : List Pt} (h : grCheck ps = 0) : grFits ps = true ∧ grFormed ps = true ∧ grClosed ps = true ∧ ¬ (placesOf ps).length < ps.length := by
  unfold grCheck at h
  cases h1 : grFits ps with
  | false => rw [h1, if_pos rfl] at h; cases h
  | true =>
    rw [h1, if_neg (by decide)] at h
    cases h2 : grFormed ps with
    | false => rw [h2, if_pos rfl] at h; cases h
    | true =>
      rw [h2, if_neg (by decide)] at h
      cases h3 : grClosed ps with
      | false => rw [h3, if_pos rfl] at h; cases h
      | true =>
        rw [h3, if_neg (by decide)] at h
        refine ⟨rfl, rfl, rfl, fun h4 => ?_⟩
        rw [if_pos h4] at h
        cases h
set_option maxRecDepth 100000 in
set_option maxHeartbeats 1000000 in
theorem order_any (w : World) (D : Nat → Prop) (v : Value) (ts : List Tg) (h : Tgs w D v ts) :
    Calls Tryz.prog 142 #[.agg #[v]] w (ToldInts (grOrder (ts.map Tg.plain)) w) := by
  have HH := Lib.hid h
  obtain ⟨A, c, rfl, hlc, hcm, hn, hxl, hc⟩ := h.1
  unfold maxLen at hcm
  have ka := (Keep.refl noneOf w).alloc (.cells #[.slice A ts.length c] 35)
  have HK0 := Lib.hid ka
  have HX0 := Lib.hid (Box.new w 35 #[.slice A ts.length c])
  have HCK := Lib.hid (check_any _ D _ ts (HH.out.keep ka (fun _ _ _ => id)))
  have EO := Lib.hid (show grOrder (ts.map Tg.plain) = if grCheck (ts.map Tg.plain) = 0 then placesOf (ts.map Tg.plain) else [] from rfl)
  clear hc h hxl hn ka
  by_cases hq : grCheck (ts.map Tg.plain) = 0
  · rw [hq] at HCK
    rw [EO.out, if_pos hq]
    obtain ⟨h32, hfew⟩ := fits_few (check_fits hq).1
    have HFEW := Lib.hid hfew
    clear hq hfew EO
    go_enter Tryz.func142, Tryz.ntmps142
    go_wp2_with fail
    refine HCK.out.mono ?_
    rintro e w1 ⟨rfl, k1⟩
    have K1 := HK0.out.trans k1 (fun _ _ h => h)
    have X1 := HX0.out.keep k1 id
    have x1 : w1.cell? ⟨w.heap.size, 0, none⟩ = some (.slice A ts.length c) := X1.cell 0
    have AR := Lib.hid (arranged_any w1 D _ ts (HH.out.keep K1 (fun _ _ _ => id)) HFEW.out h32)
    clear HCK HK0 HX0 k1
    go_wp2_with fail
    refine AR.out.mono ?_
    rintro e w2 ⟨v2, rfl, hi2, k2⟩
    obtain ⟨A2, c2, hv2⟩ := hi2.shape
    subst hv2
    have HI2 := Lib.hid hi2
    have HZ := Lib.hid K1.size
    have HK2 := Lib.hid (K1.trans k2 (fun _ _ h => h))
    clear hi2 k2 K1 X1 x1 AR
    go_wp2
    go_ret
    exact ⟨_, rfl, Row.mono HI2.out (fun _ _ h => Nat.le_trans HZ.out h), HK2.out⟩
  · rw [EO.out, if_neg hq]
    have g : (grCheck (ts.map Tg.plain) != 0) = true := by rw [bne_iff_ne]; exact hq
    have g' : (grCheck (ts.map Tg.plain) == 0) = false := by rw [beq_eq_false_iff_ne]; exact hq
    generalize grCheck (ts.map Tg.plain) = R at *
    clear hq EO
    go_enter Tryz.func142, Tryz.ntmps142
    go_wp2_with fail
    refine HCK.out.mono ?_
    rintro e w1 ⟨rfl, k1⟩
    have K1 := HK0.out.trans k1 (fun _ _ h => h)
    go_wp2
    go_ret
    exact ⟨_, rfl, Ints.of_own (World.ownsRow_nil _ _ 3 1), K1⟩
end Go.Proofs.YtkoikmdmejhhhaaGreat
namespace Go.Proofs.YtkoikmdmejhhhaaGreat
structure Alike (ps qs : List Pt) : Prop where
  len : qs.length = ps.length
  there : ∀ p ∈ ps, ∃ q ∈ qs, q.name = p.name ∧ q.cmd = p.cmd ∧ q.needs.length = p.needs.length ∧ (q.needs.Nodup ↔ p.needs.Nodup) ∧ ∀ m, m ∈ q.needs ↔ m ∈ p.needs
  back : ∀ q ∈ qs, ∃ p ∈ ps, q.name = p.name ∧ q.cmd = p.cmd ∧ q.needs.length = p.needs.length ∧ (q.needs.Nodup ↔ p.needs.Nodup) ∧ ∀ m, m ∈ q.needs ↔ m ∈ p.needs
  names : (qs.map Pt.name).Nodup ↔ (ps.map Pt.name).Nodup
theorem Alike.swap {ps qs : List Pt} (h : Alike ps qs) : Alike qs ps :=
  ⟨h.len.symm, fun q hq => by obtain ⟨p, hp, a, b, c, d, e⟩ := h.back q hq; exact ⟨p, hp, a.symm, b.symm, c.symm, d.symm, fun m => (e m).symm⟩,
    fun p hp => by obtain ⟨q, hq, a, b, c, d, e⟩ := h.there p hp; exact ⟨q, hq, a.symm, b.symm, c.symm, d.symm, fun m => (e m).symm⟩, h.names.symm⟩
end Go.Proofs.YtkoikmdmejhhhaaGreat
namespace Go.Proofs.YtkoikmdmejhhhaaGreat
def runOf {α : Type} (f : List α → Nat → α) (l : List α) (order : List Nat) : List α := order.foldl (fun l p => l.set p (f l p)) l
theorem runOf_more {α : Type} (f : List α → Nat → α) (l : List α) (order : List Nat) (k p : Nat) (h : order[k]? = some p) : runOf f l (order.take (k + 1)) = (runOf f l (order.take k)).set p (f (runOf f l (order.take k)) p) := by
  unfold runOf
  rw [List.take_add_one, h, List.foldl_append]
  rfl
theorem runOf_length {α : Type} (f : List α → Nat → α) (l : List α) (order : List Nat) : (runOf f l order).length = l.length := by
  unfold runOf
  induction order generalizing l with
  | nil => rfl
  | cons p os ih => rw [List.foldl_cons, ih, List.length_set]
theorem runOf_all {α : Type} {Q : α → Prop} (f : List α → Nat → α) (l : List α) (order : List Nat) (hf : ∀ l p, Q (f l p)) (hl : ∀ x ∈ l, Q x) : ∀ x ∈ runOf f l order, Q x := by
  unfold runOf
  induction order generalizing l with
  | nil => exact hl
  | cons p os ih =>
    rw [List.foldl_cons]
    refine ih _ (fun x hx => ?_)
    rcases List.mem_or_eq_of_mem_set hx with h | h
    · exact hl x h
    · rw [h]
      exact hf _ _
def Looks {α : Type} (nd : List (List Nat)) (f : List α → Nat → α) : Prop := ∀ (l m : List α) (p : Nat), (∀ n ∈ nd.getD p [], l[n]? = m[n]?) → f l p = f m p
theorem runOf_sol {α : Type} {nd : List (List Nat)} {f : List α → Nat → α} (hf : Looks nd f) {order : List Nat} (ho : Ordered nd order) (l : List α) (hl : l.length = nd.length) (k : Nat) :
    ∀ p ∈ order.take k, (runOf f l (order.take k))[p]? = some (f (runOf f l (order.take k)) p) := by
  induction k with
  | zero => intro p hp; simp at hp
  | succ k ih =>
    intro p hp
    cases hk : order[k]? with
    | none =>
      have e : order.take (k + 1) = order.take k := by rw [List.take_add_one, hk]; simp
      rw [e] at hp ⊢
      exact ih p hp
    | some q =>
      obtain ⟨hq1, hq2, hq3⟩ := ho k q hk
      rw [runOf_more f l order k q hk]
      have hlen : q < (runOf f l (order.take k)).length := by rw [runOf_length, hl]; exact hq1
      have hsame : ∀ r, r ∈ order.take k ∨ r = q → f ((runOf f l (order.take k)).set q (f (runOf f l (order.take k)) q)) r = f (runOf f l (order.take k)) r := by
        intro r hr
        refine hf _ _ _ (fun n hn => ?_)
        have hne : n ∈ order.take k := by
          rcases hr with hr | rfl
          · obtain ⟨i, hi⟩ := List.getElem?_of_mem hr
            rw [List.getElem?_take] at hi
            split at hi
            · rename_i hik
              have h3 := (ho i r hi).2.2 n hn
              exact List.take_subset_take_left order (Nat.le_of_lt hik) h3
            · cases hi
          · exact hq3 n hn
        rw [List.getElem?_set_ne]
        rintro rfl
        exact hq2 hne
      rw [List.take_add_one, hk] at hp
      rcases List.mem_append.1 hp with hp | hp
      · rw [hsame p (.inl hp), List.getElem?_set_ne, ih p hp]
        rintro rfl
        exact hq2 hp
      · have hpq : p = q := by simpa using hp
        subst hpq
        rw [hsame p (.inr rfl), List.getElem?_set_self hlen]
theorem sol_same {α : Type} {nd : List (List Nat)} {f : List α → Nat → α} (hf : Looks nd f) {order : List Nat} (ho : Ordered nd order) (l m : List α) (k : Nat)
    (hl : ∀ p ∈ order.take k, l[p]? = some (f l p)) (hm : ∀ p ∈ order.take k, m[p]? = some (f m p)) : ∀ p ∈ order.take k, l[p]? = m[p]? := by
  induction k with
  | zero => intro p hp; simp at hp
  | succ k ih =>
    intro p hp
    have hsub : ∀ r, r ∈ order.take k → r ∈ order.take (k + 1) := fun r hr => List.take_subset_take_left order (Nat.le_succ k) hr
    have hi := ih (fun r hr => hl r (hsub r hr)) (fun r hr => hm r (hsub r hr))
    rw [hl p hp, hm p hp]
    congr 1
    obtain ⟨i, hik⟩ := List.getElem?_of_mem hp
    rw [List.getElem?_take] at hik
    split at hik
    · rename_i hlt
      refine hf _ _ _ (fun n hn => hi n ?_)
      exact List.take_subset_take_left order (by omega) ((ho i p hik).2.2 n hn)
    · cases hik
theorem order_covers {order : List Nat} {n : Nat} (hd : order.Nodup) (hl : ∀ x ∈ order, x < n) (hn : order.length = n) : ∀ p, p < n → p ∈ order := by
  intro p hp
  refine Classical.byContradiction fun h => ?_
  have h1 : (p :: order).Nodup := List.nodup_cons.2 ⟨h, hd⟩
  have h2 := nodup_le (n := n) h1 (fun x hx => by
    rcases List.mem_cons.1 hx with rfl | hx
    · exact hp
    · exact hl x hx)
  rw [List.length_cons] at h2
  omega
theorem order_len {ps : List Pt} (h : grCheck ps = 0) : (grOrder ps).length = ps.length := by
  unfold grOrder
  rw [if_pos h]
  have h1 := (check_fits h).2.2.2
  have h2 := places_le ps
  omega
theorem order_none {ps : List Pt} (h : grCheck ps ≠ 0) : grOrder ps = [] := by
  unfold grOrder
  rw [if_neg h]
theorem order_is {ps : List Pt} (h : grCheck ps = 0) : grOrder ps = placesOf ps := by
  unfold grOrder
  rw [if_pos h]
theorem order_some {ps : List Pt} {i p : Nat} (h : (grOrder ps)[i]? = some p) : grCheck ps = 0 ∧ p < ps.length := by
  by_cases hq : grCheck ps = 0
  · rw [order_is hq] at h
    exact ⟨hq, (places_at h).1⟩
  · rw [order_none hq] at h
    simp at h
theorem order_32 (ps : List Pt) : (grOrder ps).length ≤ 32 := by
  by_cases hq : grCheck ps = 0
  · rw [order_len hq]
    have := (check_fits hq).1
    unfold grFits at this
    rw [Bool.and_eq_true, decide_eq_true_eq] at this
    exact this.1
  · rw [order_none hq]
    exact Nat.zero_le _
theorem needsAt_nd {ps : List Pt} {p : Nat} : (ps.map (needsOf ps)).getD p [] = needsAt ps (p : Int) := by
  unfold needsAt
  rw [if_pos (by omega), Int.toNat_natCast, List.getD_eq_getElem?_getD, List.getElem?_map]
theorem needsAt_lt {ps : List Pt} {p : Int} {n : Nat} (h : n ∈ needsAt ps p) : n < ps.length := by
  unfold needsAt at h
  split at h
  · cases hp : ps[p.toNat]? with
    | none => rw [hp] at h; simp at h
    | some q =>
      rw [hp] at h
      exact needsOf_lt h
  · simp at h
theorem needsAt_16 {ps : List Pt} {p : Nat} (h : grCheck ps = 0) : (needsAt ps (p : Int)).length ≤ 16 := by
  unfold needsAt
  rw [if_pos (by omega), Int.toNat_natCast]
  cases hp : ps[p]? with
  | none => simp
  | some q =>
    have h1 := (check_fits h).1
    unfold grFits at h1
    rw [Bool.and_eq_true, List.all_eq_true] at h1
    have h2 := h1.2 q (List.mem_of_getElem? hp)
    unfold ptFits at h2
    simp only [Bool.and_eq_true, decide_eq_true_eq] at h2
    exact Nat.le_trans (needsOf_le ps q) h2.2
theorem cmd_256 {ps : List Pt} {p : Nat} {q : Pt} (h : grCheck ps = 0) (hp : ps[p]? = some q) : q.cmd.size ≤ 256 := by
  have h1 := (check_fits h).1
  unfold grFits at h1
  rw [Bool.and_eq_true, List.all_eq_true] at h1
  have h2 := h1.2 q (List.mem_of_getElem? hp)
  unfold ptFits at h2
  simp only [Bool.and_eq_true, decide_eq_true_eq] at h2
  exact h2.1.2
theorem by_order {ps : List Pt} (h : grCheck ps = 0) {Q : Nat → Prop} (hQ : ∀ p, p < ps.length → (∀ n ∈ needsAt ps (p : Int), Q n) → Q p) (p : Nat) (hp : p < ps.length) : Q p := by
  have ho := Ordered.places ps
  have hp' := order_covers ho.nodup (by simpa using ho.lt) (by rw [← order_is h, order_len h]) p hp
  have key : ∀ k, ∀ q ∈ (placesOf ps).take k, Q q := by
    intro k
    induction k with
    | zero => intro q hq; simp at hq
    | succ k ih =>
      intro q hq
      obtain ⟨i, hi⟩ := List.getElem?_of_mem hq
      rw [List.getElem?_take] at hi
      split at hi
      · rename_i hik
        have := ho i q hi
        refine hQ q (by simpa using this.1) (fun n hn => ih n ?_)
        rw [← needsAt_nd] at hn
        exact List.take_subset_take_left _ (by omega) (this.2.2 n hn)
      · cases hi
  exact key (placesOf ps).length p (by rw [List.take_length]; exact hp')
end Go.Proofs.YtkoikmdmejhhhaaGreat
