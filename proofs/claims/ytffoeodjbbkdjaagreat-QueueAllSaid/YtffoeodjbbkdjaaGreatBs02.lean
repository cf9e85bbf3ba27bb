import Derived.Test.YtffoeodjbbkdjaaGreatBs01
namespace Go.Proofs.YtffoeodjbbkdjaaGreat
def findIx (ps : List Pt) (s : ByteArray) : Option Nat := ps.findIdx? (fun p => decide (p.name = s))
def needsOf (ps : List Pt) (p : Pt) : List Nat := p.needs.filterMap (findIx ps)
def needsAt (ps : List Pt) (i : Int) : List Nat := if 0 ≤ i then ((ps[i.toNat]?).map (needsOf ps)).getD [] else []
theorem findIx_none {ps : List Pt} {s : ByteArray} (h : ∀ (j : Nat) (p : Pt), ps[j]? = some p → p.name ≠ s) : findIx ps s = none := by
 unfold findIx
 rw [List.findIdx?_eq_none_iff]
 intro p hp
 obtain ⟨j, hj⟩ := List.getElem?_of_mem hp
 simpa using h j p hj
theorem findIx_some {ps : List Pt} {s : ByteArray} {k : Nat} {p : Pt} (hp : ps[k]? = some p) (hs : p.name = s) (h : ∀ (j : Nat) (q : Pt), j < k → ps[j]? = some q → q.name ≠ s) : findIx ps s = some k := by
 unfold findIx
 rw [List.findIdx?_eq_some_iff_getElem]
 obtain ⟨hk, hp'⟩ := List.getElem?_eq_some_iff.1 hp
 refine ⟨hk, by rw [hp']; simpa using hs, fun j hj => ?_⟩
 simpa using h j _ hj (List.getElem?_eq_getElem (by omega))
theorem findIx_lt {ps : List Pt} {s : ByteArray} {k : Nat} (h : findIx ps s = some k) : k < ps.length := by
 unfold findIx at h
 rw [List.findIdx?_eq_some_iff_getElem] at h
 exact h.1
theorem needsOf_lt {ps : List Pt} {p : Pt} {n : Nat} (h : n ∈ needsOf ps p) : n < ps.length := by
 unfold needsOf at h
 obtain ⟨s, _, hs⟩ := List.mem_filterMap.1 h
 exact findIx_lt hs
theorem needsOf_le (ps : List Pt) (p : Pt) : (needsOf ps p).length ≤ p.needs.length := List.length_filterMap_le _ _
def okAt (nd : List (List Nat)) (l : List Nat) (i : Nat) : Bool := !l.contains i && (nd.getD i []).all (fun n => l.contains n)
def nextOf (nd : List (List Nat)) (l : List Nat) : Option Nat := (List.range nd.length).find? (okAt nd l)
def stepsOf (nd : List (List Nat)) : Nat → List Nat → List Nat
 | 0, l => l
 | k + 1, l => match nextOf nd l with | none => l | some i => stepsOf nd k (l ++ [i])
def placesOf (ps : List Pt) : List Nat := stepsOf (ps.map (needsOf ps)) ps.length []
theorem nextOf_lt {nd : List (List Nat)} {l : List Nat} {i : Nat} (h : nextOf nd l = some i) : i < nd.length := by
 have := List.mem_of_find?_eq_some h
 simpa using this
theorem nextOf_ok {nd : List (List Nat)} {l : List Nat} {i : Nat} (h : nextOf nd l = some i) : okAt nd l i = true := List.find?_some h
theorem nextOf_new {nd : List (List Nat)} {l : List Nat} {i : Nat} (h : nextOf nd l = some i) : i ∉ l := by
 have := nextOf_ok h
 unfold okAt at this
 simp at this
 exact this.1
theorem nextOf_some {nd : List (List Nat)} {l : List Nat} {i : Nat} (hi : i < nd.length) (h : okAt nd l i = true) (hj : ∀ j, j < i → okAt nd l j = false) : nextOf nd l = some i := by
 unfold nextOf
 rw [List.find?_range_eq_some]
 exact ⟨h, by simpa using hi, fun j hj' => by simp [hj j hj']⟩
theorem nextOf_none {nd : List (List Nat)} {l : List Nat} (h : ∀ j, j < nd.length → okAt nd l j = false) : nextOf nd l = none := by
 unfold nextOf
 rw [List.find?_eq_none]
 intro x hx
 simp [h x (by simpa using hx)]
theorem nodup_le {l : List Nat} {n : Nat} (hd : l.Nodup) (hl : ∀ x ∈ l, x < n) : l.length ≤ n := by
 induction n generalizing l with
 | zero =>
  cases l with
  | nil => simp
  | cons a l => exact absurd (hl a (by simp)) (by omega)
 | succ n ih =>
  by_cases hn : n ∈ l
  ·
   have h := ih (hd.erase n) (fun x hx => by
    have hx' := (hd.mem_erase_iff).1 hx
    have := hl x hx'.2
    have := hx'.1
    omega)
   rw [List.length_erase_of_mem hn] at h
   omega
  ·
   have h := ih hd (fun x hx => by
    have := hl x hx
    have : x ≠ n := fun e => hn (e ▸ hx)
    omega)
   omega
theorem nextOf_full {nd : List (List Nat)} {l : List Nat} (hd : l.Nodup) (hl : ∀ x ∈ l, x < nd.length) (hf : nd.length ≤ l.length) : nextOf nd l = none := by
 cases h : nextOf nd l with
 | none => rfl
 | some i =>
  have h1 : (l ++ [i]).Nodup := by
   rw [List.nodup_append]
   refine ⟨hd, by simp, fun a ha b hb => ?_⟩
   simp at hb
   subst hb
   exact fun e => nextOf_new h (e ▸ ha)
  have h2 := nodup_le (n := nd.length) h1 (fun x hx => by
   rcases List.mem_append.1 hx with hx | hx
   ·
    exact hl x hx
   ·
    simp at hx
    subst hx
    exact nextOf_lt h)
  simp at h2
  omega
theorem nextOf_nodup {nd : List (List Nat)} {l : List Nat} {i : Nat} (hd : l.Nodup) (h : nextOf nd l = some i) : (l ++ [i]).Nodup := by
 rw [List.nodup_append]
 refine ⟨hd, by simp, fun a ha b hb => ?_⟩
 simp at hb
 subst hb
 exact fun e => nextOf_new h (e ▸ ha)
def nameB (b : UInt8) : Bool := decide (33 ≤ b.toNat) && decide (b.toNat ≤ 126) && decide (b.toNat ≠ 58)
def cmdB (b : UInt8) : Bool := decide (32 ≤ b.toNat) && decide (b.toNat ≤ 126)
def isNameB (s : ByteArray) : Bool := s.data.toList.all nameB && decide (s.size ≠ 0)
def isCmdB (s : ByteArray) : Bool := s.data.toList.all cmdB
def ptFits (p : Pt) : Bool := decide (p.name.size ≤ 32) && decide (p.cmd.size ≤ 256) && decide (p.needs.length ≤ 16)
def grFits (ps : List Pt) : Bool := decide (ps.length ≤ 32) && ps.all ptFits
def ptFormed (ps : List Pt) (i : Nat) (p : Pt) : Bool := decide (findIx ps p.name = some i) && isNameB p.name && isCmdB p.cmd && decide (p.needs.Nodup)
def grFormed (ps : List Pt) : Bool := decide (ps ≠ []) && (List.range ps.length).all (fun i => (ps[i]?).all (ptFormed ps i))
def grClosed (ps : List Pt) : Bool := ps.all (fun p => decide ((needsOf ps p).length = p.needs.length))
def grCheck (ps : List Pt) : Int := if grFits ps = false then 71 else if grFormed ps = false then 70 else if grClosed ps = false then 72 else if (placesOf ps).length < ps.length then 73 else 0
def grOrder (ps : List Pt) : List Nat := if grCheck ps = 0 then placesOf ps else []
end Go.Proofs.YtffoeodjbbkdjaaGreat
namespace Go.Proofs.YtffoeodjbbkdjaaGreat
open Go.RowKit
def FoundAt (r : Option Nat) (w : World) (e : Ending) (w' : World) : Prop := e = .returned (.tuple #[.int .i64 ((r.getD 0 : Nat) : Int), .bool r.isSome]) ∧ Keep noneOf w w'
theorem plain_at {ts : List Tg} {k : Nat} {t : Tg} (h : ts[k]? = some t) : (ts.map Tg.plain)[k]? = some t.plain := by rw [List.getElem?_map, h]; rfl
theorem plain_of {ts : List Tg} {k : Nat} {p : Pt} (h : (ts.map Tg.plain)[k]? = some p) : ∃ t, ts[k]? = some t ∧ t.plain = p := by
 rw [List.getElem?_map] at h
 cases ht : ts[k]? with
 | none => rw [ht] at h; cases h
 | some t => rw [ht] at h; exact ⟨t, rfl, by simpa using h⟩
set_option maxRecDepth 100000 in
set_option maxHeartbeats 1000000 in
theorem find_any (w : World) (D : Nat → Prop) (v : Value) (ts : List Tg) (s : ByteArray) (h : Tgs w D v ts) :
  Calls Tryz.prog 157 #[.agg #[v], .string s] w (FoundAt (findIx (ts.map Tg.plain) s) w) := by
 obtain ⟨A, c, rfl, hlc, hcm, hn, hxl, hc⟩ := h.1
 unfold maxLen at hcm
 have HC := Lib.hid hc
 have HT := Lib.hid h.2
 have HK0 := Lib.hid ((Keep.refl noneOf w).alloc (.cells #[.slice A ts.length c] 35))
 generalize hR : findIx (ts.map Tg.plain) s = R
 have HR := Lib.hid hR
 clear hc hxl h hR
 go_enter Tryz.func157, Tryz.ntmps157
 go_wp2
 go_loopw [11] (fun i wr => ∃ k : Nat, k ≤ ts.length ∧ i = .int .i64 k ∧ Keep noneOf w wr ∧ ∀ j t, j < k → ts[j]? = some t → t.name ≠ s) (fun i _ => ts.length - (intOf i).toNat)
 case atStart => exact ⟨0, Nat.zero_le _, rfl, HK0.out, fun j _ hj => absurd hj (by omega)⟩
 case round =>
  obtain ⟨k, hk, rfl, hkeep, hall⟩ := hrel
  have HA := Lib.hid hall
  have HKP := Lib.hid hkeep
  clear hall HK0
  by_cases hlt : k < ts.length
  ·
   obtain ⟨ad, rfl, hsp, hblk, hD, hcell⟩ := HC.out (by omega)
   obtain ⟨b, o, sp⟩ := ad
   simp only at hsp hblk hD hcell
   subst hsp
   have HS := Lib.hid (List.getElem?_eq_getElem hlt)
   have hlies := HT.out _ (List.getElem_mem hlt)
   generalize ts[k] = t at *
   obtain ⟨c0, c1, c2⟩ := tgs_at hkeep hblk hcell HS.out
   clear hcell hkeep
   obtain ⟨nm, cm, nv, ss⟩ := t
   obtain ⟨_, _, ⟨A2, cp2, hnv, _⟩, _⟩ := hlies
   simp only at c0 c1 c2 hnv
   subst hnv
   by_cases hs : nm = s
   ·
    subst hs
    have hR : R = some k := by
     rw [← HR.out]
     refine findIx_some (plain_at HS.out) rfl (fun j q hj hq => ?_)
     obtain ⟨t, ht, rfl⟩ := plain_of hq
     exact HA.out j t hj ht
    subst hR
    go_wp2
    go_ret2
    exact ⟨rfl, HKP.out.alloc _⟩
   ·
    have g : (nm.toList == s.toList) = false := by rw [str_beq]; simp [hs]
    have HS2 := Lib.hid hs
    clear hs
    go_wp2
    go_roundw
    case rel =>
     refine ⟨k + 1, by omega, by go_num, HKP.out.alloc _, fun j t hj e => ?_⟩
     rcases Nat.lt_or_ge j k with h | h
     ·
      exact HA.out j t h e
     ·
      have : j = k := by omega
      subst this
      rw [HS.out] at e
      injection e with e
      rw [← e]
      exact HS2.out
    case measure => simp [intOf]; omega
  ·
   have hR : R = none := by
    rw [← HR.out]
    refine findIx_none (fun j q hq => ?_)
    obtain ⟨t, ht, rfl⟩ := plain_of hq
    exact HA.out j t (by have := (List.getElem?_eq_some_iff.1 ht).1; omega) ht
   subst hR
   go_wp2
   go_ret2
   exact ⟨rfl, HKP.out⟩
set_option maxRecDepth 100000 in
set_option maxHeartbeats 1000000 in
theorem refFind_any (w : World) (D : Nat → Prop) (v : Value) (ts : List Tg) (s : ByteArray) (h : Tgs w D v ts) :
  Calls Tryz.prog 92 #[.agg #[v], .string s] w (FoundAt (findIx (ts.map Tg.plain) s) w) := by
 obtain ⟨A, c, rfl, hlc, hcm, hn, hxl, hc⟩ := h.1
 unfold maxLen at hcm
 have HC := Lib.hid hc
 have HK0 := Lib.hid ((Keep.refl noneOf w).alloc (.cells #[.slice A ts.length c] 35))
 generalize hR : findIx (ts.map Tg.plain) s = R
 have HR := Lib.hid hR
 clear hc hxl h hR
 go_enter Tryz.func92, Tryz.ntmps92
 go_wp2
 go_loop [6] (fun i => ∃ k : Nat, k ≤ ts.length ∧ i = .int .i64 k ∧ ∀ j t, j < k → ts[j]? = some t → t.name ≠ s) (fun i => ts.length - (intOf i).toNat)
 case atStart => exact ⟨0, Nat.zero_le _, rfl, fun j _ hj => absurd hj (by omega)⟩
 case round =>
  obtain ⟨k, hk, rfl, hall⟩ := hrel
  have HA := Lib.hid hall
  clear hall
  by_cases hlt : k < ts.length
  ·
   obtain ⟨ad, rfl, hsp, hblk, hD, hcell⟩ := HC.out (by omega)
   obtain ⟨b, o, sp⟩ := ad
   simp only at hsp hblk hD hcell
   subst hsp
   have HS := Lib.hid (List.getElem?_eq_getElem hlt)
   generalize ts[k] = t at *
   obtain ⟨c0, _, _⟩ := tgs_at HK0.out hblk hcell HS.out
   clear hcell
   obtain ⟨nm, cm, nv, ss⟩ := t
   simp only at c0
   by_cases hs : nm = s
   ·
    subst hs
    have hR : R = some k := by
     rw [← HR.out]
     refine findIx_some (plain_at HS.out) rfl (fun j q hj hq => ?_)
     obtain ⟨t, ht, rfl⟩ := plain_of hq
     exact HA.out j t hj ht
    subst hR
    go_wp2
    go_ret2
    exact ⟨rfl, HK0.out⟩
   ·
    have g : (nm.toList == s.toList) = false := by rw [str_beq]; simp [hs]
    have HS2 := Lib.hid hs
    clear hs
    go_wp2
    go_round
    case rel =>
     refine ⟨k + 1, by omega, by go_num, fun j t hj e => ?_⟩
     rcases Nat.lt_or_ge j k with h | h
     ·
      exact HA.out j t h e
     ·
      have : j = k := by omega
      subst this
      rw [HS.out] at e
      injection e with e
      rw [← e]
      exact HS2.out
    case measure => simp [intOf]; omega
  ·
   have hR : R = none := by
    rw [← HR.out]
    refine findIx_none (fun j q hq => ?_)
    obtain ⟨t, ht, rfl⟩ := plain_of hq
    exact HA.out j t (by have := (List.getElem?_eq_some_iff.1 ht).1; omega) ht
   subst hR
   go_wp2
   go_ret2
   exact ⟨rfl, HK0.out⟩
end Go.Proofs.YtffoeodjbbkdjaaGreat
namespace Go.Proofs.YtffoeodjbbkdjaaGreat
open Go.RowKit
def memB (ss : List ByteArray) (s : ByteArray) : Bool := ss.any (fun x => decide (x = s))
theorem memB_iff (ss : List ByteArray) (s : ByteArray) : memB ss s = true ↔ s ∈ ss := by
 unfold memB
 rw [List.any_eq_true]
 exact ⟨fun ⟨x, hx, e⟩ => of_decide_eq_true e ▸ hx, fun h => ⟨s, h, decide_eq_true rfl⟩⟩
def Indexed (ss : List ByteArray) (s : ByteArray) (w : World) (e : Ending) (w' : World) : Prop := ∃ r : Int, e = .returned (.int .i64 r) ∧ (0 ≤ r ↔ s ∈ ss) ∧ w = w'
set_option maxRecDepth 100000 in
set_option maxHeartbeats 1000000 in
theorem index_any (w : World) (D : Nat → Prop) (v : Value) (ss : List ByteArray) (s : ByteArray) (h : Strs w D v ss) :
  Calls Tryz.prog 185 #[v, .string s] w (Indexed ss s w) := by
 obtain ⟨⟨A, c, rfl, hlc, hcm, hn, hxl, hc⟩, h4⟩ := h
 unfold maxLen at hcm
 have HC := Lib.hid hc
 clear hc hxl h4
 go_enter Tryz.func185, Tryz.ntmps185
 go_wp2
 go_loop [8] (fun i => ∃ k : Nat, k ≤ ss.length ∧ i = .int .i64 k ∧ ∀ j x, j < k → ss[j]? = some x → x ≠ s) (fun i => ss.length - (intOf i).toNat)
 case atStart => exact ⟨0, Nat.zero_le _, rfl, fun j _ hj => absurd hj (by omega)⟩
 case round =>
  obtain ⟨k, hk, rfl, hall⟩ := hrel
  have HA := Lib.hid hall
  clear hall
  by_cases hlt : k < ss.length
  ·
   obtain ⟨ad, rfl, hsp, hblk, hD, hcell⟩ := HC.out (by omega)
   obtain ⟨b, o, sp⟩ := ad
   simp only at hsp hblk hD hcell
   subst hsp
   have HS := Lib.hid (List.getElem?_eq_getElem hlt)
   have c0 : w.cell? ⟨b, o + k, none⟩ = some (.string ss[k]) := hcell k _ (by rw [List.getElem?_map, List.getElem?_eq_getElem hlt]; rfl)
   generalize ss[k] = m at *
   clear hcell
   by_cases hs : s = m
   ·
    subst hs
    have HM := Lib.hid (List.mem_of_getElem? HS.out)
    go_wp2
    go_ret
    exact ⟨_, rfl, ⟨fun _ => HM.out, fun _ => by omega⟩, rfl⟩
   ·
    have g : (s.toList == m.toList) = false := by rw [str_beq]; simp [hs]
    have HS2 := Lib.hid hs
    clear hs
    go_wp2
    go_round
    case rel =>
     refine ⟨k + 1, by omega, by go_num, fun j t hj e => ?_⟩
     rcases Nat.lt_or_ge j k with h | h
     ·
      exact HA.out j t h e
     ·
      have : j = k := by omega
      subst this
      rw [HS.out] at e
      injection e with e
      rw [← e]
      exact fun h => HS2.out h.symm
    case measure => simp [intOf]; omega
  ·
   have HM := Lib.hid (show s ∉ ss from fun hm => by
    obtain ⟨j, hj⟩ := List.getElem?_of_mem hm
    exact HA.out j s (by have := (List.getElem?_eq_some_iff.1 hj).1; omega) hj rfl)
   go_wp2
   go_ret
   exact ⟨_, rfl, ⟨fun h => absurd h (by decide), fun h => absurd h HM.out⟩, rfl⟩
set_option maxRecDepth 100000 in
set_option maxHeartbeats 1000000 in
theorem contains_any (w : World) (D : Nat → Prop) (v : Value) (ss : List ByteArray) (s : ByteArray) (h : Strs w D v ss) :
  Calls Tryz.prog 180 #[v, .string s] w fun e w' => e = .returned (.bool (memB ss s)) ∧ w = w' := by
 have HI := Lib.hid (index_any w D v ss s h)
 obtain ⟨⟨A, c, rfl, _⟩, _⟩ := h
 generalize hR : memB ss s = R
 have HR := Lib.hid hR
 clear hR
 go_enter Tryz.func180, Tryz.ntmps180
 go_wp2_with fail
 refine HI.out.mono ?_
 rintro e w1 ⟨r, rfl, hr, rfl⟩
 have HRR := Lib.hid hr
 clear hr
 go_wp2
 go_ret
 refine ⟨ret_bool ?_, rfl⟩
 rw [← HR.out]
 rw [Bool.eq_iff_iff, decide_eq_true_eq, memB_iff]
 exact HRR.out
theorem Strs.take {w : World} {D : Nat → Prop} {A : Option Addr} {n c : Nat} {ss : List ByteArray} (h : Strs w D (.slice A n c) ss) (k : Nat) (hk : k ≤ ss.length) : Strs w D (.slice A k c) (ss.take k) := by
 obtain ⟨⟨A', c', hv, hlc, hcm, hn, hxl, hc⟩, h4⟩ := h
 obtain ⟨rfl, _, rfl⟩ : A = A' ∧ n = ss.length ∧ c = c' := by simpa using hv
 have hl : (ss.take k).length = k := by rw [List.length_take]; omega
 refine ⟨⟨A, c, by rw [hl], by omega, hcm, hn, by simp, fun h0 => ?_⟩, fun s hs => h4 s (List.mem_of_mem_take hs)⟩
 rw [hl] at h0
 obtain ⟨ad, rfl, hsp, hblk, hD, hcell⟩ := hc (by omega)
 refine ⟨ad, rfl, hsp, hblk, hD, fun j x hx => hcell j x ?_⟩
 rw [List.getElem?_map] at hx ⊢
 rw [List.getElem?_take] at hx
 split at hx
 ·
  exact hx
 ·
  cases hx
theorem nodup_more {ss : List ByteArray} {k : Nat} {s : ByteArray} (hs : ss[k]? = some s) (h : (ss.take k).Nodup) (hn : s ∉ ss.take k) : (ss.take (k + 1)).Nodup := by
 rw [List.take_add_one, hs, List.nodup_append]
 refine ⟨h, by simp, fun a ha b hb => ?_⟩
 simp at hb
 subst hb
 exact fun e => hn (e ▸ ha)
theorem nodup_not {ss : List ByteArray} {k : Nat} {s : ByteArray} (hs : ss[k]? = some s) (hn : s ∈ ss.take k) : ¬ ss.Nodup := by
 intro h
 have h2 : (ss.take (k + 1)).Nodup := h.sublist (List.take_sublist _ _)
 rw [List.take_add_one, hs, List.nodup_append] at h2
 exact h2.2.2 s hn s (by simp) rfl
set_option maxRecDepth 100000 in
set_option maxHeartbeats 1000000 in
theorem repeats_any (w : World) (D : Nat → Prop) (v : Value) (ss : List ByteArray) (h : Strs w D v ss) :
  Calls Tryz.prog 160 #[v] w fun e w' => e = .returned (.bool (!decide ss.Nodup)) ∧ w = w' := by
 have HH := Lib.hid h
 obtain ⟨⟨A, c, rfl, hlc, hcm, hn, hxl, hc⟩, h4⟩ := h
 unfold maxLen at hcm
 have HC := Lib.hid hc
 generalize hR : (!decide ss.Nodup) = R
 have HR := Lib.hid hR
 clear hc hxl h4 hR
 go_enter Tryz.func160, Tryz.ntmps160
 go_wp2
 go_loop [7] (fun i => ∃ k : Nat, k ≤ ss.length ∧ i = .int .i64 k ∧ (ss.take k).Nodup) (fun i => ss.length - (intOf i).toNat)
 case atStart => exact ⟨0, Nat.zero_le _, rfl, List.nodup_nil⟩
 case round =>
  obtain ⟨k, hk, rfl, hall⟩ := hrel
  have HA := Lib.hid hall
  clear hall
  by_cases hlt : k < ss.length
  ·
   obtain ⟨ad, rfl, hsp, hblk, hD, hcell⟩ := HC.out (by omega)
   obtain ⟨b, o, sp⟩ := ad
   simp only at hsp hblk hD hcell
   subst hsp
   have HS := Lib.hid (List.getElem?_eq_getElem hlt)
   have c0 : w.cell? ⟨b, o + k, none⟩ = some (.string ss[k]) := hcell k _ (by rw [List.getElem?_map, List.getElem?_eq_getElem hlt]; rfl)
   have HCN := Lib.hid (contains_any w D _ (ss.take k) ss[k] (HH.out.take k hk))
   generalize ss[k] = m at *
   clear hcell
   cases hq : memB (ss.take k) m with
   | false =>
    rw [hq] at HCN
    have HM := Lib.hid (nodup_more HS.out HA.out (fun h => by rw [(memB_iff _ _).2 h] at hq; cases hq))
    clear hq
    go_wp2_with fail
    refine HCN.out.mono ?_
    rintro e w1 ⟨rfl, rfl⟩
    go_wp2
    go_round
    case rel => exact ⟨k + 1, by omega, by go_num, HM.out⟩
    case measure => simp [intOf]; omega
   | true =>
    rw [hq] at HCN
    have hR : R = true := by
     rw [← HR.out]
     simpa using nodup_not HS.out ((memB_iff _ _).1 hq)
    subst hR
    clear hq
    go_wp2_with fail
    refine HCN.out.mono ?_
    rintro e w1 ⟨rfl, rfl⟩
    go_wp2
    go_ret
    exact ⟨rfl, rfl⟩
  ·
   have hR : R = false := by
    rw [← HR.out]
    have h1 := HA.out
    rw [List.take_of_length_le (by omega)] at h1
    simpa using h1
   subst hR
   go_wp2
   go_ret
   exact ⟨rfl, rfl⟩
end Go.Proofs.YtffoeodjbbkdjaaGreat
