import Derived.Test.YtdikmmdkpfmocaaBs19
import Derived.Test.YtdikmmdkpfmocaaBs21
namespace Go.Proofs.Ytdikmmdkpfmocaa
open Go.RowKit Go.Shelf
attribute [local go_sem] Oper.semAt_some
theorem Looped.alloc {W : World} {l d : Nat} {r : Loop} (h : Looped l d r W) (o : Obj) : Looped l d r (W.alloc o) :=
  ⟨(Below.heap_alloc W o l (Array.getElem?_eq_some_iff.1 h.1).1).trans h.1, (Below.heap_alloc W o d (Array.getElem?_eq_some_iff.1 h.2).1).trans h.2⟩
theorem K_lies_alloc {base : Nat} {W : World} {t : En} (h : t.held base W) (o : Obj) : t.held base (W.alloc o) :=
  ⟨h.1, h.2.1, own_keep h.2.2 ((Keep.refl noneOf W).alloc o) (fun _ _ => id)⟩
theorem En.held.ge {base base' : Nat} {W : World} {t : En} (h : t.held base W) (hb : base' ≤ base) : t.held base' W := ⟨h.1, h.2.1, own_base h.2.2 hb⟩
def kEnt (base : Nat) : Kind En Pe where
  te := 81
  tl := 23
  tf := 136
  sz := 4
  ts := [5]
  cel := En.cells
  plain := En.plain
  one := rdEnt
  lies := fun W x => En.held base W x
  ctx := fun _ => True
  fv := .func (.func 97) #[] #[]
  most := 8
  stays := fun S W W' k ha => ⟨id, fun x h => ⟨h.1, h.2.1, own_keep h.2.2 k (fun j hj hs => by
    obtain ⟨_, cur, hg⟩ := own_ge h.2.2 hj
    exact ha _ hs _ _ hg (by simp))⟩⟩
  nte := by decide
  ntl := by decide
  nrd := by decide
  nel := by decide
  nfe := by decide
  nre := by decide
  nie := by decide
set_option maxRecDepth 100000 in
set_option maxHeartbeats 400000 in
theorem items_ent (w : World) (p : Nat) (most : Int) (ff : Nat) (lb : Array Value) :
    Calls Try.prog 101 #[.pointer (some ⟨p, 0, none⟩), .int .i64 most, .func (.func ff) #[] lb] w fun e w' =>
      e = .returned (.func (.func 106) #[] #[.pointer (some ⟨w.heap.size, 0, none⟩), .pointer (some ⟨w.heap.size + 1, 0, none⟩), .pointer (some ⟨w.heap.size + 2, 0, none⟩)]) ∧
      w' = ((w.alloc (.cells #[.pointer (some ⟨p, 0, none⟩)] 56)).alloc (.cells #[.int .i64 most] 3)).alloc (.cells #[.func (.func ff) #[] lb] 136) := by
  go_enter Try.func101, Try.ntmps101
  go_wp2
  go_ret
  exact ⟨rfl, rfl⟩
set_option maxRecDepth 100000 in
set_option maxHeartbeats 1000000 in
theorem items1_ent (w0 W : World) (p : Nat) (D : Nat → Prop) (s0 s1 : Rs) (n m l d : Nat) (r : Loop) (fin : List Pe × Rs) (hD : ∀ i, D i → i < w0.heap.size) (hp : p < w0.heap.size) (hS : St (kEnt w0.heap.size) w0 p D [] s0 W) (hL : Looped l d r W) (hl : l ≠ p) (hd : d ≠ p)
    (hv : s0.var 8 = (n, s1)) (hfin : rdL (kEnt w0.heap.size).one n s1 = fin) (hm : 1 ≤ m)
    (hY : ∀ pre x W1, YY (kEnt w0.heap.size) w0 p D n fin pre x W1 → Looped l d r W1 → YieldAt Fence.wide (m - 1) Try.prog l #[.int .i64 x.1, .agg #[.int .u64 (x.2.ix : Int), .int .u64 (x.2.te : Int), .int .i64 x.2.k, x.2.dv]] W1 fun e W2 => e = .returned (.bool true) ∧ JJ (kEnt w0.heap.size) w0 p D n fin (pre ++ [x]) W2 ∧ Looped l d r W2) :
    CallsIn Fence.wide m Try.prog 106 #[.func (.yield l) #[] #[], .pointer (some ⟨w0.heap.size + 1, 0, none⟩), .pointer (some ⟨w0.heap.size + 2, 0, none⟩), .pointer (some ⟨w0.heap.size + 3, 0, none⟩)] W fun e W2 =>
      (∃ v, e = .returned v) ∧ DD (kEnt w0.heap.size) w0 p D fin W2 ∧ Looped l d r W2 := by
  have hle : n ≤ 8 := by have := var_le s0 8; rw [hv] at this; exact this
  have hnz : s1.err ≠ 0 → n = 0 := by
    intro h
    by_cases e : s0.err = 0
    · unfold Rs.var at hv
      rw [if_neg (fun h' => h' e)] at hv
      by_cases e2 : (frontV s0.left 8).2.2 ≠ 0
      · rw [if_pos e2] at hv
        injection hv with h1 h2
        exact h1.symm
      · rw [if_neg e2] at hv
        injection hv with h1 h2
        rw [← h2] at h
        exact absurd rfl h
    · unfold Rs.var at hv
      rw [if_pos e] at hv
      injection hv with h1 h2
      exact h1.symm
  have c1 : W.cell? ⟨w0.heap.size + 1, 0, none⟩ = some (.pointer (some ⟨p, 0, none⟩)) := hS.b1.cell 0
  have c2 : W.cell? ⟨w0.heap.size + 2, 0, none⟩ = some (.int .i64 8) := hS.b2.cell 0
  obtain ⟨u0, r0⟩ := hS.rd
  have CT := Lib.hid (count_to W p D u0 s0 s1 n 8 (by decide) r0 hv)
  have HS := Lib.hid hS
  have HY := Lib.hid hY
  have HF := Lib.hid hfin
  have HZ := Lib.hid hnz
  clear hS hY hfin hv r0 hnz
  refine callsIn_of_wp Try.func106 rfl trivial ?_ rfl
  simp only [Try.ntmps106, List.size_toArray, List.length_cons, List.length_nil, Nat.reduceAdd, Nat.reduceSub, Array.replicate_succ, Array.replicate_zero, List.push_toArray, List.append_toArray, List.nil_append, List.cons_append]
  gi_wp2_with (refine ⟨trivial, ?_⟩; gi_at_call 107; refine (callsIn_wide.2 CT.out).mono ?_; rintro e w1 ⟨rfl, k1, u1, r1⟩)
  have S1 := HS.out.call hp k1 r1
  have L1 := hL.keep k1 hl hd
  have HS1 := Lib.hid S1
  have HL1 := Lib.hid L1
  clear S1 L1 HS CT c1 c2 hL k1 r1
  gi_loopw [6] (fun i wr => ∃ (pre : List (Nat × En)) (s : Rs) (rest : List Pe), i = .int .i64 pre.length ∧ St (kEnt w0.heap.size) w0 p D (pre.map Prod.snd) s wr ∧ Looped l d r wr ∧ pre.length ≤ n ∧ (s.err ≠ 0 → pre.length = n) ∧ rdL (kEnt w0.heap.size).one (n - pre.length) s = (rest, fin.2) ∧ (pre.map (fun x => (kEnt w0.heap.size).plain x.2)) ++ rest = fin.1)
    (fun i _ => n - (intOf i).toNat)
  case atStart =>
    exact ⟨[], s1, fin.1, rfl, HS1.out, HL1.out, Nat.zero_le _, fun h => (HZ.out h).symm, by rw [List.length_nil, Nat.sub_zero, HF.out], rfl⟩
  case round =>
    clear HS1 HL1 HF HZ
    obtain ⟨pre, s, rest, rfl, hS, hL, hkn, hse, hrd, hpre⟩ := hrel
    by_cases hlt : pre.length < n
    · have hs0 : s.err = 0 := Decidable.by_contra fun h => by have := hse h; omega
      obtain ⟨j, hj⟩ : ∃ j, n - pre.length = j + 1 := ⟨n - pre.length - 1, by omega⟩
      obtain ⟨pt, s', ht⟩ : ∃ pt s', rdEnt s = (pt, s') := ⟨_, _, rfl⟩
      have hone : (kEnt w0.heap.size).one s = (pt, s') := ht
      rw [hj, rdL_succ _ _ _ hs0, hone] at hrd
      have c1 : wr.cell? ⟨w0.heap.size + 1, 0, none⟩ = some (.pointer (some ⟨p, 0, none⟩)) := hS.b1.cell 0
      have c3 : wr.cell? ⟨w0.heap.size + 3, 0, none⟩ = some (.func (.func 97) #[] #[]) := hS.b3.cell 0
      obtain ⟨ur, rr⟩ := hS.rd
      have E1 := Lib.hid (err_any wr p D ur s.left s.err rr)
      rw [hs0] at E1
      have RN := Lib.hid (readEntry_to wr p D ur s (fun i hi => Nat.lt_of_lt_of_le (hD i hi) hS.kp.size) rr)
      have HW := Lib.hid hS.kp.size
      have HR := Lib.hid hrd
      have HP := Lib.hid hpre
      have HS := Lib.hid hS
      have HL := Lib.hid hL
      have HTT := Lib.hid ht
      have hlti : (pre.length : Int) < n := by omega
      clear hrd hpre hS hL rr ht hone hse
      gi_wp2_with (refine ⟨trivial, ?_⟩; gi_at_call 102; refine (callsIn_wide.2 E1.out).mono ?_; clear E1; rintro e w1 ⟨rfl, rfl⟩)
      refine ⟨trivial, (callsIn_wide.2 RN.out).mono ?_⟩
      clear RN c1 c3
      rintro e w2 ⟨t, rfl, k2, ⟨u2, r2⟩, hheld, htp⟩
      rw [HTT.out] at r2 htp
      have HTH := Lib.hid (hheld.ge HW.out)
      have HTP := Lib.hid htp
      clear hheld htp HTT HW
      obtain ⟨tn, tc, tk, tv, td⟩ := t
      obtain ⟨At, ct, hvt⟩ := own_shape HTH.out.2.2
      simp only at hvt
      subst hvt
      have S2 := (HS.out.call hp k2 r2).below ((Below.refl _ w2).alloc (Nat.le_refl _) (.cells #[.int .u64 (tn : Int), .int .u64 (tc : Int), .int .i64 tk, .slice At td.length ct] 81)) rfl
      have L2 := (HL.out.keep k2 hl hd).alloc (.cells #[.int .u64 (tn : Int), .int .u64 (tc : Int), .int .i64 tk, .slice At td.length ct] 81)
      have hT2 := (K_lies_alloc HTH.out (.cells #[.int .u64 (tn : Int), .int .u64 (tc : Int), .int .i64 tk, .slice At td.length ct] 81))
      have bx := Box.new w2 81 #[.int .u64 (tn : Int), .int .u64 (tc : Int), .int .i64 tk, .slice At td.length ct]
      have d0 : (w2.alloc (.cells #[.int .u64 (tn : Int), .int .u64 (tc : Int), .int .i64 tk, .slice At td.length ct] 81)).cell? ⟨w2.heap.size, 0, none⟩ = some (.int .u64 (tn : Int)) := bx.cell 0
      have d1 : (w2.alloc (.cells #[.int .u64 (tn : Int), .int .u64 (tc : Int), .int .i64 tk, .slice At td.length ct] 81)).cell? ⟨w2.heap.size, 1, none⟩ = some (.int .u64 (tc : Int)) := bx.cell 1
      have d2 : (w2.alloc (.cells #[.int .u64 (tn : Int), .int .u64 (tc : Int), .int .i64 tk, .slice At td.length ct] 81)).cell? ⟨w2.heap.size, 2, none⟩ = some (.int .i64 tk) := bx.cell 2
      have d3 : (w2.alloc (.cells #[.int .u64 (tn : Int), .int .u64 (tc : Int), .int .i64 tk, .slice At td.length ct] 81)).cell? ⟨w2.heap.size, 3, none⟩ = some (.slice At td.length ct) := bx.cell 3
      have c1 : (w2.alloc (.cells #[.int .u64 (tn : Int), .int .u64 (tc : Int), .int .i64 tk, .slice At td.length ct] 81)).cell? ⟨w0.heap.size + 1, 0, none⟩ = some (.pointer (some ⟨p, 0, none⟩)) := S2.b1.cell 0
      have E2 := Lib.hid (err_any (w2.alloc (.cells #[.int .u64 (tn : Int), .int .u64 (tc : Int), .int .i64 tk, .slice At td.length ct] 81)) p D u2 s'.left s'.err (r2.keep ((Keep.refl noneOf w2).alloc _) id (fun _ _ => id)))
      have HS2 := Lib.hid S2
      have HL2 := Lib.hid L2
      clear S2 L2 HS HL k2 r2 bx
      by_cases he : s'.err = 0
      · rw [he] at E2
        obtain ⟨fn, tmps, assign, body, hy, hR⟩ := HY.out pre (pre.length, ⟨tn, tc, tk, .slice At td.length ct, td⟩) (w2.alloc (.cells #[.int .u64 (tn : Int), .int .u64 (tc : Int), .int .i64 tk, .slice At td.length ct] 81)) ⟨rfl, hlt, hle, hT2, s', (rdL (kEnt w0.heap.size).one j s').1, HS2.out, he, by rw [show n - (pre.length + 1) = j from by omega]; exact Prod.ext rfl (Prod.mk.inj HR.out).2, by
          rw [List.map_append, List.append_assoc]
          show (List.map (fun x => (kEnt w0.heap.size).plain x.2) pre) ++ (En.plain ⟨tn, tc, tk, .slice At td.length ct, td⟩ :: (rdL (kEnt w0.heap.size).one j s').1) = fin.1
          rw [HTP.out]
          rw [(Prod.mk.inj HR.out).1]
          exact HP.out⟩ HL2.out
        dsimp only at hy
        gi_wp2_with (refine ⟨trivial, ?_⟩; gi_at_call 102; refine (callsIn_wide.2 E2.out).mono ?_; clear E2; rintro e w3 ⟨rfl, rfl⟩)
        refine hR.mono ?_
        rintro e W3 ⟨rfl, ⟨s3, rest3, S3, e3, n3, q3, f3⟩, L3⟩
        have HS3 := Lib.hid S3
        have HL3 := Lib.hid L3
        have HF3 := Lib.hid f3
        have HQ3 := Lib.hid q3
        clear S3 L3 f3 q3 hy hR c1 HS2 HL2 HTP HP HR
        gi_wp2
        go_roundw
        case rel => exact ⟨pre ++ [(pre.length, ⟨tn, tc, tk, .slice At td.length ct, td⟩)], s3, rest3, by simp, HS3.out, HL3.out, n3, fun h => absurd e3 h, HQ3.out, HF3.out⟩
        case measure => simp [intOf]; omega
      · have hbe : (s'.err == 0) = false := beq_eq_false_iff_ne.2 he
        have hbn : (s'.err != 0) = true := by rw [bne_iff_ne]; exact he
        have hfs : fin.2 = s' := by rw [← (Prod.mk.inj HR.out).2, rdL_failed _ _ _ he]
        have HE := Lib.hid he
        have HFS := Lib.hid hfs
        clear he hfs HTP
        obtain ⟨er, hge⟩ : ∃ er, s'.err = er := ⟨_, rfl⟩
        rw [hge] at hbe hbn E2
        clear hge
        gi_wp2_with (refine ⟨trivial, ?_⟩; gi_at_call 102; refine (callsIn_wide.2 E2.out).mono ?_; clear E2; rintro e w3 ⟨rfl, rfl⟩)
        refine ⟨fun _ h => (by cases h), ?_⟩
        gi_wp2
        refine bodyPost_ret (results_none rfl _ _ _) rfl ?_
        exact ⟨⟨_, rfl⟩, ⟨pre.map Prod.snd, by rw [HFS.out]; exact HS2.out, fun h => absurd h (by rw [HFS.out]; exact HE.out)⟩, HL2.out⟩
    · have hk : pre.length = n := by omega
      have hkI : ¬ (pre.length : Int) < n := by omega
      rw [hk, Nat.sub_self] at hrd
      have HR := Lib.hid hrd
      have HP := Lib.hid hpre
      have HS := Lib.hid hS
      have HL := Lib.hid hL
      clear hrd hpre hS hL hse hk
      gi_wp2
      refine ⟨trivial, ?_⟩
      gi_wp2
      go_end0
      have hs := (Prod.mk.inj HR.out)
      refine ⟨⟨_, rfl⟩, ⟨pre.map Prod.snd, by rw [← hs.2]; exact HS.out, fun _ => ?_⟩, HL.out⟩
      rw [← HP.out, ← hs.1, List.append_nil, List.map_map]
      rfl
theorem entinfo : (Try.prog.info? 81).map (fun i => (i.zero, i.size, i.bytes)) = some (some (.agg #[.int .u64 0, .int .u64 0, .int .i64 0, .slice none 0 0]), 4, 48) := by kernel_rfl
theorem cell_four_new (w : World) (t : TypeId) (a b c d : Value) : ∀ j u, [a, b, c, d][j]? = some u → (w.alloc (.cells #[a, b, c, d] t)).cell? ((⟨w.heap.size, 0, none⟩ : Addr).add j) = some u := by
  intro j u hu
  have hb := (Box.new w t #[a, b, c, d]).cell j
  have ha : (⟨w.heap.size, 0, none⟩ : Addr).add j = ⟨w.heap.size, j, none⟩ := by
    unfold Addr.add
    split
    · rename_i h0; subst h0; rfl
    · simp
  rw [ha, hb]
  simpa using hu
def GotEnts (w : World) (p : Nat) (D : Nat → Prop) (pts : List Pe) (s : Rs) (e : Ending) (w' : World) : Prop :=
  ∃ (v : Value) (ts : List En), e = .returned v ∧ Keep (fun k => k = p) w w' ∧ (∃ u, Rd w' p D u s.left s.err) ∧ w'.ownsRow w.heap.size 81 4 v ts.length (ts.flatMap En.cells) ∧ (∀ t ∈ ts, En.held w.heap.size w' t) ∧ ts.map En.plain = pts
set_option maxRecDepth 100000 in
set_option maxHeartbeats 1000000 in
theorem list_ent (w0 : World) (p : Nat) (D : Nat → Prop) (u : Value) (s s1 : Rs) (n : Nat) (fin : List Pe × Rs) (hD : ∀ i, D i → i < w0.heap.size) (h : Rd w0 p D u s.left s.err) (hv : s.var 8 = (n, s1)) (hfin : rdL (kEnt w0.heap.size).one n s1 = fin) (ss : List Pe) (hss : (if fin.2.err = 0 then fin.1 else []) = ss) :
    Calls Try.prog 96 #[.pointer (some ⟨p, 0, none⟩), .int .i64 8, .func (.func 97) #[] #[]] w0 (GotEnts w0 p D ss fin.2) := by
  have hp := h.box.lt
  have hle : n ≤ 8 := by have := var_le s 8; rw [hv] at this; exact this
  refine (callsIn_wide (n := 9)).1 ?_
  refine callsIn_of_wp_marks Try.func96 rfl trivial ?_ rfl
  simp only [Try.ntmps96, List.size_toArray, List.length_cons, List.length_nil, Nat.reduceAdd, Nat.reduceSub, Array.replicate_succ, Array.replicate_zero, List.push_toArray, List.append_toArray, List.nil_append, List.cons_append]
  gi_wp2_with (refine ⟨trivial, ?_⟩; gi_at_call 101; refine (callsIn_wide.2 (items_ent _ p 8 _ _)).mono ?_; rintro e w1 ⟨rfl, rfl⟩)
  rw [show w0.heap.size + 1 + 1 = w0.heap.size + 2 from rfl, show w0.heap.size + 1 + 2 = w0.heap.size + 3 from rfl]
  have S0 : St (kEnt w0.heap.size) w0 p D [] s ((((w0.alloc (.cells #[.slice none 0 0] 23)).alloc (.cells #[.pointer (some ⟨p, 0, none⟩)] 56)).alloc (.cells #[.int .i64 8] 3)).alloc (.cells #[.func (.func 97) #[] #[]] 136)) := by
    have k0 := ((((Keep.refl noneOf w0).alloc (.cells #[.slice none 0 0] 23)).alloc (.cells #[.pointer (some ⟨p, 0, none⟩)] 56)).alloc (.cells #[.int .i64 8] 3)).alloc (.cells #[.func (.func 97) #[] #[]] 136)
    have x0 := (((Box.new w0 23 #[.slice none 0 0]).alloc (.cells #[.pointer (some ⟨p, 0, none⟩)] 56)).alloc (.cells #[.int .i64 8] 3)).alloc (.cells #[.func (.func 97) #[] #[]] 136)
    have x1 := ((Box.new (w0.alloc (.cells #[.slice none 0 0] 23)) 56 #[.pointer (some ⟨p, 0, none⟩)]).alloc (.cells #[.int .i64 8] 3)).alloc (.cells #[.func (.func 97) #[] #[]] 136)
    have x2 := (Box.new ((w0.alloc (.cells #[.slice none 0 0] 23)).alloc (.cells #[.pointer (some ⟨p, 0, none⟩)] 56)) 3 #[.int .i64 8]).alloc (.cells #[.func (.func 97) #[] #[]] 136)
    have x3 := Box.new (((w0.alloc (.cells #[.slice none 0 0] 23)).alloc (.cells #[.pointer (some ⟨p, 0, none⟩)] 56)).alloc (.cells #[.int .i64 8] 3)) 136 #[.func (.func 97) #[] #[]]
    rw [World.size_alloc] at x1
    rw [World.size_alloc, World.size_alloc] at x2
    rw [World.size_alloc, World.size_alloc, World.size_alloc] at x3
    exact ⟨⟨u, h.keep k0 id (fun _ _ => id)⟩, ⟨_, x0, World.ownsRow_nil _ _ _ _⟩, x1, x2, x3, k0.mono (fun _ _ h => h.elim), trivial, fun x hx => by cases hx⟩
  have hsz : ((((w0.alloc (.cells #[.slice none 0 0] 23)).alloc (.cells #[.pointer (some ⟨p, 0, none⟩)] 56)).alloc (.cells #[.int .i64 8] 3)).alloc (.cells #[.func (.func 97) #[] #[]] 136)).heap.size = w0.heap.size + 4 := by simp
  generalize ((((w0.alloc (.cells #[.slice none 0 0] 23)).alloc (.cells #[.pointer (some ⟨p, 0, none⟩)] 56)).alloc (.cells #[.int .i64 8] 3)).alloc (.cells #[.func (.func 97) #[] #[]] 136)) = W0 at *
  refine range_over2 (F := Fence.wide) (n := 9) (α := Nat × En) rfl (by decide) (gf := 106) (lb := #[.pointer (some ⟨w0.heap.size + 1, 0, none⟩), .pointer (some ⟨w0.heap.size + 2, 0, none⟩), .pointer (some ⟨w0.heap.size + 3, 0, none⟩)]) rfl trivial (enters_of Try.func106 (by kernel_rfl) rfl)
    (encs := fun x => #[.int .i64 x.1, .agg #[.int .u64 (x.2.ix : Int), .int .u64 (x.2.te : Int), .int .i64 x.2.k, x.2.dv]]) (fun _ => rfl) (JJ (kEnt w0.heap.size) w0 p D n fin) (YY (kEnt w0.heap.size) w0 p D n fin) (DD (kEnt w0.heap.size) w0 p D fin)
    (fun pre W l r o hl hj hr => hj.loop hD hp hr rfl (by omega) _) (fun pre x W l r o hl hj hr => hj.loop hD hp hr rfl (by omega) _) (fun W l r o hl hj hr => hj.loop hD hp hr rfl (by omega) _)
    (fun x a' W => ∃ Bx, Box W Bx 81 #[.int .u64 (x.2.ix : Int), .int .u64 (x.2.te : Int), .int .i64 x.2.k, x.2.dv] ∧ a' = { tmps := #[.pointer (some ⟨p, 0, none⟩), .int .i64 8, .func (.func 97) #[] #[], undef, undef, undef, .slice none 0 0, .pointer (some ⟨w0.heap.size, 0, none⟩), undef, .pointer (some ⟨Bx, 0, none⟩), .pointer (some ⟨p, 0, none⟩), .int .i64 8, .func (.func 97) #[] #[],
      .func (.func 106) #[] #[.pointer (some ⟨w0.heap.size + 1, 0, none⟩), .pointer (some ⟨w0.heap.size + 2, 0, none⟩), .pointer (some ⟨w0.heap.size + 3, 0, none⟩)], .int .i64 x.1, .agg #[.int .u64 (x.2.ix : Int), .int .u64 (x.2.te : Int), .int .i64 x.2.k, x.2.dv], undef, undef, undef, undef, undef, undef, undef, undef], defers := [] })
    (fun x a' W l r o ⟨Bx, hb, he⟩ hr => ⟨Bx, hb.keep (loop_keep W l _) (hb.not_loop hr rfl), he⟩) ?assign ?body ?iter ?done
  case assign =>
    rintro l pre ⟨i, ⟨tn, tc, tk, tv, td⟩⟩ W K hy hK
    obtain ⟨At, ct, hvt⟩ := own_shape hy.2.2.2.1.2.2
    simp only at hvt
    subst hvt
    have HYY := Lib.hid hy
    have HKK := Lib.hid hK
    clear hy hK S0 hss hfin hv h
    simp only
    gi_wp2
    exact HKK.out _ _ (KeepsOthers.alloc _ _) (HYY.out.below ((Below.refl _ W).alloc (Nat.le_refl _) _)) ⟨W.heap.size, Box.new W _ _, rfl⟩
  case iter =>
    intro l d r W hl hd hB hL hY
    exact items1_ent w0 W p D s s1 n (9 - 1) l d r fin hD hp (S0.below hB rfl) hL (by omega) (by omega) hv hfin (by decide) hY
  case body =>
    rintro l pre ⟨i, ⟨tn, tc, tk, tv, td⟩⟩ a' W ⟨hi, hlt, hmo, hlx, s', rest, hS, he, hrd, hpre⟩ ⟨Bx, hbx0, rfl⟩
    obtain ⟨v, hb, ho⟩ := hS.row
    obtain ⟨i0, hi0, hz0, hz1, hz2⟩ := info_parts entinfo
    obtain ⟨At, ct, hvt⟩ := own_shape hlx.2.2
    simp only at hvt
    subst hvt
    have hpl : (pre.map Prod.snd).length = pre.length := List.length_map _
    have HA := Lib.hid (show ∀ W2 v', (W.alloc (.cells #[.int .u64 (tn : Int), .int .u64 (tc : Int), .int .i64 tk, .slice At td.length ct] 81)).grownBy W2 v.ownBlock → W2.ownsRow w0.heap.size 81 4 v' (pre.length + 1) ((pre.map Prod.snd).flatMap (kEnt w0.heap.size).cel ++ [.int .u64 (tn : Int), .int .u64 (tc : Int), .int .i64 tk, .slice At td.length ct]) → _ from fun W2 v' hg ho' => hS.app hD hp hb ho ⟨tn, tc, tk, .slice At td.length ct, td⟩ hlx rfl hg (by rw [hpl]; exact ho'))
    have hc : W.cell? ⟨w0.heap.size, 0, none⟩ = some v := hb.cell 0
    have hfz := hb.free 0
    rw [hpl] at ho
    have ho : W.ownsRow w0.heap.size 81 4 v pre.length ((pre.map Prod.snd).flatMap (kEnt w0.heap.size).cel) := ho
    obtain ⟨A, c, hva⟩ := own_shape ho
    subst hva
    have hBW := hS.kp.size
    have d0 : W.cell? ⟨Bx, 0, none⟩ = some (.int .u64 (tn : Int)) := hbx0.cell 0
    have d1 : W.cell? ⟨Bx, 1, none⟩ = some (.int .u64 (tc : Int)) := hbx0.cell 1
    have d2 : W.cell? ⟨Bx, 2, none⟩ = some (.int .i64 tk) := hbx0.cell 2
    have d3 : W.cell? ⟨Bx, 3, none⟩ = some (.slice At td.length ct) := hbx0.cell 3
    simp only
    have hmo : n ≤ 8 := hmo
    have HI := Lib.hid hi
    have HRD := Lib.hid hrd
    have HPRE := Lib.hid hpre
    clear hi hrd hpre hlx S0 hss hfin hv h hS hb hpl
    generalize (pre.map Prod.snd).flatMap (kEnt w0.heap.size).cel = XS at *
    gi_wp2_with (gi_at_builtin; refine wpListIn_append_own _ rfl _ _ 23 rfl w0.heap.size 81 i0 _ 4 48 Try.underlying23 hi0 hz0 hz1 hz2 rfl (by decide) _ _ _ rfl (ho.alloc _) ⟨W.heap.size, 0, none⟩ 1 1 [.int .u64 (tn : Int), .int .u64 (tc : Int), .int .i64 tk, .slice At td.length ct] rfl rfl (cell_four_new _ _ _ _ _ _) (by simp [Value.oneCell']) (by unfold maxLen; omega) (by omega) (by simp; omega) ?_; intro v' w1 hown' hgrow _; obtain ⟨hbx, hst, hko⟩ := HA.out w1 v' hgrow hown'; obtain ⟨g', cap', rfl⟩ := ownsRow_succ hown'; have hc1 := hbx.cell 0; have hf1 := hbx.free 0)
    exact ⟨hko, s', rest, by rw [List.map_append]; exact hst, he, by rw [List.length_append]; exact hlt, by rw [List.length_append]; exact HRD.out, HPRE.out⟩
  case done =>
    rintro d W hd ⟨xs, hS, hxs⟩ hK
    obtain ⟨ud, rd⟩ := hS.rd
    obtain ⟨v, hb, ho⟩ := hS.row
    have E1 := Lib.hid (err_any W p D ud _ _ rd)
    have hc : W.cell? ⟨w0.heap.size, 0, none⟩ = some v := hb.cell 0
    obtain ⟨A, c, hva⟩ := own_shape ho
    subst hva
    have HSt := Lib.hid hS
    have HX := Lib.hid hxs
    have HO := Lib.hid ho
    have HSS := Lib.hid hss
    have HK := Lib.hid hK
    clear S0 hS hxs ho hb rd hss hv hfin h
    by_cases he : fin.2.err = 0
    · rw [he] at E1
      gi_wp2_with (refine ⟨trivial, ?_⟩; gi_at_call 102; refine (callsIn_wide.2 E1.out).mono ?_; clear E1; rintro e w3 ⟨rfl, rfl⟩)
      refine ⟨by simp, .inl ⟨_, _, rfl, run_takeDeferred HK.out, ?_⟩⟩
      have S' := HSt.out.loop hD hp HK.out rfl (by omega) (.deferred none)
      have hxe : xs.map En.plain = ss := by rw [← HSS.out, if_pos he, ← HX.out he]; rfl
      have ho' := own_loop HO.out HK.out rfl (.deferred none)
      refine ⟨_, results_tmp rfl _ _ _, ?_⟩
      exact ⟨.slice A xs.length c, xs, rfl, S'.kp, S'.rd, ho', S'.ls, hxe⟩
    · have hbn : (fin.2.err != 0) = true := by rw [bne_iff_ne]; exact he
      have HE := Lib.hid he
      clear he
      gi_wp2_with (refine ⟨trivial, ?_⟩; gi_at_call 102; refine (callsIn_wide.2 E1.out).mono ?_; clear E1; rintro e w3 ⟨rfl, rfl⟩)
      refine ⟨by simp, .inl ⟨_, _, rfl, run_takeDeferred HK.out, ?_⟩⟩
      have S' := HSt.out.loop hD hp HK.out rfl (by omega) (.deferred none)
      obtain rfl : [] = ss := by rw [← HSS.out, if_neg HE.out]
      refine ⟨_, results_tmp rfl _ _ _, ?_⟩
      exact ⟨.slice none 0 0, [], rfl, S'.kp, S'.rd, World.ownsRow_nil _ _ _ _, fun x hx => (by cases hx), rfl⟩
end Go.Proofs.Ytdikmmdkpfmocaa
