import Derived.LoopIn
import Derived.LoopNIn
import Derived.Maps.AppendAt
import Derived.OwnWalkIn
import Derived.Shelf.Abstract
import Derived.Shelf.RegionOpen
import Derived.TacticsInMore
import Derived.Test.YtdikmmdkpfmocaaBs15
import Derived.Test.YtdikmmdkpfmocaaBs20
namespace Go.Proofs.Ytdikmmdkpfmocaa
open Go.RowKit Go.Shelf
attribute [local go_sem] Oper.semAt_some
theorem wrap_u8 {n : Nat} (h : n < 256) : IntKind.i64.wrap (n : Int) = (n : Int) := IntWalk.i64_in _ (by omega)
set_option maxRecDepth 100000 in
set_option maxHeartbeats 400000 in
theorem readNode_to (w : World) (p : Nat) (D : Nat → Prop) (u : Value) (s s' : Rs) (cs : List UInt8) (h : Rd w p D u s.left s.err) (e : s.take 1 = (cs, s')) :
    Calls Try.prog 99 #[.pointer (some ⟨p, 0, none⟩)] w (Got w p D (.int .i64 (num cs)) s') := by
  have hl := take_length s 1
  rw [e] at hl
  have hn := num_one cs hl
  have T := Lib.hid (rbyte_to w p D u s s' cs h e)
  have hw := wrap_u8 hn
  clear h e hl
  go_enter Try.func99, Try.ntmps99
  go_wp2_with fail
  refine T.out.mono ?_
  rintro e w1 ⟨rfl, k1, u1, h1⟩
  go_wp2
  go_ret
  exact ⟨rfl, k1, u1, h1⟩
set_option maxRecDepth 100000 in
set_option maxHeartbeats 400000 in
theorem items_node (w : World) (p : Nat) (most : Int) (ff : Nat) (lb : Array Value) :
    Calls Try.prog 104 #[.pointer (some ⟨p, 0, none⟩), .int .i64 most, .func (.func ff) #[] lb] w fun e w' =>
      e = .returned (.func (.func 108) #[] #[.pointer (some ⟨w.heap.size, 0, none⟩), .pointer (some ⟨w.heap.size + 1, 0, none⟩), .pointer (some ⟨w.heap.size + 2, 0, none⟩)]) ∧
      w' = ((w.alloc (.cells #[.pointer (some ⟨p, 0, none⟩)] 56)).alloc (.cells #[.int .i64 most] 3)).alloc (.cells #[.func (.func ff) #[] lb] 138) := by
  go_enter Try.func104, Try.ntmps104
  go_wp2
  go_ret
  exact ⟨rfl, rfl⟩
def kNode : KindZ Int Int where
  te := 3
  tl := 24
  tf := 138
  sz := 1
  ts := []
  cel := fun x => [.int .i64 x]
  plain := id
  one := fun s => ((num (s.take 1).1 : Int), (s.take 1).2)
  lies := fun _ _ => True
  ctx := fun _ => True
  fv := .func (.func 99) #[] #[]
  most := 8
  stays := fun _ _ _ _ _ => ⟨id, fun _ => id⟩
  nte := by simp
  ntl := by simp
  nrd := by simp
  nel := by decide
  nfe := by decide
  nre := by decide
theorem rdL_failed {P : Type} (one : Rs → P × Rs) (n : Nat) (s : Rs) (h : s.err ≠ 0) : (rdL one n s).2 = s := by
  cases n with
  | zero => rfl
  | succ n => rw [rdL, if_pos h]
theorem rdL_succ {P : Type} (one : Rs → P × Rs) (n : Nat) (s : Rs) (h : s.err = 0) : rdL one (n + 1) s = ((one s).1 :: (rdL one n (one s).2).1, (rdL one n (one s).2).2) := by
  rw [rdL, if_neg (fun h' => h' h)]
set_option maxRecDepth 100000 in
set_option maxHeartbeats 1000000 in
theorem items1_node (w0 W : World) (p : Nat) (D : Nat → Prop) (s0 s1 : Rs) (n m l d : Nat) (r : Loop) (fin : List Int × Rs) (hp : p < w0.heap.size) (hS : StZ kNode w0 p D [] s0 W) (hL : Looped l d r W) (hl : l ≠ p) (hd : d ≠ p)
    (hv : s0.var 8 = (n, s1)) (hfin : rdL kNode.one n s1 = fin) (hm : 1 ≤ m)
    (hY : ∀ pre x W1, YYZ kNode w0 p D n fin pre x W1 → Looped l d r W1 → YieldAt Fence.wide (m - 1) Try.prog l #[.int .i64 x.1, .int .i64 x.2] W1 fun e W2 => e = .returned (.bool true) ∧ JJZ kNode w0 p D n fin (pre ++ [x]) W2 ∧ Looped l d r W2) :
    CallsIn Fence.wide m Try.prog 108 #[.func (.yield l) #[] #[], .pointer (some ⟨w0.heap.size + 1, 0, none⟩), .pointer (some ⟨w0.heap.size + 2, 0, none⟩), .pointer (some ⟨w0.heap.size + 3, 0, none⟩)] W fun e W2 =>
      (∃ v, e = .returned v) ∧ DDZ kNode w0 p D fin W2 ∧ Looped l d r W2 := by
  have hle : n ≤ 8 := by have := var_le s0 8; rw [hv] at this; exact this
  have hnz : s1.err ≠ 0 → n = 0 := by
    intro h
    by_cases e : s0.err = 0
    · unfold Rs.var at hv
      rw [if_neg (fun h' => h' e)] at hv
      by_cases e2 : (frontV s0.left 8).2.2 ≠ 0
      · rw [if_pos e2] at hv
        injection hv with h1 h2
        exact h1.symm
      · rw [if_neg e2] at hv
        injection hv with h1 h2
        rw [← h2] at h
        exact absurd rfl h
    · unfold Rs.var at hv
      rw [if_pos e] at hv
      injection hv with h1 h2
      exact h1.symm
  have c1 : W.cell? ⟨w0.heap.size + 1, 0, none⟩ = some (.pointer (some ⟨p, 0, none⟩)) := hS.b1.cell 0
  have c2 : W.cell? ⟨w0.heap.size + 2, 0, none⟩ = some (.int .i64 8) := hS.b2.cell 0
  obtain ⟨u0, r0⟩ := hS.rd
  have CT := Lib.hid (count_to W p D u0 s0 s1 n 8 (by decide) r0 hv)
  have HS := Lib.hid hS
  have HY := Lib.hid hY
  have HF := Lib.hid hfin
  have HZ := Lib.hid hnz
  clear hS hY hfin hv r0 hnz
  refine callsIn_of_wp Try.func108 rfl trivial ?_ rfl
  simp only [Try.ntmps108, List.size_toArray, List.length_cons, List.length_nil, Nat.reduceAdd, Nat.reduceSub, Array.replicate_succ, Array.replicate_zero, List.push_toArray, List.append_toArray, List.nil_append, List.cons_append]
  gi_wp2_with (refine ⟨trivial, ?_⟩; gi_at_call 107; refine (callsIn_wide.2 CT.out).mono ?_; rintro e w1 ⟨rfl, k1, u1, r1⟩)
  have S1 := HS.out.call hp k1 r1
  have L1 := hL.keep k1 hl hd
  have HS1 := Lib.hid S1
  have HL1 := Lib.hid L1
  clear S1 L1 HS CT c1 c2 hL k1 r1
  gi_loopw [6] (fun i wr => ∃ (pre : List (Nat × Int)) (s : Rs) (rest : List Int), i = .int .i64 pre.length ∧ StZ kNode w0 p D (pre.map Prod.snd) s wr ∧ Looped l d r wr ∧ pre.length ≤ n ∧ (s.err ≠ 0 → pre.length = n) ∧ rdL kNode.one (n - pre.length) s = (rest, fin.2) ∧ (pre.map (fun x => kNode.plain x.2)) ++ rest = fin.1)
    (fun i _ => n - (intOf i).toNat)
  case atStart =>
    exact ⟨[], s1, fin.1, rfl, HS1.out, HL1.out, Nat.zero_le _, fun h => (HZ.out h).symm, by rw [List.length_nil, Nat.sub_zero, HF.out], rfl⟩
  case round =>
    clear HS1 HL1 HF HZ
    obtain ⟨pre, s, rest, rfl, hS, hL, hkn, hse, hrd, hpre⟩ := hrel
    by_cases hlt : pre.length < n
    · have hs0 : s.err = 0 := Decidable.by_contra fun h => by have := hse h; omega
      obtain ⟨j, hj⟩ : ∃ j, n - pre.length = j + 1 := ⟨n - pre.length - 1, by omega⟩
      obtain ⟨cs, s', ht⟩ : ∃ cs s', s.take 1 = (cs, s') := ⟨_, _, rfl⟩
      have hone : kNode.one s = ((num cs : Int), s') := by show ((num (s.take 1).1 : Int), (s.take 1).2) = _; rw [ht]
      rw [hj, rdL_succ _ _ _ hs0, hone] at hrd
      have c1 : wr.cell? ⟨w0.heap.size + 1, 0, none⟩ = some (.pointer (some ⟨p, 0, none⟩)) := hS.b1.cell 0
      have c3 : wr.cell? ⟨w0.heap.size + 3, 0, none⟩ = some (.func (.func 99) #[] #[]) := hS.b3.cell 0
      obtain ⟨ur, rr⟩ := hS.rd
      have E1 := Lib.hid (err_any wr p D ur s.left s.err rr)
      rw [hs0] at E1
      have RN := Lib.hid (readNode_to wr p D ur s s' cs rr ht)
      have HR := Lib.hid hrd
      have HP := Lib.hid hpre
      have HS := Lib.hid hS
      have HL := Lib.hid hL
      have hlti : (pre.length : Int) < n := by omega
      clear hrd hpre hS hL rr ht hone hse
      gi_wp2_with (refine ⟨trivial, ?_⟩; gi_at_call 102; refine (callsIn_wide.2 E1.out).mono ?_; clear E1; rintro e w1 ⟨rfl, rfl⟩)
      refine ⟨trivial, (callsIn_wide.2 RN.out).mono ?_⟩
      clear RN c1 c3
      rintro e w2 ⟨rfl, k2, u2, r2⟩
      have S2 := HS.out.call hp k2 r2
      have L2 := HL.out.keep k2 hl hd
      have c1 : w2.cell? ⟨w0.heap.size + 1, 0, none⟩ = some (.pointer (some ⟨p, 0, none⟩)) := S2.b1.cell 0
      have E2 := Lib.hid (err_any w2 p D u2 s'.left s'.err r2)
      have HS2 := Lib.hid S2
      have HL2 := Lib.hid L2
      clear S2 L2 HS HL k2 r2
      by_cases he : s'.err = 0
      · rw [he] at E2
        obtain ⟨fn, tmps, assign, body, hy, hR⟩ := HY.out pre (pre.length, (num cs : Int)) w2 ⟨rfl, hlt, hle, trivial, s', (rdL kNode.one j s').1, HS2.out, he, by rw [show n - (pre.length + 1) = j from by omega]; exact Prod.ext rfl (Prod.mk.inj HR.out).2, by
          rw [List.map_append, List.append_assoc]
          show (List.map (fun x => kNode.plain x.2) pre) ++ ((num cs : Int) :: (rdL kNode.one j s').1) = fin.1
          rw [(Prod.mk.inj HR.out).1]
          exact HP.out⟩ HL2.out
        dsimp only at hy
        gi_wp2_with (refine ⟨trivial, ?_⟩; gi_at_call 102; refine (callsIn_wide.2 E2.out).mono ?_; clear E2; rintro e w3 ⟨rfl, rfl⟩)
        refine hR.mono ?_
        rintro e W3 ⟨rfl, ⟨s3, rest3, S3, e3, n3, q3, f3⟩, L3⟩
        have HS3 := Lib.hid S3
        have HL3 := Lib.hid L3
        have HF3 := Lib.hid f3
        have HQ3 := Lib.hid q3
        clear S3 L3 f3 q3 hy hR c1 HS2 HL2 HP HR
        gi_wp2
        go_roundw
        case rel => exact ⟨pre ++ [(pre.length, (num cs : Int))], s3, rest3, by simp, HS3.out, HL3.out, n3, fun h => absurd e3 h, HQ3.out, HF3.out⟩
        case measure => simp [intOf]; omega
      · have hbe : (s'.err == 0) = false := beq_eq_false_iff_ne.2 he
        have hbn : (s'.err != 0) = true := by rw [bne_iff_ne]; exact he
        have hfs : fin.2 = s' := by rw [← (Prod.mk.inj HR.out).2, rdL_failed _ _ _ he]
        have HE := Lib.hid he
        have HFS := Lib.hid hfs
        clear he hfs
        obtain ⟨er, hge⟩ : ∃ er, s'.err = er := ⟨_, rfl⟩
        rw [hge] at hbe hbn E2
        clear hge
        gi_wp2_with (refine ⟨trivial, ?_⟩; gi_at_call 102; refine (callsIn_wide.2 E2.out).mono ?_; clear E2; rintro e w3 ⟨rfl, rfl⟩)
        refine ⟨fun _ h => (by cases h), ?_⟩
        gi_wp2
        refine bodyPost_ret (results_none rfl _ _ _) rfl ?_
        exact ⟨⟨_, rfl⟩, ⟨pre.map Prod.snd, by rw [HFS.out]; exact HS2.out, fun h => absurd h (by rw [HFS.out]; exact HE.out)⟩, HL2.out⟩
    · have hk : pre.length = n := by omega
      have hkI : ¬ (pre.length : Int) < n := by omega
      rw [hk, Nat.sub_self] at hrd
      have HR := Lib.hid hrd
      have HP := Lib.hid hpre
      have HS := Lib.hid hS
      have HL := Lib.hid hL
      clear hrd hpre hS hL hse hk
      gi_wp2
      refine ⟨trivial, ?_⟩
      gi_wp2
      go_end0
      have hs := (Prod.mk.inj HR.out)
      refine ⟨⟨_, rfl⟩, ⟨pre.map Prod.snd, by rw [← hs.2]; exact HS.out, fun _ => ?_⟩, HL.out⟩
      rw [← HP.out, ← hs.1, List.append_nil, List.map_map]
      rfl
theorem flat_one (xs : List Int) : xs.flatMap kNode.cel = xs.map zv := by
  induction xs with
  | nil => rfl
  | cons a l ih => rw [List.flatMap_cons, ih]; rfl
def GotNodes (w : World) (p : Nat) (D : Nat → Prop) (ss : List Int) (s : Rs) (e : Ending) (w' : World) : Prop :=
  ∃ v, e = .returned v ∧ Keep (fun k => k = p) w w' ∧ (∃ u, Rd w' p D u s.left s.err) ∧ w'.ownsRow w.heap.size 3 1 v ss.length (ss.map zv)
set_option maxRecDepth 100000 in
set_option maxHeartbeats 1000000 in
theorem list_node (w0 : World) (p : Nat) (D : Nat → Prop) (u : Value) (s s1 : Rs) (n : Nat) (fin : List Int × Rs) (hD : ∀ i, D i → i < w0.heap.size) (h : Rd w0 p D u s.left s.err) (hv : s.var 8 = (n, s1)) (hfin : rdL kNode.one n s1 = fin) (ss : List Int) (hss : (if fin.2.err = 0 then fin.1 else []) = ss) :
    Calls Try.prog 98 #[.pointer (some ⟨p, 0, none⟩), .int .i64 8, .func (.func 99) #[] #[]] w0 (GotNodes w0 p D ss fin.2) := by
  have hp := h.box.lt
  have hle : n ≤ 8 := by have := var_le s 8; rw [hv] at this; exact this
  refine (callsIn_wide (n := 9)).1 ?_
  refine callsIn_of_wp_marks Try.func98 rfl trivial ?_ rfl
  simp only [Try.ntmps98, List.size_toArray, List.length_cons, List.length_nil, Nat.reduceAdd, Nat.reduceSub, Array.replicate_succ, Array.replicate_zero, List.push_toArray, List.append_toArray, List.nil_append, List.cons_append]
  gi_wp2_with (refine ⟨trivial, ?_⟩; gi_at_call 104; refine (callsIn_wide.2 (items_node _ p 8 _ _)).mono ?_; rintro e w1 ⟨rfl, rfl⟩)
  rw [show w0.heap.size + 1 + 1 = w0.heap.size + 2 from rfl, show w0.heap.size + 1 + 2 = w0.heap.size + 3 from rfl]
  have S0 : StZ kNode w0 p D [] s ((((w0.alloc (.cells #[.slice none 0 0] 24)).alloc (.cells #[.pointer (some ⟨p, 0, none⟩)] 56)).alloc (.cells #[.int .i64 8] 3)).alloc (.cells #[.func (.func 99) #[] #[]] 138)) := by
    have k0 := ((((Keep.refl noneOf w0).alloc (.cells #[.slice none 0 0] 24)).alloc (.cells #[.pointer (some ⟨p, 0, none⟩)] 56)).alloc (.cells #[.int .i64 8] 3)).alloc (.cells #[.func (.func 99) #[] #[]] 138)
    have x0 := (((Box.new w0 24 #[.slice none 0 0]).alloc (.cells #[.pointer (some ⟨p, 0, none⟩)] 56)).alloc (.cells #[.int .i64 8] 3)).alloc (.cells #[.func (.func 99) #[] #[]] 138)
    have x1 := ((Box.new (w0.alloc (.cells #[.slice none 0 0] 24)) 56 #[.pointer (some ⟨p, 0, none⟩)]).alloc (.cells #[.int .i64 8] 3)).alloc (.cells #[.func (.func 99) #[] #[]] 138)
    have x2 := (Box.new ((w0.alloc (.cells #[.slice none 0 0] 24)).alloc (.cells #[.pointer (some ⟨p, 0, none⟩)] 56)) 3 #[.int .i64 8]).alloc (.cells #[.func (.func 99) #[] #[]] 138)
    have x3 := Box.new (((w0.alloc (.cells #[.slice none 0 0] 24)).alloc (.cells #[.pointer (some ⟨p, 0, none⟩)] 56)).alloc (.cells #[.int .i64 8] 3)) 138 #[.func (.func 99) #[] #[]]
    rw [World.size_alloc] at x1
    rw [World.size_alloc, World.size_alloc] at x2
    rw [World.size_alloc, World.size_alloc, World.size_alloc] at x3
    exact ⟨⟨u, h.keep k0 id (fun _ _ => id)⟩, ⟨_, x0, World.ownsRow_nil _ _ _ _⟩, x1, x2, x3, k0.mono (fun _ _ h => h.elim), trivial, fun x hx => by cases hx⟩
  have hsz : ((((w0.alloc (.cells #[.slice none 0 0] 24)).alloc (.cells #[.pointer (some ⟨p, 0, none⟩)] 56)).alloc (.cells #[.int .i64 8] 3)).alloc (.cells #[.func (.func 99) #[] #[]] 138)).heap.size = w0.heap.size + 4 := by simp
  generalize ((((w0.alloc (.cells #[.slice none 0 0] 24)).alloc (.cells #[.pointer (some ⟨p, 0, none⟩)] 56)).alloc (.cells #[.int .i64 8] 3)).alloc (.cells #[.func (.func 99) #[] #[]] 138)) = W0 at *
  refine range_over (F := Fence.wide) (n := 9) (α := Nat × Int) rfl (by decide) (gf := 108) (lb := #[.pointer (some ⟨w0.heap.size + 1, 0, none⟩), .pointer (some ⟨w0.heap.size + 2, 0, none⟩), .pointer (some ⟨w0.heap.size + 3, 0, none⟩)]) rfl trivial (enters_of Try.func108 (by kernel_rfl) rfl)
    (encs := fun x => #[.int .i64 x.1, .int .i64 x.2]) (fun _ => rfl) (JJZ kNode w0 p D n fin) (YYZ kNode w0 p D n fin) (DDZ kNode w0 p D fin)
    (fun pre W l r o hl hj hr => hj.loop hD hp hr rfl (by omega) _) (fun pre x W l r o hl hj hr => hj.loop hD hp hr rfl (by omega) _) (fun W l r o hl hj hr => hj.loop hD hp hr rfl (by omega) _)
    (fun x => { tmps := #[.pointer (some ⟨p, 0, none⟩), .int .i64 8, .func (.func 99) #[] #[], undef, undef, undef, .slice none 0 0, .pointer (some ⟨w0.heap.size, 0, none⟩), undef, .int .i64 x.2, .pointer (some ⟨p, 0, none⟩), .int .i64 8, .func (.func 99) #[] #[],
      .func (.func 108) #[] #[.pointer (some ⟨w0.heap.size + 1, 0, none⟩), .pointer (some ⟨w0.heap.size + 2, 0, none⟩), .pointer (some ⟨w0.heap.size + 3, 0, none⟩)], .int .i64 x.1, .int .i64 x.2, undef, undef, undef, undef, undef, undef, undef, undef], defers := [] }) ?assign ?body ?iter ?done
  case assign =>
    intro l x W K hK
    gi_wp2
    exact hK
  case iter =>
    intro l d r W hl hd hB hL hY
    exact items1_node w0 W p D s s1 n (9 - 1) l d r fin hp (S0.below hB rfl) hL (by omega) (by omega) hv hfin (by decide) hY
  case body =>
    rintro l pre ⟨i, x⟩ W ⟨hi, hlt, hmo, hlx, s', rest, hS, he, hrd, hpre⟩
    obtain ⟨v, hb, ho⟩ := hS.row
    obtain ⟨i0, hi0, hz0, hz1, hz2⟩ := info_parts intinfo
    have hpl : (pre.map Prod.snd).length = pre.length := List.length_map _
    have HA := Lib.hid (show ∀ W2 v', (W.alloc (.cells #[.int .i64 x] 3)).grownBy W2 v.ownBlock → W2.ownsRow (w0.heap.size + 4) 3 1 v' (pre.length + 1) ((pre.map Prod.snd).flatMap kNode.cel ++ [.int .i64 x]) → _ from fun W2 v' hg ho' => hS.app hD hp hb ho x hlx rfl hg (by rw [hpl]; exact ho'))
    have hc : W.cell? ⟨w0.heap.size, 0, none⟩ = some v := hb.cell 0
    have hfz := hb.free 0
    rw [hpl] at ho
    have ho : W.ownsRow (w0.heap.size + 4) 3 1 v pre.length ((pre.map Prod.snd).flatMap kNode.cel) := ho
    obtain ⟨A, c, hva⟩ := own_shape ho
    subst hva
    have hBW := hS.b3.lt
    have hmo : n ≤ 8 := hmo
    have HI := Lib.hid hi
    have HRD := Lib.hid hrd
    have HPRE := Lib.hid hpre
    clear hi hrd hpre hlx S0 hss hfin hv h hS hb hpl
    generalize (pre.map Prod.snd).flatMap kNode.cel = XS at *
    gi_wp2_with (gi_at_builtin; refine wpListIn_append_own _ rfl _ _ 24 rfl (w0.heap.size + 4) 3 i0 _ 1 8 Try.underlying24 hi0 hz0 hz1 hz2 rfl (by decide) _ _ _ rfl (ho.alloc _) ⟨W.heap.size, 0, none⟩ 1 1 [.int .i64 x] rfl rfl (cell_one_new _ _ _) (by simp [Value.oneCell']) (by unfold maxLen; omega) (by omega) (by simp; omega) ?_; intro v' w1 hown' hgrow _; obtain ⟨hbx, hst, hko⟩ := HA.out w1 v' hgrow hown'; obtain ⟨g', cap', rfl⟩ := ownsRow_succ hown'; have hc1 := hbx.cell 0; have hf1 := hbx.free 0)
    exact ⟨hko, s', rest, by rw [List.map_append]; exact hst, he, by rw [List.length_append]; exact hlt, by rw [List.length_append]; exact HRD.out, HPRE.out⟩
  case done =>
    rintro d W hd ⟨xs, hS, hxs⟩ hK
    obtain ⟨ud, rd⟩ := hS.rd
    obtain ⟨v, hb, ho⟩ := hS.row
    have E1 := Lib.hid (err_any W p D ud _ _ rd)
    have hc : W.cell? ⟨w0.heap.size, 0, none⟩ = some v := hb.cell 0
    obtain ⟨A, c, hva⟩ := own_shape ho
    subst hva
    have HSt := Lib.hid hS
    have HX := Lib.hid hxs
    have HO := Lib.hid ho
    have HSS := Lib.hid hss
    have HK := Lib.hid hK
    clear S0 hS hxs ho hb rd hss hv hfin h
    by_cases he : fin.2.err = 0
    · rw [he] at E1
      gi_wp2_with (refine ⟨trivial, ?_⟩; gi_at_call 102; refine (callsIn_wide.2 E1.out).mono ?_; clear E1; rintro e w3 ⟨rfl, rfl⟩)
      refine ⟨by simp, .inl ⟨_, _, rfl, run_takeDeferred HK.out, ?_⟩⟩
      have S' := HSt.out.loop hD hp HK.out rfl (by omega) (.deferred none)
      have hxe : xs = ss := by rw [← HSS.out, if_pos he, ← HX.out he]; exact (List.map_id xs).symm
      have ho' := own_loop HO.out HK.out rfl (.deferred none)
      rw [flat_one] at ho'
      subst hxe
      refine ⟨_, results_tmp rfl _ _ _, ?_⟩
      exact ⟨.slice A xs.length c, rfl, S'.kp, S'.rd, own_base ho' (by omega)⟩
    · have hbn : (fin.2.err != 0) = true := by rw [bne_iff_ne]; exact he
      have HE := Lib.hid he
      clear he
      gi_wp2_with (refine ⟨trivial, ?_⟩; gi_at_call 102; refine (callsIn_wide.2 E1.out).mono ?_; clear E1; rintro e w3 ⟨rfl, rfl⟩)
      refine ⟨by simp, .inl ⟨_, _, rfl, run_takeDeferred HK.out, ?_⟩⟩
      have S' := HSt.out.loop hD hp HK.out rfl (by omega) (.deferred none)
      obtain rfl : [] = ss := by rw [← HSS.out, if_neg HE.out]
      refine ⟨_, results_tmp rfl _ _ _, ?_⟩
      exact ⟨.slice none 0 0, rfl, S'.kp, S'.rd, World.ownsRow_nil _ _ _ _⟩
end Go.Proofs.Ytdikmmdkpfmocaa
