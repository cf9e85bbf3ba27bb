import Derived.Lib.SliceRun
import Derived.Test.YtffoeodjbbkdjaaGreatBs22
namespace Go.Proofs.YtffoeodjbbkdjaaGreat
open Go.RowKit
theorem mapk_at {α : Type} {f : α → α} {l : List α} {k : Nat} {a : α} (h : l[k]? = some a) : ((l.take k).map f ++ l.drop k)[k]? = some a := by
 have hk := (List.getElem?_eq_some_iff.1 h).1
 have e : ((l.take k).map f).length = k := by rw [List.length_map, List.length_take]; omega
 rw [List.getElem?_append_right (by omega), e, Nat.sub_self, List.getElem?_drop, Nat.add_zero]
 exact h
theorem mapk_step {α : Type} {f : α → α} {l : List α} {k : Nat} {a : α} (h : l[k]? = some a) : ((l.take k).map f ++ l.drop k).modify k f = (l.take (k + 1)).map f ++ l.drop (k + 1) := by
 have hk := (List.getElem?_eq_some_iff.1 h).1
 have hd : l.drop k = a :: l.drop (k + 1) := by
  rw [List.drop_eq_getElem_cons hk]
  congr 1
  rw [List.getElem?_eq_getElem hk] at h
  injection h
 have ht : l.take (k + 1) = l.take k ++ [a] := by
  rw [List.take_succ_eq_append_getElem hk]
  congr 2
  rw [List.getElem?_eq_getElem hk] at h
  injection h
 have e : ((l.take k).map f).length = k := by rw [List.length_map, List.length_take]; omega
 refine List.ext_getElem? fun j => ?_
 rw [List.getElem?_modify, ht, hd, List.map_append, List.append_assoc]
 rcases Nat.lt_trichotomy j k with hj | hj | hj
 ·
  rw [List.getElem?_append_left (by omega), List.getElem?_append_left (by omega)]
  cases ((l.take k).map f)[j]? with
  | none => rfl
  | some b => simp [show ¬ k = j from by omega]
 ·
  subst hj
  rw [List.getElem?_append_right (by omega), List.getElem?_append_right (by omega), e, Nat.sub_self]
  simp
 ·
  rw [List.getElem?_append_right (by omega), List.getElem?_append_right (by omega), e]
  obtain ⟨m, hm⟩ : ∃ m, j - k = m + 1 := ⟨j - k - 1, by omega⟩
  rw [hm, List.map_cons, List.map_nil, List.singleton_append, List.getElem?_cons_succ, List.getElem?_cons_succ]
  cases (l.drop (k + 1))[m]? with
  | none => rfl
  | some b => simp [show ¬ k = j from by omega]
theorem findG_some {q : Qp} {id : Int} {i : Nat} {g : Gq} (hg : q.gs[i]? = some g) (h : g.id = id) (hno : ∀ (j : Nat) (b : Gq), j < i → q.gs[j]? = some b → b.id ≠ id) : findG q id = some i := by
 unfold findG
 rw [List.findIdx?_eq_some_iff_getElem]
 obtain ⟨hi, he⟩ := List.getElem?_eq_some_iff.1 hg
 refine ⟨hi, by rw [he]; simpa using h, fun j hj => ?_⟩
 have hjl : j < q.gs.length := by omega
 simpa using hno j _ hj (List.getElem?_eq_getElem hjl)
theorem findG_none {q : Qp} {id : Int} (hno : ∀ (j : Nat) (b : Gq), q.gs[j]? = some b → b.id ≠ id) : findG q id = none := by
 unfold findG
 rw [List.findIdx?_eq_none_iff]
 intro g hg
 obtain ⟨j, hj⟩ := List.getElem?_of_mem hg
 simpa using hno j g hj
theorem firstG_some {f : Gq → Option Nat} : ∀ {gs : List Gq} {i j k : Nat} {g : Gq}, gs[j]? = some g → f g = some k → (∀ (m : Nat) (b : Gq), m < j → gs[m]? = some b → f b = none) → firstG f gs i = some (i + j, k)
 | [], i, j, k, g, hg, _, _ => by simp at hg
 | a :: gs, i, 0, k, g, hg, hf, _ => by
  have e : a = g := by simpa using hg
  subst e
  unfold firstG
  rw [hf]
  rfl
 | a :: gs, i, j + 1, k, g, hg, hf, hno => by
  have h0 := hno 0 a (by omega) rfl
  unfold firstG
  rw [h0]
  have := firstG_some (gs := gs) (i := i + 1) (j := j) (by simpa using hg) hf (fun m b hm hb => hno (m + 1) b (by omega) (by simpa using hb))
  rw [show i + (j + 1) = i + 1 + j from by omega]
  exact this
theorem firstG_none {f : Gq → Option Nat} : ∀ {gs : List Gq} {i : Nat}, (∀ (m : Nat) (b : Gq), gs[m]? = some b → f b = none) → firstG f gs i = none
 | [], _, _ => rfl
 | a :: gs, i, h => by
  unfold firstG
  rw [h 0 a rfl]
  exact firstG_none (fun m b hb => h (m + 1) b (by simpa using hb))
end Go.Proofs.YtffoeodjbbkdjaaGreat
namespace Go.Proofs.YtffoeodjbbkdjaaGreat
theorem list_eq_at {α : Type} {l m : List α} (hl : l.length = m.length) (h : ∀ (j : Nat) (a b : α), l[j]? = some a → m[j]? = some b → a = b) : l = m := by
 refine List.ext_getElem hl fun j h1 h2 => ?_
 exact h j _ _ (List.getElem?_eq_getElem h1) (List.getElem?_eq_getElem h2)
theorem plain_eq {a b : Im} (h1 : a.now = b.now) (h2 : a.ng = b.ng) (h3 : a.nt = b.nt) (h4 : a.ses = b.ses) (h5 : a.gs.length = b.gs.length) (h6 : ∀ (j : Nat) (g h : Gm), a.gs[j]? = some g → b.gs[j]? = some h → g.plain = h.plain) (h7 : a.built = b.built) : a.plain = b.plain := by
 unfold Im.plain
 rw [h1, h2, h3, h4, h7]
 congr 1
 refine list_eq_at (by rw [List.length_map, List.length_map, h5]) (fun j x y hx hy => ?_)
 obtain ⟨g, hg, rfl⟩ := gm_of hx
 obtain ⟨h, hh, rfl⟩ := gm_of hy
 exact h6 j g h hg hh
theorem plain_now {a b : Im} (h : a.plain = b.plain) : a.now = b.now := congrArg Qp.now h
theorem plain_ng {a b : Im} (h : a.plain = b.plain) : a.ng = b.ng := congrArg Qp.ng h
theorem plain_nt {a b : Im} (h : a.plain = b.plain) : a.nt = b.nt := congrArg Qp.nt h
theorem plain_ses {a b : Im} (h : a.plain = b.plain) : a.ses = b.ses := congrArg Qp.ses h
theorem plain_built {a b : Im} (h : a.plain = b.plain) : a.built = b.built := congrArg Qp.built h
theorem plain_length {a b : Im} (h : a.plain = b.plain) : a.gs.length = b.gs.length := by
 have := congrArg (fun q => q.gs.length) h
 simpa [Im.plain] using this
theorem plain_gs {a b : Im} (h : a.plain = b.plain) {j : Nat} {g k : Gm} (hg : a.gs[j]? = some g) (hk : b.gs[j]? = some k) : g.plain = k.plain := by
 have e := congrArg (fun q => q.gs[j]?) h
 have e2 : (a.gs.map Gm.plain)[j]? = (b.gs.map Gm.plain)[j]? := e
 rw [gm_at hg, gm_at hk] at e2
 injection e2
theorem gm_eq {g h : Gm} : g.plain = h.plain ↔ g.id = h.id ∧ g.ts.map Tg.plain = h.ts.map Tg.plain ∧ g.st = h.st := by
 unfold Gm.plain
 constructor
 ·
  intro e
  injection e with e1 e2 e3
  exact ⟨e1, e2, e3⟩
 ·
  rintro ⟨e1, e2, e3⟩
  rw [e1, e2, e3]
def viewP (q : Qp) (id : Int) : Int × Int × List Pst := match findG q id with
 | none => (121, q.now, [])
 | some i => (0, q.now, (q.gs.getD i noG).st)
end Go.Proofs.YtffoeodjbbkdjaaGreat
namespace Go.Proofs.YtffoeodjbbkdjaaGreat
open Go.RowKit
structure Qm where
 p : Nat
 tp : Nat
 m : Nat
 now : Int
 ng : Int
 nt : Int
 gv : Value
 bv : Value
 ses : List Ro
 gs : List Gm
 built : List Nat
def Qm.cells (q : Qm) : Array Value := #[.int .u64 q.now, .int .u64 q.ng, .int .u64 q.nt, .pointer (some ⟨q.tp, 0, none⟩), q.gv, q.bv]
def Qm.plain (q : Qm) : Qp := ⟨q.now, q.ng, q.nt, q.ses, q.gs.map Gm.plain, q.built⟩
def Qm.O (q : Qm) (i : Nat) : Prop := i = q.p ∨ i = q.tp ∨ i = q.m ∨ q.gv.ownBlock = some i ∨ q.bv.ownBlock = some i ∨ ∃ g ∈ q.gs, g.sv.ownBlock = some i
def OwnG (w : World) (v : Value) (gs : List Gm) : Prop := w.ownsRow 0 59 3 v gs.length (gs.flatMap Gm.cells)
def OwnK (w : World) (v : Value) (ks : List Nat) : Prop := w.ownsRow 0 23 1 v ks.length (ks.map kv)
def OwnS (w : World) (v : Value) (l : List Pst) : Prop := w.ownsRow 0 61 3 v l.length (l.flatMap Pst.cells)
def Apart (gs : List Gm) : Prop := gs.Pairwise (fun a b => ∀ i, a.sv.ownBlock = some i → b.sv.ownBlock ≠ some i)
structure QAt (w : World) (D : Nat → Prop) (q : Qm) : Prop where
 box : Box w q.p 72 q.cells
 tab : TabAt w q.tp q.m q.ses
 gr : OwnG w q.gv q.gs
 bl : OwnK w q.bv q.built
 st : ∀ g ∈ q.gs, OwnS w g.sv g.st
 apart : Apart q.gs
 tg : ∀ g ∈ q.gs, Tgs w (fun i => D i ∧ ¬ q.O i) g.gv g.ts
 inD : ∀ i, q.O i → D i
 lt : ∀ i, D i → i < w.heap.size
def grown (w w' : World) (D : Nat → Prop) (i : Nat) : Prop := D i ∨ (w.heap.size ≤ i ∧ i < w'.heap.size)
theorem own_ne {w : World} {b : Nat} {t t' : TypeId} {cs : Array Value} {v : Value} {k n base : Nat} {xs : List Value} (h : Box w b t cs) (h' : w.ownsRow base t' k v n xs) (hne : t ≠ t') : v.ownBlock ≠ some b := by
 intro e
 rcases h'.2 with ⟨rfl, _⟩ | ⟨g, cap, cur, rfl, _, hg, _⟩
 ·
  cases e
 ·
  have e2 : g = b := by simpa [Value.ownBlock] using e
  subst e2
  exact Box.ne h hg hne rfl
theorem own_own {w : World} {t t' : TypeId} {v v' : Value} {k k' n n' base base' : Nat} {xs xs' : List Value} (h : w.ownsRow base t k v n xs) (h' : w.ownsRow base' t' k' v' n' xs') (hne : t ≠ t') : ∀ i, v.ownBlock = some i → v'.ownBlock ≠ some i := by
 intro i e
 rcases h.2 with ⟨rfl, _⟩ | ⟨g, cap, cur, rfl, _, hg, _⟩
 ·
  cases e
 ·
  have e2 : g = i := by simpa [Value.ownBlock] using e
  subst e2
  exact own_ne hg h' hne
theorem own_lt {w : World} {t : TypeId} {v : Value} {k n base : Nat} {xs : List Value} (h : w.ownsRow base t k v n xs) {i : Nat} (e : v.ownBlock = some i) : i < w.heap.size := by
 rcases h.2 with ⟨rfl, _⟩ | ⟨g, cap, cur, rfl, _, hg, _⟩
 ·
  cases e
 ·
  have e2 : g = i := by simpa [Value.ownBlock] using e
  subst e2
  exact (Array.getElem?_eq_some_iff.1 hg).1
theorem map_ne_box {w : World} {m n b : Nat} {D : DT} {t : TypeId} {cs : Array Value} (h : w.ownsMap Tryz.prog 23 lastElem m n D) (h' : Box w b t cs) : m ≠ b := by
 rintro rfl
 obtain ⟨es, clock, hb, _⟩ := h
 unfold Box at h'
 rw [hb] at h'
 cases h'
theorem map_ne_own {w : World} {m n : Nat} {D : DT} {t : TypeId} {v : Value} {k l base : Nat} {xs : List Value} (h : w.ownsMap Tryz.prog 23 lastElem m n D) (h' : w.ownsRow base t k v l xs) : v.ownBlock ≠ some m := by
 intro e
 rcases h'.2 with ⟨rfl, _⟩ | ⟨g, cap, cur, rfl, _, hg, _⟩
 ·
  cases e
 ·
  have e2 : g = m := by simpa [Value.ownBlock] using e
  subst e2
  exact map_ne_box h hg rfl
section
variable {w w' : World} {S D : Nat → Prop} {q : Qm}
theorem QAt.keep (h : QAt w D q) (k : Keep S w w') (hs : ∀ i, D i → ¬ S i) : QAt w' D q := by
 have hO : ∀ i, q.O i → ¬ S i := fun i hi => hs i (h.inD i hi)
 refine ⟨h.box.keep k (hO _ (.inl rfl)), h.tab.keep k (hO _ (.inr (.inl rfl))) (hO _ (.inr (.inr (.inl rfl)))), own_keep h.gr k (fun _ hj => hO _ (.inr (.inr (.inr (.inl hj))))), own_keep h.bl k (fun _ hj => hO _ (.inr (.inr (.inr (.inr (.inl hj)))))), fun g hg => own_keep (h.st g hg) k (fun _ hj => hO _ (.inr (.inr (.inr (.inr (.inr ⟨g, hg, hj⟩)))))), h.apart, fun g hg => (h.tg g hg).keep k (fun i _ hi => hs i hi.1), h.inD, fun i hi => Nat.lt_of_lt_of_le (h.lt i hi) k.size⟩
theorem QAt.stay (h : QAt w D q) (k : Keep noneOf w w') : QAt w' D q := h.keep k (fun _ _ => id)
theorem QAt.wide {D' : Nat → Prop} (h : QAt w D q) (hD : ∀ i, D i → D' i) (hlt : ∀ i, D' i → i < w.heap.size) : QAt w D' q :=
 ⟨h.box, h.tab, h.gr, h.bl, h.st, h.apart, fun g hg => Tgs.monoQ (h.tg g hg) (fun i _ hi => ⟨hD i hi.1, hi.2⟩), fun i hi => hD i (h.inD i hi), hlt⟩
theorem QAt.grow (h : QAt w D q) (k : Keep noneOf w w') : QAt w' (grown w w' D) q :=
 (h.stay k).wide (fun _ hi => .inl hi) (fun i hi => hi.elim (fun hd => Nat.lt_of_lt_of_le (h.lt i hd) k.size) (fun hn => hn.2))
theorem QAt.p_ne_tp (h : QAt w D q) : q.p ≠ q.tp := h.box.ne h.tab.box (by decide)
theorem QAt.p_ne_m (h : QAt w D q) : q.p ≠ q.m := (map_ne_box h.tab.map h.box).symm
theorem QAt.g_ne_p (h : QAt w D q) : q.gv.ownBlock ≠ some q.p := own_ne h.box h.gr (by decide)
theorem QAt.g_ne_tp (h : QAt w D q) : q.gv.ownBlock ≠ some q.tp := own_ne h.tab.box h.gr (by decide)
theorem QAt.g_ne_m (h : QAt w D q) : q.gv.ownBlock ≠ some q.m := map_ne_own h.tab.map h.gr
theorem QAt.b_ne_p (h : QAt w D q) : q.bv.ownBlock ≠ some q.p := own_ne h.box h.bl (by decide)
theorem QAt.b_ne_tp (h : QAt w D q) : q.bv.ownBlock ≠ some q.tp := own_ne h.tab.box h.bl (by decide)
theorem QAt.b_ne_m (h : QAt w D q) : q.bv.ownBlock ≠ some q.m := map_ne_own h.tab.map h.bl
theorem QAt.g_ne_b (h : QAt w D q) : ∀ i, q.gv.ownBlock = some i → q.bv.ownBlock ≠ some i := own_own h.gr h.bl (by decide)
theorem QAt.s_ne_p (h : QAt w D q) {g : Gm} (hg : g ∈ q.gs) : g.sv.ownBlock ≠ some q.p := own_ne h.box (h.st g hg) (by decide)
theorem QAt.s_ne_tp (h : QAt w D q) {g : Gm} (hg : g ∈ q.gs) : g.sv.ownBlock ≠ some q.tp := own_ne h.tab.box (h.st g hg) (by decide)
theorem QAt.s_ne_m (h : QAt w D q) {g : Gm} (hg : g ∈ q.gs) : g.sv.ownBlock ≠ some q.m := map_ne_own h.tab.map (h.st g hg)
theorem QAt.s_ne_g (h : QAt w D q) {g : Gm} (hg : g ∈ q.gs) : ∀ i, g.sv.ownBlock = some i → q.gv.ownBlock ≠ some i := own_own (h.st g hg) h.gr (by decide)
theorem QAt.s_ne_b (h : QAt w D q) {g : Gm} (hg : g ∈ q.gs) : ∀ i, g.sv.ownBlock = some i → q.bv.ownBlock ≠ some i := own_own (h.st g hg) h.bl (by decide)
theorem QAt.sessions (h : QAt w D q) {l : List Ro} (ht : TabAt w' q.tp q.m l) (k : Keep (fun i => i = q.m) w w') : QAt w' D { q with ses := l } :=
 ⟨h.box.keep k h.p_ne_m, ht, own_keep h.gr k (fun _ hj e => h.g_ne_m (e ▸ hj)), own_keep h.bl k (fun _ hj e => h.b_ne_m (e ▸ hj)), fun g hg => own_keep (h.st g hg) k (fun _ hj e => h.s_ne_m hg (e ▸ hj)), h.apart,
  fun g hg => (h.tg g hg).keep k (fun _ _ hi e => hi.2 (.inr (.inr (.inl e)))), h.inD, fun i hi => Nat.lt_of_lt_of_le (h.lt i hi) k.size⟩
theorem QAt.head (h : QAt w D q) {now ng nt : Int} (hb : Box w' q.p 72 #[.int .u64 now, .int .u64 ng, .int .u64 nt, .pointer (some ⟨q.tp, 0, none⟩), q.gv, q.bv]) (k : Keep (fun i => i = q.p) w w') : QAt w' D { q with now := now, ng := ng, nt := nt } :=
 ⟨hb, h.tab.keep k (fun e => h.p_ne_tp e.symm) (fun e => h.p_ne_m e.symm), own_keep h.gr k (fun _ hj e => h.g_ne_p (e ▸ hj)), own_keep h.bl k (fun _ hj e => h.b_ne_p (e ▸ hj)), fun g hg => own_keep (h.st g hg) k (fun _ hj e => h.s_ne_p hg (e ▸ hj)), h.apart,
  fun g hg => (h.tg g hg).keep k (fun _ _ hi e => hi.2 (.inl e)), h.inD, fun i hi => Nat.lt_of_lt_of_le (h.lt i hi) k.size⟩
theorem apart_set {gs : List Gm} {i : Nat} {g g' : Gm} (h : Apart gs) (hg : gs[i]? = some g) (hn : ∀ a ∈ gs, ∀ j, a.sv.ownBlock = some j → g'.sv.ownBlock = some j → a = g ∧ g'.sv.ownBlock = g.sv.ownBlock) : Apart (gs.set i g') := by
 obtain ⟨hi, he⟩ := List.getElem?_eq_some_iff.1 hg
 unfold Apart at h ⊢
 rw [List.pairwise_iff_getElem] at h ⊢
 intro a b ha hb hab
 rw [List.length_set] at ha hb
 rw [List.getElem_set, List.getElem_set]
 intro j h1 h2
 by_cases e1 : i = a
 ·
  subst e1
  rw [if_pos rfl] at h1
  rw [if_neg (by omega)] at h2
  obtain ⟨e3, e4⟩ := hn _ (List.getElem_mem hb) j h2 h1
  exact h i b ha hb hab j (by rw [he, ← e4]; exact h1) h2
 ·
  rw [if_neg e1] at h1
  by_cases e2 : i = b
  ·
   subst e2
   rw [if_pos rfl] at h2
   obtain ⟨e3, e4⟩ := hn _ (List.getElem_mem ha) j h1 h2
   exact h a i ha hb hab j h1 (by rw [he, ← e4]; exact h2)
  ·
   rw [if_neg e2] at h2
   exact h a b ha hb hab j h1 h2
end
end Go.Proofs.YtffoeodjbbkdjaaGreat
namespace Go.Proofs.YtffoeodjbbkdjaaGreat
open Go.RowKit Go.Lib
theorem elems_st : Elems 45 61 (.agg #[.int .i64 0, .int .u64 0, .int .u64 0]) 3 24 := ⟨Tryz.underlying45, by kernel_rfl, by kernel_rfl, fun w => by kernel_rfl, rfl⟩
theorem elems_gr : Elems 27 59 (.agg #[.int .u64 0, .slice none 0 0, .slice none 0 0]) 3 56 := ⟨Tryz.underlying27, by kernel_rfl, by kernel_rfl, fun w => by kernel_rfl, rfl⟩
theorem elems_tg : Elems 33 64 (.agg #[.string ⟨#[]⟩, .string ⟨#[]⟩, .slice none 0 0]) 3 56 := ⟨Tryz.underlying33, by kernel_rfl, by kernel_rfl, fun w => by kernel_rfl, rfl⟩
theorem elems_u64 : Elems 28 23 (.int .u64 0) 1 8 := ⟨Tryz.underlying28, by kernel_rfl, by kernel_rfl, fun w => by kernel_rfl, rfl⟩
theorem elems_str : Elems 62 9 (.string ⟨#[]⟩) 1 16 := ⟨Tryz.underlying62, by kernel_rfl, by kernel_rfl, fun w => by kernel_rfl, rfl⟩
def Copies {α : Type} (ec : α → List Value) (k : Nat) (e : TypeId) (l : List α) (w : World) (x : Ending) (w' : World) : Prop :=
 ∃ v', x = .returned v' ∧ w'.ownsRow w.heap.size e k v' l.length (l.flatMap ec) ∧ Keep noneOf w w'
set_option maxRecDepth 100000 in
set_option maxHeartbeats 2000000 in
theorem cloneS_any (w : World) (D : Nat → Prop) (v : Value) (l : List Pst) (h : Sts w D v l) (hb : l.length * 24 ≤ reachBytes) :
  Calls Tryz.prog 38 #[v] w (Copies Pst.cells 3 61 l w) := by
 have q22 : ∀ (w : World) (a : Option Addr) (n c n' c' : Nat), (binOp .eql 45 (.slice a n c) (.slice none n' c')).run Tryz.prog w = .ok (.bool a.isNone) w := fun w a n c n' c' => Lib.run_eql_slice_nil w _ _ a n c n' c' Tryz.underlying45
 have hfew := h.few
 rw [reach_is] at hb
 obtain ⟨A, c, rfl⟩ := h.shape
 have HM : Hid (Many Pst.cells 3 w D (.slice A l.length c) l) := Lib.hid h
 cases A with
 | none =>
  have h0 : l = [] := by
   obtain ⟨A', c', e, hlc, _, hn, _⟩ := h
   injection e with e1 _ e2
   subst e1
   exact List.eq_nil_of_length_eq_zero (by have := hn rfl; omega)
  subst h0
  clear h hb hfew
  go_enter Tryz.func38, Tryz.ntmps38
  go_wp2
  go_ret
  exact ⟨_, rfl, ⟨rfl, .inl ⟨rfl, rfl⟩⟩, Keep.refl noneOf w⟩
 | some ad =>
  have HE := Lib.hid (empty_own (ec := Pst.cells) (k := 3) w 61)
  clear h
  go_enter Tryz.func38, Tryz.ntmps38
  go_wp2_with (at_builtin; refine wpList_append_many elems_st (fun _ => rfl) (ec := Pst.cells) (fun x u hu => by simp [Pst.cells] at hu; rcases hu with rfl | rfl | rfl <;> rfl) (by decide) _ rfl _ _ rfl w.heap.size _ _ ([] : List Pst) l D rfl rfl HE.out (HM.out.keep ((Keep.refl noneOf w).alloc _) (fun _ _ _ => id)) ?qc1 ?qc2 ?qc3 ?_)
  case qc1 => rw [List.length_nil, Nat.zero_add]; exact hfew
  case qc2 => rw [List.length_nil, Nat.zero_add]; omega
  case qc3 => simp
  intro v' w1 hown hg hat
  have HO := Lib.hid hown
  have HK := Lib.hid (empty_grown hg)
  clear hown hg hat hb hfew HE
  go_wp2
  go_ret
  exact ⟨v', rfl, HO.out, HK.out⟩
end Go.Proofs.YtffoeodjbbkdjaaGreat
