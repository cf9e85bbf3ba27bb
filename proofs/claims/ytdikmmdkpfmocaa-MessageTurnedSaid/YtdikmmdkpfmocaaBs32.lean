import Derived.Test.YtdikmmdkpfmocaaBs29
import Derived.Test.YtdikmmdkpfmocaaBs31
namespace Go.Proofs.Ytdikmmdkpfmocaa
open Go.RowKit Go.Shelf
structure RM (w0 w : World) (pr b : Nat) (D : Nat → Prop) (m : Mg) (s : Rs) : Prop where
  rb : RB w pr b D s m.cells
  kp : Keep (fun k => k = pr ∨ k = b) w0 w
  lies : m.lies w (fun i => w0.heap.size ≤ i)
  hD : ∀ k, D k → k < w0.heap.size
  hb : b < w0.heap.size
  hp : pr < w0.heap.size
def RX (w0 : World) (pr b : Nat) (D : Nat → Prop) (x : Pm × Rs) (w : World) : Prop := ∃ m, RM w0 w pr b D m x.2 ∧ m.plain = x.1
theorem RX.keep {w0 w w' : World} {pr b : Nat} {D : Nat → Prop} {x : Pm × Rs} (h : RX w0 pr b D x w) (k : Keep noneOf w w') : RX w0 pr b D x w' := by
  obtain ⟨m, hm, hp⟩ := h
  exact ⟨m, ⟨hm.rb.keep k, hm.kp.trans k (fun _ _ h => h.elim), hm.lies.keepN k, hm.hD, hm.hb, hm.hp⟩, hp⟩
theorem RB.cast {w : World} {pr b : Nat} {D : Nat → Prop} {s : Rs} {cs ds : Array Value} (h : RB w pr b D s cs) (e : cs = ds) : RB w pr b D s ds := e ▸ h
theorem RM.old {w0 w w' : World} {pr b : Nat} {D : Nat → Prop} {m : Mg} {s : Rs} (h : RM w0 w pr b D m s) (k : Keep (fun k => k = pr ∨ k = b) w w') : m.lies w' (fun i => w0.heap.size ≤ i) :=
  h.lies.keep k (fun i _ hi e => by have := h.hb; have := h.hp; rcases e with e | e <;> omega)
def stIx (x : Pm × Rs) : Pm × Rs := ({ x.1 with ix := num (x.2.take 8).1 }, (x.2.take 8).2)
def stLt (x : Pm × Rs) : Pm × Rs := ({ x.1 with lt := num (x.2.take 8).1 }, (x.2.take 8).2)
def stCm (x : Pm × Rs) : Pm × Rs := ({ x.1 with cm := num (x.2.take 8).1 }, (x.2.take 8).2)
def stRd (x : Pm × Rs) : Pm × Rs := ({ x.1 with rd := num (x.2.take 8).1 }, (x.2.take 8).2)
def stOf (x : Pm × Rs) : Pm × Rs := ({ x.1 with off := num (x.2.take 8).1 }, (x.2.take 8).2)
def stWh (x : Pm × Rs) : Pm × Rs := ({ x.1 with wh := num (x.2.take 8).1 }, (x.2.take 8).2)
def stGd (x : Pm × Rs) : Pm × Rs := ({ x.1 with gd := (rdFlag x.2).1 }, (rdFlag x.2).2)
def stEs (x : Pm × Rs) : Pm × Rs := ({ x.1 with es := (rdEnts x.2).1 }, (rdEnts x.2).2)
def stCf (x : Pm × Rs) : Pm × Rs := ({ x.1 with c := (rdCfg x.2).1 }, (rdCfg x.2).2)
def stDa (x : Pm × Rs) : Pm × Rs := ({ x.1 with da := (x.2.text 4096).1 }, (x.2.text 4096).2)
section
variable {w0 w : World} {pr b : Nat} {D : Nat → Prop} {x : Pm × Rs}
theorem toIx (h : RX w0 pr b D x w) : Calls Try.prog 92 #[.agg #[.pointer (some ⟨pr, 0, none⟩)], .pointer (some ⟨b, 4, none⟩)] w fun e w' => e = .returned (.tuple #[]) ∧ RX w0 pr b D (stIx x) w' := by
  obtain ⟨m, hm, hp⟩ := h
  refine (rlong_m w pr b 4 D x.2 _ _ m.cells _ hm.rb m.at4 rfl).mono ?_
  rintro e w' ⟨rfl, hrb, hk⟩
  have h2 := hm.old hk
  exact ⟨rfl, { m with ix := num (x.2.take 8).1 }, ⟨hrb.cast (Mg.set4 m _), hm.kp.trans hk (fun _ _ h => h), ⟨h2.te, num_lt64 _ (take_length _ _), h2.lt, h2.cm, h2.rd, h2.off, h2.wh, h2.es, h2.vs, h2.ls, h2.da⟩, hm.hD, hm.hb, hm.hp⟩, by unfold stIx; rw [← hp]; rfl⟩
theorem toLt (h : RX w0 pr b D x w) : Calls Try.prog 92 #[.agg #[.pointer (some ⟨pr, 0, none⟩)], .pointer (some ⟨b, 5, none⟩)] w fun e w' => e = .returned (.tuple #[]) ∧ RX w0 pr b D (stLt x) w' := by
  obtain ⟨m, hm, hp⟩ := h
  refine (rlong_m w pr b 5 D x.2 _ _ m.cells _ hm.rb m.at5 rfl).mono ?_
  rintro e w' ⟨rfl, hrb, hk⟩
  have h2 := hm.old hk
  exact ⟨rfl, { m with lt := num (x.2.take 8).1 }, ⟨hrb.cast (Mg.set5 m _), hm.kp.trans hk (fun _ _ h => h), ⟨h2.te, h2.ix, num_lt64 _ (take_length _ _), h2.cm, h2.rd, h2.off, h2.wh, h2.es, h2.vs, h2.ls, h2.da⟩, hm.hD, hm.hb, hm.hp⟩, by unfold stLt; rw [← hp]; rfl⟩
theorem toCm (h : RX w0 pr b D x w) : Calls Try.prog 92 #[.agg #[.pointer (some ⟨pr, 0, none⟩)], .pointer (some ⟨b, 6, none⟩)] w fun e w' => e = .returned (.tuple #[]) ∧ RX w0 pr b D (stCm x) w' := by
  obtain ⟨m, hm, hp⟩ := h
  refine (rlong_m w pr b 6 D x.2 _ _ m.cells _ hm.rb m.at6 rfl).mono ?_
  rintro e w' ⟨rfl, hrb, hk⟩
  have h2 := hm.old hk
  exact ⟨rfl, { m with cm := num (x.2.take 8).1 }, ⟨hrb.cast (Mg.set6 m _), hm.kp.trans hk (fun _ _ h => h), ⟨h2.te, h2.ix, h2.lt, num_lt64 _ (take_length _ _), h2.rd, h2.off, h2.wh, h2.es, h2.vs, h2.ls, h2.da⟩, hm.hD, hm.hb, hm.hp⟩, by unfold stCm; rw [← hp]; rfl⟩
theorem toRd (h : RX w0 pr b D x w) : Calls Try.prog 92 #[.agg #[.pointer (some ⟨pr, 0, none⟩)], .pointer (some ⟨b, 7, none⟩)] w fun e w' => e = .returned (.tuple #[]) ∧ RX w0 pr b D (stRd x) w' := by
  obtain ⟨m, hm, hp⟩ := h
  refine (rlong_m w pr b 7 D x.2 _ _ m.cells _ hm.rb m.at7 rfl).mono ?_
  rintro e w' ⟨rfl, hrb, hk⟩
  have h2 := hm.old hk
  exact ⟨rfl, { m with rd := num (x.2.take 8).1 }, ⟨hrb.cast (Mg.set7 m _), hm.kp.trans hk (fun _ _ h => h), ⟨h2.te, h2.ix, h2.lt, h2.cm, num_lt64 _ (take_length _ _), h2.off, h2.wh, h2.es, h2.vs, h2.ls, h2.da⟩, hm.hD, hm.hb, hm.hp⟩, by unfold stRd; rw [← hp]; rfl⟩
theorem toOf (h : RX w0 pr b D x w) : Calls Try.prog 92 #[.agg #[.pointer (some ⟨pr, 0, none⟩)], .pointer (some ⟨b, 12, none⟩)] w fun e w' => e = .returned (.tuple #[]) ∧ RX w0 pr b D (stOf x) w' := by
  obtain ⟨m, hm, hp⟩ := h
  refine (rlong_m w pr b 12 D x.2 _ _ m.cells _ hm.rb m.at12 rfl).mono ?_
  rintro e w' ⟨rfl, hrb, hk⟩
  have h2 := hm.old hk
  exact ⟨rfl, { m with off := num (x.2.take 8).1 }, ⟨hrb.cast (Mg.set12 m _), hm.kp.trans hk (fun _ _ h => h), ⟨h2.te, h2.ix, h2.lt, h2.cm, h2.rd, num_lt64 _ (take_length _ _), h2.wh, h2.es, h2.vs, h2.ls, h2.da⟩, hm.hD, hm.hb, hm.hp⟩, by unfold stOf; rw [← hp]; rfl⟩
theorem toWh (h : RX w0 pr b D x w) : Calls Try.prog 92 #[.agg #[.pointer (some ⟨pr, 0, none⟩)], .pointer (some ⟨b, 13, none⟩)] w fun e w' => e = .returned (.tuple #[]) ∧ RX w0 pr b D (stWh x) w' := by
  obtain ⟨m, hm, hp⟩ := h
  refine (rlong_m w pr b 13 D x.2 _ _ m.cells _ hm.rb m.at13 rfl).mono ?_
  rintro e w' ⟨rfl, hrb, hk⟩
  have h2 := hm.old hk
  exact ⟨rfl, { m with wh := num (x.2.take 8).1 }, ⟨hrb.cast (Mg.set13 m _), hm.kp.trans hk (fun _ _ h => h), ⟨h2.te, h2.ix, h2.lt, h2.cm, h2.rd, h2.off, num_lt64 _ (take_length _ _), h2.es, h2.vs, h2.ls, h2.da⟩, hm.hD, hm.hb, hm.hp⟩, by unfold stWh; rw [← hp]; rfl⟩
theorem toGd (h : RX w0 pr b D x w) : Calls Try.prog 91 #[.agg #[.pointer (some ⟨pr, 0, none⟩)], .pointer (some ⟨b, 8, none⟩)] w fun e w' => e = .returned (.tuple #[]) ∧ RX w0 pr b D (stGd x) w' := by
  obtain ⟨m, hm, hp⟩ := h
  refine (rflag_m w pr b 8 D x.2 m.cells _ hm.rb m.at8).mono ?_
  rintro e w' ⟨rfl, hrb, hk⟩
  have h2 := hm.old hk
  exact ⟨rfl, { m with gd := (rdFlag x.2).1 }, ⟨hrb.cast (Mg.set8 m _), hm.kp.trans hk (fun _ _ h => h), ⟨h2.te, h2.ix, h2.lt, h2.cm, h2.rd, h2.off, h2.wh, h2.es, h2.vs, h2.ls, h2.da⟩, hm.hD, hm.hb, hm.hp⟩, by unfold stGd; rw [← hp]; rfl⟩
theorem toEs (h : RX w0 pr b D x w) : Calls Try.prog 90 #[.agg #[.pointer (some ⟨pr, 0, none⟩)], .pointer (some ⟨b, 9, none⟩)] w fun e w' => e = .returned (.tuple #[]) ∧ RX w0 pr b D (stEs x) w' := by
  obtain ⟨m, hm, hp⟩ := h
  have hz := hm.kp.size
  refine (rentries_m w pr b 9 D x.2 m.cells _ hm.rb m.at9 (fun k hk => by have := hm.hD k hk; omega)).mono ?_
  rintro e w' ⟨rfl, v, ts, hrb, hk, hes, hts⟩
  have h2 := hm.old hk
  exact ⟨rfl, { m with ev := v, es := ts }, ⟨hrb.cast (Mg.set9 m _ _), hm.kp.trans hk (fun _ _ h => h), ⟨h2.te, h2.ix, h2.lt, h2.cm, h2.rd, h2.off, h2.wh, hes.mono (fun i _ hi => by omega), h2.vs, h2.ls, h2.da⟩, hm.hD, hm.hb, hm.hp⟩, by unfold stEs; rw [← hp, ← hts]; rfl⟩
theorem toCf (h : RX w0 pr b D x w) : Calls Try.prog 88 #[.agg #[.pointer (some ⟨pr, 0, none⟩)], .pointer (some ⟨b, 10, none⟩)] w fun e w' => e = .returned (.tuple #[]) ∧ RX w0 pr b D (stCf x) w' := by
  obtain ⟨m, hm, hp⟩ := h
  have hz := hm.kp.size
  refine (rconfig_m w pr b 10 D x.2 m.cells _ _ hm.rb m.at10 m.at11).mono ?_
  rintro e w' ⟨rfl, va, la, hrb, hk, hva, hla⟩
  have h2 := hm.old hk
  exact ⟨rfl, { m with va := va, la := la, c := (rdCfg x.2).1 }, ⟨hrb.cast (Mg.set10 m _ _ _), hm.kp.trans hk (fun _ _ h => h), ⟨h2.te, h2.ix, h2.lt, h2.cm, h2.rd, h2.off, h2.wh, h2.es, hva.mono (fun i _ hi => by omega), hla.mono (fun i _ hi => by omega), h2.da⟩, hm.hD, hm.hb, hm.hp⟩, by unfold stCf; rw [← hp]; rfl⟩
theorem toDa (h : RX w0 pr b D x w) : Calls Try.prog 89 #[.agg #[.pointer (some ⟨pr, 0, none⟩)], .pointer (some ⟨b, 14, none⟩)] w fun e w' => e = .returned (.tuple #[]) ∧ RX w0 pr b D (stDa x) w' := by
  obtain ⟨m, hm, hp⟩ := h
  have hz := hm.kp.size
  refine (rdata_m w pr b 14 D x.2 _ _ m.cells _ hm.rb m.at14 rfl).mono ?_
  rintro e w' ⟨rfl, v, hrb, hk, hda⟩
  have h2 := hm.old hk
  exact ⟨rfl, { m with dv := v, da := (x.2.text 4096).1 }, ⟨hrb.cast (Mg.set14 m _ _), hm.kp.trans hk (fun _ _ h => h), ⟨h2.te, h2.ix, h2.lt, h2.cm, h2.rd, h2.off, h2.wh, h2.es, h2.vs, h2.ls, hda.mono (fun i _ hi => by omega)⟩, hm.hD, hm.hb, hm.hp⟩, by unfold stDa; rw [← hp]; rfl⟩
end
theorem nil_r (pr : Nat) (n : Nat) (w : World) (s : String) (hs : s = "dockyard/message.long" ∨ s = "dockyard/message.flag" ∨ s = "dockyard/message.entries" ∨ s = "dockyard/message.config" ∨ s = "dockyard/message.data") : (nilAhead (n + 1) 61 (.agg #[.pointer (some ⟨pr, 0, none⟩)]) s).run Try.prog w = .ok (some false) w := by
  rcases hs with rfl | rfl | rfl | rfl | rfl <;> kernel_rfl
theorem met_long_r (pr : Nat) (n : Nat) (w : World) : (method (n + 1) 61 (.agg #[.pointer (some ⟨pr, 0, none⟩)]) "dockyard/message.long").run Try.prog w = .ok (92, .agg #[.pointer (some ⟨pr, 0, none⟩)]) w := by kernel_rfl
theorem met_flag_r (pr : Nat) (n : Nat) (w : World) : (method (n + 1) 61 (.agg #[.pointer (some ⟨pr, 0, none⟩)]) "dockyard/message.flag").run Try.prog w = .ok (91, .agg #[.pointer (some ⟨pr, 0, none⟩)]) w := by kernel_rfl
theorem met_entries_r (pr : Nat) (n : Nat) (w : World) : (method (n + 1) 61 (.agg #[.pointer (some ⟨pr, 0, none⟩)]) "dockyard/message.entries").run Try.prog w = .ok (90, .agg #[.pointer (some ⟨pr, 0, none⟩)]) w := by kernel_rfl
theorem met_config_r (pr : Nat) (n : Nat) (w : World) : (method (n + 1) 61 (.agg #[.pointer (some ⟨pr, 0, none⟩)]) "dockyard/message.config").run Try.prog w = .ok (88, .agg #[.pointer (some ⟨pr, 0, none⟩)]) w := by kernel_rfl
theorem met_data_r (pr : Nat) (n : Nat) (w : World) : (method (n + 1) 61 (.agg #[.pointer (some ⟨pr, 0, none⟩)]) "dockyard/message.data").run Try.prog w = .ok (89, .agg #[.pointer (some ⟨pr, 0, none⟩)]) w := by kernel_rfl
set_option maxRecDepth 100000 in
set_option maxHeartbeats 2000000 in
theorem endOfLog_r (w0 w : World) (pr b : Nat) (D : Nat → Prop) (x : Pm × Rs) (h : RX w0 pr b D x w) :
    Calls Try.prog 31 #[.iface 61 (.agg #[.pointer (some ⟨pr, 0, none⟩)]), .pointer (some ⟨b, 0, none⟩)] w fun e w' => e = .returned (.tuple #[]) ∧ RX w0 pr b D (stLt (stIx x)) w' := by
  have H0 : Hid (RX w0 pr b D x w.drew) := Lib.hid (h.keep (Keep.refl noneOf w).drew)
  clear h
  have n_long := fun n w => nil_r pr n w "dockyard/message.long" (.inl rfl)
  have m_long := met_long_r pr
  go_enter Try.func31, Try.ntmps31
  go_wp2
  have C0 := Lib.hid (toIx H0.out)
  go_region_with (go_at_call 92; refine C0.out.mono ?_; rintro e w1 ⟨rfl, hw⟩)
  have H1 := Lib.hid (hw.keep (Keep.refl noneOf _).drew)
  clear hw C0
  go_wp2
  have C1 := Lib.hid (toLt H1.out)
  go_region_with (go_at_call 92; refine C1.out.mono ?_; rintro e w2 ⟨rfl, hw⟩)
  have H2 := Lib.hid hw
  clear hw C1
  go_end0
  exact ⟨rfl, H2.out⟩
set_option maxRecDepth 100000 in
set_option maxHeartbeats 2000000 in
theorem consent_r (w0 w : World) (pr b : Nat) (D : Nat → Prop) (x : Pm × Rs) (h : RX w0 pr b D x w) :
    Calls Try.prog 32 #[.iface 61 (.agg #[.pointer (some ⟨pr, 0, none⟩)]), .pointer (some ⟨b, 0, none⟩)] w fun e w' => e = .returned (.tuple #[]) ∧ RX w0 pr b D (stGd x) w' := by
  have H0 : Hid (RX w0 pr b D x w.drew) := Lib.hid (h.keep (Keep.refl noneOf w).drew)
  clear h
  have n_flag := fun n w => nil_r pr n w "dockyard/message.flag" (.inr (.inl rfl))
  have m_flag := met_flag_r pr
  go_enter Try.func32, Try.ntmps32
  go_wp2
  have C0 := Lib.hid (toGd H0.out)
  go_region_with (go_at_call 91; refine C0.out.mono ?_; rintro e w1 ⟨rfl, hw⟩)
  have H1 := Lib.hid hw
  clear hw C0
  go_end0
  exact ⟨rfl, H1.out⟩
set_option maxRecDepth 100000 in
set_option maxHeartbeats 2000000 in
theorem entriesSent_r (w0 w : World) (pr b : Nat) (D : Nat → Prop) (x : Pm × Rs) (h : RX w0 pr b D x w) :
    Calls Try.prog 33 #[.iface 61 (.agg #[.pointer (some ⟨pr, 0, none⟩)]), .pointer (some ⟨b, 0, none⟩)] w fun e w' => e = .returned (.tuple #[]) ∧ RX w0 pr b D (stEs (stRd (stCm (stLt (stIx x))))) w' := by
  have H0 : Hid (RX w0 pr b D x w.drew) := Lib.hid (h.keep (Keep.refl noneOf w).drew)
  clear h
  have n_long := fun n w => nil_r pr n w "dockyard/message.long" (.inl rfl)
  have m_long := met_long_r pr
  have n_entries := fun n w => nil_r pr n w "dockyard/message.entries" (.inr (.inr (.inl rfl)))
  have m_entries := met_entries_r pr
  go_enter Try.func33, Try.ntmps33
  go_wp2
  have C0 := Lib.hid (toIx H0.out)
  go_region_with (go_at_call 92; refine C0.out.mono ?_; rintro e w1 ⟨rfl, hw⟩)
  have H1 := Lib.hid (hw.keep (Keep.refl noneOf _).drew)
  clear hw C0
  go_wp2
  have C1 := Lib.hid (toLt H1.out)
  go_region_with (go_at_call 92; refine C1.out.mono ?_; rintro e w2 ⟨rfl, hw⟩)
  have H2 := Lib.hid (hw.keep (Keep.refl noneOf _).drew)
  clear hw C1
  go_wp2
  have C2 := Lib.hid (toCm H2.out)
  go_region_with (go_at_call 92; refine C2.out.mono ?_; rintro e w3 ⟨rfl, hw⟩)
  have H3 := Lib.hid (hw.keep (Keep.refl noneOf _).drew)
  clear hw C2
  go_wp2
  have C3 := Lib.hid (toRd H3.out)
  go_region_with (go_at_call 92; refine C3.out.mono ?_; rintro e w4 ⟨rfl, hw⟩)
  have H4 := Lib.hid (hw.keep (Keep.refl noneOf _).drew)
  clear hw C3
  go_wp2
  have C4 := Lib.hid (toEs H4.out)
  go_region_with (go_at_call 90; refine C4.out.mono ?_; rintro e w5 ⟨rfl, hw⟩)
  have H5 := Lib.hid hw
  clear hw C4
  go_end0
  exact ⟨rfl, H5.out⟩
set_option maxRecDepth 100000 in
set_option maxHeartbeats 2000000 in
theorem entriesTaken_r (w0 w : World) (pr b : Nat) (D : Nat → Prop) (x : Pm × Rs) (h : RX w0 pr b D x w) :
    Calls Try.prog 34 #[.iface 61 (.agg #[.pointer (some ⟨pr, 0, none⟩)]), .pointer (some ⟨b, 0, none⟩)] w fun e w' => e = .returned (.tuple #[]) ∧ RX w0 pr b D (stRd (stIx (stGd x))) w' := by
  have H0 : Hid (RX w0 pr b D x w.drew) := Lib.hid (h.keep (Keep.refl noneOf w).drew)
  clear h
  have n_long := fun n w => nil_r pr n w "dockyard/message.long" (.inl rfl)
  have m_long := met_long_r pr
  have n_flag := fun n w => nil_r pr n w "dockyard/message.flag" (.inr (.inl rfl))
  have m_flag := met_flag_r pr
  go_enter Try.func34, Try.ntmps34
  go_wp2
  have C0 := Lib.hid (toGd H0.out)
  go_region_with (go_at_call 91; refine C0.out.mono ?_; rintro e w1 ⟨rfl, hw⟩)
  have H1 := Lib.hid (hw.keep (Keep.refl noneOf _).drew)
  clear hw C0
  go_wp2
  have C1 := Lib.hid (toIx H1.out)
  go_region_with (go_at_call 92; refine C1.out.mono ?_; rintro e w2 ⟨rfl, hw⟩)
  have H2 := Lib.hid (hw.keep (Keep.refl noneOf _).drew)
  clear hw C1
  go_wp2
  have C2 := Lib.hid (toRd H2.out)
  go_region_with (go_at_call 92; refine C2.out.mono ?_; rintro e w3 ⟨rfl, hw⟩)
  have H3 := Lib.hid hw
  clear hw C2
  go_end0
  exact ⟨rfl, H3.out⟩
set_option maxRecDepth 100000 in
set_option maxHeartbeats 2000000 in
theorem chunkSent_r (w0 w : World) (pr b : Nat) (D : Nat → Prop) (x : Pm × Rs) (h : RX w0 pr b D x w) :
    Calls Try.prog 35 #[.iface 61 (.agg #[.pointer (some ⟨pr, 0, none⟩)]), .pointer (some ⟨b, 0, none⟩)] w fun e w' => e = .returned (.tuple #[]) ∧ RX w0 pr b D (stDa (stWh (stOf (stCf (stLt (stIx x)))))) w' := by
  have H0 : Hid (RX w0 pr b D x w.drew) := Lib.hid (h.keep (Keep.refl noneOf w).drew)
  clear h
  have n_long := fun n w => nil_r pr n w "dockyard/message.long" (.inl rfl)
  have m_long := met_long_r pr
  have n_config := fun n w => nil_r pr n w "dockyard/message.config" (.inr (.inr (.inr (.inl rfl))))
  have m_config := met_config_r pr
  have n_data := fun n w => nil_r pr n w "dockyard/message.data" (.inr (.inr (.inr (.inr rfl))))
  have m_data := met_data_r pr
  go_enter Try.func35, Try.ntmps35
  go_wp2
  have C0 := Lib.hid (toIx H0.out)
  go_region_with (go_at_call 92; refine C0.out.mono ?_; rintro e w1 ⟨rfl, hw⟩)
  have H1 := Lib.hid (hw.keep (Keep.refl noneOf _).drew)
  clear hw C0
  go_wp2
  have C1 := Lib.hid (toLt H1.out)
  go_region_with (go_at_call 92; refine C1.out.mono ?_; rintro e w2 ⟨rfl, hw⟩)
  have H2 := Lib.hid (hw.keep (Keep.refl noneOf _).drew)
  clear hw C1
  go_wp2
  have C2 := Lib.hid (toCf H2.out)
  go_region_with (go_at_call 88; refine C2.out.mono ?_; rintro e w3 ⟨rfl, hw⟩)
  have H3 := Lib.hid (hw.keep (Keep.refl noneOf _).drew)
  clear hw C2
  go_wp2
  have C3 := Lib.hid (toOf H3.out)
  go_region_with (go_at_call 92; refine C3.out.mono ?_; rintro e w4 ⟨rfl, hw⟩)
  have H4 := Lib.hid (hw.keep (Keep.refl noneOf _).drew)
  clear hw C3
  go_wp2
  have C4 := Lib.hid (toWh H4.out)
  go_region_with (go_at_call 92; refine C4.out.mono ?_; rintro e w5 ⟨rfl, hw⟩)
  have H5 := Lib.hid (hw.keep (Keep.refl noneOf _).drew)
  clear hw C4
  go_wp2
  have C5 := Lib.hid (toDa H5.out)
  go_region_with (go_at_call 89; refine C5.out.mono ?_; rintro e w6 ⟨rfl, hw⟩)
  have H6 := Lib.hid hw
  clear hw C5
  go_end0
  exact ⟨rfl, H6.out⟩
set_option maxRecDepth 100000 in
set_option maxHeartbeats 2000000 in
theorem chunkTaken_r (w0 w : World) (pr b : Nat) (D : Nat → Prop) (x : Pm × Rs) (h : RX w0 pr b D x w) :
    Calls Try.prog 36 #[.iface 61 (.agg #[.pointer (some ⟨pr, 0, none⟩)]), .pointer (some ⟨b, 0, none⟩)] w fun e w' => e = .returned (.tuple #[]) ∧ RX w0 pr b D (stOf (stIx x)) w' := by
  have H0 : Hid (RX w0 pr b D x w.drew) := Lib.hid (h.keep (Keep.refl noneOf w).drew)
  clear h
  have n_long := fun n w => nil_r pr n w "dockyard/message.long" (.inl rfl)
  have m_long := met_long_r pr
  go_enter Try.func36, Try.ntmps36
  go_wp2
  have C0 := Lib.hid (toIx H0.out)
  go_region_with (go_at_call 92; refine C0.out.mono ?_; rintro e w1 ⟨rfl, hw⟩)
  have H1 := Lib.hid (hw.keep (Keep.refl noneOf _).drew)
  clear hw C0
  go_wp2
  have C1 := Lib.hid (toOf H1.out)
  go_region_with (go_at_call 92; refine C1.out.mono ?_; rintro e w2 ⟨rfl, hw⟩)
  have H2 := Lib.hid hw
  clear hw C1
  go_end0
  exact ⟨rfl, H2.out⟩
def fieldsR (x : Pm × Rs) : Pm × Rs := if x.1.k = 1 ∨ x.1.k = 3 then stLt (stIx x) else if x.1.k = 2 ∨ x.1.k = 4 then stGd x else if x.1.k = 5 then stEs (stRd (stCm (stLt (stIx x)))) else if x.1.k = 6 then stRd (stIx (stGd x))
  else if x.1.k = 7 then stDa (stWh (stOf (stCf (stLt (stIx x))))) else if x.1.k = 8 then stOf (stIx x) else x
theorem visit_r (x : Pm × Rs) (hk : isKind x.1.k = true) : ∃ n, fieldsF x.1.k = .func (.func n) #[] #[] ∧ CanCall n ∧ ∀ (w0 w : World) (pr b : Nat) (D : Nat → Prop), RX w0 pr b D x w →
    Calls Try.prog n #[.iface 61 (.agg #[.pointer (some ⟨pr, 0, none⟩)]), .pointer (some ⟨b, 0, none⟩)] w fun e w' => e = .returned (.tuple #[]) ∧ RX w0 pr b D (fieldsR x) w' := by
  rcases kind_of hk with h | h | h | h | h | h | h | h
  · refine ⟨31, by rw [h]; rfl, enters_of Try.func31 (by kernel_rfl) rfl, fun w0 w pr b D hw => ?_⟩
    have hx := endOfLog_r w0 w pr b D x hw
    unfold fieldsR; rw [if_pos (by omega)]
    exact hx
  · refine ⟨32, by rw [h]; rfl, enters_of Try.func32 (by kernel_rfl) rfl, fun w0 w pr b D hw => ?_⟩
    have hx := consent_r w0 w pr b D x hw
    unfold fieldsR; rw [if_neg (by omega)]; rw [if_pos (by omega)]
    exact hx
  · refine ⟨31, by rw [h]; rfl, enters_of Try.func31 (by kernel_rfl) rfl, fun w0 w pr b D hw => ?_⟩
    have hx := endOfLog_r w0 w pr b D x hw
    unfold fieldsR; rw [if_pos (by omega)]
    exact hx
  · refine ⟨32, by rw [h]; rfl, enters_of Try.func32 (by kernel_rfl) rfl, fun w0 w pr b D hw => ?_⟩
    have hx := consent_r w0 w pr b D x hw
    unfold fieldsR; rw [if_neg (by omega)]; rw [if_pos (by omega)]
    exact hx
  · refine ⟨33, by rw [h]; rfl, enters_of Try.func33 (by kernel_rfl) rfl, fun w0 w pr b D hw => ?_⟩
    have hx := entriesSent_r w0 w pr b D x hw
    unfold fieldsR; rw [if_neg (by omega)]; rw [if_neg (by omega)]; rw [if_pos (by omega)]
    exact hx
  · refine ⟨34, by rw [h]; rfl, enters_of Try.func34 (by kernel_rfl) rfl, fun w0 w pr b D hw => ?_⟩
    have hx := entriesTaken_r w0 w pr b D x hw
    unfold fieldsR; rw [if_neg (by omega)]; rw [if_neg (by omega)]; rw [if_neg (by omega)]; rw [if_pos (by omega)]
    exact hx
  · refine ⟨35, by rw [h]; rfl, enters_of Try.func35 (by kernel_rfl) rfl, fun w0 w pr b D hw => ?_⟩
    have hx := chunkSent_r w0 w pr b D x hw
    unfold fieldsR; rw [if_neg (by omega)]; rw [if_neg (by omega)]; rw [if_neg (by omega)]; rw [if_neg (by omega)]; rw [if_pos (by omega)]
    exact hx
  · refine ⟨36, by rw [h]; rfl, enters_of Try.func36 (by kernel_rfl) rfl, fun w0 w pr b D hw => ?_⟩
    have hx := chunkTaken_r w0 w pr b D x hw
    unfold fieldsR; rw [if_neg (by omega)]; rw [if_neg (by omega)]; rw [if_neg (by omega)]; rw [if_neg (by omega)]; rw [if_neg (by omega)]; rw [if_pos (by omega)]
    exact hx
end Go.Proofs.Ytdikmmdkpfmocaa
