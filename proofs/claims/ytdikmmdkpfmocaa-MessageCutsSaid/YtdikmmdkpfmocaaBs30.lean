import Derived.Deep.RegionHeld3
import Derived.Test.YtdikmmdkpfmocaaBs16
import Derived.Test.YtdikmmdkpfmocaaBs23
namespace Go.Proofs.Ytdikmmdkpfmocaa
open Go.RowKit
set_option maxRecDepth 100000 in
theorem clong_any (w : World) (b i : Nat) (cs : Array Value) (u : Value) (h : Box w b 29 cs) (hi : cs[i]? = some u) :
    Calls Try.prog 114 #[.agg #[], .pointer (some ⟨b, i, none⟩)] w fun e w' => e = .returned (.tuple #[]) ∧ Box w' b 29 (cs.setIfInBounds i (.int .u64 0)) ∧ Keep (fun k => k = b) w w' := by
  have c0 := (h.alloc (.cells #[] 84)).cell i
  rw [hi] at c0
  have f0 := (h.alloc (.cells #[] 84)).free i
  have HB := Lib.hid ((h.alloc (.cells #[] 84)).put i (.int .u64 0))
  have HK := Lib.hid (((Keep.refl (fun k => k = b) w).alloc (.cells #[] 84)).setCell (p := ⟨b, i, none⟩) (fun _ => rfl) (.int .u64 0))
  clear h hi
  go_enter Try.func114, Try.ntmps114
  go_wp2
  go_end0
  exact ⟨rfl, HB.out, HK.out⟩
set_option maxRecDepth 100000 in
theorem cflag_any (w : World) (b i : Nat) (cs : Array Value) (u : Value) (h : Box w b 29 cs) (hi : cs[i]? = some u) :
    Calls Try.prog 113 #[.agg #[], .pointer (some ⟨b, i, none⟩)] w fun e w' => e = .returned (.tuple #[]) ∧ Box w' b 29 (cs.setIfInBounds i (.bool false)) ∧ Keep (fun k => k = b) w w' := by
  have c0 := (h.alloc (.cells #[] 84)).cell i
  rw [hi] at c0
  have f0 := (h.alloc (.cells #[] 84)).free i
  have HB := Lib.hid ((h.alloc (.cells #[] 84)).put i (.bool false))
  have HK := Lib.hid (((Keep.refl (fun k => k = b) w).alloc (.cells #[] 84)).setCell (p := ⟨b, i, none⟩) (fun _ => rfl) (.bool false))
  clear h hi
  go_enter Try.func113, Try.ntmps113
  go_wp2
  go_end0
  exact ⟨rfl, HB.out, HK.out⟩
set_option maxRecDepth 100000 in
theorem centries_any (w : World) (b i : Nat) (cs : Array Value) (u : Value) (h : Box w b 29 cs) (hi : cs[i]? = some u) :
    Calls Try.prog 112 #[.agg #[], .pointer (some ⟨b, i, none⟩)] w fun e w' => e = .returned (.tuple #[]) ∧ Box w' b 29 (cs.setIfInBounds i (.slice none 0 0)) ∧ Keep (fun k => k = b) w w' := by
  have c0 := (h.alloc (.cells #[] 84)).cell i
  rw [hi] at c0
  have f0 := (h.alloc (.cells #[] 84)).free i
  have HB := Lib.hid ((h.alloc (.cells #[] 84)).put i (.slice none 0 0))
  have HK := Lib.hid (((Keep.refl (fun k => k = b) w).alloc (.cells #[] 84)).setCell (p := ⟨b, i, none⟩) (fun _ => rfl) (.slice none 0 0))
  clear h hi
  go_enter Try.func112, Try.ntmps112
  go_wp2
  go_end0
  exact ⟨rfl, HB.out, HK.out⟩
set_option maxRecDepth 100000 in
theorem cdata_any (w : World) (b i : Nat) (cs : Array Value) (u : Value) (h : Box w b 29 cs) (hi : cs[i]? = some u) :
    Calls Try.prog 111 #[.agg #[], .pointer (some ⟨b, i, none⟩)] w fun e w' => e = .returned (.tuple #[]) ∧ Box w' b 29 (cs.setIfInBounds i (.slice none 0 0)) ∧ Keep (fun k => k = b) w w' := by
  have c0 := (h.alloc (.cells #[] 84)).cell i
  rw [hi] at c0
  have f0 := (h.alloc (.cells #[] 84)).free i
  have HB := Lib.hid ((h.alloc (.cells #[] 84)).put i (.slice none 0 0))
  have HK := Lib.hid (((Keep.refl (fun k => k = b) w).alloc (.cells #[] 84)).setCell (p := ⟨b, i, none⟩) (fun _ => rfl) (.slice none 0 0))
  clear h hi
  go_enter Try.func111, Try.ntmps111
  go_wp2
  go_end0
  exact ⟨rfl, HB.out, HK.out⟩
set_option maxRecDepth 100000 in
theorem cconfig_any (w : World) (b i : Nat) (cs : Array Value) (u v : Value) (h : Box w b 29 cs) (hi : cs[i]? = some u) (hj : cs[i + 1]? = some v) :
    Calls Try.prog 110 #[.agg #[], .pointer (some ⟨b, i, none⟩)] w fun e w' => e = .returned (.tuple #[]) ∧ Box w' b 29 ((cs.setIfInBounds i (.slice none 0 0)).setIfInBounds (i + 1) (.slice none 0 0)) ∧ Keep (fun k => k = b) w w' := by
  have c0 := (h.alloc (.cells #[] 84)).cell i
  rw [hi] at c0
  have f0 := (h.alloc (.cells #[] 84)).free i
  have c1 := (h.alloc (.cells #[] 84)).cell (i + 1)
  rw [hj] at c1
  have f1 := (h.alloc (.cells #[] 84)).free (i + 1)
  have HB := Lib.hid (((h.alloc (.cells #[] 84)).put i (.slice none 0 0)).put (i + 1) (.slice none 0 0))
  have HK := Lib.hid ((((Keep.refl (fun k => k = b) w).alloc (.cells #[] 84)).setCell (p := ⟨b, i, none⟩) (fun _ => rfl) (.slice none 0 0)).setCell (p := ⟨b, i + 1, none⟩) (fun _ => rfl) (.slice none 0 0))
  clear h hi hj
  go_enter Try.func110, Try.ntmps110
  go_wp2
  go_end0
  exact ⟨rfl, HB.out, HK.out⟩
theorem nil_c (n : Nat) (w : World) (s : String) (hs : s = "dockyard/message.long" ∨ s = "dockyard/message.flag" ∨ s = "dockyard/message.entries" ∨ s = "dockyard/message.config" ∨ s = "dockyard/message.data") : (nilAhead (n + 1) 84 (.agg #[]) s).run Try.prog w = .ok (some false) w := by
  rcases hs with rfl | rfl | rfl | rfl | rfl <;> kernel_rfl
theorem met_long_c (n : Nat) (w : World) : (method (n + 1) 84 (.agg #[]) "dockyard/message.long").run Try.prog w = .ok (114, .agg #[]) w := by kernel_rfl
theorem met_flag_c (n : Nat) (w : World) : (method (n + 1) 84 (.agg #[]) "dockyard/message.flag").run Try.prog w = .ok (113, .agg #[]) w := by kernel_rfl
theorem met_entries_c (n : Nat) (w : World) : (method (n + 1) 84 (.agg #[]) "dockyard/message.entries").run Try.prog w = .ok (112, .agg #[]) w := by kernel_rfl
theorem met_config_c (n : Nat) (w : World) : (method (n + 1) 84 (.agg #[]) "dockyard/message.config").run Try.prog w = .ok (110, .agg #[]) w := by kernel_rfl
theorem met_data_c (n : Nat) (w : World) : (method (n + 1) 84 (.agg #[]) "dockyard/message.data").run Try.prog w = .ok (111, .agg #[]) w := by kernel_rfl
set_option maxRecDepth 100000 in
set_option maxHeartbeats 2000000 in
theorem endOfLog_c (w : World) (b : Nat) (m : Mg) (h : MBox w b m) :
    Calls Try.prog 31 #[.iface 84 (.agg #[]), .pointer (some ⟨b, 0, none⟩)] w fun e w' => e = .returned (.tuple #[]) ∧ MBox w' b { m with ix := 0, lt := 0 } ∧ Keep (fun k => k = b) w w' := by
  have H0 : Hid (Box w.drew b 29 m.cells) := Lib.hid h.drew
  have K0 := Lib.hid (Keep.refl (fun k => k = b) w).drew
  clear h
  have n_long := fun n w => nil_c n w "dockyard/message.long" (.inl rfl)
  have m_long := met_long_c
  go_enter Try.func31, Try.ntmps31
  go_wp2
  go_region_with (go_at_call 114; refine (clong_any _ b 4 _ _ H0.out (Mg.at4 _)).mono ?_; rintro e w1 ⟨rfl, hb, hk⟩)
  have H1 := Lib.hid (hb.cast (Mg.set4 _ 0))
  have H1 := Lib.hid H1.out.drew
  have K1 := Lib.hid (K0.out.trans hk (fun _ _ h => h))
  have K1 := Lib.hid (K1.out.drew)
  clear hb hk
  go_wp2
  go_region_with (go_at_call 114; refine (clong_any _ b 5 _ _ H1.out (Mg.at5 _)).mono ?_; rintro e w2 ⟨rfl, hb, hk⟩)
  have H2 := Lib.hid (hb.cast (Mg.set5 _ 0))
  have K2 := Lib.hid (K1.out.trans hk (fun _ _ h => h))
  clear hb hk
  go_end0
  exact ⟨rfl, H2.out, K2.out⟩
set_option maxRecDepth 100000 in
set_option maxHeartbeats 2000000 in
theorem consent_c (w : World) (b : Nat) (m : Mg) (h : MBox w b m) :
    Calls Try.prog 32 #[.iface 84 (.agg #[]), .pointer (some ⟨b, 0, none⟩)] w fun e w' => e = .returned (.tuple #[]) ∧ MBox w' b { m with gd := false } ∧ Keep (fun k => k = b) w w' := by
  have H0 : Hid (Box w.drew b 29 m.cells) := Lib.hid h.drew
  have K0 := Lib.hid (Keep.refl (fun k => k = b) w).drew
  clear h
  have n_flag := fun n w => nil_c n w "dockyard/message.flag" (.inr (.inl rfl))
  have m_flag := met_flag_c
  go_enter Try.func32, Try.ntmps32
  go_wp2
  go_region_with (go_at_call 113; refine (cflag_any _ b 8 _ _ H0.out (Mg.at8 _)).mono ?_; rintro e w1 ⟨rfl, hb, hk⟩)
  have H1 := Lib.hid (hb.cast (Mg.set8 _ false))
  have K1 := Lib.hid (K0.out.trans hk (fun _ _ h => h))
  clear hb hk
  go_end0
  exact ⟨rfl, H1.out, K1.out⟩
set_option maxRecDepth 100000 in
set_option maxHeartbeats 2000000 in
theorem entriesSent_c (w : World) (b : Nat) (m : Mg) (h : MBox w b m) :
    Calls Try.prog 33 #[.iface 84 (.agg #[]), .pointer (some ⟨b, 0, none⟩)] w fun e w' => e = .returned (.tuple #[]) ∧ MBox w' b { m with ix := 0, lt := 0, cm := 0, rd := 0, ev := .slice none 0 0, es := [] } ∧ Keep (fun k => k = b) w w' := by
  have H0 : Hid (Box w.drew b 29 m.cells) := Lib.hid h.drew
  have K0 := Lib.hid (Keep.refl (fun k => k = b) w).drew
  clear h
  have n_long := fun n w => nil_c n w "dockyard/message.long" (.inl rfl)
  have m_long := met_long_c
  have n_entries := fun n w => nil_c n w "dockyard/message.entries" (.inr (.inr (.inl rfl)))
  have m_entries := met_entries_c
  go_enter Try.func33, Try.ntmps33
  go_wp2
  go_region_with (go_at_call 114; refine (clong_any _ b 4 _ _ H0.out (Mg.at4 _)).mono ?_; rintro e w1 ⟨rfl, hb, hk⟩)
  have H1 := Lib.hid (hb.cast (Mg.set4 _ 0))
  have H1 := Lib.hid H1.out.drew
  have K1 := Lib.hid (K0.out.trans hk (fun _ _ h => h))
  have K1 := Lib.hid (K1.out.drew)
  clear hb hk
  go_wp2
  go_region_with (go_at_call 114; refine (clong_any _ b 5 _ _ H1.out (Mg.at5 _)).mono ?_; rintro e w2 ⟨rfl, hb, hk⟩)
  have H2 := Lib.hid (hb.cast (Mg.set5 _ 0))
  have H2 := Lib.hid H2.out.drew
  have K2 := Lib.hid (K1.out.trans hk (fun _ _ h => h))
  have K2 := Lib.hid (K2.out.drew)
  clear hb hk
  go_wp2
  go_region_with (go_at_call 114; refine (clong_any _ b 6 _ _ H2.out (Mg.at6 _)).mono ?_; rintro e w3 ⟨rfl, hb, hk⟩)
  have H3 := Lib.hid (hb.cast (Mg.set6 _ 0))
  have H3 := Lib.hid H3.out.drew
  have K3 := Lib.hid (K2.out.trans hk (fun _ _ h => h))
  have K3 := Lib.hid (K3.out.drew)
  clear hb hk
  go_wp2
  go_region_with (go_at_call 114; refine (clong_any _ b 7 _ _ H3.out (Mg.at7 _)).mono ?_; rintro e w4 ⟨rfl, hb, hk⟩)
  have H4 := Lib.hid (hb.cast (Mg.set7 _ 0))
  have H4 := Lib.hid H4.out.drew
  have K4 := Lib.hid (K3.out.trans hk (fun _ _ h => h))
  have K4 := Lib.hid (K4.out.drew)
  clear hb hk
  go_wp2
  go_region_with (go_at_call 112; refine (centries_any _ b 9 _ _ H4.out (Mg.at9 _)).mono ?_; rintro e w5 ⟨rfl, hb, hk⟩)
  have H5 := Lib.hid (hb.cast (Mg.set9 _ (.slice none 0 0) []))
  have K5 := Lib.hid (K4.out.trans hk (fun _ _ h => h))
  clear hb hk
  go_end0
  exact ⟨rfl, H5.out, K5.out⟩
set_option maxRecDepth 100000 in
set_option maxHeartbeats 2000000 in
theorem entriesTaken_c (w : World) (b : Nat) (m : Mg) (h : MBox w b m) :
    Calls Try.prog 34 #[.iface 84 (.agg #[]), .pointer (some ⟨b, 0, none⟩)] w fun e w' => e = .returned (.tuple #[]) ∧ MBox w' b { m with gd := false, ix := 0, rd := 0 } ∧ Keep (fun k => k = b) w w' := by
  have H0 : Hid (Box w.drew b 29 m.cells) := Lib.hid h.drew
  have K0 := Lib.hid (Keep.refl (fun k => k = b) w).drew
  clear h
  have n_long := fun n w => nil_c n w "dockyard/message.long" (.inl rfl)
  have m_long := met_long_c
  have n_flag := fun n w => nil_c n w "dockyard/message.flag" (.inr (.inl rfl))
  have m_flag := met_flag_c
  go_enter Try.func34, Try.ntmps34
  go_wp2
  go_region_with (go_at_call 113; refine (cflag_any _ b 8 _ _ H0.out (Mg.at8 _)).mono ?_; rintro e w1 ⟨rfl, hb, hk⟩)
  have H1 := Lib.hid (hb.cast (Mg.set8 _ false))
  have H1 := Lib.hid H1.out.drew
  have K1 := Lib.hid (K0.out.trans hk (fun _ _ h => h))
  have K1 := Lib.hid (K1.out.drew)
  clear hb hk
  go_wp2
  go_region_with (go_at_call 114; refine (clong_any _ b 4 _ _ H1.out (Mg.at4 _)).mono ?_; rintro e w2 ⟨rfl, hb, hk⟩)
  have H2 := Lib.hid (hb.cast (Mg.set4 _ 0))
  have H2 := Lib.hid H2.out.drew
  have K2 := Lib.hid (K1.out.trans hk (fun _ _ h => h))
  have K2 := Lib.hid (K2.out.drew)
  clear hb hk
  go_wp2
  go_region_with (go_at_call 114; refine (clong_any _ b 7 _ _ H2.out (Mg.at7 _)).mono ?_; rintro e w3 ⟨rfl, hb, hk⟩)
  have H3 := Lib.hid (hb.cast (Mg.set7 _ 0))
  have K3 := Lib.hid (K2.out.trans hk (fun _ _ h => h))
  clear hb hk
  go_end0
  exact ⟨rfl, H3.out, K3.out⟩
set_option maxRecDepth 100000 in
set_option maxHeartbeats 2000000 in
theorem chunkSent_c (w : World) (b : Nat) (m : Mg) (h : MBox w b m) :
    Calls Try.prog 35 #[.iface 84 (.agg #[]), .pointer (some ⟨b, 0, none⟩)] w fun e w' => e = .returned (.tuple #[]) ∧ MBox w' b { m with ix := 0, lt := 0, va := .slice none 0 0, la := .slice none 0 0, c := ⟨[], []⟩, off := 0, wh := 0, dv := .slice none 0 0, da := [] } ∧ Keep (fun k => k = b) w w' := by
  have H0 : Hid (Box w.drew b 29 m.cells) := Lib.hid h.drew
  have K0 := Lib.hid (Keep.refl (fun k => k = b) w).drew
  clear h
  have n_long := fun n w => nil_c n w "dockyard/message.long" (.inl rfl)
  have m_long := met_long_c
  have n_config := fun n w => nil_c n w "dockyard/message.config" (.inr (.inr (.inr (.inl rfl))))
  have m_config := met_config_c
  have n_data := fun n w => nil_c n w "dockyard/message.data" (.inr (.inr (.inr (.inr rfl))))
  have m_data := met_data_c
  go_enter Try.func35, Try.ntmps35
  go_wp2
  go_region_with (go_at_call 114; refine (clong_any _ b 4 _ _ H0.out (Mg.at4 _)).mono ?_; rintro e w1 ⟨rfl, hb, hk⟩)
  have H1 := Lib.hid (hb.cast (Mg.set4 _ 0))
  have H1 := Lib.hid H1.out.drew
  have K1 := Lib.hid (K0.out.trans hk (fun _ _ h => h))
  have K1 := Lib.hid (K1.out.drew)
  clear hb hk
  go_wp2
  go_region_with (go_at_call 114; refine (clong_any _ b 5 _ _ H1.out (Mg.at5 _)).mono ?_; rintro e w2 ⟨rfl, hb, hk⟩)
  have H2 := Lib.hid (hb.cast (Mg.set5 _ 0))
  have H2 := Lib.hid H2.out.drew
  have K2 := Lib.hid (K1.out.trans hk (fun _ _ h => h))
  have K2 := Lib.hid (K2.out.drew)
  clear hb hk
  go_wp2
  go_region_with (go_at_call 110; refine (cconfig_any _ b 10 _ _ _ H2.out (Mg.at10 _) (Mg.at11 _)).mono ?_; rintro e w3 ⟨rfl, hb, hk⟩)
  have H3 := Lib.hid (hb.cast (Mg.set10 _ (.slice none 0 0) (.slice none 0 0) ⟨[], []⟩))
  have H3 := Lib.hid H3.out.drew
  have K3 := Lib.hid (K2.out.trans hk (fun _ _ h => h))
  have K3 := Lib.hid (K3.out.drew)
  clear hb hk
  go_wp2
  go_region_with (go_at_call 114; refine (clong_any _ b 12 _ _ H3.out (Mg.at12 _)).mono ?_; rintro e w4 ⟨rfl, hb, hk⟩)
  have H4 := Lib.hid (hb.cast (Mg.set12 _ 0))
  have H4 := Lib.hid H4.out.drew
  have K4 := Lib.hid (K3.out.trans hk (fun _ _ h => h))
  have K4 := Lib.hid (K4.out.drew)
  clear hb hk
  go_wp2
  go_region_with (go_at_call 114; refine (clong_any _ b 13 _ _ H4.out (Mg.at13 _)).mono ?_; rintro e w5 ⟨rfl, hb, hk⟩)
  have H5 := Lib.hid (hb.cast (Mg.set13 _ 0))
  have H5 := Lib.hid H5.out.drew
  have K5 := Lib.hid (K4.out.trans hk (fun _ _ h => h))
  have K5 := Lib.hid (K5.out.drew)
  clear hb hk
  go_wp2
  go_region_with (go_at_call 111; refine (cdata_any _ b 14 _ _ H5.out (Mg.at14 _)).mono ?_; rintro e w6 ⟨rfl, hb, hk⟩)
  have H6 := Lib.hid (hb.cast (Mg.set14 _ (.slice none 0 0) []))
  have K6 := Lib.hid (K5.out.trans hk (fun _ _ h => h))
  clear hb hk
  go_end0
  exact ⟨rfl, H6.out, K6.out⟩
set_option maxRecDepth 100000 in
set_option maxHeartbeats 2000000 in
theorem chunkTaken_c (w : World) (b : Nat) (m : Mg) (h : MBox w b m) :
    Calls Try.prog 36 #[.iface 84 (.agg #[]), .pointer (some ⟨b, 0, none⟩)] w fun e w' => e = .returned (.tuple #[]) ∧ MBox w' b { m with ix := 0, off := 0 } ∧ Keep (fun k => k = b) w w' := by
  have H0 : Hid (Box w.drew b 29 m.cells) := Lib.hid h.drew
  have K0 := Lib.hid (Keep.refl (fun k => k = b) w).drew
  clear h
  have n_long := fun n w => nil_c n w "dockyard/message.long" (.inl rfl)
  have m_long := met_long_c
  go_enter Try.func36, Try.ntmps36
  go_wp2
  go_region_with (go_at_call 114; refine (clong_any _ b 4 _ _ H0.out (Mg.at4 _)).mono ?_; rintro e w1 ⟨rfl, hb, hk⟩)
  have H1 := Lib.hid (hb.cast (Mg.set4 _ 0))
  have H1 := Lib.hid H1.out.drew
  have K1 := Lib.hid (K0.out.trans hk (fun _ _ h => h))
  have K1 := Lib.hid (K1.out.drew)
  clear hb hk
  go_wp2
  go_region_with (go_at_call 114; refine (clong_any _ b 12 _ _ H1.out (Mg.at12 _)).mono ?_; rintro e w2 ⟨rfl, hb, hk⟩)
  have H2 := Lib.hid (hb.cast (Mg.set12 _ 0))
  have K2 := Lib.hid (K1.out.trans hk (fun _ _ h => h))
  clear hb hk
  go_end0
  exact ⟨rfl, H2.out, K2.out⟩
end Go.Proofs.Ytdikmmdkpfmocaa
