import Derived.Test.YtdikmmdkpfmocaaBs39
namespace Go.Proofs.Ytdikmmdkpfmocaa
open Go.RowKit Go.Shelf
structure WM (w0 : World) (pw b : Nat) (D : Nat → Prop) (m : Mg) : Prop where
  box : MBox w0 b m
  ne : b ≠ pw
  lies : m.lies w0 D
  far : ∀ k, D k → k < w0.heap.size ∧ k ≠ pw
  few : m.es.length ≤ 8
  ents : ∀ x ∈ m.es.map En.plain, okE x
theorem WS.to {w0 w : World} {pw : Nat} {a b : List UInt8} (h : WS w0 pw a w) (e : a = b) : WS w0 pw b w := e ▸ h
theorem nil_w (pw : Nat) (n : Nat) (w : World) (s : String) (hs : s = "dockyard/message.long" ∨ s = "dockyard/message.flag" ∨ s = "dockyard/message.entries" ∨ s = "dockyard/message.config" ∨ s = "dockyard/message.data") : (nilAhead (n + 1) 50 (.agg #[.pointer (some ⟨pw, 0, none⟩)]) s).run Try.prog w = .ok (some false) w := by
  rcases hs with rfl | rfl | rfl | rfl | rfl <;> kernel_rfl
theorem met_long_w (pw : Nat) (n : Nat) (w : World) : (method (n + 1) 50 (.agg #[.pointer (some ⟨pw, 0, none⟩)]) "dockyard/message.long").run Try.prog w = .ok (82, .agg #[.pointer (some ⟨pw, 0, none⟩)]) w := by kernel_rfl
theorem met_flag_w (pw : Nat) (n : Nat) (w : World) : (method (n + 1) 50 (.agg #[.pointer (some ⟨pw, 0, none⟩)]) "dockyard/message.flag").run Try.prog w = .ok (81, .agg #[.pointer (some ⟨pw, 0, none⟩)]) w := by kernel_rfl
theorem met_entries_w (pw : Nat) (n : Nat) (w : World) : (method (n + 1) 50 (.agg #[.pointer (some ⟨pw, 0, none⟩)]) "dockyard/message.entries").run Try.prog w = .ok (80, .agg #[.pointer (some ⟨pw, 0, none⟩)]) w := by kernel_rfl
theorem met_config_w (pw : Nat) (n : Nat) (w : World) : (method (n + 1) 50 (.agg #[.pointer (some ⟨pw, 0, none⟩)]) "dockyard/message.config").run Try.prog w = .ok (78, .agg #[.pointer (some ⟨pw, 0, none⟩)]) w := by kernel_rfl
theorem met_data_w (pw : Nat) (n : Nat) (w : World) : (method (n + 1) 50 (.agg #[.pointer (some ⟨pw, 0, none⟩)]) "dockyard/message.data").run Try.prog w = .ok (79, .agg #[.pointer (some ⟨pw, 0, none⟩)]) w := by kernel_rfl
set_option maxRecDepth 100000 in
set_option maxHeartbeats 2000000 in
set_option linter.unusedSimpArgs false in
theorem endOfLog_w (w0 w : World) (pw b : Nat) (D : Nat → Prop) (m : Mg) (bs : List UInt8) (hm : WM w0 pw b D m) (h : WS w0 pw bs w) (hl : bs.length ≤ 100) :
    Calls Try.prog 31 #[.iface 50 (.agg #[.pointer (some ⟨pw, 0, none⟩)]), .pointer (some ⟨b, 0, none⟩)] w fun e w' => e = .returned (.tuple #[]) ∧ WS w0 pw (bs ++ (be m.ix 8 ++ be m.lt 8)) w' := by
  have HM := Lib.hid hm
  have HLIM := Lib.hid lim_is
  have H0 : Hid (WS w0 pw bs w.drew) := Lib.hid (h.later (Keep.refl noneOf w).drew)
  clear hm h
  have n_long := fun n w => nil_w pw n w "dockyard/message.long" (.inl rfl)
  have m_long := met_long_w pw
  go_enter Try.func31, Try.ntmps31
  go_wp2
  have C0 := Lib.hid (wlong_any w0 _ pw b 4 _ _ H0.out ((HM.out.box.cell 4).trans m.at4) HM.out.ne HM.out.lies.ix (by rw [HLIM.out]; (try simp only [List.length_append, be_length, List.length_cons, List.length_nil]); omega))
  go_region_with (go_at_call 82; refine C0.out.mono ?_; rintro e w1 ⟨rfl, hw⟩)
  have H1 := Lib.hid (hw.later (Keep.refl noneOf _).drew)
  clear hw C0
  go_wp2
  have C1 := Lib.hid (wlong_any w0 _ pw b 5 _ _ H1.out ((HM.out.box.cell 5).trans m.at5) HM.out.ne HM.out.lies.lt (by rw [HLIM.out]; (try simp only [List.length_append, be_length, List.length_cons, List.length_nil]); omega))
  go_region_with (go_at_call 82; refine C1.out.mono ?_; rintro e w2 ⟨rfl, hw⟩)
  have H2 := Lib.hid hw
  clear hw C1
  go_end0
  exact ⟨rfl, H2.out.to (by (try simp only [List.append_assoc, List.cons_append, List.nil_append]))⟩
set_option maxRecDepth 100000 in
set_option maxHeartbeats 2000000 in
set_option linter.unusedSimpArgs false in
theorem consent_w (w0 w : World) (pw b : Nat) (D : Nat → Prop) (m : Mg) (bs : List UInt8) (hm : WM w0 pw b D m) (h : WS w0 pw bs w) (hl : bs.length ≤ 100) :
    Calls Try.prog 32 #[.iface 50 (.agg #[.pointer (some ⟨pw, 0, none⟩)]), .pointer (some ⟨b, 0, none⟩)] w fun e w' => e = .returned (.tuple #[]) ∧ WS w0 pw (bs ++ ([b2 m.gd])) w' := by
  have HM := Lib.hid hm
  have HLIM := Lib.hid lim_is
  have H0 : Hid (WS w0 pw bs w.drew) := Lib.hid (h.later (Keep.refl noneOf w).drew)
  clear hm h
  have n_flag := fun n w => nil_w pw n w "dockyard/message.flag" (.inr (.inl rfl))
  have m_flag := met_flag_w pw
  go_enter Try.func32, Try.ntmps32
  go_wp2
  have C0 := Lib.hid (wflag_any w0 _ pw b 8 _ _ H0.out ((HM.out.box.cell 8).trans m.at8) HM.out.ne (by rw [HLIM.out]; (try simp only [List.length_append, be_length, List.length_cons, List.length_nil]); omega))
  go_region_with (go_at_call 81; refine C0.out.mono ?_; rintro e w1 ⟨rfl, hw⟩)
  have H1 := Lib.hid hw
  clear hw C0
  go_end0
  exact ⟨rfl, H1.out.to (by (try simp only [List.append_assoc, List.cons_append, List.nil_append]))⟩
set_option maxRecDepth 100000 in
set_option maxHeartbeats 2000000 in
set_option linter.unusedSimpArgs false in
theorem entriesSent_w (w0 w : World) (pw b : Nat) (D : Nat → Prop) (m : Mg) (bs : List UInt8) (hm : WM w0 pw b D m) (h : WS w0 pw bs w) (hl : bs.length ≤ 100) :
    Calls Try.prog 33 #[.iface 50 (.agg #[.pointer (some ⟨pw, 0, none⟩)]), .pointer (some ⟨b, 0, none⟩)] w fun e w' => e = .returned (.tuple #[]) ∧ WS w0 pw (bs ++ (be m.ix 8 ++ be m.lt 8 ++ be m.cm 8 ++ be m.rd 8 ++ encEs (m.es.map En.plain))) w' := by
  have HM := Lib.hid hm
  have HLIM := Lib.hid lim_is
  have H0 : Hid (WS w0 pw bs w.drew) := Lib.hid (h.later (Keep.refl noneOf w).drew)
  clear hm h
  have n_long := fun n w => nil_w pw n w "dockyard/message.long" (.inl rfl)
  have m_long := met_long_w pw
  have n_entries := fun n w => nil_w pw n w "dockyard/message.entries" (.inr (.inr (.inl rfl)))
  have m_entries := met_entries_w pw
  go_enter Try.func33, Try.ntmps33
  go_wp2
  have C0 := Lib.hid (wlong_any w0 _ pw b 4 _ _ H0.out ((HM.out.box.cell 4).trans m.at4) HM.out.ne HM.out.lies.ix (by rw [HLIM.out]; (try simp only [List.length_append, be_length, List.length_cons, List.length_nil]); omega))
  go_region_with (go_at_call 82; refine C0.out.mono ?_; rintro e w1 ⟨rfl, hw⟩)
  have H1 := Lib.hid (hw.later (Keep.refl noneOf _).drew)
  clear hw C0
  go_wp2
  have C1 := Lib.hid (wlong_any w0 _ pw b 5 _ _ H1.out ((HM.out.box.cell 5).trans m.at5) HM.out.ne HM.out.lies.lt (by rw [HLIM.out]; (try simp only [List.length_append, be_length, List.length_cons, List.length_nil]); omega))
  go_region_with (go_at_call 82; refine C1.out.mono ?_; rintro e w2 ⟨rfl, hw⟩)
  have H2 := Lib.hid (hw.later (Keep.refl noneOf _).drew)
  clear hw C1
  go_wp2
  have C2 := Lib.hid (wlong_any w0 _ pw b 6 _ _ H2.out ((HM.out.box.cell 6).trans m.at6) HM.out.ne HM.out.lies.cm (by rw [HLIM.out]; (try simp only [List.length_append, be_length, List.length_cons, List.length_nil]); omega))
  go_region_with (go_at_call 82; refine C2.out.mono ?_; rintro e w3 ⟨rfl, hw⟩)
  have H3 := Lib.hid (hw.later (Keep.refl noneOf _).drew)
  clear hw C2
  go_wp2
  have C3 := Lib.hid (wlong_any w0 _ pw b 7 _ _ H3.out ((HM.out.box.cell 7).trans m.at7) HM.out.ne HM.out.lies.rd (by rw [HLIM.out]; (try simp only [List.length_append, be_length, List.length_cons, List.length_nil]); omega))
  go_region_with (go_at_call 82; refine C3.out.mono ?_; rintro e w4 ⟨rfl, hw⟩)
  have H4 := Lib.hid (hw.later (Keep.refl noneOf _).drew)
  clear hw C3
  go_wp2
  have C4 := Lib.hid (wentries_any w0 _ pw b 9 D _ _ _ H4.out ((HM.out.box.cell 9).trans m.at9) HM.out.ne HM.out.lies.es (fun k hk => (HM.out.far k hk).2) HM.out.few HM.out.ents (by (try simp only [List.length_append, be_length, List.length_cons, List.length_nil]); omega))
  go_region_with (go_at_call 80; refine C4.out.mono ?_; rintro e w5 ⟨rfl, hw⟩)
  have H5 := Lib.hid hw
  clear hw C4
  go_end0
  exact ⟨rfl, H5.out.to (by (try simp only [List.append_assoc, List.cons_append, List.nil_append]))⟩
set_option maxRecDepth 100000 in
set_option maxHeartbeats 2000000 in
set_option linter.unusedSimpArgs false in
theorem entriesTaken_w (w0 w : World) (pw b : Nat) (D : Nat → Prop) (m : Mg) (bs : List UInt8) (hm : WM w0 pw b D m) (h : WS w0 pw bs w) (hl : bs.length ≤ 100) :
    Calls Try.prog 34 #[.iface 50 (.agg #[.pointer (some ⟨pw, 0, none⟩)]), .pointer (some ⟨b, 0, none⟩)] w fun e w' => e = .returned (.tuple #[]) ∧ WS w0 pw (bs ++ ([b2 m.gd] ++ be m.ix 8 ++ be m.rd 8)) w' := by
  have HM := Lib.hid hm
  have HLIM := Lib.hid lim_is
  have H0 : Hid (WS w0 pw bs w.drew) := Lib.hid (h.later (Keep.refl noneOf w).drew)
  clear hm h
  have n_long := fun n w => nil_w pw n w "dockyard/message.long" (.inl rfl)
  have m_long := met_long_w pw
  have n_flag := fun n w => nil_w pw n w "dockyard/message.flag" (.inr (.inl rfl))
  have m_flag := met_flag_w pw
  go_enter Try.func34, Try.ntmps34
  go_wp2
  have C0 := Lib.hid (wflag_any w0 _ pw b 8 _ _ H0.out ((HM.out.box.cell 8).trans m.at8) HM.out.ne (by rw [HLIM.out]; (try simp only [List.length_append, be_length, List.length_cons, List.length_nil]); omega))
  go_region_with (go_at_call 81; refine C0.out.mono ?_; rintro e w1 ⟨rfl, hw⟩)
  have H1 := Lib.hid (hw.later (Keep.refl noneOf _).drew)
  clear hw C0
  go_wp2
  have C1 := Lib.hid (wlong_any w0 _ pw b 4 _ _ H1.out ((HM.out.box.cell 4).trans m.at4) HM.out.ne HM.out.lies.ix (by rw [HLIM.out]; (try simp only [List.length_append, be_length, List.length_cons, List.length_nil]); omega))
  go_region_with (go_at_call 82; refine C1.out.mono ?_; rintro e w2 ⟨rfl, hw⟩)
  have H2 := Lib.hid (hw.later (Keep.refl noneOf _).drew)
  clear hw C1
  go_wp2
  have C2 := Lib.hid (wlong_any w0 _ pw b 7 _ _ H2.out ((HM.out.box.cell 7).trans m.at7) HM.out.ne HM.out.lies.rd (by rw [HLIM.out]; (try simp only [List.length_append, be_length, List.length_cons, List.length_nil]); omega))
  go_region_with (go_at_call 82; refine C2.out.mono ?_; rintro e w3 ⟨rfl, hw⟩)
  have H3 := Lib.hid hw
  clear hw C2
  go_end0
  exact ⟨rfl, H3.out.to (by (try simp only [List.append_assoc, List.cons_append, List.nil_append]))⟩
set_option maxRecDepth 100000 in
set_option maxHeartbeats 2000000 in
set_option linter.unusedSimpArgs false in
theorem chunkSent_w (w0 w : World) (pw b : Nat) (D : Nat → Prop) (m : Mg) (bs : List UInt8) (hm : WM w0 pw b D m) (h : WS w0 pw bs w) (hl : bs.length ≤ 100) (hck : chkP m.c = 0) (hcl : (encP m.c).length ≤ 100) (hdl : m.da.length ≤ 4096) :
    Calls Try.prog 35 #[.iface 50 (.agg #[.pointer (some ⟨pw, 0, none⟩)]), .pointer (some ⟨b, 0, none⟩)] w fun e w' => e = .returned (.tuple #[]) ∧ WS w0 pw (bs ++ (be m.ix 8 ++ be m.lt 8 ++ textBytes (encP m.c) ++ be m.off 8 ++ be m.wh 8 ++ textBytes m.da)) w' := by
  have HM := Lib.hid hm
  have HLIM := Lib.hid lim_is
  have H0 : Hid (WS w0 pw bs w.drew) := Lib.hid (h.later (Keep.refl noneOf w).drew)
  have HCK := Lib.hid hck
  clear hck
  clear hm h
  have n_long := fun n w => nil_w pw n w "dockyard/message.long" (.inl rfl)
  have m_long := met_long_w pw
  have n_config := fun n w => nil_w pw n w "dockyard/message.config" (.inr (.inr (.inr (.inl rfl))))
  have m_config := met_config_w pw
  have n_data := fun n w => nil_w pw n w "dockyard/message.data" (.inr (.inr (.inr (.inr rfl))))
  have m_data := met_data_w pw
  go_enter Try.func35, Try.ntmps35
  go_wp2
  have C0 := Lib.hid (wlong_any w0 _ pw b 4 _ _ H0.out ((HM.out.box.cell 4).trans m.at4) HM.out.ne HM.out.lies.ix (by rw [HLIM.out]; have hv := varBytes_length (encP m.c).length; have hm := varMore_le (varFirst (encP m.c).length); (try simp only [List.length_append, be_length, List.length_cons, List.length_nil, textBytes]); omega))
  go_region_with (go_at_call 82; refine C0.out.mono ?_; rintro e w1 ⟨rfl, hw⟩)
  have H1 := Lib.hid (hw.later (Keep.refl noneOf _).drew)
  clear hw C0
  go_wp2
  have C1 := Lib.hid (wlong_any w0 _ pw b 5 _ _ H1.out ((HM.out.box.cell 5).trans m.at5) HM.out.ne HM.out.lies.lt (by rw [HLIM.out]; have hv := varBytes_length (encP m.c).length; have hm := varMore_le (varFirst (encP m.c).length); (try simp only [List.length_append, be_length, List.length_cons, List.length_nil, textBytes]); omega))
  go_region_with (go_at_call 82; refine C1.out.mono ?_; rintro e w2 ⟨rfl, hw⟩)
  have H2 := Lib.hid (hw.later (Keep.refl noneOf _).drew)
  clear hw C1
  go_wp2
  have C2 := Lib.hid (wconfig_any w0 _ pw b 10 D _ _ _ _ H2.out ((HM.out.box.cell 10).trans m.at10) ((HM.out.box.cell 11).trans m.at11) HM.out.ne HM.out.lies.vs HM.out.lies.ls (fun k hk => (HM.out.far k hk).2) HCK.out (by rw [HLIM.out]; have hv := varBytes_length (encP m.c).length; have hm := varMore_le (varFirst (encP m.c).length); (try simp only [List.length_append, be_length, List.length_cons, List.length_nil, textBytes]); omega))
  go_region_with (go_at_call 78; refine C2.out.mono ?_; rintro e w3 ⟨rfl, hw⟩)
  have H3 := Lib.hid (hw.later (Keep.refl noneOf _).drew)
  clear hw C2
  go_wp2
  have C3 := Lib.hid (wlong_any w0 _ pw b 12 _ _ H3.out ((HM.out.box.cell 12).trans m.at12) HM.out.ne HM.out.lies.off (by rw [HLIM.out]; have hv := varBytes_length (encP m.c).length; have hm := varMore_le (varFirst (encP m.c).length); (try simp only [List.length_append, be_length, List.length_cons, List.length_nil, textBytes]); omega))
  go_region_with (go_at_call 82; refine C3.out.mono ?_; rintro e w4 ⟨rfl, hw⟩)
  have H4 := Lib.hid (hw.later (Keep.refl noneOf _).drew)
  clear hw C3
  go_wp2
  have C4 := Lib.hid (wlong_any w0 _ pw b 13 _ _ H4.out ((HM.out.box.cell 13).trans m.at13) HM.out.ne HM.out.lies.wh (by rw [HLIM.out]; have hv := varBytes_length (encP m.c).length; have hm := varMore_le (varFirst (encP m.c).length); (try simp only [List.length_append, be_length, List.length_cons, List.length_nil, textBytes]); omega))
  go_region_with (go_at_call 82; refine C4.out.mono ?_; rintro e w5 ⟨rfl, hw⟩)
  have H5 := Lib.hid (hw.later (Keep.refl noneOf _).drew)
  clear hw C4
  go_wp2
  have C5 := Lib.hid (wdata_any w0 _ pw b 14 D _ _ _ H5.out ((HM.out.box.cell 14).trans m.at14) HM.out.ne HM.out.lies.da HM.out.far (by rw [HLIM.out]; have hv := varBytes_length (encP m.c).length; have hm := varMore_le (varFirst (encP m.c).length); (try simp only [List.length_append, be_length, List.length_cons, List.length_nil, textBytes]); omega))
  go_region_with (go_at_call 79; refine C5.out.mono ?_; rintro e w6 ⟨rfl, hw⟩)
  have H6 := Lib.hid hw
  clear hw C5
  go_end0
  exact ⟨rfl, H6.out.to (by (try simp only [List.append_assoc, List.cons_append, List.nil_append]))⟩
set_option maxRecDepth 100000 in
set_option maxHeartbeats 2000000 in
set_option linter.unusedSimpArgs false in
theorem chunkTaken_w (w0 w : World) (pw b : Nat) (D : Nat → Prop) (m : Mg) (bs : List UInt8) (hm : WM w0 pw b D m) (h : WS w0 pw bs w) (hl : bs.length ≤ 100) :
    Calls Try.prog 36 #[.iface 50 (.agg #[.pointer (some ⟨pw, 0, none⟩)]), .pointer (some ⟨b, 0, none⟩)] w fun e w' => e = .returned (.tuple #[]) ∧ WS w0 pw (bs ++ (be m.ix 8 ++ be m.off 8)) w' := by
  have HM := Lib.hid hm
  have HLIM := Lib.hid lim_is
  have H0 : Hid (WS w0 pw bs w.drew) := Lib.hid (h.later (Keep.refl noneOf w).drew)
  clear hm h
  have n_long := fun n w => nil_w pw n w "dockyard/message.long" (.inl rfl)
  have m_long := met_long_w pw
  go_enter Try.func36, Try.ntmps36
  go_wp2
  have C0 := Lib.hid (wlong_any w0 _ pw b 4 _ _ H0.out ((HM.out.box.cell 4).trans m.at4) HM.out.ne HM.out.lies.ix (by rw [HLIM.out]; (try simp only [List.length_append, be_length, List.length_cons, List.length_nil]); omega))
  go_region_with (go_at_call 82; refine C0.out.mono ?_; rintro e w1 ⟨rfl, hw⟩)
  have H1 := Lib.hid (hw.later (Keep.refl noneOf _).drew)
  clear hw C0
  go_wp2
  have C1 := Lib.hid (wlong_any w0 _ pw b 12 _ _ H1.out ((HM.out.box.cell 12).trans m.at12) HM.out.ne HM.out.lies.off (by rw [HLIM.out]; (try simp only [List.length_append, be_length, List.length_cons, List.length_nil]); omega))
  go_region_with (go_at_call 82; refine C1.out.mono ?_; rintro e w2 ⟨rfl, hw⟩)
  have H2 := Lib.hid hw
  clear hw C1
  go_end0
  exact ⟨rfl, H2.out.to (by (try simp only [List.append_assoc, List.cons_append, List.nil_append]))⟩
end Go.Proofs.Ytdikmmdkpfmocaa
