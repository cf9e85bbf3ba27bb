/-
  The document's commands, as bytes: dockyardref04.Command.
-/
import Derived.Test.YtngbminjbgomgaaRefTargets
namespace Go.Proofs.Ytngbminjbgomgaa
open Go.RowKit

/-- What a letter of a kind's text stands for, as bytes. -/
def letterBytes (ses seq : Nat) (ts : List Tg) (gid tok : Nat) (good : Bool) (time : Nat) (x : Nat) : List UInt8 :=
  if x = 115 then be ses 8 else if x = 113 then be seq 8 else if x = 103 then graphBytes ts else if x = 105 then be gid 8 else if x = 116 then be tok 8 else if x = 119 then [if good then 1 else 0] else be time 8
/-- The kind, and the first letters. -/
def lettersBytes (k : Int) (ses seq : Nat) (ts : List Tg) (gid tok : Nat) (good : Bool) (time : Nat) (l : List UInt8) : List UInt8 := by8 k :: l.flatMap (fun x => letterBytes ses seq ts gid tok good time x.toNat)
theorem letters_take (k : Int) (ses seq : Nat) (ts : List Tg) (gid tok : Nat) (good : Bool) (time : Nat) (l : List UInt8) (m : Nat) (h : m < l.length) :
    lettersBytes k ses seq ts gid tok good time (l.take (m + 1)) = lettersBytes k ses seq ts gid tok good time (l.take m) ++ letterBytes ses seq ts gid tok good time l[m].toNat := by
  unfold lettersBytes
  rw [List.take_succ_eq_append_getElem h, List.flatMap_append, List.cons_append]
  simp
theorem letters_room (k : Int) (ses seq : Nat) (ts : List Tg) (gid tok : Nat) (good : Bool) (time : Nat) (l : List UInt8) (m : Nat) (h : m < l.length) :
    (lettersBytes k ses seq ts gid tok good time (l.take m)).length + (letterBytes ses seq ts gid tok good time l[m].toNat).length ≤ (lettersBytes k ses seq ts gid tok good time l).length := by
  have h1 := congrArg List.length (letters_take k ses seq ts gid tok good time l m h)
  rw [List.length_append] at h1
  rw [← h1]
  unfold lettersBytes
  conv => rhs; rw [← List.take_append_drop (m + 1) l]
  rw [List.flatMap_append, List.length_cons, List.length_cons, List.length_append]
  omega
theorem letters_cmd (k : Int) (ses seq : Nat) (gv : Value) (ts : List Tg) (gid tok : Nat) (good : Bool) (time : Nat) (hk : 1 ≤ k ∧ k ≤ 7) :
    lettersBytes k ses seq ts gid tok good time (namesOf k).data.toList = cmdBytes ⟨k, ses, seq, gv, ts, gid, tok, good, time⟩ := by
  rcases (show k = 1 ∨ k = 2 ∨ k = 3 ∨ k = 4 ∨ k = 5 ∨ k = 6 ∨ k = 7 from by omega) with rfl | rfl | rfl | rfl | rfl | rfl | rfl <;>
    simp [lettersBytes, letterBytes, namesOf, cmdBytes, fieldBytes, partLong, partGraph, partGood, fSes, fSeq, fGra, fId, fTok, fGood, fTime, by8]
theorem names_letter (k : Int) (x : UInt8) (h : x ∈ (namesOf k).data.toList) : x.toNat = 115 ∨ x.toNat = 113 ∨ x.toNat = 103 ∨ x.toNat = 105 ∨ x.toNat = 116 ∨ x.toNat = 119 ∨ x.toNat = 109 := by
  unfold namesOf at h
  (repeat' split at h) <;> simp at h <;> (try rcases h with rfl | rfl | rfl | rfl) <;> (try rcases h with rfl | rfl | rfl) <;> (try rcases h with rfl | rfl) <;> (try subst h) <;> decide
theorem names_size (k : Int) : (namesOf k).size ≤ 4 := by
  unfold namesOf
  (repeat' split) <;> decide
theorem cmdBytes_small (c : Cmd) (h : gFits c.ts = true) : (cmdBytes c).length ≤ 33100 := by
  have h1 := graphBytes_small c.ts h
  have a1 := partLong_le (fSes c.kind) c.ses
  have a2 := partLong_le (fSeq c.kind) c.seq
  have a3 := partGraph_le (fGra c.kind) c.ts
  have a4 := partLong_le (fId c.kind) c.id
  have a5 := partLong_le (fTok c.kind) c.tok
  have a6 := partGood_le (fGood c.kind) c.good
  have a7 := partLong_le (fTime c.kind) c.time
  unfold cmdBytes fieldBytes
  simp only [List.length_cons, List.length_append]
  omega
set_option maxRecDepth 100000 in
set_option maxHeartbeats 4000000 in
theorem refCommand_yes (w : World) (D : Nat → Prop) (k : Int) (ses seq gid tok time : Nat) (good : Bool) (A : Option Addr) (cap : Nat) (ts : List Tg) (hl : Cmd.lies w D ⟨k, ses, seq, .slice A ts.length cap, ts, gid, tok, good, time⟩) (hr : Cmd.right ⟨k, ses, seq, .slice A ts.length cap, ts, gid, tok, good, time⟩ = true) :
    Calls Try.prog 16 #[.agg #[.int .i64 k, .int .u64 (ses : Int), .int .u64 (seq : Int), .slice A ts.length cap, .int .u64 (gid : Int), .int .u64 (tok : Int), .bool good, .int .u64 (time : Int)]] w fun e w' => ∃ u, e = .returned (.tuple #[u, .int .i64 0]) ∧ Fresh w w' u (cmdBytes ⟨k, ses, seq, .slice A ts.length cap, ts, gid, tok, good, time⟩) := by
  obtain ⟨i1, hi1, hz0, hz1, hz2⟩ := info_parts u8info
  obtain ⟨⟨hk1, hk7⟩, hgf⟩ := right_parts _ hr
  simp only at hk1 hk7 hgf
  have K0 := (Keep.refl noneOf w).alloc (.cells #[.int .i64 k, .int .u64 (ses : Int), .int .u64 (seq : Int), .slice A ts.length cap, .int .u64 (gid : Int), .int .u64 (tok : Int), .bool good, .int .u64 (time : Int)] 38)
  have X0 := Box.new w 38 #[.int .i64 k, .int .u64 (ses : Int), .int .u64 (seq : Int), .slice A ts.length cap, .int .u64 (gid : Int), .int .u64 (tok : Int), .bool good, .int .u64 (time : Int)]
  have RR := Lib.hid (refRight_any _ D ⟨k, ses, seq, .slice A ts.length cap, ts, gid, tok, good, time⟩ (hl.ts.keep K0 (fun _ _ _ => id)))
  unfold Cmd.cells at RR
  simp only at RR
  rw [hr] at RR
  have HLC := Lib.hid (letters_cmd k ses seq (.slice A ts.length cap) ts gid tok good time ⟨hk1, hk7⟩)
  have HSM := Lib.hid (cmdBytes_small ⟨k, ses, seq, .slice A ts.length cap, ts, gid, tok, good, time⟩ hgf)
  have HNL := Lib.hid (names_letter k)
  have hns := names_size k
  have HS1 := Lib.hid hl.ses
  have HS2 := Lib.hid hl.seq
  have HS4 := Lib.hid hl.id
  have HS5 := Lib.hid hl.tok
  have HS7 := Lib.hid hl.time
  have HTS := Lib.hid hl.ts
  have HGF := Lib.hid hgf
  have hlim := Lib.hid lim_is
  have HK0 := Lib.hid K0
  have HX0 := Lib.hid X0
  simp only at HS1 HS2 HS4 HS5 HS7 HTS
  have hk256 : k < 256 := by omega
  have hk0 : 0 ≤ k := by omega
  clear K0 X0 hl hr hgf
  generalize cmdBytes ⟨k, ses, seq, .slice A ts.length cap, ts, gid, tok, good, time⟩ = CB at *
  generalize hN : namesOf k = N at *
  have HN := Lib.hid hN
  clear hN
  go_enter Try.func16, Try.ntmps16
  go_wp2_with fail
  refine RR.out.mono ?_
  rintro e w1 ⟨rfl, k1⟩
  have K1 := HK0.out.trans k1 (fun _ _ h => h)
  have X1 := HX0.out.keep k1 id
  have q0 : w1.cell? ⟨w.heap.size, 0, none⟩ = some (.int .i64 k) := X1.cell 0
  have hz1' := X1.lt
  have ka := (Keep.refl noneOf w1).alloc (.cells #[.int .u8 k] 5)
  have HF2 := Lib.hid (Fresh.after K1 (fresh_one w1 k hk0 hk256))
  have HX2 := Lib.hid (X1.keep ka id)
  clear HK0 HX0 k1 K1 X1 ka RR
  go_wp2_with fail
  refine (names_any _ k).mono ?_
  rintro e w2 ⟨rfl, rfl⟩
  rw [HN.out]
  go_wp2
  go_loopw [5, 7] (fun bq i wq => ∃ (m : Nat) (B : Option Addr) (cb : Nat), m ≤ N.size ∧ i = .int .i64 m ∧ bq = .slice B (lettersBytes k ses seq ts gid tok good time (N.data.toList.take m)).length cb ∧ Fresh w wq (.slice B (lettersBytes k ses seq ts gid tok good time (N.data.toList.take m)).length cb) (lettersBytes k ses seq ts gid tok good time (N.data.toList.take m)) ∧ Box wq w.heap.size 38 #[.int .i64 k, .int .u64 (ses : Int), .int .u64 (seq : Int), .slice A ts.length cap, .int .u64 (gid : Int), .int .u64 (tok : Int), .bool good, .int .u64 (time : Int)]) (fun _ i _ => N.size - (intOf i).toNat)
  case atStart => exact ⟨0, _, _, Nat.zero_le _, rfl, rfl, HF2.out, HX2.out⟩
  case round =>
    obtain ⟨m, B, cb, hm, rfl, rfl, hF, hX⟩ := hrel
    have HFR := Lib.hid hF
    have HXX := Lib.hid hX
    clear hF hX q0 hz1' HF2 HX2
    by_cases hlt : m < N.size
    · have hlt' : m < N.data.toList.length := by simpa using hlt
      have htk := letters_take k ses seq ts gid tok good time N.data.toList m hlt'
      have hrm := letters_room k ses seq ts gid tok good time N.data.toList m hlt'
      have hxx := HNL.out _ (List.getElem_mem hlt')
      rw [HLC.out] at hrm
      have hrm2 := Nat.le_trans hrm HSM.out
      clear hrm
      have hrm := hrm2
      clear hrm2
      change lettersBytes k ses seq ts gid tok good time (N.data.toList.take (m + 1)) = lettersBytes k ses seq ts gid tok good time (N.data.toList.take m) ++ letterBytes ses seq ts gid tok good time N[m].toNat at htk
      change (lettersBytes k ses seq ts gid tok good time (N.data.toList.take m)).length + (letterBytes ses seq ts gid tok good time N[m].toNat).length ≤ 33100 at hrm
      change N[m].toNat = 115 ∨ N[m].toNat = 113 ∨ N[m].toNat = 103 ∨ N[m].toNat = 105 ∨ N[m].toNat = 116 ∨ N[m].toNat = 119 ∨ N[m].toNat = 109 at hxx
      generalize lettersBytes k ses seq ts gid tok good time (N.data.toList.take m) = L0 at *
      rcases hxx with hx | hx | hx | hx | hx | hx | hx
      · have el : letterBytes ses seq ts gid tok good time N[m].toNat = be ses 8 := by rw [hx]; rfl
        rw [el] at htk hrm
        have g115 : ((N[m].toNat : Int) == 115) = true := by rw [beq_iff_eq]; omega
        have HTK := Lib.hid htk
        have HRM := Lib.hid hrm
        clear htk hrm el hx
        have q7 : wr.cell? ⟨w.heap.size, 1, none⟩ = some (.int .u64 (ses : Int)) := HXX.out.cell 1
        go_wp2_with fail
        refine (refNumber_any _ ses 8 (by decide) HS1.out).mono ?_
        rintro e w7 ⟨u7, rfl, G7⟩
        obtain ⟨Aq7, cq7, hsq7⟩ := G7.shape
        subst hsq7
        have bq7 := G7.any
        have F7b := HFR.out.later G7.keep
        have o7 := F7b.own
        have HF7b := Lib.hid F7b
        have HX7b := Lib.hid (HXX.out.keep G7.keep id)
        clear F7b G7 q7
        go_wp2_with (at_builtin; refine wpList_append_read _ rfl (.tmp 30) (.tmp 33) 23 rfl 5 i1 _ Try.underlying23 hi1 hz0 hz1 hz2 rfl _ _ L0 (be ses 8) _ rfl rfl o7 bq7 (by have h1 := HRM.out; rw [hlim.out]; simp only [be_length] at h1 ⊢; omega) ?_)
        intro v7 x7 ox7 gr7 at7 _
        have F7c := HF7b.out.append (cs := be ses 8) gr7 (by simpa using at7) (by simpa [Nat.add_assoc] using ox7)
        rw [← HTK.out] at F7c
        have HX7 := Lib.hid (HF7b.out.box gr7 HX7b.out (by decide))
        obtain ⟨Ax7, cx7, hsx7⟩ := F7c.shape
        subst hsx7
        have HF7 := Lib.hid F7c
        obtain ⟨L1, hL1⟩ : ∃ L, lettersBytes k ses seq ts gid tok good time (N.data.toList.take (m + 1)) = L := ⟨_, rfl⟩
        rw [hL1] at HF7 ⊢
        have HL1 := Lib.hid hL1
        clear ox7 gr7 at7 F7c o7 bq7 HF7b HX7b hL1
        go_wp2
        go_roundw
        case rel =>
          refine ⟨m + 1, Ax7, cx7, by omega, by go_num, ?_, ?_, HX7.out⟩
          · rw [HL1.out]
          · rw [HL1.out]; exact HF7.out
        case measure => simp [intOf]; omega
      · have el : letterBytes ses seq ts gid tok good time N[m].toNat = be seq 8 := by rw [hx]; rfl
        rw [el] at htk hrm
        have g115 : ((N[m].toNat : Int) == 115) = false := by rw [beq_eq_false_iff_ne]; omega
        have g113 : ((N[m].toNat : Int) == 113) = true := by rw [beq_iff_eq]; omega
        have HTK := Lib.hid htk
        have HRM := Lib.hid hrm
        clear htk hrm el hx
        have q7 : wr.cell? ⟨w.heap.size, 2, none⟩ = some (.int .u64 (seq : Int)) := HXX.out.cell 2
        go_wp2_with fail
        refine (refNumber_any _ seq 8 (by decide) HS2.out).mono ?_
        rintro e w7 ⟨u7, rfl, G7⟩
        obtain ⟨Aq7, cq7, hsq7⟩ := G7.shape
        subst hsq7
        have bq7 := G7.any
        have F7b := HFR.out.later G7.keep
        have o7 := F7b.own
        have HF7b := Lib.hid F7b
        have HX7b := Lib.hid (HXX.out.keep G7.keep id)
        clear F7b G7 q7
        go_wp2_with (at_builtin; refine wpList_append_read _ rfl (.tmp 37) (.tmp 40) 23 rfl 5 i1 _ Try.underlying23 hi1 hz0 hz1 hz2 rfl _ _ L0 (be seq 8) _ rfl rfl o7 bq7 (by have h1 := HRM.out; rw [hlim.out]; simp only [be_length] at h1 ⊢; omega) ?_)
        intro v7 x7 ox7 gr7 at7 _
        have F7c := HF7b.out.append (cs := be seq 8) gr7 (by simpa using at7) (by simpa [Nat.add_assoc] using ox7)
        rw [← HTK.out] at F7c
        have HX7 := Lib.hid (HF7b.out.box gr7 HX7b.out (by decide))
        obtain ⟨Ax7, cx7, hsx7⟩ := F7c.shape
        subst hsx7
        have HF7 := Lib.hid F7c
        obtain ⟨L1, hL1⟩ : ∃ L, lettersBytes k ses seq ts gid tok good time (N.data.toList.take (m + 1)) = L := ⟨_, rfl⟩
        rw [hL1] at HF7 ⊢
        have HL1 := Lib.hid hL1
        clear ox7 gr7 at7 F7c o7 bq7 HF7b HX7b hL1
        go_wp2
        go_roundw
        case rel =>
          refine ⟨m + 1, Ax7, cx7, by omega, by go_num, ?_, ?_, HX7.out⟩
          · rw [HL1.out]
          · rw [HL1.out]; exact HF7.out
        case measure => simp [intOf]; omega
      · have el : letterBytes ses seq ts gid tok good time N[m].toNat = graphBytes ts := by rw [hx]; rfl
        rw [el] at htk hrm
        have g115 : ((N[m].toNat : Int) == 115) = false := by rw [beq_eq_false_iff_ne]; omega
        have g113 : ((N[m].toNat : Int) == 113) = false := by rw [beq_eq_false_iff_ne]; omega
        have g103 : ((N[m].toNat : Int) == 103) = true := by rw [beq_iff_eq]; omega
        have HTK := Lib.hid htk
        have HRM := Lib.hid hrm
        clear htk hrm el hx
        have q7 : wr.cell? ⟨w.heap.size, 3, none⟩ = some (.slice A ts.length cap) := HXX.out.cell 3
        have G7c := Lib.hid (refTargets_any wr D _ ts (HTS.out.keep HFR.out.keep (fun _ _ _ => id)) HGF.out)
        go_wp2_with fail
        refine G7c.out.mono ?_
        rintro e w7 ⟨u7, rfl, G7⟩
        obtain ⟨Aq7, cq7, hsq7⟩ := G7.shape
        subst hsq7
        have bq7 := G7.any
        have F7b := HFR.out.later G7.keep
        have o7 := F7b.own
        have HF7b := Lib.hid F7b
        have HX7b := Lib.hid (HXX.out.keep G7.keep id)
        clear F7b G7 q7
        go_wp2_with (at_builtin; refine wpList_append_read _ rfl (.tmp 44) (.tmp 47) 23 rfl 5 i1 _ Try.underlying23 hi1 hz0 hz1 hz2 rfl _ _ L0 (graphBytes ts) _ rfl rfl o7 bq7 (by have h1 := HRM.out; rw [hlim.out]; omega) ?_)
        intro v7 x7 ox7 gr7 at7 _
        have F7c := HF7b.out.append (cs := graphBytes ts) gr7 (by simpa using at7) (by simpa [Nat.add_assoc] using ox7)
        rw [← HTK.out] at F7c
        have HX7 := Lib.hid (HF7b.out.box gr7 HX7b.out (by decide))
        obtain ⟨Ax7, cx7, hsx7⟩ := F7c.shape
        subst hsx7
        have HF7 := Lib.hid F7c
        obtain ⟨L1, hL1⟩ : ∃ L, lettersBytes k ses seq ts gid tok good time (N.data.toList.take (m + 1)) = L := ⟨_, rfl⟩
        rw [hL1] at HF7 ⊢
        have HL1 := Lib.hid hL1
        clear ox7 gr7 at7 F7c o7 bq7 HF7b HX7b hL1
        go_wp2
        go_roundw
        case rel =>
          refine ⟨m + 1, Ax7, cx7, by omega, by go_num, ?_, ?_, HX7.out⟩
          · rw [HL1.out]
          · rw [HL1.out]; exact HF7.out
        case measure => simp [intOf]; omega
      · have el : letterBytes ses seq ts gid tok good time N[m].toNat = be gid 8 := by rw [hx]; rfl
        rw [el] at htk hrm
        have g115 : ((N[m].toNat : Int) == 115) = false := by rw [beq_eq_false_iff_ne]; omega
        have g113 : ((N[m].toNat : Int) == 113) = false := by rw [beq_eq_false_iff_ne]; omega
        have g103 : ((N[m].toNat : Int) == 103) = false := by rw [beq_eq_false_iff_ne]; omega
        have g105 : ((N[m].toNat : Int) == 105) = true := by rw [beq_iff_eq]; omega
        have HTK := Lib.hid htk
        have HRM := Lib.hid hrm
        clear htk hrm el hx
        have q7 : wr.cell? ⟨w.heap.size, 4, none⟩ = some (.int .u64 (gid : Int)) := HXX.out.cell 4
        go_wp2_with fail
        refine (refNumber_any _ gid 8 (by decide) HS4.out).mono ?_
        rintro e w7 ⟨u7, rfl, G7⟩
        obtain ⟨Aq7, cq7, hsq7⟩ := G7.shape
        subst hsq7
        have bq7 := G7.any
        have F7b := HFR.out.later G7.keep
        have o7 := F7b.own
        have HF7b := Lib.hid F7b
        have HX7b := Lib.hid (HXX.out.keep G7.keep id)
        clear F7b G7 q7
        go_wp2_with (at_builtin; refine wpList_append_read _ rfl (.tmp 51) (.tmp 54) 23 rfl 5 i1 _ Try.underlying23 hi1 hz0 hz1 hz2 rfl _ _ L0 (be gid 8) _ rfl rfl o7 bq7 (by have h1 := HRM.out; rw [hlim.out]; simp only [be_length] at h1 ⊢; omega) ?_)
        intro v7 x7 ox7 gr7 at7 _
        have F7c := HF7b.out.append (cs := be gid 8) gr7 (by simpa using at7) (by simpa [Nat.add_assoc] using ox7)
        rw [← HTK.out] at F7c
        have HX7 := Lib.hid (HF7b.out.box gr7 HX7b.out (by decide))
        obtain ⟨Ax7, cx7, hsx7⟩ := F7c.shape
        subst hsx7
        have HF7 := Lib.hid F7c
        obtain ⟨L1, hL1⟩ : ∃ L, lettersBytes k ses seq ts gid tok good time (N.data.toList.take (m + 1)) = L := ⟨_, rfl⟩
        rw [hL1] at HF7 ⊢
        have HL1 := Lib.hid hL1
        clear ox7 gr7 at7 F7c o7 bq7 HF7b HX7b hL1
        go_wp2
        go_roundw
        case rel =>
          refine ⟨m + 1, Ax7, cx7, by omega, by go_num, ?_, ?_, HX7.out⟩
          · rw [HL1.out]
          · rw [HL1.out]; exact HF7.out
        case measure => simp [intOf]; omega
      · have el : letterBytes ses seq ts gid tok good time N[m].toNat = be tok 8 := by rw [hx]; rfl
        rw [el] at htk hrm
        have g115 : ((N[m].toNat : Int) == 115) = false := by rw [beq_eq_false_iff_ne]; omega
        have g113 : ((N[m].toNat : Int) == 113) = false := by rw [beq_eq_false_iff_ne]; omega
        have g103 : ((N[m].toNat : Int) == 103) = false := by rw [beq_eq_false_iff_ne]; omega
        have g105 : ((N[m].toNat : Int) == 105) = false := by rw [beq_eq_false_iff_ne]; omega
        have g116 : ((N[m].toNat : Int) == 116) = true := by rw [beq_iff_eq]; omega
        have HTK := Lib.hid htk
        have HRM := Lib.hid hrm
        clear htk hrm el hx
        have q7 : wr.cell? ⟨w.heap.size, 5, none⟩ = some (.int .u64 (tok : Int)) := HXX.out.cell 5
        go_wp2_with fail
        refine (refNumber_any _ tok 8 (by decide) HS5.out).mono ?_
        rintro e w7 ⟨u7, rfl, G7⟩
        obtain ⟨Aq7, cq7, hsq7⟩ := G7.shape
        subst hsq7
        have bq7 := G7.any
        have F7b := HFR.out.later G7.keep
        have o7 := F7b.own
        have HF7b := Lib.hid F7b
        have HX7b := Lib.hid (HXX.out.keep G7.keep id)
        clear F7b G7 q7
        go_wp2_with (at_builtin; refine wpList_append_read _ rfl (.tmp 58) (.tmp 61) 23 rfl 5 i1 _ Try.underlying23 hi1 hz0 hz1 hz2 rfl _ _ L0 (be tok 8) _ rfl rfl o7 bq7 (by have h1 := HRM.out; rw [hlim.out]; simp only [be_length] at h1 ⊢; omega) ?_)
        intro v7 x7 ox7 gr7 at7 _
        have F7c := HF7b.out.append (cs := be tok 8) gr7 (by simpa using at7) (by simpa [Nat.add_assoc] using ox7)
        rw [← HTK.out] at F7c
        have HX7 := Lib.hid (HF7b.out.box gr7 HX7b.out (by decide))
        obtain ⟨Ax7, cx7, hsx7⟩ := F7c.shape
        subst hsx7
        have HF7 := Lib.hid F7c
        obtain ⟨L1, hL1⟩ : ∃ L, lettersBytes k ses seq ts gid tok good time (N.data.toList.take (m + 1)) = L := ⟨_, rfl⟩
        rw [hL1] at HF7 ⊢
        have HL1 := Lib.hid hL1
        clear ox7 gr7 at7 F7c o7 bq7 HF7b HX7b hL1
        go_wp2
        go_roundw
        case rel =>
          refine ⟨m + 1, Ax7, cx7, by omega, by go_num, ?_, ?_, HX7.out⟩
          · rw [HL1.out]
          · rw [HL1.out]; exact HF7.out
        case measure => simp [intOf]; omega
      · cases good with
        | true =>
          have el : letterBytes ses seq ts gid tok true time N[m].toNat = [by8 1] := by rw [hx]; rfl
          rw [el] at htk hrm
          have g115 : ((N[m].toNat : Int) == 115) = false := by rw [beq_eq_false_iff_ne]; omega
          have g113 : ((N[m].toNat : Int) == 113) = false := by rw [beq_eq_false_iff_ne]; omega
          have g103 : ((N[m].toNat : Int) == 103) = false := by rw [beq_eq_false_iff_ne]; omega
          have g105 : ((N[m].toNat : Int) == 105) = false := by rw [beq_eq_false_iff_ne]; omega
          have g116 : ((N[m].toNat : Int) == 116) = false := by rw [beq_eq_false_iff_ne]; omega
          have g119 : ((N[m].toNat : Int) == 119) = true := by rw [beq_iff_eq]; omega
          have HTK := Lib.hid htk
          have HRM := Lib.hid hrm
          clear htk hrm el hx
          have q7 : wr.cell? ⟨w.heap.size, 6, none⟩ = some (.bool true) := HXX.out.cell 6
          have hz7 := HXX.out.lt
          have ka := (Keep.refl noneOf wr).alloc (.cells #[.int .u8 1] 5)
          have F7b := HFR.out.later ka
          have bq7 := (fresh_one wr 1 (by decide) (by decide)).any
          have o7 := F7b.own
          have HF7b := Lib.hid F7b
          have HX7b := Lib.hid (HXX.out.keep ka id)
          clear F7b ka
          go_wp2_with (at_builtin; refine wpList_append_read _ rfl (.tmp 67) (.tmp 68) 23 rfl 5 i1 _ Try.underlying23 hi1 hz0 hz1 hz2 rfl _ _ L0 ([by8 1]) _ rfl rfl o7 bq7 (by have h1 := HRM.out; rw [hlim.out]; simp only [List.length_cons, List.length_nil] at h1 ⊢; omega) ?_)
          intro v7 x7 ox7 gr7 at7 _
          have F7c := HF7b.out.append (cs := [by8 1]) gr7 (by simpa using at7) (by simpa [Nat.add_assoc] using ox7)
          rw [← HTK.out] at F7c
          have HX7 := Lib.hid (HF7b.out.box gr7 HX7b.out (by decide))
          obtain ⟨Ax7, cx7, hsx7⟩ := F7c.shape
          subst hsx7
          have HF7 := Lib.hid F7c
          obtain ⟨L1, hL1⟩ : ∃ L, lettersBytes k ses seq ts gid tok true time (N.data.toList.take (m + 1)) = L := ⟨_, rfl⟩
          rw [hL1] at HF7 ⊢
          have HL1 := Lib.hid hL1
          clear ox7 gr7 at7 F7c o7 bq7 HF7b HX7b hL1
          go_wp2
          go_roundw
          case rel =>
            refine ⟨m + 1, Ax7, cx7, by omega, by go_num, ?_, ?_, HX7.out⟩
            · rw [HL1.out]
            · rw [HL1.out]; exact HF7.out
          case measure => simp [intOf]; omega
        | false =>
          have el : letterBytes ses seq ts gid tok false time N[m].toNat = [by8 0] := by rw [hx]; rfl
          rw [el] at htk hrm
          have g115 : ((N[m].toNat : Int) == 115) = false := by rw [beq_eq_false_iff_ne]; omega
          have g113 : ((N[m].toNat : Int) == 113) = false := by rw [beq_eq_false_iff_ne]; omega
          have g103 : ((N[m].toNat : Int) == 103) = false := by rw [beq_eq_false_iff_ne]; omega
          have g105 : ((N[m].toNat : Int) == 105) = false := by rw [beq_eq_false_iff_ne]; omega
          have g116 : ((N[m].toNat : Int) == 116) = false := by rw [beq_eq_false_iff_ne]; omega
          have g119 : ((N[m].toNat : Int) == 119) = true := by rw [beq_iff_eq]; omega
          have HTK := Lib.hid htk
          have HRM := Lib.hid hrm
          clear htk hrm el hx
          have q7 : wr.cell? ⟨w.heap.size, 6, none⟩ = some (.bool false) := HXX.out.cell 6
          have hz7 := HXX.out.lt
          have ka := (Keep.refl noneOf wr).alloc (.cells #[.int .u8 0] 5)
          have F7b := HFR.out.later ka
          have bq7 := (fresh_one wr 0 (by decide) (by decide)).any
          have o7 := F7b.own
          have HF7b := Lib.hid F7b
          have HX7b := Lib.hid (HXX.out.keep ka id)
          clear F7b ka
          go_wp2_with (at_builtin; refine wpList_append_read _ rfl (.tmp 70) (.tmp 71) 23 rfl 5 i1 _ Try.underlying23 hi1 hz0 hz1 hz2 rfl _ _ L0 ([by8 0]) _ rfl rfl o7 bq7 (by have h1 := HRM.out; rw [hlim.out]; simp only [List.length_cons, List.length_nil] at h1 ⊢; omega) ?_)
          intro v7 x7 ox7 gr7 at7 _
          have F7c := HF7b.out.append (cs := [by8 0]) gr7 (by simpa using at7) (by simpa [Nat.add_assoc] using ox7)
          rw [← HTK.out] at F7c
          have HX7 := Lib.hid (HF7b.out.box gr7 HX7b.out (by decide))
          obtain ⟨Ax7, cx7, hsx7⟩ := F7c.shape
          subst hsx7
          have HF7 := Lib.hid F7c
          obtain ⟨L1, hL1⟩ : ∃ L, lettersBytes k ses seq ts gid tok false time (N.data.toList.take (m + 1)) = L := ⟨_, rfl⟩
          rw [hL1] at HF7 ⊢
          have HL1 := Lib.hid hL1
          clear ox7 gr7 at7 F7c o7 bq7 HF7b HX7b hL1
          go_wp2
          go_roundw
          case rel =>
            refine ⟨m + 1, Ax7, cx7, by omega, by go_num, ?_, ?_, HX7.out⟩
            · rw [HL1.out]
            · rw [HL1.out]; exact HF7.out
          case measure => simp [intOf]; omega
      · have el : letterBytes ses seq ts gid tok good time N[m].toNat = be time 8 := by rw [hx]; rfl
        rw [el] at htk hrm
        have g115 : ((N[m].toNat : Int) == 115) = false := by rw [beq_eq_false_iff_ne]; omega
        have g113 : ((N[m].toNat : Int) == 113) = false := by rw [beq_eq_false_iff_ne]; omega
        have g103 : ((N[m].toNat : Int) == 103) = false := by rw [beq_eq_false_iff_ne]; omega
        have g105 : ((N[m].toNat : Int) == 105) = false := by rw [beq_eq_false_iff_ne]; omega
        have g116 : ((N[m].toNat : Int) == 116) = false := by rw [beq_eq_false_iff_ne]; omega
        have g119 : ((N[m].toNat : Int) == 119) = false := by rw [beq_eq_false_iff_ne]; omega
        have g109 : ((N[m].toNat : Int) == 109) = true := by rw [beq_iff_eq]; omega
        have HTK := Lib.hid htk
        have HRM := Lib.hid hrm
        clear htk hrm el hx
        have q7 : wr.cell? ⟨w.heap.size, 7, none⟩ = some (.int .u64 (time : Int)) := HXX.out.cell 7
        go_wp2_with fail
        refine (refNumber_any _ time 8 (by decide) HS7.out).mono ?_
        rintro e w7 ⟨u7, rfl, G7⟩
        obtain ⟨Aq7, cq7, hsq7⟩ := G7.shape
        subst hsq7
        have bq7 := G7.any
        have F7b := HFR.out.later G7.keep
        have o7 := F7b.own
        have HF7b := Lib.hid F7b
        have HX7b := Lib.hid (HXX.out.keep G7.keep id)
        clear F7b G7 q7
        go_wp2_with (at_builtin; refine wpList_append_read _ rfl (.tmp 75) (.tmp 78) 23 rfl 5 i1 _ Try.underlying23 hi1 hz0 hz1 hz2 rfl _ _ L0 (be time 8) _ rfl rfl o7 bq7 (by have h1 := HRM.out; rw [hlim.out]; simp only [be_length] at h1 ⊢; omega) ?_)
        intro v7 x7 ox7 gr7 at7 _
        have F7c := HF7b.out.append (cs := be time 8) gr7 (by simpa using at7) (by simpa [Nat.add_assoc] using ox7)
        rw [← HTK.out] at F7c
        have HX7 := Lib.hid (HF7b.out.box gr7 HX7b.out (by decide))
        obtain ⟨Ax7, cx7, hsx7⟩ := F7c.shape
        subst hsx7
        have HF7 := Lib.hid F7c
        obtain ⟨L1, hL1⟩ : ∃ L, lettersBytes k ses seq ts gid tok good time (N.data.toList.take (m + 1)) = L := ⟨_, rfl⟩
        rw [hL1] at HF7 ⊢
        have HL1 := Lib.hid hL1
        clear ox7 gr7 at7 F7c o7 bq7 HF7b HX7b hL1
        go_wp2
        go_roundw
        case rel =>
          refine ⟨m + 1, Ax7, cx7, by omega, by go_num, ?_, ?_, HX7.out⟩
          · rw [HL1.out]
          · rw [HL1.out]; exact HF7.out
        case measure => simp [intOf]; omega
    · have e0 : N.data.toList.take m = N.data.toList := List.take_of_length_le (by simp; omega)
      rw [e0, HLC.out] at HFR
      rw [e0, HLC.out]
      clear e0
      go_wp2
      go_ret2
      exact ⟨_, rfl, HFR.out⟩

set_option maxRecDepth 100000 in
set_option maxHeartbeats 4000000 in
theorem refCommand_no (w : World) (D : Nat → Prop) (k : Int) (ses seq gid tok time : Nat) (good : Bool) (A : Option Addr) (cap : Nat) (ts : List Tg) (hl : Cmd.lies w D ⟨k, ses, seq, .slice A ts.length cap, ts, gid, tok, good, time⟩) (hr : Cmd.right ⟨k, ses, seq, .slice A ts.length cap, ts, gid, tok, good, time⟩ = false) :
    Calls Try.prog 16 #[.agg #[.int .i64 k, .int .u64 (ses : Int), .int .u64 (seq : Int), .slice A ts.length cap, .int .u64 (gid : Int), .int .u64 (tok : Int), .bool good, .int .u64 (time : Int)]] w fun e w' => e = .returned (.tuple #[.slice none 0 0, .int .i64 40]) ∧ Keep noneOf w w' := by
  have K0 := (Keep.refl noneOf w).alloc (.cells #[.int .i64 k, .int .u64 (ses : Int), .int .u64 (seq : Int), .slice A ts.length cap, .int .u64 (gid : Int), .int .u64 (tok : Int), .bool good, .int .u64 (time : Int)] 38)
  have RR := Lib.hid (refRight_any _ D ⟨k, ses, seq, .slice A ts.length cap, ts, gid, tok, good, time⟩ (hl.ts.keep K0 (fun _ _ _ => id)))
  unfold Cmd.cells at RR
  simp only at RR
  rw [hr] at RR
  have HK0 := Lib.hid K0
  clear hl hr K0
  go_enter Try.func16, Try.ntmps16
  go_wp2_with fail
  refine RR.out.mono ?_
  rintro e w1 ⟨rfl, k1⟩
  have HK1 := Lib.hid (HK0.out.trans k1 (fun _ _ h => h))
  clear k1 HK0 RR
  go_wp2
  go_ret2
  exact ⟨rfl, HK1.out⟩
theorem refCommand_any (w : World) (D : Nat → Prop) (c : Cmd) (hl : c.lies w D) : Calls Try.prog 16 #[.agg c.cells] w (Commanded w c) := by
  obtain ⟨k, ses, seq, gv, ts, gid, tok, good, time⟩ := c
  have hl' := hl
  obtain ⟨A, cap, hv, _⟩ := hl.ts.1
  simp only at hv
  subst hv
  cases hr : Cmd.right ⟨k, ses, seq, .slice A ts.length cap, ts, gid, tok, good, time⟩ with
  | true =>
    refine (refCommand_yes w D k ses seq gid tok time good A cap ts hl' hr).mono ?_
    rintro e w' ⟨u, rfl, F⟩
    exact ⟨F.keep, .inr ⟨hr, u, rfl, F.own, F.new⟩⟩
  | false =>
    refine (refCommand_no w D k ses seq gid tok time good A cap ts hl' hr).mono ?_
    rintro e w' ⟨rfl, K⟩
    exact ⟨K, .inl ⟨hr, rfl⟩⟩
end Go.Proofs.Ytngbminjbgomgaa
