/- Parts of the proof: StE, StF. -/
import Derived.Test.YtipcoglddfgopaaGreatDoorP28
import Derived.Test.YtipcoglddfgopaaGreatDoorNum
set_option maxHeartbeats 4000000
set_option maxRecDepth 100000
namespace Go.Proofs.YtipcoglddfgopaaGreatDoor
set_option linter.unusedSimpArgs false
set_option linter.unusedVariables false
section
open Go.RowKit
theorem StC.open {W0 w w' : World} {c : Nat} {r : Nd × RS} {e : Ending} (h : StC W0 c w r e w') : ∃ (k n : Int) (ty nm : ByteArray) (A1 A2 A3 A4 : Option Addr) (c1 c2 c3 c4 : Nat) (l1 l2 l3 l4 : List Nd), e = .returned (.agg #[.int .i64 k, .int .i32 n, .string ty, .string nm, .slice A1 l1.length c1, .slice A2 l2.length c2, .slice A3 l3.length c3, .slice A4 l4.length c4, .int .i64 0]) ∧ NK .st w.heap.size none w' r.1 (.st k n ty nm (.slice A1 l1.length c1) (.slice A2 l2.length c2) (.slice A3 l3.length c3) (.slice A4 l4.length c4) l1 l2 l3 l4 0) ∧ Mv W0 c r.2 w w' := by
 obtain ⟨y, rfl, ⟨k, n, ty, nm, A1, A2, A3, A4, c1, c2, c3, c4, l1, l2, l3, l4, rfl⟩, hk, hm⟩ := h
 exact ⟨k, n, ty, nm, A1, A2, A3, A4, c1, c2, c3, c4, l1, l2, l3, l4, rfl, hk, hm⟩
theorem typ_len (s : RS) : s.typV.size ≤ maxLen := by
 have := class_len s
 unfold RS.typV
 repeat' split
 · unfold tInt maxLen; decide
 · unfold tBool maxLen; decide
 · unfold tStr maxLen; decide
 · exact this
theorem stmt_var (HE : ExAny) (HAR : ArAny) (n : Nat) (b : Rb) (HBL : SpecK n b) (hbl : ∀ s, (b s).2.len ≤ s.len) (W0 w : World) (c : Nat) (s : RS) (hv : Vars W0) (h : Rd W0 c s w) (hn : 4 * s.len ≤ n) (hv0 : s.varB = true) : Calls Tryz.prog 117 #[.pointer (some ⟨c, 0, none⟩)] w (StC W0 c w (stS b s)) := by
 obtain ⟨q, hq⟩ : ∃ q, valE s.typ.name = q := ⟨_, rfl⟩
 have hnm := name_len s.typ
 have hty := typ_len s
 have HRE : Hid (stS b s = (mkS 1 0 s.typV s.typ.nameV q.1 [] [] [], q.2)) := Lib.hid (by simp only [stS, hv0, varS, hq]; simp)
 obtain ⟨RR, hRR⟩ : ∃ RR, stS b s = RR := ⟨_, rfl⟩
 rw [hRR] at HRE ⊢
 have hlt := h.lt
 have hle0 := h.le
 obtain ⟨W1, hW1⟩ : ∃ W1, w.alloc (.cells #[.int .i64 0, .int .i32 0, .string ⟨#[]⟩, .string ⟨#[]⟩, .slice none 0 0, .slice none 0 0, .slice none 0 0, .slice none 0 0, .int .i64 0] 144) = W1 := ⟨_, rfl⟩
 have hb : Below w.heap.size w W1 := by rw [← hW1]; exact (Below.refl _ w).alloc (Nat.le_refl _) _
 have hx : Bx W1 w.heap.size #[.int .i64 0, .int .i32 0, .string ⟨#[]⟩, .string ⟨#[]⟩, .slice none 0 0, .slice none 0 0, .slice none 0 0, .slice none 0 0, .int .i64 0] 144 := by rw [← hW1]; exact Bx.new _ _ _
 have hz : W1.heap.size = w.heap.size + 1 := by rw [← hW1]; simp
 have HM := Lib.hid (Mv.below hb h)
 have HB := Lib.hid hx
 clear hb hx
 have V := Lib.hid (show Calls Tryz.prog 131 #[.pointer (some ⟨c, 0, none⟩)] W1 (fun e w' => e = .returned (.bool true) ∧ W1 = w') from by have := var_any W0 W1 c s HM.out.2; rw [hv0] at this; exact this)
 have HT : Hid (∀ w', Rd W0 c (s) w' → Calls Tryz.prog 66 #[.pointer (some ⟨c, 0, none⟩)] w' fun e w'' => e = .returned (.string s.typV) ∧ Mv W0 c (s.typ) w' w'') := by
   show ∀ w', _
   intro w' h'; exact type_any W0 w' c _ h'
 have HNM : Hid (∀ w', Rd W0 c (s.typ) w' → Calls Tryz.prog 65 #[.pointer (some ⟨c, 0, none⟩)] w' fun e w'' => e = .returned (.string s.typ.nameV) ∧ Mv W0 c (s.typ.name) w' w'') := by
   show ∀ w', _
   intro w' h'; exact nameR_any W0 w' c _ h'
 have HC : Hid (∀ w', Rd W0 c (s.typ.name) w' → Calls Tryz.prog 132 #[.pointer (some ⟨c, 0, none⟩)] w' (LsC W0 c w' q)) := by
   show ∀ w', _
   intro w' h'; have := valE_of HE W0 w' c _ hv h'; rw [hq] at this; exact this
 obtain ⟨tyv, htye⟩ : ∃ tyv, s.typV = tyv := ⟨_, rfl⟩
 obtain ⟨nmv, hnme⟩ : ∃ nmv, s.typ.nameV = nmv := ⟨_, rfl⟩
 rw [htye] at hty HRE HT
 rw [hnme] at hnm HRE HNM
 clear hRR hq h hv hn HE HAR HBL hbl hv0 htye hnme
 go_enter Tryz.func117, Tryz.ntmps117
 go_wp2_with fail
 refine V.out.mono ?_
 clear V
 rintro e w2 ⟨rfl, rfl⟩
 go_wp2_with fail
 refine (HT.out _ HM.out.2).mono ?_
 clear HT hW1
 rintro e w2 ⟨rfl, hm⟩
 replace HM := Lib.hid (HM.out.trans hm)
 replace HB := Lib.hid (Bx.grown HB.out hm.1 (by omega))
 have hs2 := hm.1.size
 clear hm
 go_wp2_with fail
 refine (HNM.out _ HM.out.2).mono ?_
 clear HNM
 rintro e w3 ⟨rfl, hm⟩
 replace HM := Lib.hid (HM.out.trans hm)
 replace HB := Lib.hid (Bx.grown HB.out hm.1 (by omega))
 have hs3 := hm.1.size
 clear hm
 go_wp2_with fail
 refine (HC.out _ HM.out.2).mono ?_
 clear HC
 rintro e w4 ⟨v1, ys1, rfl, ho, hq1, hm⟩
 obtain ⟨A1, c1, rfl⟩ := ho.form
 have hf1 := (FkL.x ho.own.fk).mono (show w.heap.size + 1 ≤ _ by omega)
 have HQ1 := Lib.hid hq1
 clear ho hq1
 replace HM := Lib.hid (HM.out.trans hm)
 replace HB := Lib.hid (Bx.grown HB.out hm.1 (by omega))
 have hs4 := hm.1.size
 clear hm
 have HF1 := Lib.hid hf1
 clear hf1
 obtain ⟨r0, r1, r2, r3, r4, r5, r6, r7, r8⟩ := HB.out.all_9
 have g0 := HB.out.fro 0; have g1 := HB.out.fro 1; have g2 := HB.out.fro 2; have g3 := HB.out.fro 3; have g4 := HB.out.fro 4; have g5 := HB.out.fro 5; have g6 := HB.out.fro 6; have g7 := HB.out.fro 7; have g8 := HB.out.fro 8
 have HG := Lib.hid (grown_9 w4 w.heap.size (.int .i64 1) (.int .i32 0) (.string tyv) (.string nmv) (.slice A1 ys1.length c1) (.slice none 0 0) (.slice none 0 0) (.slice none 0 0) (.int .i64 0))
 go_wp2_with fail
 obtain ⟨z0, z1, z2, z3, z4, z5, z6, z7, z8⟩ := (HB.out.to_9 (.int .i64 1) (.int .i32 0) (.string tyv) (.string nmv) (.slice A1 ys1.length c1) (.slice none 0 0) (.slice none 0 0) (.slice none 0 0) (.int .i64 0)).all_9
 (try simp only [Exit.inBlock, Exit.then])
 refine bodyPost_ret (v := .agg #[.int .i64 1, .int .i32 0, .string tyv, .string nmv, .slice A1 ys1.length c1, .slice none 0 0, .slice none 0 0, .slice none 0 0, .int .i64 0]) (by simp [results, Tryz.results117, go_sem, z0, z1, z2, z3, z4, z5, z6, z7, z8]) rfl ?_
 rw [HRE.out]
 refine ⟨.st (1) (0) tyv nmv (.slice A1 ys1.length c1) (.slice none 0 0) (.slice none 0 0) (.slice none 0 0) ys1 [] [] [] 0, rfl, ⟨_, _, _, _, A1, none, none, none, c1, 0, 0, 0, ys1, [], [], [], rfl⟩, ?_, Mv.over (Below.refl _ _) HM.out HG.out (Nat.le_refl _) hlt⟩
 exact ((st_node (B := w.heap.size + 1) ⟨hty, hnm⟩ HF1.out.fk (FkL.nil _ _ _) (FkL.nil _ _ _) (FkL.nil _ _ _) HQ1.out rfl rfl rfl).grown HG.out (.inl (by omega))).mono (by omega)
theorem stmt_if (HE : ExAny) (HAR : ArAny) (n : Nat) (b : Rb) (HBL : SpecK n b) (hbl : ∀ s, (b s).2.len ≤ s.len) (W0 w : World) (c : Nat) (s : RS) (hv : Vars W0) (h : Rd W0 c s w) (hn : 4 * s.len ≤ n) (hv0 : s.varB = false) (h0 : s.sees 0 kIf = true) : Calls Tryz.prog 117 #[.pointer (some ⟨c, 0, none⟩)] w (StC W0 c w (stS b s)) := by
 have hle := sees_len h0
 have hls := len_skip s
 have HRE : Hid (stS b s = choS b s.skip) := Lib.hid (by simp only [stS, hv0, h0]; simp)
 obtain ⟨RR, hRR⟩ : ∃ RR, stS b s = RR := ⟨_, rfl⟩
 rw [hRR] at HRE ⊢
 have hlt := h.lt
 have hle0 := h.le
 obtain ⟨W1, hW1⟩ : ∃ W1, w.alloc (.cells #[.int .i64 0, .int .i32 0, .string ⟨#[]⟩, .string ⟨#[]⟩, .slice none 0 0, .slice none 0 0, .slice none 0 0, .slice none 0 0, .int .i64 0] 144) = W1 := ⟨_, rfl⟩
 have hb : Below w.heap.size w W1 := by rw [← hW1]; exact (Below.refl _ w).alloc (Nat.le_refl _) _
 have hx : Bx W1 w.heap.size #[.int .i64 0, .int .i32 0, .string ⟨#[]⟩, .string ⟨#[]⟩, .slice none 0 0, .slice none 0 0, .slice none 0 0, .slice none 0 0, .int .i64 0] 144 := by rw [← hW1]; exact Bx.new _ _ _
 have hz : W1.heap.size = w.heap.size + 1 := by rw [← hW1]; simp
 have HM := Lib.hid (Mv.below hb h)
 have HB := Lib.hid hx
 clear hb hx
 have V := Lib.hid (show Calls Tryz.prog 131 #[.pointer (some ⟨c, 0, none⟩)] W1 (fun e w' => e = .returned (.bool false) ∧ W1 = w') from by have := var_any W0 W1 c s HM.out.2; rw [hv0] at this; exact this)
 have T0 := Lib.hid (take_true W0 W1 c s kIf HM.out.2 h0)
 have HS : Hid (∀ w', Rd W0 c (s.skip) w' → Calls Tryz.prog 133 #[.pointer (some ⟨c, 0, none⟩)] w' (StC W0 c w' RR)) := by
   show ∀ w', _
   intro w' h'; have := choice_of HE n b HBL hbl W0 w' c _ hv h' (by omega); rw [HRE.out]; exact this
 clear hRR h hv hn HE HAR HBL hbl hv0 h0 hle hls
 go_enter Tryz.func117, Tryz.ntmps117
 go_wp2_with fail
 refine V.out.mono ?_
 clear V
 rintro e w2 ⟨rfl, rfl⟩
 go_wp2_with fail
 refine T0.out.mono ?_
 clear T0 hW1
 rintro e w2 ⟨rfl, hm⟩
 replace HM := Lib.hid (HM.out.trans hm)
 replace HB := Lib.hid (Bx.grown HB.out hm.1 (by omega))
 have hs2 := hm.1.size
 clear hm
 go_wp2_with fail
 refine (HS.out _ HM.out.2).mono ?_
 clear HS
 intro e w3 hst
 obtain ⟨k, m, ty, nm, A1, A2, A3, A4, c1, c2, c3, c4, l1, l2, l3, l4, rfl, hk, hm⟩ := hst.open
 clear hst
 have HK := Lib.hid (hk.mono (show w.heap.size + 1 ≤ _ by omega))
 replace HB := Lib.hid (Bx.grown HB.out hm.1 (by omega))
 replace HM := Lib.hid (HM.out.trans hm)
 clear hk hm
 obtain ⟨r0, r1, r2, r3, r4, r5, r6, r7, r8⟩ := HB.out.all_9
 have g0 := HB.out.fro 0; have g1 := HB.out.fro 1; have g2 := HB.out.fro 2; have g3 := HB.out.fro 3; have g4 := HB.out.fro 4; have g5 := HB.out.fro 5; have g6 := HB.out.fro 6; have g7 := HB.out.fro 7; have g8 := HB.out.fro 8
 have HG := Lib.hid (grown_9 w3 w.heap.size (.int .i64 k) (.int .i32 m) (.string ty) (.string nm) (.slice A1 l1.length c1) (.slice A2 l2.length c2) (.slice A3 l3.length c3) (.slice A4 l4.length c4) (.int .i64 0))
 go_wp2_with fail
 obtain ⟨z0, z1, z2, z3, z4, z5, z6, z7, z8⟩ := (HB.out.to_9 (.int .i64 k) (.int .i32 m) (.string ty) (.string nm) (.slice A1 l1.length c1) (.slice A2 l2.length c2) (.slice A3 l3.length c3) (.slice A4 l4.length c4) (.int .i64 0)).all_9
 (try simp only [Exit.inBlock, Exit.then])
 refine bodyPost_ret (v := .agg #[.int .i64 k, .int .i32 m, .string ty, .string nm, .slice A1 l1.length c1, .slice A2 l2.length c2, .slice A3 l3.length c3, .slice A4 l4.length c4, .int .i64 0]) (by simp [results, Tryz.results117, go_sem, z0, z1, z2, z3, z4, z5, z6, z7, z8]) rfl ?_
 exact ⟨_, rfl, ⟨_, _, _, _, _, _, _, _, _, _, _, _, _, _, _, _, rfl⟩, (HK.out.grown HG.out (.inl (by omega))).mono (by omega), Mv.over (Below.refl _ _) HM.out HG.out (Nat.le_refl _) hlt⟩
theorem stmt_return (HE : ExAny) (HAR : ArAny) (n : Nat) (b : Rb) (HBL : SpecK n b) (hbl : ∀ s, (b s).2.len ≤ s.len) (W0 w : World) (c : Nat) (s : RS) (hv : Vars W0) (h : Rd W0 c s w) (hn : 4 * s.len ≤ n) (hv0 : s.varB = false) (h0 : s.sees 0 kIf = false) (h1 : s.sees 0 kWhile = false) (h2 : s.sees 0 kReturn = true) : Calls Tryz.prog 117 #[.pointer (some ⟨c, 0, none⟩)] w (StC W0 c w (stS b s)) := by
 have hle := sees_len h2
 have hls := len_skip s
 have HRE : Hid (stS b s = resS s.skip) := Lib.hid (by simp only [stS, hv0, h0, h1, h2]; simp)
 obtain ⟨RR, hRR⟩ : ∃ RR, stS b s = RR := ⟨_, rfl⟩
 rw [hRR] at HRE ⊢
 have hlt := h.lt
 have hle0 := h.le
 obtain ⟨W1, hW1⟩ : ∃ W1, w.alloc (.cells #[.int .i64 0, .int .i32 0, .string ⟨#[]⟩, .string ⟨#[]⟩, .slice none 0 0, .slice none 0 0, .slice none 0 0, .slice none 0 0, .int .i64 0] 144) = W1 := ⟨_, rfl⟩
 have hb : Below w.heap.size w W1 := by rw [← hW1]; exact (Below.refl _ w).alloc (Nat.le_refl _) _
 have hx : Bx W1 w.heap.size #[.int .i64 0, .int .i32 0, .string ⟨#[]⟩, .string ⟨#[]⟩, .slice none 0 0, .slice none 0 0, .slice none 0 0, .slice none 0 0, .int .i64 0] 144 := by rw [← hW1]; exact Bx.new _ _ _
 have hz : W1.heap.size = w.heap.size + 1 := by rw [← hW1]; simp
 have HM := Lib.hid (Mv.below hb h)
 have HB := Lib.hid hx
 clear hb hx
 have V := Lib.hid (show Calls Tryz.prog 131 #[.pointer (some ⟨c, 0, none⟩)] W1 (fun e w' => e = .returned (.bool false) ∧ W1 = w') from by have := var_any W0 W1 c s HM.out.2; rw [hv0] at this; exact this)
 have T0 := Lib.hid (take_false W0 W1 c s kIf HM.out.2 h0)
 have T1 := Lib.hid (take_false W0 W1 c s kWhile HM.out.2 h1)
 have T2 := Lib.hid (take_true W0 W1 c s kReturn HM.out.2 h2)
 have HS : Hid (∀ w', Rd W0 c (s.skip) w' → Calls Tryz.prog 135 #[.pointer (some ⟨c, 0, none⟩)] w' (StC W0 c w' RR)) := by
   show ∀ w', _
   intro w' h'; have := result_of HE W0 w' c _ hv h'; rw [HRE.out]; exact this
 clear hRR h hv hn HE HAR HBL hbl hv0 h0 h1 h2 hle hls
 go_enter Tryz.func117, Tryz.ntmps117
 go_wp2_with fail
 refine V.out.mono ?_
 clear V
 rintro e w2 ⟨rfl, rfl⟩
 go_wp2_with fail
 refine T0.out.mono ?_
 clear T0
 rintro e w2 ⟨rfl, rfl⟩
 go_wp2_with fail
 refine T1.out.mono ?_
 clear T1
 rintro e w2 ⟨rfl, rfl⟩
 go_wp2_with fail
 refine T2.out.mono ?_
 clear T2 hW1
 rintro e w2 ⟨rfl, hm⟩
 replace HM := Lib.hid (HM.out.trans hm)
 replace HB := Lib.hid (Bx.grown HB.out hm.1 (by omega))
 have hs2 := hm.1.size
 clear hm
 go_wp2_with fail
 refine (HS.out _ HM.out.2).mono ?_
 clear HS
 intro e w3 hst
 obtain ⟨k, m, ty, nm, A1, A2, A3, A4, c1, c2, c3, c4, l1, l2, l3, l4, rfl, hk, hm⟩ := hst.open
 clear hst
 have HK := Lib.hid (hk.mono (show w.heap.size + 1 ≤ _ by omega))
 replace HB := Lib.hid (Bx.grown HB.out hm.1 (by omega))
 replace HM := Lib.hid (HM.out.trans hm)
 clear hk hm
 obtain ⟨r0, r1, r2, r3, r4, r5, r6, r7, r8⟩ := HB.out.all_9
 have g0 := HB.out.fro 0; have g1 := HB.out.fro 1; have g2 := HB.out.fro 2; have g3 := HB.out.fro 3; have g4 := HB.out.fro 4; have g5 := HB.out.fro 5; have g6 := HB.out.fro 6; have g7 := HB.out.fro 7; have g8 := HB.out.fro 8
 have HG := Lib.hid (grown_9 w3 w.heap.size (.int .i64 k) (.int .i32 m) (.string ty) (.string nm) (.slice A1 l1.length c1) (.slice A2 l2.length c2) (.slice A3 l3.length c3) (.slice A4 l4.length c4) (.int .i64 0))
 go_wp2_with fail
 obtain ⟨z0, z1, z2, z3, z4, z5, z6, z7, z8⟩ := (HB.out.to_9 (.int .i64 k) (.int .i32 m) (.string ty) (.string nm) (.slice A1 l1.length c1) (.slice A2 l2.length c2) (.slice A3 l3.length c3) (.slice A4 l4.length c4) (.int .i64 0)).all_9
 (try simp only [Exit.inBlock, Exit.then])
 refine bodyPost_ret (v := .agg #[.int .i64 k, .int .i32 m, .string ty, .string nm, .slice A1 l1.length c1, .slice A2 l2.length c2, .slice A3 l3.length c3, .slice A4 l4.length c4, .int .i64 0]) (by simp [results, Tryz.results117, go_sem, z0, z1, z2, z3, z4, z5, z6, z7, z8]) rfl ?_
 exact ⟨_, rfl, ⟨_, _, _, _, _, _, _, _, _, _, _, _, _, _, _, _, rfl⟩, (HK.out.grown HG.out (.inl (by omega))).mono (by omega), Mv.over (Below.refl _ _) HM.out HG.out (Nat.le_refl _) hlt⟩
theorem stmt_try (HE : ExAny) (HAR : ArAny) (n : Nat) (b : Rb) (HBL : SpecK n b) (hbl : ∀ s, (b s).2.len ≤ s.len) (W0 w : World) (c : Nat) (s : RS) (hv : Vars W0) (h : Rd W0 c s w) (hn : 4 * s.len ≤ n) (hv0 : s.varB = false) (h0 : s.sees 0 kIf = false) (h1 : s.sees 0 kWhile = false) (h2 : s.sees 0 kReturn = false) (h3 : s.sees 0 kPrint = false) (h4 : s.sees 0 kAssert = false) (h5 : s.sees 0 kThrow = false) (h6 : s.sees 0 kTry = true) : Calls Tryz.prog 117 #[.pointer (some ⟨c, 0, none⟩)] w (StC W0 c w (stS b s)) := by
 have hle := sees_len h6
 have hls := len_skip s
 have HRE : Hid (stS b s = attS b s.skip) := Lib.hid (by simp only [stS, hv0, h0, h1, h2, h3, h4, h5, h6]; simp)
 obtain ⟨RR, hRR⟩ : ∃ RR, stS b s = RR := ⟨_, rfl⟩
 rw [hRR] at HRE ⊢
 have hlt := h.lt
 have hle0 := h.le
 obtain ⟨W1, hW1⟩ : ∃ W1, w.alloc (.cells #[.int .i64 0, .int .i32 0, .string ⟨#[]⟩, .string ⟨#[]⟩, .slice none 0 0, .slice none 0 0, .slice none 0 0, .slice none 0 0, .int .i64 0] 144) = W1 := ⟨_, rfl⟩
 have hb : Below w.heap.size w W1 := by rw [← hW1]; exact (Below.refl _ w).alloc (Nat.le_refl _) _
 have hx : Bx W1 w.heap.size #[.int .i64 0, .int .i32 0, .string ⟨#[]⟩, .string ⟨#[]⟩, .slice none 0 0, .slice none 0 0, .slice none 0 0, .slice none 0 0, .int .i64 0] 144 := by rw [← hW1]; exact Bx.new _ _ _
 have hz : W1.heap.size = w.heap.size + 1 := by rw [← hW1]; simp
 have HM := Lib.hid (Mv.below hb h)
 have HB := Lib.hid hx
 clear hb hx
 have V := Lib.hid (show Calls Tryz.prog 131 #[.pointer (some ⟨c, 0, none⟩)] W1 (fun e w' => e = .returned (.bool false) ∧ W1 = w') from by have := var_any W0 W1 c s HM.out.2; rw [hv0] at this; exact this)
 have T0 := Lib.hid (take_false W0 W1 c s kIf HM.out.2 h0)
 have T1 := Lib.hid (take_false W0 W1 c s kWhile HM.out.2 h1)
 have T2 := Lib.hid (take_false W0 W1 c s kReturn HM.out.2 h2)
 have T3 := Lib.hid (take_false W0 W1 c s kPrint HM.out.2 h3)
 have T4 := Lib.hid (take_false W0 W1 c s kAssert HM.out.2 h4)
 have T5 := Lib.hid (take_false W0 W1 c s kThrow HM.out.2 h5)
 have T6 := Lib.hid (take_true W0 W1 c s kTry HM.out.2 h6)
 have HS : Hid (∀ w', Rd W0 c (s.skip) w' → Calls Tryz.prog 137 #[.pointer (some ⟨c, 0, none⟩)] w' (StC W0 c w' RR)) := by
   show ∀ w', _
   intro w' h'; have := attempt_of HE n b HBL hbl W0 w' c _ hv h' (by omega); rw [HRE.out]; exact this
 clear hRR h hv hn HE HAR HBL hbl hv0 h0 h1 h2 h3 h4 h5 h6 hle hls
 go_enter Tryz.func117, Tryz.ntmps117
 go_wp2_with fail
 refine V.out.mono ?_
 clear V
 rintro e w2 ⟨rfl, rfl⟩
 go_wp2_with fail
 refine T0.out.mono ?_
 clear T0
 rintro e w2 ⟨rfl, rfl⟩
 go_wp2_with fail
 refine T1.out.mono ?_
 clear T1
 rintro e w2 ⟨rfl, rfl⟩
 go_wp2_with fail
 refine T2.out.mono ?_
 clear T2
 rintro e w2 ⟨rfl, rfl⟩
 go_wp2_with fail
 refine T3.out.mono ?_
 clear T3
 rintro e w2 ⟨rfl, rfl⟩
 go_wp2_with fail
 refine T4.out.mono ?_
 clear T4
 rintro e w2 ⟨rfl, rfl⟩
 go_wp2_with fail
 refine T5.out.mono ?_
 clear T5
 rintro e w2 ⟨rfl, rfl⟩
 go_wp2_with fail
 refine T6.out.mono ?_
 clear T6 hW1
 rintro e w2 ⟨rfl, hm⟩
 replace HM := Lib.hid (HM.out.trans hm)
 replace HB := Lib.hid (Bx.grown HB.out hm.1 (by omega))
 have hs2 := hm.1.size
 clear hm
 go_wp2_with fail
 refine (HS.out _ HM.out.2).mono ?_
 clear HS
 intro e w3 hst
 obtain ⟨k, m, ty, nm, A1, A2, A3, A4, c1, c2, c3, c4, l1, l2, l3, l4, rfl, hk, hm⟩ := hst.open
 clear hst
 have HK := Lib.hid (hk.mono (show w.heap.size + 1 ≤ _ by omega))
 replace HB := Lib.hid (Bx.grown HB.out hm.1 (by omega))
 replace HM := Lib.hid (HM.out.trans hm)
 clear hk hm
 obtain ⟨r0, r1, r2, r3, r4, r5, r6, r7, r8⟩ := HB.out.all_9
 have g0 := HB.out.fro 0; have g1 := HB.out.fro 1; have g2 := HB.out.fro 2; have g3 := HB.out.fro 3; have g4 := HB.out.fro 4; have g5 := HB.out.fro 5; have g6 := HB.out.fro 6; have g7 := HB.out.fro 7; have g8 := HB.out.fro 8
 have HG := Lib.hid (grown_9 w3 w.heap.size (.int .i64 k) (.int .i32 m) (.string ty) (.string nm) (.slice A1 l1.length c1) (.slice A2 l2.length c2) (.slice A3 l3.length c3) (.slice A4 l4.length c4) (.int .i64 0))
 go_wp2_with fail
 obtain ⟨z0, z1, z2, z3, z4, z5, z6, z7, z8⟩ := (HB.out.to_9 (.int .i64 k) (.int .i32 m) (.string ty) (.string nm) (.slice A1 l1.length c1) (.slice A2 l2.length c2) (.slice A3 l3.length c3) (.slice A4 l4.length c4) (.int .i64 0)).all_9
 (try simp only [Exit.inBlock, Exit.then])
 refine bodyPost_ret (v := .agg #[.int .i64 k, .int .i32 m, .string ty, .string nm, .slice A1 l1.length c1, .slice A2 l2.length c2, .slice A3 l3.length c3, .slice A4 l4.length c4, .int .i64 0]) (by simp [results, Tryz.results117, go_sem, z0, z1, z2, z3, z4, z5, z6, z7, z8]) rfl ?_
 exact ⟨_, rfl, ⟨_, _, _, _, _, _, _, _, _, _, _, _, _, _, _, _, rfl⟩, (HK.out.grown HG.out (.inl (by omega))).mono (by omega), Mv.over (Below.refl _ _) HM.out HG.out (Nat.le_refl _) hlt⟩
theorem stmt_while (HE : ExAny) (HAR : ArAny) (n : Nat) (b : Rb) (HBL : SpecK n b) (hbl : ∀ s, (b s).2.len ≤ s.len) (W0 w : World) (c : Nat) (s : RS) (hv : Vars W0) (h : Rd W0 c s w) (hn : 4 * s.len ≤ n) (hv0 : s.varB = false) (h0 : s.sees 0 kIf = false) (h1 : s.sees 0 kWhile = true) : Calls Tryz.prog 117 #[.pointer (some ⟨c, 0, none⟩)] w (StC W0 c w (stS b s)) := by
 have hle := sees_len h1
 have hls := len_skip s
 obtain ⟨q, hq⟩ : ∃ q, cond s.skip = q := ⟨_, rfl⟩
 obtain ⟨a, ha⟩ : ∃ a, b q.2 = a := ⟨_, rfl⟩
 have hl1 : q.2.len ≤ s.skip.len - 1 := by rw [← hq]; exact len_cond _
 have HRE : Hid (stS b s = (mkS 5 0 E0 E0 q.1 a.1 [] [], a.2)) := Lib.hid (by simp only [stS, hv0, h0, h1, whlS, hq, ha]; simp)
 obtain ⟨RR, hRR⟩ : ∃ RR, stS b s = RR := ⟨_, rfl⟩
 rw [hRR] at HRE ⊢
 have hlt := h.lt
 have hle0 := h.le
 obtain ⟨W1, hW1⟩ : ∃ W1, w.alloc (.cells #[.int .i64 0, .int .i32 0, .string ⟨#[]⟩, .string ⟨#[]⟩, .slice none 0 0, .slice none 0 0, .slice none 0 0, .slice none 0 0, .int .i64 0] 144) = W1 := ⟨_, rfl⟩
 have hb : Below w.heap.size w W1 := by rw [← hW1]; exact (Below.refl _ w).alloc (Nat.le_refl _) _
 have hx : Bx W1 w.heap.size #[.int .i64 0, .int .i32 0, .string ⟨#[]⟩, .string ⟨#[]⟩, .slice none 0 0, .slice none 0 0, .slice none 0 0, .slice none 0 0, .int .i64 0] 144 := by rw [← hW1]; exact Bx.new _ _ _
 have hz : W1.heap.size = w.heap.size + 1 := by rw [← hW1]; simp
 have HM := Lib.hid (Mv.below hb h)
 have HB := Lib.hid hx
 clear hb hx
 have V := Lib.hid (show Calls Tryz.prog 131 #[.pointer (some ⟨c, 0, none⟩)] W1 (fun e w' => e = .returned (.bool false) ∧ W1 = w') from by have := var_any W0 W1 c s HM.out.2; rw [hv0] at this; exact this)
 have T0 := Lib.hid (take_false W0 W1 c s kIf HM.out.2 h0)
 have T1 := Lib.hid (take_true W0 W1 c s kWhile HM.out.2 h1)
 have HC : Hid (∀ w', Rd W0 c (s.skip) w' → Calls Tryz.prog 134 #[.pointer (some ⟨c, 0, none⟩)] w' (LsC W0 c w' q)) := by
   show ∀ w', _
   intro w' h'; have := cond_of HE W0 w' c _ hv h'; rw [hq] at this; exact this
 have HA : Hid (∀ w', Rd W0 c (q.2) w' → Calls Tryz.prog 96 #[.pointer (some ⟨c, 0, none⟩)] w' (BlC W0 c w' a)) := by
   show ∀ w', _
   intro w' h'; have := HBL W0 w' c _ hv h' (by omega); rw [ha] at this; exact this
 clear hRR hq ha hl1 h hv hn HE HAR HBL hbl hv0 h0 h1 hle hls
 go_enter Tryz.func117, Tryz.ntmps117
 go_wp2_with fail
 refine V.out.mono ?_
 clear V
 rintro e w2 ⟨rfl, rfl⟩
 go_wp2_with fail
 refine T0.out.mono ?_
 clear T0
 rintro e w2 ⟨rfl, rfl⟩
 go_wp2_with fail
 refine T1.out.mono ?_
 clear T1 hW1
 rintro e w2 ⟨rfl, hm⟩
 replace HM := Lib.hid (HM.out.trans hm)
 replace HB := Lib.hid (Bx.grown HB.out hm.1 (by omega))
 have hs2 := hm.1.size
 clear hm
 go_wp2_with fail
 refine (HC.out _ HM.out.2).mono ?_
 clear HC
 rintro e w3 ⟨v1, ys1, rfl, ho, hq1, hm⟩
 obtain ⟨A1, c1, rfl⟩ := ho.form
 have hf1 := (FkL.x ho.own.fk).mono (show w.heap.size + 1 ≤ _ by omega)
 have HQ1 := Lib.hid hq1
 clear ho hq1
 replace HM := Lib.hid (HM.out.trans hm)
 replace HB := Lib.hid (Bx.grown HB.out hm.1 (by omega))
 have hs3 := hm.1.size
 clear hm
 have HF1 := Lib.hid hf1
 clear hf1
 go_wp2_with fail
 refine (HA.out _ HM.out.2).mono ?_
 clear HA
 rintro e w4 ⟨v2, ys2, rfl, ho, hq2, hm⟩
 obtain ⟨A2, c2, rfl⟩ := fk_len ho
 have hf2 := (FkL.x ho).mono (show w.heap.size + 1 ≤ _ by omega)
 have HQ2 := Lib.hid hq2
 clear ho hq2
 replace HM := Lib.hid (HM.out.trans hm)
 replace HB := Lib.hid (Bx.grown HB.out hm.1 (by omega))
 replace HF1 := Lib.hid (HF1.out.grown hm.1 (.inl (by omega)))
 have hs4 := hm.1.size
 clear hm
 have HF2 := Lib.hid hf2
 clear hf2
 obtain ⟨r0, r1, r2, r3, r4, r5, r6, r7, r8⟩ := HB.out.all_9
 have g0 := HB.out.fro 0; have g1 := HB.out.fro 1; have g2 := HB.out.fro 2; have g3 := HB.out.fro 3; have g4 := HB.out.fro 4; have g5 := HB.out.fro 5; have g6 := HB.out.fro 6; have g7 := HB.out.fro 7; have g8 := HB.out.fro 8
 have HG := Lib.hid (grown_9 w4 w.heap.size (.int .i64 5) (.int .i32 0) (.string ⟨#[]⟩) (.string ⟨#[]⟩) (.slice A1 ys1.length c1) (.slice A2 ys2.length c2) (.slice none 0 0) (.slice none 0 0) (.int .i64 0))
 go_wp2_with fail
 obtain ⟨z0, z1, z2, z3, z4, z5, z6, z7, z8⟩ := (HB.out.to_9 (.int .i64 5) (.int .i32 0) (.string ⟨#[]⟩) (.string ⟨#[]⟩) (.slice A1 ys1.length c1) (.slice A2 ys2.length c2) (.slice none 0 0) (.slice none 0 0) (.int .i64 0)).all_9
 (try simp only [Exit.inBlock, Exit.then])
 refine bodyPost_ret (v := .agg #[.int .i64 5, .int .i32 0, .string ⟨#[]⟩, .string ⟨#[]⟩, .slice A1 ys1.length c1, .slice A2 ys2.length c2, .slice none 0 0, .slice none 0 0, .int .i64 0]) (by simp [results, Tryz.results117, go_sem, z0, z1, z2, z3, z4, z5, z6, z7, z8]) rfl ?_
 rw [HRE.out]
 refine ⟨.st (5) (0) ⟨#[]⟩ ⟨#[]⟩ (.slice A1 ys1.length c1) (.slice A2 ys2.length c2) (.slice none 0 0) (.slice none 0 0) ys1 ys2 [] [] 0, rfl, ⟨_, _, _, _, A1, A2, none, none, c1, c2, 0, 0, ys1, ys2, [], [], rfl⟩, ?_, Mv.over (Below.refl _ _) HM.out HG.out (Nat.le_refl _) hlt⟩
 exact ((st_node (B := w.heap.size + 1) ⟨Nat.zero_le _, Nat.zero_le _⟩ HF1.out.fk HF2.out.fk (FkL.nil _ _ _) (FkL.nil _ _ _) HQ1.out HQ2.out rfl rfl).grown HG.out (.inl (by omega))).mono (by omega)
theorem stmt_print (HE : ExAny) (HAR : ArAny) (n : Nat) (b : Rb) (HBL : SpecK n b) (hbl : ∀ s, (b s).2.len ≤ s.len) (W0 w : World) (c : Nat) (s : RS) (hv : Vars W0) (h : Rd W0 c s w) (hn : 4 * s.len ≤ n) (hv0 : s.varB = false) (h0 : s.sees 0 kIf = false) (h1 : s.sees 0 kWhile = false) (h2 : s.sees 0 kReturn = false) (h3 : s.sees 0 kPrint = true) : Calls Tryz.prog 117 #[.pointer (some ⟨c, 0, none⟩)] w (StC W0 c w (stS b s)) := by
 obtain ⟨q, hq⟩ : ∃ q, finE s.skip = q := ⟨_, rfl⟩
 have HRE : Hid (stS b s = (mkS 7 0 E0 E0 q.1 [] [] [], q.2)) := Lib.hid (by simp only [stS, hv0, h0, h1, h2, h3, hq]; simp)
 obtain ⟨RR, hRR⟩ : ∃ RR, stS b s = RR := ⟨_, rfl⟩
 rw [hRR] at HRE ⊢
 have hlt := h.lt
 have hle0 := h.le
 obtain ⟨W1, hW1⟩ : ∃ W1, w.alloc (.cells #[.int .i64 0, .int .i32 0, .string ⟨#[]⟩, .string ⟨#[]⟩, .slice none 0 0, .slice none 0 0, .slice none 0 0, .slice none 0 0, .int .i64 0] 144) = W1 := ⟨_, rfl⟩
 have hb : Below w.heap.size w W1 := by rw [← hW1]; exact (Below.refl _ w).alloc (Nat.le_refl _) _
 have hx : Bx W1 w.heap.size #[.int .i64 0, .int .i32 0, .string ⟨#[]⟩, .string ⟨#[]⟩, .slice none 0 0, .slice none 0 0, .slice none 0 0, .slice none 0 0, .int .i64 0] 144 := by rw [← hW1]; exact Bx.new _ _ _
 have hz : W1.heap.size = w.heap.size + 1 := by rw [← hW1]; simp
 have HM := Lib.hid (Mv.below hb h)
 have HB := Lib.hid hx
 clear hb hx
 have V := Lib.hid (show Calls Tryz.prog 131 #[.pointer (some ⟨c, 0, none⟩)] W1 (fun e w' => e = .returned (.bool false) ∧ W1 = w') from by have := var_any W0 W1 c s HM.out.2; rw [hv0] at this; exact this)
 have T0 := Lib.hid (take_false W0 W1 c s kIf HM.out.2 h0)
 have T1 := Lib.hid (take_false W0 W1 c s kWhile HM.out.2 h1)
 have T2 := Lib.hid (take_false W0 W1 c s kReturn HM.out.2 h2)
 have T3 := Lib.hid (take_true W0 W1 c s kPrint HM.out.2 h3)
 have HC : Hid (∀ w', Rd W0 c (s.skip) w' → Calls Tryz.prog 136 #[.pointer (some ⟨c, 0, none⟩)] w' (LsC W0 c w' q)) := by
   show ∀ w', _
   intro w' h'; have := finE_of HE W0 w' c _ hv h'; rw [hq] at this; exact this
 clear hRR hq h hv hn HE HAR HBL hbl hv0 h0 h1 h2 h3
 go_enter Tryz.func117, Tryz.ntmps117
 go_wp2_with fail
 refine V.out.mono ?_
 clear V
 rintro e w2 ⟨rfl, rfl⟩
 go_wp2_with fail
 refine T0.out.mono ?_
 clear T0
 rintro e w2 ⟨rfl, rfl⟩
 go_wp2_with fail
 refine T1.out.mono ?_
 clear T1
 rintro e w2 ⟨rfl, rfl⟩
 go_wp2_with fail
 refine T2.out.mono ?_
 clear T2
 rintro e w2 ⟨rfl, rfl⟩
 go_wp2_with fail
 refine T3.out.mono ?_
 clear T3 hW1
 rintro e w2 ⟨rfl, hm⟩
 replace HM := Lib.hid (HM.out.trans hm)
 replace HB := Lib.hid (Bx.grown HB.out hm.1 (by omega))
 have hs2 := hm.1.size
 clear hm
 go_wp2_with fail
 refine (HC.out _ HM.out.2).mono ?_
 clear HC
 rintro e w3 ⟨v1, ys1, rfl, ho, hq1, hm⟩
 obtain ⟨A1, c1, rfl⟩ := ho.form
 have hf1 := (FkL.x ho.own.fk).mono (show w.heap.size + 1 ≤ _ by omega)
 have HQ1 := Lib.hid hq1
 clear ho hq1
 replace HM := Lib.hid (HM.out.trans hm)
 replace HB := Lib.hid (Bx.grown HB.out hm.1 (by omega))
 have hs3 := hm.1.size
 clear hm
 have HF1 := Lib.hid hf1
 clear hf1
 obtain ⟨r0, r1, r2, r3, r4, r5, r6, r7, r8⟩ := HB.out.all_9
 have g0 := HB.out.fro 0; have g1 := HB.out.fro 1; have g2 := HB.out.fro 2; have g3 := HB.out.fro 3; have g4 := HB.out.fro 4; have g5 := HB.out.fro 5; have g6 := HB.out.fro 6; have g7 := HB.out.fro 7; have g8 := HB.out.fro 8
 have HG := Lib.hid (grown_9 w3 w.heap.size (.int .i64 7) (.int .i32 0) (.string ⟨#[]⟩) (.string ⟨#[]⟩) (.slice A1 ys1.length c1) (.slice none 0 0) (.slice none 0 0) (.slice none 0 0) (.int .i64 0))
 go_wp2_with fail
 obtain ⟨z0, z1, z2, z3, z4, z5, z6, z7, z8⟩ := (HB.out.to_9 (.int .i64 7) (.int .i32 0) (.string ⟨#[]⟩) (.string ⟨#[]⟩) (.slice A1 ys1.length c1) (.slice none 0 0) (.slice none 0 0) (.slice none 0 0) (.int .i64 0)).all_9
 (try simp only [Exit.inBlock, Exit.then])
 refine bodyPost_ret (v := .agg #[.int .i64 7, .int .i32 0, .string ⟨#[]⟩, .string ⟨#[]⟩, .slice A1 ys1.length c1, .slice none 0 0, .slice none 0 0, .slice none 0 0, .int .i64 0]) (by simp [results, Tryz.results117, go_sem, z0, z1, z2, z3, z4, z5, z6, z7, z8]) rfl ?_
 rw [HRE.out]
 refine ⟨.st (7) (0) ⟨#[]⟩ ⟨#[]⟩ (.slice A1 ys1.length c1) (.slice none 0 0) (.slice none 0 0) (.slice none 0 0) ys1 [] [] [] 0, rfl, ⟨_, _, _, _, A1, none, none, none, c1, 0, 0, 0, ys1, [], [], [], rfl⟩, ?_, Mv.over (Below.refl _ _) HM.out HG.out (Nat.le_refl _) hlt⟩
 exact ((st_node (B := w.heap.size + 1) ⟨Nat.zero_le _, Nat.zero_le _⟩ HF1.out.fk (FkL.nil _ _ _) (FkL.nil _ _ _) (FkL.nil _ _ _) HQ1.out rfl rfl rfl).grown HG.out (.inl (by omega))).mono (by omega)
theorem stmt_throw (HE : ExAny) (HAR : ArAny) (n : Nat) (b : Rb) (HBL : SpecK n b) (hbl : ∀ s, (b s).2.len ≤ s.len) (W0 w : World) (c : Nat) (s : RS) (hv : Vars W0) (h : Rd W0 c s w) (hn : 4 * s.len ≤ n) (hv0 : s.varB = false) (h0 : s.sees 0 kIf = false) (h1 : s.sees 0 kWhile = false) (h2 : s.sees 0 kReturn = false) (h3 : s.sees 0 kPrint = false) (h4 : s.sees 0 kAssert = false) (h5 : s.sees 0 kThrow = true) : Calls Tryz.prog 117 #[.pointer (some ⟨c, 0, none⟩)] w (StC W0 c w (stS b s)) := by
 obtain ⟨q, hq⟩ : ∃ q, finE s.skip = q := ⟨_, rfl⟩
 have HRE : Hid (stS b s = (mkS 9 0 E0 E0 q.1 [] [] [], q.2)) := Lib.hid (by simp only [stS, hv0, h0, h1, h2, h3, h4, h5, hq]; simp)
 obtain ⟨RR, hRR⟩ : ∃ RR, stS b s = RR := ⟨_, rfl⟩
 rw [hRR] at HRE ⊢
 have hlt := h.lt
 have hle0 := h.le
 obtain ⟨W1, hW1⟩ : ∃ W1, w.alloc (.cells #[.int .i64 0, .int .i32 0, .string ⟨#[]⟩, .string ⟨#[]⟩, .slice none 0 0, .slice none 0 0, .slice none 0 0, .slice none 0 0, .int .i64 0] 144) = W1 := ⟨_, rfl⟩
 have hb : Below w.heap.size w W1 := by rw [← hW1]; exact (Below.refl _ w).alloc (Nat.le_refl _) _
 have hx : Bx W1 w.heap.size #[.int .i64 0, .int .i32 0, .string ⟨#[]⟩, .string ⟨#[]⟩, .slice none 0 0, .slice none 0 0, .slice none 0 0, .slice none 0 0, .int .i64 0] 144 := by rw [← hW1]; exact Bx.new _ _ _
 have hz : W1.heap.size = w.heap.size + 1 := by rw [← hW1]; simp
 have HM := Lib.hid (Mv.below hb h)
 have HB := Lib.hid hx
 clear hb hx
 have V := Lib.hid (show Calls Tryz.prog 131 #[.pointer (some ⟨c, 0, none⟩)] W1 (fun e w' => e = .returned (.bool false) ∧ W1 = w') from by have := var_any W0 W1 c s HM.out.2; rw [hv0] at this; exact this)
 have T0 := Lib.hid (take_false W0 W1 c s kIf HM.out.2 h0)
 have T1 := Lib.hid (take_false W0 W1 c s kWhile HM.out.2 h1)
 have T2 := Lib.hid (take_false W0 W1 c s kReturn HM.out.2 h2)
 have T3 := Lib.hid (take_false W0 W1 c s kPrint HM.out.2 h3)
 have T4 := Lib.hid (take_false W0 W1 c s kAssert HM.out.2 h4)
 have T5 := Lib.hid (take_true W0 W1 c s kThrow HM.out.2 h5)
 have HC : Hid (∀ w', Rd W0 c (s.skip) w' → Calls Tryz.prog 136 #[.pointer (some ⟨c, 0, none⟩)] w' (LsC W0 c w' q)) := by
   show ∀ w', _
   intro w' h'; have := finE_of HE W0 w' c _ hv h'; rw [hq] at this; exact this
 clear hRR hq h hv hn HE HAR HBL hbl hv0 h0 h1 h2 h3 h4 h5
 go_enter Tryz.func117, Tryz.ntmps117
 go_wp2_with fail
 refine V.out.mono ?_
 clear V
 rintro e w2 ⟨rfl, rfl⟩
 go_wp2_with fail
 refine T0.out.mono ?_
 clear T0
 rintro e w2 ⟨rfl, rfl⟩
 go_wp2_with fail
 refine T1.out.mono ?_
 clear T1
 rintro e w2 ⟨rfl, rfl⟩
 go_wp2_with fail
 refine T2.out.mono ?_
 clear T2
 rintro e w2 ⟨rfl, rfl⟩
 go_wp2_with fail
 refine T3.out.mono ?_
 clear T3
 rintro e w2 ⟨rfl, rfl⟩
 go_wp2_with fail
 refine T4.out.mono ?_
 clear T4
 rintro e w2 ⟨rfl, rfl⟩
 go_wp2_with fail
 refine T5.out.mono ?_
 clear T5 hW1
 rintro e w2 ⟨rfl, hm⟩
 replace HM := Lib.hid (HM.out.trans hm)
 replace HB := Lib.hid (Bx.grown HB.out hm.1 (by omega))
 have hs2 := hm.1.size
 clear hm
 go_wp2_with fail
 refine (HC.out _ HM.out.2).mono ?_
 clear HC
 rintro e w3 ⟨v1, ys1, rfl, ho, hq1, hm⟩
 obtain ⟨A1, c1, rfl⟩ := ho.form
 have hf1 := (FkL.x ho.own.fk).mono (show w.heap.size + 1 ≤ _ by omega)
 have HQ1 := Lib.hid hq1
 clear ho hq1
 replace HM := Lib.hid (HM.out.trans hm)
 replace HB := Lib.hid (Bx.grown HB.out hm.1 (by omega))
 have hs3 := hm.1.size
 clear hm
 have HF1 := Lib.hid hf1
 clear hf1
 obtain ⟨r0, r1, r2, r3, r4, r5, r6, r7, r8⟩ := HB.out.all_9
 have g0 := HB.out.fro 0; have g1 := HB.out.fro 1; have g2 := HB.out.fro 2; have g3 := HB.out.fro 3; have g4 := HB.out.fro 4; have g5 := HB.out.fro 5; have g6 := HB.out.fro 6; have g7 := HB.out.fro 7; have g8 := HB.out.fro 8
 have HG := Lib.hid (grown_9 w3 w.heap.size (.int .i64 9) (.int .i32 0) (.string ⟨#[]⟩) (.string ⟨#[]⟩) (.slice A1 ys1.length c1) (.slice none 0 0) (.slice none 0 0) (.slice none 0 0) (.int .i64 0))
 go_wp2_with fail
 obtain ⟨z0, z1, z2, z3, z4, z5, z6, z7, z8⟩ := (HB.out.to_9 (.int .i64 9) (.int .i32 0) (.string ⟨#[]⟩) (.string ⟨#[]⟩) (.slice A1 ys1.length c1) (.slice none 0 0) (.slice none 0 0) (.slice none 0 0) (.int .i64 0)).all_9
 (try simp only [Exit.inBlock, Exit.then])
 refine bodyPost_ret (v := .agg #[.int .i64 9, .int .i32 0, .string ⟨#[]⟩, .string ⟨#[]⟩, .slice A1 ys1.length c1, .slice none 0 0, .slice none 0 0, .slice none 0 0, .int .i64 0]) (by simp [results, Tryz.results117, go_sem, z0, z1, z2, z3, z4, z5, z6, z7, z8]) rfl ?_
 rw [HRE.out]
 refine ⟨.st (9) (0) ⟨#[]⟩ ⟨#[]⟩ (.slice A1 ys1.length c1) (.slice none 0 0) (.slice none 0 0) (.slice none 0 0) ys1 [] [] [] 0, rfl, ⟨_, _, _, _, A1, none, none, none, c1, 0, 0, 0, ys1, [], [], [], rfl⟩, ?_, Mv.over (Below.refl _ _) HM.out HG.out (Nat.le_refl _) hlt⟩
 exact ((st_node (B := w.heap.size + 1) ⟨Nat.zero_le _, Nat.zero_le _⟩ HF1.out.fk (FkL.nil _ _ _) (FkL.nil _ _ _) (FkL.nil _ _ _) HQ1.out rfl rfl rfl).grown HG.out (.inl (by omega))).mono (by omega)
theorem stmt_assert (HE : ExAny) (HAR : ArAny) (n : Nat) (b : Rb) (HBL : SpecK n b) (hbl : ∀ s, (b s).2.len ≤ s.len) (W0 w : World) (c : Nat) (s : RS) (hv : Vars W0) (h : Rd W0 c s w) (hn : 4 * s.len ≤ n) (hv0 : s.varB = false) (h0 : s.sees 0 kIf = false) (h1 : s.sees 0 kWhile = false) (h2 : s.sees 0 kReturn = false) (h3 : s.sees 0 kPrint = false) (h4 : s.sees 0 kAssert = true) : Calls Tryz.prog 117 #[.pointer (some ⟨c, 0, none⟩)] w (StC W0 c w (stS b s)) := by
 obtain ⟨q, hq⟩ : ∃ q, finE (s.skip.num 9999) = q := ⟨_, rfl⟩
 have HRE : Hid (stS b s = (mkS 8 (s.skip.numR 9999) E0 E0 q.1 [] [] [], q.2)) := Lib.hid (by simp only [stS, hv0, h0, h1, h2, h3, h4, hq]; simp)
 obtain ⟨RR, hRR⟩ : ∃ RR, stS b s = RR := ⟨_, rfl⟩
 rw [hRR] at HRE ⊢
 have hlt := h.lt
 have hle0 := h.le
 obtain ⟨W1, hW1⟩ : ∃ W1, w.alloc (.cells #[.int .i64 0, .int .i32 0, .string ⟨#[]⟩, .string ⟨#[]⟩, .slice none 0 0, .slice none 0 0, .slice none 0 0, .slice none 0 0, .int .i64 0] 144) = W1 := ⟨_, rfl⟩
 have hb : Below w.heap.size w W1 := by rw [← hW1]; exact (Below.refl _ w).alloc (Nat.le_refl _) _
 have hx : Bx W1 w.heap.size #[.int .i64 0, .int .i32 0, .string ⟨#[]⟩, .string ⟨#[]⟩, .slice none 0 0, .slice none 0 0, .slice none 0 0, .slice none 0 0, .int .i64 0] 144 := by rw [← hW1]; exact Bx.new _ _ _
 have hz : W1.heap.size = w.heap.size + 1 := by rw [← hW1]; simp
 have HM := Lib.hid (Mv.below hb h)
 have HB := Lib.hid hx
 clear hb hx
 have V := Lib.hid (show Calls Tryz.prog 131 #[.pointer (some ⟨c, 0, none⟩)] W1 (fun e w' => e = .returned (.bool false) ∧ W1 = w') from by have := var_any W0 W1 c s HM.out.2; rw [hv0] at this; exact this)
 have T0 := Lib.hid (take_false W0 W1 c s kIf HM.out.2 h0)
 have T1 := Lib.hid (take_false W0 W1 c s kWhile HM.out.2 h1)
 have T2 := Lib.hid (take_false W0 W1 c s kReturn HM.out.2 h2)
 have T3 := Lib.hid (take_false W0 W1 c s kPrint HM.out.2 h3)
 have T4 := Lib.hid (take_true W0 W1 c s kAssert HM.out.2 h4)
 have HNU : Hid (∀ w', Rd W0 c s.skip w' → Calls Tryz.prog 124 #[.pointer (some ⟨c, 0, none⟩), .int .i64 9999] w' fun e w'' => e = .returned (.int .i32 (s.skip.numR 9999)) ∧ Mv W0 c (s.skip.num 9999) w' w'') := by
   show ∀ w', _
   intro w' h'; exact number_any W0 w' c _ 9999 hv h'
 have HC : Hid (∀ w', Rd W0 c (s.skip.num 9999) w' → Calls Tryz.prog 136 #[.pointer (some ⟨c, 0, none⟩)] w' (LsC W0 c w' q)) := by
   show ∀ w', _
   intro w' h'; have := finE_of HE W0 w' c _ hv h'; rw [hq] at this; exact this
 obtain ⟨nv, hnv⟩ : ∃ nv, s.skip.numR 9999 = nv := ⟨_, rfl⟩
 rw [hnv] at HRE HNU
 clear hRR hq hnv h hv hn HE HAR HBL hbl hv0 h0 h1 h2 h3 h4
 go_enter Tryz.func117, Tryz.ntmps117
 go_wp2_with fail
 refine V.out.mono ?_
 clear V
 rintro e w2 ⟨rfl, rfl⟩
 go_wp2_with fail
 refine T0.out.mono ?_
 clear T0
 rintro e w2 ⟨rfl, rfl⟩
 go_wp2_with fail
 refine T1.out.mono ?_
 clear T1
 rintro e w2 ⟨rfl, rfl⟩
 go_wp2_with fail
 refine T2.out.mono ?_
 clear T2
 rintro e w2 ⟨rfl, rfl⟩
 go_wp2_with fail
 refine T3.out.mono ?_
 clear T3
 rintro e w2 ⟨rfl, rfl⟩
 go_wp2_with fail
 refine T4.out.mono ?_
 clear T4 hW1
 rintro e w2 ⟨rfl, hm⟩
 replace HM := Lib.hid (HM.out.trans hm)
 replace HB := Lib.hid (Bx.grown HB.out hm.1 (by omega))
 have hs2 := hm.1.size
 clear hm
 go_wp2_with fail
 refine (HNU.out _ HM.out.2).mono ?_
 clear HNU
 rintro e w3 ⟨rfl, hm⟩
 replace HM := Lib.hid (HM.out.trans hm)
 replace HB := Lib.hid (Bx.grown HB.out hm.1 (by omega))
 have hs3 := hm.1.size
 clear hm
 go_wp2_with fail
 refine (HC.out _ HM.out.2).mono ?_
 clear HC
 rintro e w4 ⟨v1, ys1, rfl, ho, hq1, hm⟩
 obtain ⟨A1, c1, rfl⟩ := ho.form
 have hf1 := (FkL.x ho.own.fk).mono (show w.heap.size + 1 ≤ _ by omega)
 have HQ1 := Lib.hid hq1
 clear ho hq1
 replace HM := Lib.hid (HM.out.trans hm)
 replace HB := Lib.hid (Bx.grown HB.out hm.1 (by omega))
 have hs4 := hm.1.size
 clear hm
 have HF1 := Lib.hid hf1
 clear hf1
 obtain ⟨r0, r1, r2, r3, r4, r5, r6, r7, r8⟩ := HB.out.all_9
 have g0 := HB.out.fro 0; have g1 := HB.out.fro 1; have g2 := HB.out.fro 2; have g3 := HB.out.fro 3; have g4 := HB.out.fro 4; have g5 := HB.out.fro 5; have g6 := HB.out.fro 6; have g7 := HB.out.fro 7; have g8 := HB.out.fro 8
 have HG := Lib.hid (grown_9 w4 w.heap.size (.int .i64 8) (.int .i32 nv) (.string ⟨#[]⟩) (.string ⟨#[]⟩) (.slice A1 ys1.length c1) (.slice none 0 0) (.slice none 0 0) (.slice none 0 0) (.int .i64 0))
 go_wp2_with fail
 obtain ⟨z0, z1, z2, z3, z4, z5, z6, z7, z8⟩ := (HB.out.to_9 (.int .i64 8) (.int .i32 nv) (.string ⟨#[]⟩) (.string ⟨#[]⟩) (.slice A1 ys1.length c1) (.slice none 0 0) (.slice none 0 0) (.slice none 0 0) (.int .i64 0)).all_9
 (try simp only [Exit.inBlock, Exit.then])
 refine bodyPost_ret (v := .agg #[.int .i64 8, .int .i32 nv, .string ⟨#[]⟩, .string ⟨#[]⟩, .slice A1 ys1.length c1, .slice none 0 0, .slice none 0 0, .slice none 0 0, .int .i64 0]) (by simp [results, Tryz.results117, go_sem, z0, z1, z2, z3, z4, z5, z6, z7, z8]) rfl ?_
 rw [HRE.out]
 refine ⟨.st (8) (nv) ⟨#[]⟩ ⟨#[]⟩ (.slice A1 ys1.length c1) (.slice none 0 0) (.slice none 0 0) (.slice none 0 0) ys1 [] [] [] 0, rfl, ⟨_, _, _, _, A1, none, none, none, c1, 0, 0, 0, ys1, [], [], [], rfl⟩, ?_, Mv.over (Below.refl _ _) HM.out HG.out (Nat.le_refl _) hlt⟩
 exact ((st_node (B := w.heap.size + 1) ⟨Nat.zero_le _, Nat.zero_le _⟩ HF1.out.fk (FkL.nil _ _ _) (FkL.nil _ _ _) (FkL.nil _ _ _) HQ1.out rfl rfl rfl).grown HG.out (.inl (by omega))).mono (by omega)
theorem stmt_super (HE : ExAny) (HAR : ArAny) (n : Nat) (b : Rb) (HBL : SpecK n b) (hbl : ∀ s, (b s).2.len ≤ s.len) (W0 w : World) (c : Nat) (s : RS) (hv : Vars W0) (h : Rd W0 c s w) (hn : 4 * s.len ≤ n) (hv0 : s.varB = false) (h0 : s.sees 0 kIf = false) (h1 : s.sees 0 kWhile = false) (h2 : s.sees 0 kReturn = false) (h3 : s.sees 0 kPrint = false) (h4 : s.sees 0 kAssert = false) (h5 : s.sees 0 kThrow = false) (h6 : s.sees 0 kTry = false) (h7 : s.sees 0 sSuper = true) (h8 : s.sees 1 sOpen = true) : Calls Tryz.prog 117 #[.pointer (some ⟨c, 0, none⟩)] w (StC W0 c w (stS b s)) := by
 have HRE : Hid (stS b s = supS s) := Lib.hid (by simp only [stS, hv0, h0, h1, h2, h3, h4, h5, h6, h7, h8]; simp)
 obtain ⟨RR, hRR⟩ : ∃ RR, stS b s = RR := ⟨_, rfl⟩
 rw [hRR] at HRE ⊢
 have hlt := h.lt
 have hle0 := h.le
 obtain ⟨W1, hW1⟩ : ∃ W1, w.alloc (.cells #[.int .i64 0, .int .i32 0, .string ⟨#[]⟩, .string ⟨#[]⟩, .slice none 0 0, .slice none 0 0, .slice none 0 0, .slice none 0 0, .int .i64 0] 144) = W1 := ⟨_, rfl⟩
 have hb : Below w.heap.size w W1 := by rw [← hW1]; exact (Below.refl _ w).alloc (Nat.le_refl _) _
 have hx : Bx W1 w.heap.size #[.int .i64 0, .int .i32 0, .string ⟨#[]⟩, .string ⟨#[]⟩, .slice none 0 0, .slice none 0 0, .slice none 0 0, .slice none 0 0, .int .i64 0] 144 := by rw [← hW1]; exact Bx.new _ _ _
 have hz : W1.heap.size = w.heap.size + 1 := by rw [← hW1]; simp
 have HM := Lib.hid (Mv.below hb h)
 have HB := Lib.hid hx
 clear hb hx
 have V := Lib.hid (show Calls Tryz.prog 131 #[.pointer (some ⟨c, 0, none⟩)] W1 (fun e w' => e = .returned (.bool false) ∧ W1 = w') from by have := var_any W0 W1 c s HM.out.2; rw [hv0] at this; exact this)
 have T0 := Lib.hid (take_false W0 W1 c s kIf HM.out.2 h0)
 have T1 := Lib.hid (take_false W0 W1 c s kWhile HM.out.2 h1)
 have T2 := Lib.hid (take_false W0 W1 c s kReturn HM.out.2 h2)
 have T3 := Lib.hid (take_false W0 W1 c s kPrint HM.out.2 h3)
 have T4 := Lib.hid (take_false W0 W1 c s kAssert HM.out.2 h4)
 have T5 := Lib.hid (take_false W0 W1 c s kThrow HM.out.2 h5)
 have T6 := Lib.hid (take_false W0 W1 c s kTry HM.out.2 h6)
 have T7 := Lib.hid (sees_is W0 W1 c s sSuper _ HM.out.2 h7)
 have T8 := Lib.hid (show Calls Tryz.prog 93 #[.pointer (some ⟨c, 0, none⟩), .int .i64 1, .string sOpen] W1 (fun e w' => e = .returned (.bool true) ∧ W1 = w') from by have := seesAt_any W0 W1 c 1 s sOpen HM.out.2 (by omega); rw [h8] at this; exact this)
 have HS : Hid (∀ w', Rd W0 c (s) w' → Calls Tryz.prog 138 #[.pointer (some ⟨c, 0, none⟩)] w' (StC W0 c w' RR)) := by
   show ∀ w', _
   intro w' h'; have := super_of HAR W0 w' c _ hv h' (sees_ne h7); rw [HRE.out]; exact this
 clear hRR h hv hn HE HAR HBL hbl hv0 h0 h1 h2 h3 h4 h5 h6 h7 h8
 go_enter Tryz.func117, Tryz.ntmps117
 go_wp2_with fail
 refine V.out.mono ?_
 clear V
 rintro e w2 ⟨rfl, rfl⟩
 go_wp2_with fail
 refine T0.out.mono ?_
 clear T0
 rintro e w2 ⟨rfl, rfl⟩
 go_wp2_with fail
 refine T1.out.mono ?_
 clear T1
 rintro e w2 ⟨rfl, rfl⟩
 go_wp2_with fail
 refine T2.out.mono ?_
 clear T2
 rintro e w2 ⟨rfl, rfl⟩
 go_wp2_with fail
 refine T3.out.mono ?_
 clear T3
 rintro e w2 ⟨rfl, rfl⟩
 go_wp2_with fail
 refine T4.out.mono ?_
 clear T4
 rintro e w2 ⟨rfl, rfl⟩
 go_wp2_with fail
 refine T5.out.mono ?_
 clear T5
 rintro e w2 ⟨rfl, rfl⟩
 go_wp2_with fail
 refine T6.out.mono ?_
 clear T6
 rintro e w2 ⟨rfl, rfl⟩
 go_wp2_with fail
 refine T7.out.mono ?_
 clear T7
 rintro e w2 ⟨rfl, rfl⟩
 go_wp2_with fail
 refine T8.out.mono ?_
 clear T8
 rintro e w2 ⟨rfl, rfl⟩
 go_wp2_with fail
 refine (HS.out _ HM.out.2).mono ?_
 clear HS hW1
 intro e w3 hst
 obtain ⟨k, m, ty, nm, A1, A2, A3, A4, c1, c2, c3, c4, l1, l2, l3, l4, rfl, hk, hm⟩ := hst.open
 clear hst
 have HK := Lib.hid (hk.mono (show w.heap.size + 1 ≤ _ by omega))
 replace HB := Lib.hid (Bx.grown HB.out hm.1 (by omega))
 replace HM := Lib.hid (HM.out.trans hm)
 clear hk hm
 obtain ⟨r0, r1, r2, r3, r4, r5, r6, r7, r8⟩ := HB.out.all_9
 have g0 := HB.out.fro 0; have g1 := HB.out.fro 1; have g2 := HB.out.fro 2; have g3 := HB.out.fro 3; have g4 := HB.out.fro 4; have g5 := HB.out.fro 5; have g6 := HB.out.fro 6; have g7 := HB.out.fro 7; have g8 := HB.out.fro 8
 have HG := Lib.hid (grown_9 w3 w.heap.size (.int .i64 k) (.int .i32 m) (.string ty) (.string nm) (.slice A1 l1.length c1) (.slice A2 l2.length c2) (.slice A3 l3.length c3) (.slice A4 l4.length c4) (.int .i64 0))
 go_wp2_with fail
 obtain ⟨z0, z1, z2, z3, z4, z5, z6, z7, z8⟩ := (HB.out.to_9 (.int .i64 k) (.int .i32 m) (.string ty) (.string nm) (.slice A1 l1.length c1) (.slice A2 l2.length c2) (.slice A3 l3.length c3) (.slice A4 l4.length c4) (.int .i64 0)).all_9
 (try simp only [Exit.inBlock, Exit.then])
 refine bodyPost_ret (v := .agg #[.int .i64 k, .int .i32 m, .string ty, .string nm, .slice A1 l1.length c1, .slice A2 l2.length c2, .slice A3 l3.length c3, .slice A4 l4.length c4, .int .i64 0]) (by simp [results, Tryz.results117, go_sem, z0, z1, z2, z3, z4, z5, z6, z7, z8]) rfl ?_
 exact ⟨_, rfl, ⟨_, _, _, _, _, _, _, _, _, _, _, _, _, _, _, _, rfl⟩, (HK.out.grown HG.out (.inl (by omega))).mono (by omega), Mv.over (Below.refl _ _) HM.out HG.out (Nat.le_refl _) hlt⟩
theorem stmt_plainS (HE : ExAny) (HAR : ArAny) (n : Nat) (b : Rb) (HBL : SpecK n b) (hbl : ∀ s, (b s).2.len ≤ s.len) (W0 w : World) (c : Nat) (s : RS) (hv : Vars W0) (h : Rd W0 c s w) (hn : 4 * s.len ≤ n) (hv0 : s.varB = false) (h0 : s.sees 0 kIf = false) (h1 : s.sees 0 kWhile = false) (h2 : s.sees 0 kReturn = false) (h3 : s.sees 0 kPrint = false) (h4 : s.sees 0 kAssert = false) (h5 : s.sees 0 kThrow = false) (h6 : s.sees 0 kTry = false) (h7 : s.sees 0 sSuper = true) (h8 : s.sees 1 sOpen = false) : Calls Tryz.prog 117 #[.pointer (some ⟨c, 0, none⟩)] w (StC W0 c w (stS b s)) := by
 have HRE : Hid (stS b s = plaS s) := Lib.hid (by simp only [stS, hv0, h0, h1, h2, h3, h4, h5, h6, h7, h8]; simp)
 obtain ⟨RR, hRR⟩ : ∃ RR, stS b s = RR := ⟨_, rfl⟩
 rw [hRR] at HRE ⊢
 have hlt := h.lt
 have hle0 := h.le
 obtain ⟨W1, hW1⟩ : ∃ W1, w.alloc (.cells #[.int .i64 0, .int .i32 0, .string ⟨#[]⟩, .string ⟨#[]⟩, .slice none 0 0, .slice none 0 0, .slice none 0 0, .slice none 0 0, .int .i64 0] 144) = W1 := ⟨_, rfl⟩
 have hb : Below w.heap.size w W1 := by rw [← hW1]; exact (Below.refl _ w).alloc (Nat.le_refl _) _
 have hx : Bx W1 w.heap.size #[.int .i64 0, .int .i32 0, .string ⟨#[]⟩, .string ⟨#[]⟩, .slice none 0 0, .slice none 0 0, .slice none 0 0, .slice none 0 0, .int .i64 0] 144 := by rw [← hW1]; exact Bx.new _ _ _
 have hz : W1.heap.size = w.heap.size + 1 := by rw [← hW1]; simp
 have HM := Lib.hid (Mv.below hb h)
 have HB := Lib.hid hx
 clear hb hx
 have V := Lib.hid (show Calls Tryz.prog 131 #[.pointer (some ⟨c, 0, none⟩)] W1 (fun e w' => e = .returned (.bool false) ∧ W1 = w') from by have := var_any W0 W1 c s HM.out.2; rw [hv0] at this; exact this)
 have T0 := Lib.hid (take_false W0 W1 c s kIf HM.out.2 h0)
 have T1 := Lib.hid (take_false W0 W1 c s kWhile HM.out.2 h1)
 have T2 := Lib.hid (take_false W0 W1 c s kReturn HM.out.2 h2)
 have T3 := Lib.hid (take_false W0 W1 c s kPrint HM.out.2 h3)
 have T4 := Lib.hid (take_false W0 W1 c s kAssert HM.out.2 h4)
 have T5 := Lib.hid (take_false W0 W1 c s kThrow HM.out.2 h5)
 have T6 := Lib.hid (take_false W0 W1 c s kTry HM.out.2 h6)
 have T7 := Lib.hid (sees_is W0 W1 c s sSuper _ HM.out.2 h7)
 have T8 := Lib.hid (show Calls Tryz.prog 93 #[.pointer (some ⟨c, 0, none⟩), .int .i64 1, .string sOpen] W1 (fun e w' => e = .returned (.bool false) ∧ W1 = w') from by have := seesAt_any W0 W1 c 1 s sOpen HM.out.2 (by omega); rw [h8] at this; exact this)
 have HS : Hid (∀ w', Rd W0 c (s) w' → Calls Tryz.prog 139 #[.pointer (some ⟨c, 0, none⟩)] w' (StC W0 c w' RR)) := by
   show ∀ w', _
   intro w' h'; have := plainS_of HE W0 w' c _ hv h'; rw [HRE.out]; exact this
 clear hRR h hv hn HE HAR HBL hbl hv0 h0 h1 h2 h3 h4 h5 h6 h7 h8
 go_enter Tryz.func117, Tryz.ntmps117
 go_wp2_with fail
 refine V.out.mono ?_
 clear V
 rintro e w2 ⟨rfl, rfl⟩
 go_wp2_with fail
 refine T0.out.mono ?_
 clear T0
 rintro e w2 ⟨rfl, rfl⟩
 go_wp2_with fail
 refine T1.out.mono ?_
 clear T1
 rintro e w2 ⟨rfl, rfl⟩
 go_wp2_with fail
 refine T2.out.mono ?_
 clear T2
 rintro e w2 ⟨rfl, rfl⟩
 go_wp2_with fail
 refine T3.out.mono ?_
 clear T3
 rintro e w2 ⟨rfl, rfl⟩
 go_wp2_with fail
 refine T4.out.mono ?_
 clear T4
 rintro e w2 ⟨rfl, rfl⟩
 go_wp2_with fail
 refine T5.out.mono ?_
 clear T5
 rintro e w2 ⟨rfl, rfl⟩
 go_wp2_with fail
 refine T6.out.mono ?_
 clear T6
 rintro e w2 ⟨rfl, rfl⟩
 go_wp2_with fail
 refine T7.out.mono ?_
 clear T7
 rintro e w2 ⟨rfl, rfl⟩
 go_wp2_with fail
 refine T8.out.mono ?_
 clear T8
 rintro e w2 ⟨rfl, rfl⟩
 go_wp2_with fail
 refine (HS.out _ HM.out.2).mono ?_
 clear HS hW1
 intro e w3 hst
 obtain ⟨k, m, ty, nm, A1, A2, A3, A4, c1, c2, c3, c4, l1, l2, l3, l4, rfl, hk, hm⟩ := hst.open
 clear hst
 have HK := Lib.hid (hk.mono (show w.heap.size + 1 ≤ _ by omega))
 replace HB := Lib.hid (Bx.grown HB.out hm.1 (by omega))
 replace HM := Lib.hid (HM.out.trans hm)
 clear hk hm
 obtain ⟨r0, r1, r2, r3, r4, r5, r6, r7, r8⟩ := HB.out.all_9
 have g0 := HB.out.fro 0; have g1 := HB.out.fro 1; have g2 := HB.out.fro 2; have g3 := HB.out.fro 3; have g4 := HB.out.fro 4; have g5 := HB.out.fro 5; have g6 := HB.out.fro 6; have g7 := HB.out.fro 7; have g8 := HB.out.fro 8
 have HG := Lib.hid (grown_9 w3 w.heap.size (.int .i64 k) (.int .i32 m) (.string ty) (.string nm) (.slice A1 l1.length c1) (.slice A2 l2.length c2) (.slice A3 l3.length c3) (.slice A4 l4.length c4) (.int .i64 0))
 go_wp2_with fail
 obtain ⟨z0, z1, z2, z3, z4, z5, z6, z7, z8⟩ := (HB.out.to_9 (.int .i64 k) (.int .i32 m) (.string ty) (.string nm) (.slice A1 l1.length c1) (.slice A2 l2.length c2) (.slice A3 l3.length c3) (.slice A4 l4.length c4) (.int .i64 0)).all_9
 (try simp only [Exit.inBlock, Exit.then])
 refine bodyPost_ret (v := .agg #[.int .i64 k, .int .i32 m, .string ty, .string nm, .slice A1 l1.length c1, .slice A2 l2.length c2, .slice A3 l3.length c3, .slice A4 l4.length c4, .int .i64 0]) (by simp [results, Tryz.results117, go_sem, z0, z1, z2, z3, z4, z5, z6, z7, z8]) rfl ?_
 exact ⟨_, rfl, ⟨_, _, _, _, _, _, _, _, _, _, _, _, _, _, _, _, rfl⟩, (HK.out.grown HG.out (.inl (by omega))).mono (by omega), Mv.over (Below.refl _ _) HM.out HG.out (Nat.le_refl _) hlt⟩
theorem stmt_plain (HE : ExAny) (HAR : ArAny) (n : Nat) (b : Rb) (HBL : SpecK n b) (hbl : ∀ s, (b s).2.len ≤ s.len) (W0 w : World) (c : Nat) (s : RS) (hv : Vars W0) (h : Rd W0 c s w) (hn : 4 * s.len ≤ n) (hv0 : s.varB = false) (h0 : s.sees 0 kIf = false) (h1 : s.sees 0 kWhile = false) (h2 : s.sees 0 kReturn = false) (h3 : s.sees 0 kPrint = false) (h4 : s.sees 0 kAssert = false) (h5 : s.sees 0 kThrow = false) (h6 : s.sees 0 kTry = false) (h7 : s.sees 0 sSuper = false) : Calls Tryz.prog 117 #[.pointer (some ⟨c, 0, none⟩)] w (StC W0 c w (stS b s)) := by
 have HRE : Hid (stS b s = plaS s) := Lib.hid (by simp only [stS, hv0, h0, h1, h2, h3, h4, h5, h6, h7]; simp)
 obtain ⟨RR, hRR⟩ : ∃ RR, stS b s = RR := ⟨_, rfl⟩
 rw [hRR] at HRE ⊢
 have hlt := h.lt
 have hle0 := h.le
 obtain ⟨W1, hW1⟩ : ∃ W1, w.alloc (.cells #[.int .i64 0, .int .i32 0, .string ⟨#[]⟩, .string ⟨#[]⟩, .slice none 0 0, .slice none 0 0, .slice none 0 0, .slice none 0 0, .int .i64 0] 144) = W1 := ⟨_, rfl⟩
 have hb : Below w.heap.size w W1 := by rw [← hW1]; exact (Below.refl _ w).alloc (Nat.le_refl _) _
 have hx : Bx W1 w.heap.size #[.int .i64 0, .int .i32 0, .string ⟨#[]⟩, .string ⟨#[]⟩, .slice none 0 0, .slice none 0 0, .slice none 0 0, .slice none 0 0, .int .i64 0] 144 := by rw [← hW1]; exact Bx.new _ _ _
 have hz : W1.heap.size = w.heap.size + 1 := by rw [← hW1]; simp
 have HM := Lib.hid (Mv.below hb h)
 have HB := Lib.hid hx
 clear hb hx
 have V := Lib.hid (show Calls Tryz.prog 131 #[.pointer (some ⟨c, 0, none⟩)] W1 (fun e w' => e = .returned (.bool false) ∧ W1 = w') from by have := var_any W0 W1 c s HM.out.2; rw [hv0] at this; exact this)
 have T0 := Lib.hid (take_false W0 W1 c s kIf HM.out.2 h0)
 have T1 := Lib.hid (take_false W0 W1 c s kWhile HM.out.2 h1)
 have T2 := Lib.hid (take_false W0 W1 c s kReturn HM.out.2 h2)
 have T3 := Lib.hid (take_false W0 W1 c s kPrint HM.out.2 h3)
 have T4 := Lib.hid (take_false W0 W1 c s kAssert HM.out.2 h4)
 have T5 := Lib.hid (take_false W0 W1 c s kThrow HM.out.2 h5)
 have T6 := Lib.hid (take_false W0 W1 c s kTry HM.out.2 h6)
 have T7 := Lib.hid (sees_is W0 W1 c s sSuper _ HM.out.2 h7)
 have HS : Hid (∀ w', Rd W0 c (s) w' → Calls Tryz.prog 139 #[.pointer (some ⟨c, 0, none⟩)] w' (StC W0 c w' RR)) := by
   show ∀ w', _
   intro w' h'; have := plainS_of HE W0 w' c _ hv h'; rw [HRE.out]; exact this
 clear hRR h hv hn HE HAR HBL hbl hv0 h0 h1 h2 h3 h4 h5 h6 h7
 go_enter Tryz.func117, Tryz.ntmps117
 go_wp2_with fail
 refine V.out.mono ?_
 clear V
 rintro e w2 ⟨rfl, rfl⟩
 go_wp2_with fail
 refine T0.out.mono ?_
 clear T0
 rintro e w2 ⟨rfl, rfl⟩
 go_wp2_with fail
 refine T1.out.mono ?_
 clear T1
 rintro e w2 ⟨rfl, rfl⟩
 go_wp2_with fail
 refine T2.out.mono ?_
 clear T2
 rintro e w2 ⟨rfl, rfl⟩
 go_wp2_with fail
 refine T3.out.mono ?_
 clear T3
 rintro e w2 ⟨rfl, rfl⟩
 go_wp2_with fail
 refine T4.out.mono ?_
 clear T4
 rintro e w2 ⟨rfl, rfl⟩
 go_wp2_with fail
 refine T5.out.mono ?_
 clear T5
 rintro e w2 ⟨rfl, rfl⟩
 go_wp2_with fail
 refine T6.out.mono ?_
 clear T6
 rintro e w2 ⟨rfl, rfl⟩
 go_wp2_with fail
 refine T7.out.mono ?_
 clear T7
 rintro e w2 ⟨rfl, rfl⟩
 go_wp2_with fail
 refine (HS.out _ HM.out.2).mono ?_
 clear HS hW1
 intro e w3 hst
 obtain ⟨k, m, ty, nm, A1, A2, A3, A4, c1, c2, c3, c4, l1, l2, l3, l4, rfl, hk, hm⟩ := hst.open
 clear hst
 have HK := Lib.hid (hk.mono (show w.heap.size + 1 ≤ _ by omega))
 replace HB := Lib.hid (Bx.grown HB.out hm.1 (by omega))
 replace HM := Lib.hid (HM.out.trans hm)
 clear hk hm
 obtain ⟨r0, r1, r2, r3, r4, r5, r6, r7, r8⟩ := HB.out.all_9
 have g0 := HB.out.fro 0; have g1 := HB.out.fro 1; have g2 := HB.out.fro 2; have g3 := HB.out.fro 3; have g4 := HB.out.fro 4; have g5 := HB.out.fro 5; have g6 := HB.out.fro 6; have g7 := HB.out.fro 7; have g8 := HB.out.fro 8
 have HG := Lib.hid (grown_9 w3 w.heap.size (.int .i64 k) (.int .i32 m) (.string ty) (.string nm) (.slice A1 l1.length c1) (.slice A2 l2.length c2) (.slice A3 l3.length c3) (.slice A4 l4.length c4) (.int .i64 0))
 go_wp2_with fail
 obtain ⟨z0, z1, z2, z3, z4, z5, z6, z7, z8⟩ := (HB.out.to_9 (.int .i64 k) (.int .i32 m) (.string ty) (.string nm) (.slice A1 l1.length c1) (.slice A2 l2.length c2) (.slice A3 l3.length c3) (.slice A4 l4.length c4) (.int .i64 0)).all_9
 (try simp only [Exit.inBlock, Exit.then])
 refine bodyPost_ret (v := .agg #[.int .i64 k, .int .i32 m, .string ty, .string nm, .slice A1 l1.length c1, .slice A2 l2.length c2, .slice A3 l3.length c3, .slice A4 l4.length c4, .int .i64 0]) (by simp [results, Tryz.results117, go_sem, z0, z1, z2, z3, z4, z5, z6, z7, z8]) rfl ?_
 exact ⟨_, rfl, ⟨_, _, _, _, _, _, _, _, _, _, _, _, _, _, _, _, rfl⟩, (HK.out.grown HG.out (.inl (by omega))).mono (by omega), Mv.over (Below.refl _ _) HM.out HG.out (Nat.le_refl _) hlt⟩
theorem stmt_of (HE : ExAny) (HAR : ArAny) (n : Nat) (b : Rb) (HBL : SpecK n b) (hbl : ∀ s, (b s).2.len ≤ s.len) (W0 w : World) (c : Nat) (s : RS) (hv : Vars W0) (h : Rd W0 c s w) (hn : 4 * s.len ≤ n) : Calls Tryz.prog 117 #[.pointer (some ⟨c, 0, none⟩)] w (StC W0 c w (stS b s)) := by
 cases hv0 : s.varB with
 | true => exact stmt_var HE HAR n b HBL hbl W0 w c s hv h hn hv0
 | false =>
   cases h0 : s.sees 0 kIf with
   | true => exact stmt_if HE HAR n b HBL hbl W0 w c s hv h hn hv0 h0
   | false =>
     cases h1 : s.sees 0 kWhile with
     | true => exact stmt_while HE HAR n b HBL hbl W0 w c s hv h hn hv0 h0 h1
     | false =>
       cases h2 : s.sees 0 kReturn with
       | true => exact stmt_return HE HAR n b HBL hbl W0 w c s hv h hn hv0 h0 h1 h2
       | false =>
         cases h3 : s.sees 0 kPrint with
         | true => exact stmt_print HE HAR n b HBL hbl W0 w c s hv h hn hv0 h0 h1 h2 h3
         | false =>
           cases h4 : s.sees 0 kAssert with
           | true => exact stmt_assert HE HAR n b HBL hbl W0 w c s hv h hn hv0 h0 h1 h2 h3 h4
           | false =>
             cases h5 : s.sees 0 kThrow with
             | true => exact stmt_throw HE HAR n b HBL hbl W0 w c s hv h hn hv0 h0 h1 h2 h3 h4 h5
             | false =>
               cases h6 : s.sees 0 kTry with
               | true => exact stmt_try HE HAR n b HBL hbl W0 w c s hv h hn hv0 h0 h1 h2 h3 h4 h5 h6
               | false =>
                 cases h7 : s.sees 0 sSuper with
                 | false => exact stmt_plain HE HAR n b HBL hbl W0 w c s hv h hn hv0 h0 h1 h2 h3 h4 h5 h6 h7
                 | true =>
                   cases h8 : s.sees 1 sOpen with
                   | true => exact stmt_super HE HAR n b HBL hbl W0 w c s hv h hn hv0 h0 h1 h2 h3 h4 h5 h6 h7 h8
                   | false => exact stmt_plainS HE HAR n b HBL hbl W0 w c s hv h hn hv0 h0 h1 h2 h3 h4 h5 h6 h7 h8
end
section
open Go.RowKit
theorem Rd.lated {W0 w : World} {c : Nat} {s : RS} (h : Rd W0 c s w) (k t : Int) :
   Mv W0 c (if s.lc = 0 then { s with lc := k, la := t } else s) w (if s.lc = 0 then ((w.alloc (.cells #[.int .i64 s.lc, .int .i64 s.la] 57)).setCell ⟨c, 5, none⟩ (.int .i64 k)).setCell ⟨c, 6, none⟩ (.int .i64 t) else w.alloc (.cells #[.int .i64 s.lc, .int .i64 s.la] 57)) := by
 have hb := (Below.refl _ w).alloc (Nat.le_refl _) (.cells #[.int .i64 s.lc, .int .i64 s.la] 57)
 have hm := Mv.below hb h
 split
 · obtain ⟨hg, h1, h2, v, hw, hx⟩ := hm
   refine ⟨(hg.trans (grown_setc _ _ _ _)).trans (grown_setc _ _ _ _), (h1.setCell h2 _).setCell h2 _, h2, v, hw, ?_⟩
   have := (hx.set 5 (.int .i64 k)).set 6 (.int .i64 t)
   simpa using this
 · exact hm
theorem late_any (W0 w : World) (c : Nat) (s : RS) (a : Int) (h : Rd W0 c s w) : Calls Tryz.prog 51 #[.pointer (some ⟨c, 5, none⟩), .int .i64 3, .int .i64 a] w fun e w' => e = .returned (.tuple #[]) ∧ Mv W0 c (s.lateN a) w w' := by
 obtain ⟨A, cap, hw, hm, hx⟩ := h.cells
 have c5 := hx.cell 5; have c6 := hx.cell 6; have f5 := hx.fro 5; have f6 := hx.fro 6
 simp only [List.getElem?_toArray, List.getElem?_cons_succ, List.getElem?_cons_zero] at c5 c6
 refine (note_any w c 5 s.lc s.la 3 a c5 c6 f5 f6).mono ?_
 rintro e w' ⟨rfl, rfl⟩
 exact ⟨rfl, h.lated 3 a⟩
def SpecD (n : Nat) : Prop := ∀ (W0 w : World) (c : Nat) (s : RS) (ct : Bool), Vars W0 → Rd W0 c s w → enoughS n (.body ct) s → Calls Tryz.prog 95 #[.pointer (some ⟨c, 0, none⟩), .bool ct] w (BlC W0 c w (runS n (.body ct) s))
theorem block_of (n : Nat) (IH : SpecD n) : SpecK n (runS n (.body false)) := by
 intro W0 w c s hv h hn
 have HX := Lib.hid (IH W0 w c s false hv h hn)
 obtain ⟨R, hR⟩ : ∃ R, runS n (.body false) s = R := ⟨_, rfl⟩
 rw [hR] at HX ⊢
 clear hR hn h hv IH
 go_enter Tryz.func96, Tryz.ntmps96
 go_wp2_with fail
 refine HX.out.mono ?_
 clear HX
 rintro e w2 ⟨v, ys, rfl, hf, hq, hm⟩
 obtain ⟨A, cap, rfl⟩ := fk_len hf
 have HF := Lib.hid hf; have HQ := Lib.hid hq; have HM := Lib.hid hm
 clear hf hq hm
 go_wp2_with fail
 go_ret
 exact ⟨_, ys, rfl, HF.out, HQ.out, HM.out⟩
theorem body_false (HE : ExAny) (HAR : ArAny) (n : Nat) (IH : ∀ m, m ≤ n → SpecD m) (W0 w : World) (c : Nat) (s : RS) (hv : Vars W0) (h : Rd W0 c s w) (hn : enoughS (n + 1) (.body false) s) : Calls Tryz.prog 95 #[.pointer (some ⟨c, 0, none⟩), .bool false] w (BlC W0 c w (runS (n + 1) (.body false) s)) := by
 obtain ⟨R, hR⟩ : ∃ R, runS n (.loop false []) (s.enter sBra) = R := ⟨_, rfl⟩
 have hRR : runS (n + 1) (.body false) s = (R.1, R.2.leave sKet) := by simp only [runS, hR]
 have hen : enoughS n (.loop false []) (s.enter sBra) := by have := len_enter s sBra; simp only [enoughS, Ms.rank] at hn ⊢; omega
 have hlt := h.lt
 have hle0 := h.le
 have HN := Lib.hid (enter_any W0 w c s sBra h)
 have HLV : Hid (∀ w', Rd W0 c R.2 w' → Calls Tryz.prog 119 #[.pointer (some ⟨c, 0, none⟩), .string sKet] w' fun e w'' => e = .returned (.tuple #[]) ∧ Mv W0 c (R.2.leave sKet) w' w'') := by
   show ∀ w', _
   intro w' h'; exact leave_any W0 w' c _ sKet h'
 rw [hRR]
 have HRUN := Lib.hid hR
 have HEN := Lib.hid hen
 have HIH := Lib.hid IH
 have HV := Lib.hid hv
 have HHE := Lib.hid HE
 have HHA := Lib.hid HAR
 obtain ⟨i0, hi, hz0, hz1, hz2⟩ := info_parts Tryz.infoSt
 clear hRR hR hen hn h IH hv HE HAR
 go_enter Tryz.func95, Tryz.ntmps95
 go_wp2_with fail
 refine HN.out.mono ?_
 clear HN
 rintro e w2 ⟨rfl, hm⟩
 have HM := Lib.hid hm
 have hfew := hm.2.few
 clear hm
 go_wp2_with fail
 go_loopw [5] (fun v5 wr => ∃ (m : Nat) (acc ys : List Nd) (s' : RS), m ≤ n ∧ runS m (.loop false acc) s' = R ∧ enoughS m (.loop false acc) s' ∧ OwnT .st 144 w.heap.size none wr v5 ys ∧ bareL ys = bareL acc ∧ ys.length + s'.len ≤ 1000001 ∧ Mv W0 c s' w wr) (fun v5 wr => lenAt wr c)
 case atStart => exact ⟨n, [], [], s.enter sBra, Nat.le_refl _, HRUN.out, HEN.out, OwnT.nil, rfl, by simp; omega, HM.out⟩
 case round =>
   obtain ⟨m, acc, ys, s', hmn, hrun, hen, ho, hbr, hbd, hm⟩ := hrel
   obtain ⟨m, rfl⟩ : ∃ m', m = m' + 1 := ⟨m - 1, by simp only [enoughS, Ms.rank] at hen; omega⟩
   have HU := Lib.hid (until_any W0 wr c s' sKet hm.2)
   have hla := lenAt_of hm.2
   cases hun : s'.until sKet with
   | false =>
     have hR : runS (m + 1) (.loop false acc) s' = (acc, s') := by simp only [runS, hun]; simp
     rw [hR] at hrun
     rw [hun] at HU
     have HM3 := Lib.hid hm
     have HO3 := Lib.hid ho.fk
     have HB3 := Lib.hid hbr
     subst hrun
     obtain ⟨A3, cap3, rfl⟩ := ho.form
     clear hR hun hm ho hbr hla hen hbd
     go_wp2_with fail
     refine HU.out.mono ?_
     clear HU
     rintro e w5 ⟨rfl, rfl⟩
     go_wp2_with fail
     refine (HLV.out _ HM3.out.2).mono ?_
     clear HLV
     rintro e w6 ⟨rfl, hm⟩
     have HM4 := Lib.hid hm
     clear hm
     go_wp2_with fail
     go_ret
     exact ⟨_, ys, rfl, HO3.out.grown HM4.out.1 hlt, HB3.out, HM3.out.trans HM4.out⟩
   | true =>
     rw [hun] at HU
     obtain ⟨r, hr⟩ : ∃ r, stS (runS m (.body false)) s' = r := ⟨_, rfl⟩
     have hlab : acc.length = ys.length := (len_of_bare hbr).symm
     obtain ⟨fit, hfit⟩ : ∃ fit, fitsS r.1 false = fit := ⟨_, rfl⟩
     have hR : runS (m + 1) (.loop false acc) s' = runS m (.loop false (acc ++ [r.1])) (if fit = true then r.2 else r.2.lateN s'.at) := by simp only [runS, hun, if_true, hr, Bool.false_and, hfit]
     rw [hR] at hrun
     have h1 : 1 ≤ s'.len := by
       cases hw : s'.ws with
       | nil => simp [RS.until, hw] at hun
       | cons x l => simp [RS.len, hw]
     have hm1 : 1 ≤ m := by simp only [enoughS, Ms.rank] at hen; omega
     have h3 : r.2.len ≤ s'.len - 1 := by rw [← hr]; exact len_stS (fun q => len_body m false q hm1) s'
     have hbl : ∀ q, (runS m (.body false) q).2.len ≤ q.len := fun q => (runS_len m _ q).1
     have hgd : goodS r.1 := by rw [← hr]; exact good_stS _ _
     have HST := Lib.hid (stmt_of HHE.out HHA.out m (runS m (.body false)) (block_of m (HIH.out m (by omega))) hbl W0 wr c s' HV.out hm.2 (by simp only [enoughS, Ms.rank] at hen; omega))
     rw [hr] at HST
     have HAT := Lib.hid (at_any W0 wr c s' hm.2)
     obtain ⟨av, hav⟩ : ∃ av, s'.at = av := ⟨_, rfl⟩
     rw [hav] at hrun HAT
     have HM3 := Lib.hid hm
     have HO3 := Lib.hid ho
     have HB3 := Lib.hid hbr
     have hws : w.heap.size ≤ wr.heap.size := hm.1.size
     obtain ⟨A0, cap0, rfl⟩ := ho.form
     clear hR hr hm ho hbr hun hbl hav hlab
     go_wp2_with fail
     refine HU.out.mono ?_
     clear HU
     rintro e w3 ⟨rfl, rfl⟩
     go_wp2_with fail
     refine HAT.out.mono ?_
     clear HAT
     rintro e w3 ⟨rfl, rfl⟩
     go_wp2_with fail
     refine HST.out.mono ?_
     clear HST
     intro e w5 hst
     obtain ⟨k, m', ty, nm, A1, A2, A3, A4, c1, c2, c3, c4, l1, l2, l3, l4, rfl, hk, hm⟩ := hst.open
     clear hst
     obtain ⟨W6, hW6⟩ : ∃ W, w5.alloc (.cells #[.int .i64 k, .int .i32 m', .string ty, .string nm, .slice A1 l1.length c1, .slice A2 l2.length c2, .slice A3 l3.length c3, .slice A4 l4.length c4, .int .i64 0] 144) = W := ⟨_, rfl⟩
     have hb6 : Below w5.heap.size w5 W6 := by rw [← hW6]; exact (Below.refl _ _).alloc (Nat.le_refl _) _
     have hl6 : Bx W6 w5.heap.size #[.int .i64 k, .int .i32 m', .string ty, .string nm, .slice A1 l1.length c1, .slice A2 l2.length c2, .slice A3 l3.length c3, .slice A4 l4.length c4, .int .i64 0] 144 := by rw [← hW6]; exact Bx.new _ _ _
     have hk6 := hk.below hb6
     have hrw : Rw W6 .ex (.slice A1 l1.length c1) l1 := by
       have := hk6.2.1 W6 (fun _ _ _ _ _ hu => hu)
       rw [Kd] at this
       exact this.2.1.1
     have HFT := Lib.hid (fitsP_any W6 k m' ty nm A1 A2 A3 A4 c1 c2 c3 c4 l1 l2 l3 l4 false hrw (good_bare hk.2.2 hgd))
     rw [fitsS_bare hk.2.2 false, hfit] at HFT
     have HM6 := Lib.hid ((HM3.out.trans hm).trans (Mv.below hb6 hm.2))
     have HO6 := Lib.hid ((HO3.out.grown hm.1 hlt).below hb6)
     have HK6 := Lib.hid hk6
     have HL6 := Lib.hid hl6
     have hs5 := hm.1.size
     have hs6 := hb6.size
     subst hW6
     clear hm hk hk6 hl6 hb6 hrw hgd hfit
     obtain ⟨a0, a1, a2, a3, a4, a5, a6, a7, a8⟩ := HL6.out.all_9
     go_wp2_with fail
     refine HFT.out.mono ?_
     clear HFT a0 a1 a2 a3 a4 a5 a6 a7 a8
     rintro e w7 ⟨rfl, hb⟩
     have HM7 := Lib.hid (HM6.out.trans (Mv.below hb HM6.out.2))
     have HO7 := Lib.hid (HO6.out.below hb)
     have HK7 := Lib.hid (HK6.out.below hb)
     have HL7 := Lib.hid (HL6.out.next hb)
     have hs7 := hb.size
     clear hb HM6 HO6 HK6 HL6
     have hsz5 : w5.heap.size < w7.heap.size := HL7.out.lt
     cases fit with
     | true =>
       simp only [if_true, Bool.false_eq_true, if_false] at hrun
       have hba : Below w7.heap.size w7 (w7.alloc (.cells #[.int .i64 k, .int .i32 m', .string ty, .string nm, .slice A1 l1.length c1, .slice A2 l2.length c2, .slice A3 l3.length c3, .slice A4 l4.length c4, .int .i64 0] 144)) := (Below.refl _ _).alloc (Nat.le_refl _) _
       have HY := Lib.hid (OwnT.one (T := 144) HK7.out (show wr.heap.size ≤ w7.heap.size by omega))
       simp only [cellsN] at HY
       have HO9 := Lib.hid (HO7.out.below hba)
       have HM9 := Lib.hid (HM7.out.trans (Mv.below hba HM7.out.2))
       have HB9 := Lib.hid HK7.out.2.2
       have hen2 : enoughS m (.loop false (acc ++ [r.1])) r.2 := by simp only [enoughS, Ms.rank] at hen ⊢; omega
       have HRN := Lib.hid hrun
       have HE9 := Lib.hid hen2
       have hwz : w.heap.size ≤ (w7.alloc (.cells #[.int .i64 k, .int .i32 m', .string ty, .string nm, .slice A1 l1.length c1, .slice A2 l2.length c2, .slice A3 l3.length c3, .slice A4 l4.length c4, .int .i64 0] 144)).heap.size := Nat.le_trans (by omega) hba.size
       obtain ⟨a0, a1, a2, a3, a4, a5, a6, a7, a8⟩ := HL7.out.all_9
       have HOL := HO3.out.lt
       clear hba hen hen2 hrun
       go_wp2_with (at_builtin; refine append_any rfl (.tmp 30) (.tmp 32) 50 rfl w.heap.size 144 i0 _ 9 152 Tryz.underlying50 hi hz0 hz1 hz2 rfl (by decide) _ _ _ rfl HO9.out.1 wr.heap.size _ _ _ rfl HY.out.1 HY.out.one' ?c3 ?c4 hwz ?_)
       case c3 => unfold maxLen; simp; omega
       case c4 => simp; omega
       intro v2 w10 hown2 hgrow hat
       have HN := Lib.hid (OwnT.app HO9.out HY.out hws (fun k hk => (HOL k hk).2) (by simp) hown2 hgrow (hat.imp id fun e => by rw [e]; simp) (by simp; omega))
       have HMM := Lib.hid (Mv.row HM9.out hgrow (fun k hk => Nat.ne_of_gt (Nat.lt_of_lt_of_le hlt (HOL k hk).1)) (fun k hk => (HOL k hk).1) hlt)
       have HBB : Hid (bareL (ys ++ [.st k m' ty nm (.slice A1 l1.length c1) (.slice A2 l2.length c2) (.slice A3 l3.length c3) (.slice A4 l4.length c4) l1 l2 l3 l4 0]) = bareL (acc ++ [r.1])) := Lib.hid (by rw [bareL_append, bareL_append, HB3.out]; simp only [bareL]; rw [HB9.out])
       clear hown2 hgrow hat
       go_wp2_with fail
       go_roundw
       case rel => exact ⟨m, _, _, r.2, by omega, HRN.out, HE9.out, HN.out, HBB.out, by simp; omega, HMM.out⟩
       case measure => rw [hla, lenAt_of HMM.out.2]; omega
     | false =>
       simp only [if_true, Bool.false_eq_true, if_false] at hrun
       have HLN := Lib.hid (late_any W0 w7 c r.2 av HM7.out.2)
       go_wp2_with fail
       refine HLN.out.mono ?_
       clear HLN
       rintro e w8 ⟨rfl, hm⟩
       have HM8 := Lib.hid (HM7.out.trans hm)
       have HO8 := Lib.hid (HO7.out.grown hm.1 hlt)
       have HK8 := Lib.hid (HK7.out.grown hm.1 (.inl (by omega)))
       have HL8 := Lib.hid (Bx.grown HL7.out hm.1 (by omega))
       have hs8 := hm.1.size
       clear hm
       have h4 : (r.2.lateN av).len ≤ s'.len - 1 := by rw [len_late]; exact h3
       have hba : Below w8.heap.size w8 (w8.alloc (.cells #[.int .i64 k, .int .i32 m', .string ty, .string nm, .slice A1 l1.length c1, .slice A2 l2.length c2, .slice A3 l3.length c3, .slice A4 l4.length c4, .int .i64 0] 144)) := (Below.refl _ _).alloc (Nat.le_refl _) _
       have HY := Lib.hid (OwnT.one (T := 144) HK8.out (show wr.heap.size ≤ w8.heap.size by omega))
       simp only [cellsN] at HY
       have HO9 := Lib.hid (HO8.out.below hba)
       have HM9 := Lib.hid (HM8.out.trans (Mv.below hba HM8.out.2))
       have HB9 := Lib.hid HK8.out.2.2
       have hen2 : enoughS m (.loop false (acc ++ [r.1])) (r.2.lateN av) := by simp only [enoughS, Ms.rank] at hen ⊢; omega
       have HRN := Lib.hid hrun
       have HE9 := Lib.hid hen2
       have hwz : w.heap.size ≤ (w8.alloc (.cells #[.int .i64 k, .int .i32 m', .string ty, .string nm, .slice A1 l1.length c1, .slice A2 l2.length c2, .slice A3 l3.length c3, .slice A4 l4.length c4, .int .i64 0] 144)).heap.size := Nat.le_trans (by omega) hba.size
       obtain ⟨a0, a1, a2, a3, a4, a5, a6, a7, a8⟩ := HL8.out.all_9
       have HOL := HO3.out.lt
       clear hba hen hen2 hrun
       go_wp2_with (at_builtin; refine append_any rfl (.tmp 30) (.tmp 32) 50 rfl w.heap.size 144 i0 _ 9 152 Tryz.underlying50 hi hz0 hz1 hz2 rfl (by decide) _ _ _ rfl HO9.out.1 wr.heap.size _ _ _ rfl HY.out.1 HY.out.one' ?c3 ?c4 hwz ?_)
       case c3 => unfold maxLen; simp; omega
       case c4 => simp; omega
       intro v2 w10 hown2 hgrow hat
       have HN := Lib.hid (OwnT.app HO9.out HY.out hws (fun k hk => (HOL k hk).2) (by simp) hown2 hgrow (hat.imp id fun e => by rw [e]; simp) (by simp; omega))
       have HMM := Lib.hid (Mv.row HM9.out hgrow (fun k hk => Nat.ne_of_gt (Nat.lt_of_lt_of_le hlt (HOL k hk).1)) (fun k hk => (HOL k hk).1) hlt)
       have HBB : Hid (bareL (ys ++ [.st k m' ty nm (.slice A1 l1.length c1) (.slice A2 l2.length c2) (.slice A3 l3.length c3) (.slice A4 l4.length c4) l1 l2 l3 l4 0]) = bareL (acc ++ [r.1])) := Lib.hid (by rw [bareL_append, bareL_append, HB3.out]; simp only [bareL]; rw [HB9.out])
       clear hown2 hgrow hat
       go_wp2_with fail
       go_roundw
       case rel => exact ⟨m, _, _, (r.2.lateN av), by omega, HRN.out, HE9.out, HN.out, HBB.out, by simp; omega, HMM.out⟩
       case measure => rw [hla, lenAt_of HMM.out.2]; omega
theorem body_true (HE : ExAny) (HAR : ArAny) (n : Nat) (IH : ∀ m, m ≤ n → SpecD m) (W0 w : World) (c : Nat) (s : RS) (hv : Vars W0) (h : Rd W0 c s w) (hn : enoughS (n + 1) (.body true) s) : Calls Tryz.prog 95 #[.pointer (some ⟨c, 0, none⟩), .bool true] w (BlC W0 c w (runS (n + 1) (.body true) s)) := by
 obtain ⟨R, hR⟩ : ∃ R, runS n (.loop true []) (s.enter sBra) = R := ⟨_, rfl⟩
 have hRR : runS (n + 1) (.body true) s = (R.1, R.2.leave sKet) := by simp only [runS, hR]
 have hen : enoughS n (.loop true []) (s.enter sBra) := by have := len_enter s sBra; simp only [enoughS, Ms.rank] at hn ⊢; omega
 have hlt := h.lt
 have hle0 := h.le
 have HN := Lib.hid (enter_any W0 w c s sBra h)
 have HLV : Hid (∀ w', Rd W0 c R.2 w' → Calls Tryz.prog 119 #[.pointer (some ⟨c, 0, none⟩), .string sKet] w' fun e w'' => e = .returned (.tuple #[]) ∧ Mv W0 c (R.2.leave sKet) w' w'') := by
   show ∀ w', _
   intro w' h'; exact leave_any W0 w' c _ sKet h'
 rw [hRR]
 have HRUN := Lib.hid hR
 have HEN := Lib.hid hen
 have HIH := Lib.hid IH
 have HV := Lib.hid hv
 have HHE := Lib.hid HE
 have HHA := Lib.hid HAR
 obtain ⟨i0, hi, hz0, hz1, hz2⟩ := info_parts Tryz.infoSt
 clear hRR hR hen hn h IH hv HE HAR
 go_enter Tryz.func95, Tryz.ntmps95
 go_wp2_with fail
 refine HN.out.mono ?_
 clear HN
 rintro e w2 ⟨rfl, hm⟩
 have HM := Lib.hid hm
 have hfew := hm.2.few
 clear hm
 go_wp2_with fail
 go_loopw [5] (fun v5 wr => ∃ (m : Nat) (acc ys : List Nd) (s' : RS), m ≤ n ∧ runS m (.loop true acc) s' = R ∧ enoughS m (.loop true acc) s' ∧ OwnT .st 144 w.heap.size none wr v5 ys ∧ bareL ys = bareL acc ∧ ys.length + s'.len ≤ 1000001 ∧ Mv W0 c s' w wr) (fun v5 wr => lenAt wr c)
 case atStart => exact ⟨n, [], [], s.enter sBra, Nat.le_refl _, HRUN.out, HEN.out, OwnT.nil, rfl, by simp; omega, HM.out⟩
 case round =>
   obtain ⟨m, acc, ys, s', hmn, hrun, hen, ho, hbr, hbd, hm⟩ := hrel
   obtain ⟨m, rfl⟩ : ∃ m', m = m' + 1 := ⟨m - 1, by simp only [enoughS, Ms.rank] at hen; omega⟩
   have HU := Lib.hid (until_any W0 wr c s' sKet hm.2)
   have hla := lenAt_of hm.2
   cases hun : s'.until sKet with
   | false =>
     have hR : runS (m + 1) (.loop true acc) s' = (acc, s') := by simp only [runS, hun]; simp
     rw [hR] at hrun
     rw [hun] at HU
     have HM3 := Lib.hid hm
     have HO3 := Lib.hid ho.fk
     have HB3 := Lib.hid hbr
     subst hrun
     obtain ⟨A3, cap3, rfl⟩ := ho.form
     clear hR hun hm ho hbr hla hen hbd
     go_wp2_with fail
     refine HU.out.mono ?_
     clear HU
     rintro e w5 ⟨rfl, rfl⟩
     go_wp2_with fail
     refine (HLV.out _ HM3.out.2).mono ?_
     clear HLV
     rintro e w6 ⟨rfl, hm⟩
     have HM4 := Lib.hid hm
     clear hm
     go_wp2_with fail
     go_ret
     exact ⟨_, ys, rfl, HO3.out.grown HM4.out.1 hlt, HB3.out, HM3.out.trans HM4.out⟩
   | true =>
     rw [hun] at HU
     obtain ⟨r, hr⟩ : ∃ r, stS (runS m (.body false)) s' = r := ⟨_, rfl⟩
     have hlab : acc.length = ys.length := (len_of_bare hbr).symm
     obtain ⟨fq, hfq⟩ : ∃ fq, ((ys.length : Int) == 0) = fq := ⟨_, rfl⟩
     have hfe : (true && acc.isEmpty) = fq := by
       rw [← hfq, Bool.true_and]
       cases acc with
       | nil => simp only [List.length_nil] at hlab; rw [← hlab]; rfl
       | cons x l => simp only [List.length_cons] at hlab; rw [← hlab]; rfl
     obtain ⟨fit, hfit⟩ : ∃ fit, fitsS r.1 fq = fit := ⟨_, rfl⟩
     have hR : runS (m + 1) (.loop true acc) s' = runS m (.loop true (acc ++ [r.1])) (if fit = true then r.2 else r.2.lateN s'.at) := by simp only [runS, hun, if_true, hr, hfe, hfit]
     rw [hR] at hrun
     have h1 : 1 ≤ s'.len := by
       cases hw : s'.ws with
       | nil => simp [RS.until, hw] at hun
       | cons x l => simp [RS.len, hw]
     have hm1 : 1 ≤ m := by simp only [enoughS, Ms.rank] at hen; omega
     have h3 : r.2.len ≤ s'.len - 1 := by rw [← hr]; exact len_stS (fun q => len_body m false q hm1) s'
     have hbl : ∀ q, (runS m (.body false) q).2.len ≤ q.len := fun q => (runS_len m _ q).1
     have hgd : goodS r.1 := by rw [← hr]; exact good_stS _ _
     have HST := Lib.hid (stmt_of HHE.out HHA.out m (runS m (.body false)) (block_of m (HIH.out m (by omega))) hbl W0 wr c s' HV.out hm.2 (by simp only [enoughS, Ms.rank] at hen; omega))
     rw [hr] at HST
     have HAT := Lib.hid (at_any W0 wr c s' hm.2)
     obtain ⟨av, hav⟩ : ∃ av, s'.at = av := ⟨_, rfl⟩
     rw [hav] at hrun HAT
     have HM3 := Lib.hid hm
     have HO3 := Lib.hid ho
     have HB3 := Lib.hid hbr
     have hws : w.heap.size ≤ wr.heap.size := hm.1.size
     obtain ⟨A0, cap0, rfl⟩ := ho.form
     clear hR hr hm ho hbr hun hbl hav hlab
     go_wp2_with fail
     refine HU.out.mono ?_
     clear HU
     rintro e w3 ⟨rfl, rfl⟩
     go_wp2_with fail
     refine HAT.out.mono ?_
     clear HAT
     rintro e w3 ⟨rfl, rfl⟩
     go_wp2_with fail
     refine HST.out.mono ?_
     clear HST
     intro e w5 hst
     obtain ⟨k, m', ty, nm, A1, A2, A3, A4, c1, c2, c3, c4, l1, l2, l3, l4, rfl, hk, hm⟩ := hst.open
     clear hst
     obtain ⟨W6, hW6⟩ : ∃ W, w5.alloc (.cells #[.int .i64 k, .int .i32 m', .string ty, .string nm, .slice A1 l1.length c1, .slice A2 l2.length c2, .slice A3 l3.length c3, .slice A4 l4.length c4, .int .i64 0] 144) = W := ⟨_, rfl⟩
     have hb6 : Below w5.heap.size w5 W6 := by rw [← hW6]; exact (Below.refl _ _).alloc (Nat.le_refl _) _
     have hl6 : Bx W6 w5.heap.size #[.int .i64 k, .int .i32 m', .string ty, .string nm, .slice A1 l1.length c1, .slice A2 l2.length c2, .slice A3 l3.length c3, .slice A4 l4.length c4, .int .i64 0] 144 := by rw [← hW6]; exact Bx.new _ _ _
     have hk6 := hk.below hb6
     have hrw : Rw W6 .ex (.slice A1 l1.length c1) l1 := by
       have := hk6.2.1 W6 (fun _ _ _ _ _ hu => hu)
       rw [Kd] at this
       exact this.2.1.1
     have HFT := Lib.hid (fitsP_any W6 k m' ty nm A1 A2 A3 A4 c1 c2 c3 c4 l1 l2 l3 l4 fq hrw (good_bare hk.2.2 hgd))
     rw [fitsS_bare hk.2.2 fq, hfit] at HFT
     have HM6 := Lib.hid ((HM3.out.trans hm).trans (Mv.below hb6 hm.2))
     have HO6 := Lib.hid ((HO3.out.grown hm.1 hlt).below hb6)
     have HK6 := Lib.hid hk6
     have HL6 := Lib.hid hl6
     have hs5 := hm.1.size
     have hs6 := hb6.size
     subst hW6
     clear hm hk hk6 hl6 hb6 hrw hgd hfit
     obtain ⟨a0, a1, a2, a3, a4, a5, a6, a7, a8⟩ := HL6.out.all_9
     go_wp2_with fail
     refine HFT.out.mono ?_
     clear HFT a0 a1 a2 a3 a4 a5 a6 a7 a8
     rintro e w7 ⟨rfl, hb⟩
     have HM7 := Lib.hid (HM6.out.trans (Mv.below hb HM6.out.2))
     have HO7 := Lib.hid (HO6.out.below hb)
     have HK7 := Lib.hid (HK6.out.below hb)
     have HL7 := Lib.hid (HL6.out.next hb)
     have hs7 := hb.size
     clear hb HM6 HO6 HK6 HL6
     have hsz5 : w5.heap.size < w7.heap.size := HL7.out.lt
     cases fit with
     | true =>
       simp only [if_true, Bool.false_eq_true, if_false] at hrun
       have hba : Below w7.heap.size w7 (w7.alloc (.cells #[.int .i64 k, .int .i32 m', .string ty, .string nm, .slice A1 l1.length c1, .slice A2 l2.length c2, .slice A3 l3.length c3, .slice A4 l4.length c4, .int .i64 0] 144)) := (Below.refl _ _).alloc (Nat.le_refl _) _
       have HY := Lib.hid (OwnT.one (T := 144) HK7.out (show wr.heap.size ≤ w7.heap.size by omega))
       simp only [cellsN] at HY
       have HO9 := Lib.hid (HO7.out.below hba)
       have HM9 := Lib.hid (HM7.out.trans (Mv.below hba HM7.out.2))
       have HB9 := Lib.hid HK7.out.2.2
       have hen2 : enoughS m (.loop true (acc ++ [r.1])) r.2 := by simp only [enoughS, Ms.rank] at hen ⊢; omega
       have HRN := Lib.hid hrun
       have HE9 := Lib.hid hen2
       have hwz : w.heap.size ≤ (w7.alloc (.cells #[.int .i64 k, .int .i32 m', .string ty, .string nm, .slice A1 l1.length c1, .slice A2 l2.length c2, .slice A3 l3.length c3, .slice A4 l4.length c4, .int .i64 0] 144)).heap.size := Nat.le_trans (by omega) hba.size
       obtain ⟨a0, a1, a2, a3, a4, a5, a6, a7, a8⟩ := HL7.out.all_9
       have HOL := HO3.out.lt
       clear hba hen hen2 hrun
       go_wp2_with (at_builtin; refine append_any rfl (.tmp 30) (.tmp 32) 50 rfl w.heap.size 144 i0 _ 9 152 Tryz.underlying50 hi hz0 hz1 hz2 rfl (by decide) _ _ _ rfl HO9.out.1 wr.heap.size _ _ _ rfl HY.out.1 HY.out.one' ?c3 ?c4 hwz ?_)
       case c3 => unfold maxLen; simp; omega
       case c4 => simp; omega
       intro v2 w10 hown2 hgrow hat
       have HN := Lib.hid (OwnT.app HO9.out HY.out hws (fun k hk => (HOL k hk).2) (by simp) hown2 hgrow (hat.imp id fun e => by rw [e]; simp) (by simp; omega))
       have HMM := Lib.hid (Mv.row HM9.out hgrow (fun k hk => Nat.ne_of_gt (Nat.lt_of_lt_of_le hlt (HOL k hk).1)) (fun k hk => (HOL k hk).1) hlt)
       have HBB : Hid (bareL (ys ++ [.st k m' ty nm (.slice A1 l1.length c1) (.slice A2 l2.length c2) (.slice A3 l3.length c3) (.slice A4 l4.length c4) l1 l2 l3 l4 0]) = bareL (acc ++ [r.1])) := Lib.hid (by rw [bareL_append, bareL_append, HB3.out]; simp only [bareL]; rw [HB9.out])
       clear hown2 hgrow hat
       go_wp2_with fail
       go_roundw
       case rel => exact ⟨m, _, _, r.2, by omega, HRN.out, HE9.out, HN.out, HBB.out, by simp; omega, HMM.out⟩
       case measure => rw [hla, lenAt_of HMM.out.2]; omega
     | false =>
       simp only [if_true, Bool.false_eq_true, if_false] at hrun
       have HLN := Lib.hid (late_any W0 w7 c r.2 av HM7.out.2)
       go_wp2_with fail
       refine HLN.out.mono ?_
       clear HLN
       rintro e w8 ⟨rfl, hm⟩
       have HM8 := Lib.hid (HM7.out.trans hm)
       have HO8 := Lib.hid (HO7.out.grown hm.1 hlt)
       have HK8 := Lib.hid (HK7.out.grown hm.1 (.inl (by omega)))
       have HL8 := Lib.hid (Bx.grown HL7.out hm.1 (by omega))
       have hs8 := hm.1.size
       clear hm
       have h4 : (r.2.lateN av).len ≤ s'.len - 1 := by rw [len_late]; exact h3
       have hba : Below w8.heap.size w8 (w8.alloc (.cells #[.int .i64 k, .int .i32 m', .string ty, .string nm, .slice A1 l1.length c1, .slice A2 l2.length c2, .slice A3 l3.length c3, .slice A4 l4.length c4, .int .i64 0] 144)) := (Below.refl _ _).alloc (Nat.le_refl _) _
       have HY := Lib.hid (OwnT.one (T := 144) HK8.out (show wr.heap.size ≤ w8.heap.size by omega))
       simp only [cellsN] at HY
       have HO9 := Lib.hid (HO8.out.below hba)
       have HM9 := Lib.hid (HM8.out.trans (Mv.below hba HM8.out.2))
       have HB9 := Lib.hid HK8.out.2.2
       have hen2 : enoughS m (.loop true (acc ++ [r.1])) (r.2.lateN av) := by simp only [enoughS, Ms.rank] at hen ⊢; omega
       have HRN := Lib.hid hrun
       have HE9 := Lib.hid hen2
       have hwz : w.heap.size ≤ (w8.alloc (.cells #[.int .i64 k, .int .i32 m', .string ty, .string nm, .slice A1 l1.length c1, .slice A2 l2.length c2, .slice A3 l3.length c3, .slice A4 l4.length c4, .int .i64 0] 144)).heap.size := Nat.le_trans (by omega) hba.size
       obtain ⟨a0, a1, a2, a3, a4, a5, a6, a7, a8⟩ := HL8.out.all_9
       have HOL := HO3.out.lt
       clear hba hen hen2 hrun
       go_wp2_with (at_builtin; refine append_any rfl (.tmp 30) (.tmp 32) 50 rfl w.heap.size 144 i0 _ 9 152 Tryz.underlying50 hi hz0 hz1 hz2 rfl (by decide) _ _ _ rfl HO9.out.1 wr.heap.size _ _ _ rfl HY.out.1 HY.out.one' ?c3 ?c4 hwz ?_)
       case c3 => unfold maxLen; simp; omega
       case c4 => simp; omega
       intro v2 w10 hown2 hgrow hat
       have HN := Lib.hid (OwnT.app HO9.out HY.out hws (fun k hk => (HOL k hk).2) (by simp) hown2 hgrow (hat.imp id fun e => by rw [e]; simp) (by simp; omega))
       have HMM := Lib.hid (Mv.row HM9.out hgrow (fun k hk => Nat.ne_of_gt (Nat.lt_of_lt_of_le hlt (HOL k hk).1)) (fun k hk => (HOL k hk).1) hlt)
       have HBB : Hid (bareL (ys ++ [.st k m' ty nm (.slice A1 l1.length c1) (.slice A2 l2.length c2) (.slice A3 l3.length c3) (.slice A4 l4.length c4) l1 l2 l3 l4 0]) = bareL (acc ++ [r.1])) := Lib.hid (by rw [bareL_append, bareL_append, HB3.out]; simp only [bareL]; rw [HB9.out])
       clear hown2 hgrow hat
       go_wp2_with fail
       go_roundw
       case rel => exact ⟨m, _, _, (r.2.lateN av), by omega, HRN.out, HE9.out, HN.out, HBB.out, by simp; omega, HMM.out⟩
       case measure => rw [hla, lenAt_of HMM.out.2]; omega
theorem body_of (HE : ExAny) (HAR : ArAny) (n : Nat) (IH : ∀ m, m ≤ n → SpecD m) : SpecD (n + 1) := by
 intro W0 w c s ct hv h hn
 cases ct with
 | false => exact body_false HE HAR n IH W0 w c s hv h hn
 | true => exact body_true HE HAR n IH W0 w c s hv h hn
theorem body_all (HE : ExAny) (HAR : ArAny) : ∀ n, SpecD n := by
 intro n
 induction n using Nat.strongRecOn with
 | ind n ih =>
   cases n with
   | zero => intro W0 w c s ct hv h hn; simp only [enoughS, Ms.rank] at hn; omega
   | succ n => exact body_of HE HAR n fun m hm => ih m (by omega)
theorem bd_any (HE : ExAny) (HAR : ArAny) (W0 w : World) (c : Nat) (s : RS) (ct : Bool) (hv : Vars W0) (h : Rd W0 c s w) : Calls Tryz.prog 95 #[.pointer (some ⟨c, 0, none⟩), .bool ct] w (BlC W0 c w (bd ct s)) := body_all HE HAR (4 * s.len + 3) W0 w c s ct hv h (Nat.le_refl _)
theorem bk_any (HE : ExAny) (HAR : ArAny) (W0 w : World) (c : Nat) (s : RS) (hv : Vars W0) (h : Rd W0 c s w) : Calls Tryz.prog 96 #[.pointer (some ⟨c, 0, none⟩)] w (BlC W0 c w (bd false s)) := block_of _ (body_all HE HAR (4 * s.len + 3)) W0 w c s hv h (Nat.le_refl _)
end
end Go.Proofs.YtipcoglddfgopaaGreatDoor
