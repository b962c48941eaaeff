/- Parts of the proof: StB. -/
import Derived.Test.YtnbfajmdfkgebaaGreatDoorP10
import Derived.Test.YtnbfajmdfkgebaaGreatDoorP31
set_option maxHeartbeats 4000000
set_option maxRecDepth 100000
set_option linter.unusedSimpArgs false
set_option linter.unusedVariables false
namespace Go.Proofs.YtnbfajmdfkgebaaGreatDoor
open Go.RowKit
theorem len_at3' {b : Rb} (hb : ∀ s, (b s).2.len ≤ s.len) (s : RS) : (at3 b s).len ≤ s.len := by
 have d1 := hb s
 have d2 := len_need (b s).2 kCatch
 have d3 := len_need ((b s).2.need kCatch) sOpen
 have d4 := len_class (at1 b s)
 have d5 := len_name (at2 b s)
 have d6 := len_need (at2 b s).name sShut
 have e1 : (at1 b s).len = (((b s).2.need kCatch).need sOpen).len := rfl
 have e2 : (at2 b s).len = (at1 b s).class.len := rfl
 show ((at2 b s).name.need sShut).len ≤ _
 omega
def SpecK (n : Nat) (b : Rb) : Prop := ∀ (W0 w : World) (c : Nat) (s : RS), Vars W0 → Rd W0 c s w → 4 * s.len + 3 ≤ n → Calls Tryz.prog 119 #[.pointer (some ⟨c, 0, none⟩)] w (BlC W0 c w (b s))
theorem choice_0 (HE : ExAny) (n : Nat) (b : Rb) (HBL : SpecK n b) (hbl : ∀ s, (b s).2.len ≤ s.len) (W0 w : World) (c : Nat) (s : RS) (hv : Vars W0) (h : Rd W0 c s w) (hn : 4 * s.len + 3 ≤ n) (hel : (b (cond s).2).2.sees 0 kElse = false) : Calls Tryz.prog 156 #[.pointer (some ⟨c, 0, none⟩)] w (StC W0 c w (choS b s)) := by
 obtain ⟨q, hq⟩ : ∃ q, cond s = q := ⟨_, rfl⟩
 rw [hq] at hel
 obtain ⟨a, ha⟩ : ∃ a, b q.2 = a := ⟨_, rfl⟩
 rw [ha] at hel
 have hl1 : q.2.len ≤ s.len - 1 := by rw [← hq]; exact len_cond s
 have hl2 : a.2.len ≤ q.2.len := by rw [← ha]; exact hbl _
 have HRE : Hid (choS b s = (mkS 4 0 E0 E0 q.1 a.1 [] [], a.2)) := Lib.hid (by simp only [choS, hq, ha, hel]; simp)
 obtain ⟨RR, hRR⟩ : ∃ RR, choS b s = RR := ⟨_, rfl⟩
 rw [hRR] at HRE ⊢
 have hlt := h.lt
 have hle0 := h.le
 obtain ⟨W1, hW1⟩ : ∃ W1, w.alloc (.cells #[.int .i64 0, .int .i32 0, .string ⟨#[]⟩, .string ⟨#[]⟩, .slice none 0 0, .slice none 0 0, .slice none 0 0, .slice none 0 0, .int .i64 0] 118) = W1 := ⟨_, rfl⟩
 have hb : Below w.heap.size w W1 := by rw [← hW1]; exact (Below.refl _ w).alloc (Nat.le_refl _) _
 have hx : Bx W1 w.heap.size #[.int .i64 0, .int .i32 0, .string ⟨#[]⟩, .string ⟨#[]⟩, .slice none 0 0, .slice none 0 0, .slice none 0 0, .slice none 0 0, .int .i64 0] 118 := by rw [← hW1]; exact Bx.new _ _ _
 have hz : W1.heap.size = w.heap.size + 1 := by rw [← hW1]; simp
 have HM := Lib.hid (Mv.below hb h)
 have HB := Lib.hid hx
 clear hb hx
 have HC : Hid (∀ w', Rd W0 c (s) w' → Calls Tryz.prog 157 #[.pointer (some ⟨c, 0, none⟩)] w' (LsC W0 c w' q)) := by
   show ∀ w', _
   intro w' h'; have := cond_of HE W0 w' c _ hv h'; rw [hq] at this; exact this
 have HA : Hid (∀ w', Rd W0 c (q.2) w' → Calls Tryz.prog 119 #[.pointer (some ⟨c, 0, none⟩)] w' (BlC W0 c w' a)) := by
   show ∀ w', _
   intro w' h'; have := HBL W0 w' c _ hv h' (by omega); rw [ha] at this; exact this
 have HT : Hid (∀ w', Rd W0 c a.2 w' → Calls Tryz.prog 57 #[.pointer (some ⟨c, 0, none⟩), .string kElse] w' fun e w'' => e = .returned (.bool false) ∧ w' = w'') := by
   show ∀ w', _
   intro w' h'; exact take_false W0 w' c _ _ h' hel
 clear hRR hq ha hl1 hl2 h hv hn hel HE HBL hbl
 go_enter Tryz.func156, Tryz.ntmps156
 go_wp2_with fail
 refine (HC.out _ HM.out.2).mono ?_
 clear HC hW1
 rintro e w2 ⟨v1, ys1, rfl, ho, hq1, hm⟩
 obtain ⟨A1, c1, rfl⟩ := ho.form
 have hf1 := (FkL.x ho.own.fk).mono (show w.heap.size + 1 ≤ _ by omega)
 have HQ1 := Lib.hid hq1
 clear ho hq1
 replace HM := Lib.hid (HM.out.trans hm)
 replace HB := Lib.hid (Bx.grown HB.out hm.1 (by omega))
 have hs2 := hm.1.size
 clear hm
 have HF1 := Lib.hid hf1
 clear hf1
 go_wp2_with fail
 refine (HA.out _ HM.out.2).mono ?_
 clear HA
 rintro e w3 ⟨v2, ys2, rfl, ho, hq2, hm⟩
 obtain ⟨A2, c2, rfl⟩ := fk_len ho
 have hf2 := (FkL.x ho).mono (show w.heap.size + 1 ≤ _ by omega)
 have HQ2 := Lib.hid hq2
 clear ho hq2
 replace HM := Lib.hid (HM.out.trans hm)
 replace HB := Lib.hid (Bx.grown HB.out hm.1 (by omega))
 replace HF1 := Lib.hid (HF1.out.grown hm.1 (.inl (by omega)))
 have hs3 := hm.1.size
 clear hm
 have HF2 := Lib.hid hf2
 clear hf2
 obtain ⟨W4, hW4⟩ : ∃ W, w3.alloc (.cells #[.int .i64 4, .int .i32 0, .string ⟨#[]⟩, .string ⟨#[]⟩, .slice A1 ys1.length c1, .slice A2 ys2.length c2, .slice none 0 0, .slice none 0 0, .int .i64 0] 118) = W := ⟨_, rfl⟩
 have hb : Below w3.heap.size w3 W4 := by rw [← hW4]; exact (Below.refl _ _).alloc (Nat.le_refl _) _
 have HL : Hid (Bx W4 w3.heap.size #[.int .i64 4, .int .i32 0, .string ⟨#[]⟩, .string ⟨#[]⟩, .slice A1 ys1.length c1, .slice A2 ys2.length c2, .slice none 0 0, .slice none 0 0, .int .i64 0] 118) := Lib.hid (by rw [← hW4]; exact Bx.new _ _ _)
 have hz3 : W4.heap.size = w3.heap.size + 1 := by rw [← hW4]; simp
 replace HM := Lib.hid (HM.out.trans (Mv.below hb HM.out.2))
 replace HB := Lib.hid (HB.out.next hb)
 replace HF1 := Lib.hid (HF1.out.excl hb (Nat.le_refl _))
 replace HF2 := Lib.hid (HF2.out.excl hb (Nat.le_refl _))
 clear hb
 subst hW4
 go_wp2_with fail
 refine (HT.out _ HM.out.2).mono ?_
 clear HT
 rintro e w5 ⟨rfl, rfl⟩
 obtain ⟨r0, r1, r2, r3, r4, r5, r6, r7, r8⟩ := HB.out.all_9
 have g0 := HB.out.fro 0; have g1 := HB.out.fro 1; have g2 := HB.out.fro 2; have g3 := HB.out.fro 3; have g4 := HB.out.fro 4; have g5 := HB.out.fro 5; have g6 := HB.out.fro 6; have g7 := HB.out.fro 7; have g8 := HB.out.fro 8
 obtain ⟨x0, x1, x2, x3, x4, x5, x6, x7, x8⟩ := HL.out.all_9
 have HG := Lib.hid (grown_9 (w3.alloc (.cells #[.int .i64 4, .int .i32 0, .string ⟨#[]⟩, .string ⟨#[]⟩, .slice A1 ys1.length c1, .slice A2 ys2.length c2, .slice none 0 0, .slice none 0 0, .int .i64 0] 118)) w.heap.size (.int .i64 4) (.int .i32 0) (.string ⟨#[]⟩) (.string ⟨#[]⟩) (.slice A1 ys1.length c1) (.slice A2 ys2.length c2) (.slice none 0 0) (.slice none 0 0) (.int .i64 0))
 go_wp2_with fail
 obtain ⟨z0, z1, z2, z3, z4, z5, z6, z7, z8⟩ := (HB.out.to_9 (.int .i64 4) (.int .i32 0) (.string ⟨#[]⟩) (.string ⟨#[]⟩) (.slice A1 ys1.length c1) (.slice A2 ys2.length c2) (.slice none 0 0) (.slice none 0 0) (.int .i64 0)).all_9
 (try simp only [Exit.inBlock, Exit.then])
 refine bodyPost_ret (v := .agg #[.int .i64 4, .int .i32 0, .string ⟨#[]⟩, .string ⟨#[]⟩, .slice A1 ys1.length c1, .slice A2 ys2.length c2, .slice none 0 0, .slice none 0 0, .int .i64 0]) (by simp [results, Tryz.results156, go_sem, z0, z1, z2, z3, z4, z5, z6, z7, z8]) rfl ?_
 rw [HRE.out]
 refine ⟨.st (4) (0) ⟨#[]⟩ ⟨#[]⟩ (.slice A1 ys1.length c1) (.slice A2 ys2.length c2) (.slice none 0 0) (.slice none 0 0) ys1 ys2 [] [] 0, rfl, ⟨_, _, _, _, A1, A2, none, none, c1, c2, 0, 0, ys1, ys2, [], [], rfl⟩, ?_, Mv.over (Below.refl _ _) HM.out HG.out (Nat.le_refl _) hlt⟩
 exact ((st_node (B := w.heap.size + 1) ⟨Nat.zero_le _, Nat.zero_le _⟩ HF1.out.fk HF2.out.fk (FkL.nil _ _ _) (FkL.nil _ _ _) HQ1.out HQ2.out rfl rfl).grown HG.out (.inl (by omega))).mono (by omega)
theorem choice_1 (HE : ExAny) (n : Nat) (b : Rb) (HBL : SpecK n b) (hbl : ∀ s, (b s).2.len ≤ s.len) (W0 w : World) (c : Nat) (s : RS) (hv : Vars W0) (h : Rd W0 c s w) (hn : 4 * s.len + 3 ≤ n) (hel : (b (cond s).2).2.sees 0 kElse = true) : Calls Tryz.prog 156 #[.pointer (some ⟨c, 0, none⟩)] w (StC W0 c w (choS b s)) := by
 obtain ⟨q, hq⟩ : ∃ q, cond s = q := ⟨_, rfl⟩
 rw [hq] at hel
 obtain ⟨a, ha⟩ : ∃ a, b q.2 = a := ⟨_, rfl⟩
 rw [ha] at hel
 have hl1 : q.2.len ≤ s.len - 1 := by rw [← hq]; exact len_cond s
 have hl2 : a.2.len ≤ q.2.len := by rw [← ha]; exact hbl _
 obtain ⟨d, hd⟩ : ∃ d, b a.2.skip = d := ⟨_, rfl⟩
 have hl3 := len_skip a.2
 have HRE : Hid (choS b s = (mkS 4 0 E0 E0 q.1 a.1 d.1 [], d.2)) := Lib.hid (by simp only [choS, hq, ha, hel, hd, if_true])
 obtain ⟨RR, hRR⟩ : ∃ RR, choS b s = RR := ⟨_, rfl⟩
 rw [hRR] at HRE ⊢
 have hlt := h.lt
 have hle0 := h.le
 obtain ⟨W1, hW1⟩ : ∃ W1, w.alloc (.cells #[.int .i64 0, .int .i32 0, .string ⟨#[]⟩, .string ⟨#[]⟩, .slice none 0 0, .slice none 0 0, .slice none 0 0, .slice none 0 0, .int .i64 0] 118) = W1 := ⟨_, rfl⟩
 have hb : Below w.heap.size w W1 := by rw [← hW1]; exact (Below.refl _ w).alloc (Nat.le_refl _) _
 have hx : Bx W1 w.heap.size #[.int .i64 0, .int .i32 0, .string ⟨#[]⟩, .string ⟨#[]⟩, .slice none 0 0, .slice none 0 0, .slice none 0 0, .slice none 0 0, .int .i64 0] 118 := by rw [← hW1]; exact Bx.new _ _ _
 have hz : W1.heap.size = w.heap.size + 1 := by rw [← hW1]; simp
 have HM := Lib.hid (Mv.below hb h)
 have HB := Lib.hid hx
 clear hb hx
 have HC : Hid (∀ w', Rd W0 c (s) w' → Calls Tryz.prog 157 #[.pointer (some ⟨c, 0, none⟩)] w' (LsC W0 c w' q)) := by
   show ∀ w', _
   intro w' h'; have := cond_of HE W0 w' c _ hv h'; rw [hq] at this; exact this
 have HA : Hid (∀ w', Rd W0 c (q.2) w' → Calls Tryz.prog 119 #[.pointer (some ⟨c, 0, none⟩)] w' (BlC W0 c w' a)) := by
   show ∀ w', _
   intro w' h'; have := HBL W0 w' c _ hv h' (by omega); rw [ha] at this; exact this
 have HD : Hid (∀ w', Rd W0 c (a.2.skip) w' → Calls Tryz.prog 119 #[.pointer (some ⟨c, 0, none⟩)] w' (BlC W0 c w' d)) := by
   show ∀ w', _
   intro w' h'; have := HBL W0 w' c _ hv h' (by omega); rw [hd] at this; exact this
 have HT : Hid (∀ w', Rd W0 c a.2 w' → Calls Tryz.prog 57 #[.pointer (some ⟨c, 0, none⟩), .string kElse] w' fun e w'' => e = .returned (.bool true) ∧ Mv W0 c a.2.skip w' w'') := by
   show ∀ w', _
   intro w' h'; exact take_true W0 w' c _ _ h' hel
 clear hRR hq ha hl1 hl2 h hv hn hel HE HBL hbl hd hl3
 go_enter Tryz.func156, Tryz.ntmps156
 go_wp2_with fail
 refine (HC.out _ HM.out.2).mono ?_
 clear HC hW1
 rintro e w2 ⟨v1, ys1, rfl, ho, hq1, hm⟩
 obtain ⟨A1, c1, rfl⟩ := ho.form
 have hf1 := (FkL.x ho.own.fk).mono (show w.heap.size + 1 ≤ _ by omega)
 have HQ1 := Lib.hid hq1
 clear ho hq1
 replace HM := Lib.hid (HM.out.trans hm)
 replace HB := Lib.hid (Bx.grown HB.out hm.1 (by omega))
 have hs2 := hm.1.size
 clear hm
 have HF1 := Lib.hid hf1
 clear hf1
 go_wp2_with fail
 refine (HA.out _ HM.out.2).mono ?_
 clear HA
 rintro e w3 ⟨v2, ys2, rfl, ho, hq2, hm⟩
 obtain ⟨A2, c2, rfl⟩ := fk_len ho
 have hf2 := (FkL.x ho).mono (show w.heap.size + 1 ≤ _ by omega)
 have HQ2 := Lib.hid hq2
 clear ho hq2
 replace HM := Lib.hid (HM.out.trans hm)
 replace HB := Lib.hid (Bx.grown HB.out hm.1 (by omega))
 replace HF1 := Lib.hid (HF1.out.grown hm.1 (.inl (by omega)))
 have hs3 := hm.1.size
 clear hm
 have HF2 := Lib.hid hf2
 clear hf2
 obtain ⟨W4, hW4⟩ : ∃ W, w3.alloc (.cells #[.int .i64 4, .int .i32 0, .string ⟨#[]⟩, .string ⟨#[]⟩, .slice A1 ys1.length c1, .slice A2 ys2.length c2, .slice none 0 0, .slice none 0 0, .int .i64 0] 118) = W := ⟨_, rfl⟩
 have hb : Below w3.heap.size w3 W4 := by rw [← hW4]; exact (Below.refl _ _).alloc (Nat.le_refl _) _
 have HL : Hid (Bx W4 w3.heap.size #[.int .i64 4, .int .i32 0, .string ⟨#[]⟩, .string ⟨#[]⟩, .slice A1 ys1.length c1, .slice A2 ys2.length c2, .slice none 0 0, .slice none 0 0, .int .i64 0] 118) := Lib.hid (by rw [← hW4]; exact Bx.new _ _ _)
 have hz3 : W4.heap.size = w3.heap.size + 1 := by rw [← hW4]; simp
 replace HM := Lib.hid (HM.out.trans (Mv.below hb HM.out.2))
 replace HB := Lib.hid (HB.out.next hb)
 replace HF1 := Lib.hid (HF1.out.excl hb (Nat.le_refl _))
 replace HF2 := Lib.hid (HF2.out.excl hb (Nat.le_refl _))
 clear hb
 subst hW4
 go_wp2_with fail
 refine (HT.out _ HM.out.2).mono ?_
 clear HT
 rintro e w4 ⟨rfl, hm⟩
 replace HM := Lib.hid (HM.out.trans hm)
 replace HB := Lib.hid (Bx.grown HB.out hm.1 (by omega))
 replace HL := Lib.hid (Bx.grown HL.out hm.1 (by omega))
 replace HF1 := Lib.hid (HF1.out.grown hm.1 (.inl (by omega)))
 replace HF2 := Lib.hid (HF2.out.grown hm.1 (.inl (by omega)))
 have hs4 := hm.1.size
 clear hm
 go_wp2_with fail
 refine (HD.out _ HM.out.2).mono ?_
 clear HD
 rintro e w5 ⟨v3, ys3, rfl, ho, hq3, hm⟩
 obtain ⟨A3, c3, rfl⟩ := fk_len ho
 have hf3 := FkL.past ho (show w3.heap.size < _ by omega) (show w.heap.size + 1 ≤ _ by omega)
 have HQ3 := Lib.hid hq3
 clear ho hq3
 replace HM := Lib.hid (HM.out.trans hm)
 replace HB := Lib.hid (Bx.grown HB.out hm.1 (by omega))
 replace HL := Lib.hid (Bx.grown HL.out hm.1 (by omega))
 replace HF1 := Lib.hid (HF1.out.grown hm.1 (.inl (by omega)))
 replace HF2 := Lib.hid (HF2.out.grown hm.1 (.inl (by omega)))
 have hs5 := hm.1.size
 clear hm
 have HF3 := Lib.hid hf3
 clear hf3
 obtain ⟨W6, hW6⟩ : ∃ W, w5.setCell ⟨w3.heap.size, 6, none⟩ (.slice A3 ys3.length c3) = W := ⟨_, rfl⟩
 have hg : w5.grownBy W6 (some w3.heap.size) := by rw [← hW6]; exact grown_set_at _ _ _ _
 have hl2 : Bx W6 w3.heap.size #[.int .i64 4, .int .i32 0, .string ⟨#[]⟩, .string ⟨#[]⟩, .slice A1 ys1.length c1, .slice A2 ys2.length c2, .slice A3 ys3.length c3, .slice none 0 0, .int .i64 0] 118 := by
   rw [← hW6]
   have := HL.out.set 6 (.slice A3 ys3.length c3)
   simpa using this
 obtain ⟨xs60, xs61, xs62, xs63, xs64, xs65, xs66, xs67, xs68⟩ := HL.out.all_9
 have gxs66 := HL.out.fro 6
 replace HM := Lib.hid (Mv.over (Below.refl _ _) HM.out hg (by omega) hlt)
 replace HB := Lib.hid (Bx.grown HB.out hg (by omega))
 replace HF1 := Lib.hid (HF1.out.grown hg (.inr rfl))
 replace HF2 := Lib.hid (HF2.out.grown hg (.inr rfl))
 replace HF3 := Lib.hid (HF3.out.grown hg (.inr rfl))
 replace HL := Lib.hid hl2
 have hs5x := hg.size
 clear hl2 hg
 obtain ⟨r0, r1, r2, r3, r4, r5, r6, r7, r8⟩ := HB.out.all_9
 have g0 := HB.out.fro 0; have g1 := HB.out.fro 1; have g2 := HB.out.fro 2; have g3 := HB.out.fro 3; have g4 := HB.out.fro 4; have g5 := HB.out.fro 5; have g6 := HB.out.fro 6; have g7 := HB.out.fro 7; have g8 := HB.out.fro 8
 obtain ⟨x0, x1, x2, x3, x4, x5, x6, x7, x8⟩ := HL.out.all_9
 have HG := Lib.hid (grown_9 W6 w.heap.size (.int .i64 4) (.int .i32 0) (.string ⟨#[]⟩) (.string ⟨#[]⟩) (.slice A1 ys1.length c1) (.slice A2 ys2.length c2) (.slice A3 ys3.length c3) (.slice none 0 0) (.int .i64 0))
 go_wp2_with fail
 obtain ⟨z0, z1, z2, z3, z4, z5, z6, z7, z8⟩ := (HB.out.to_9 (.int .i64 4) (.int .i32 0) (.string ⟨#[]⟩) (.string ⟨#[]⟩) (.slice A1 ys1.length c1) (.slice A2 ys2.length c2) (.slice A3 ys3.length c3) (.slice none 0 0) (.int .i64 0)).all_9
 (try simp only [Exit.inBlock, Exit.then])
 refine bodyPost_ret (v := .agg #[.int .i64 4, .int .i32 0, .string ⟨#[]⟩, .string ⟨#[]⟩, .slice A1 ys1.length c1, .slice A2 ys2.length c2, .slice A3 ys3.length c3, .slice none 0 0, .int .i64 0]) (by simp [results, Tryz.results156, go_sem, z0, z1, z2, z3, z4, z5, z6, z7, z8]) rfl ?_
 rw [HRE.out]
 refine ⟨.st (4) (0) ⟨#[]⟩ ⟨#[]⟩ (.slice A1 ys1.length c1) (.slice A2 ys2.length c2) (.slice A3 ys3.length c3) (.slice none 0 0) ys1 ys2 ys3 [] 0, rfl, ⟨_, _, _, _, A1, A2, A3, none, c1, c2, c3, 0, ys1, ys2, ys3, [], rfl⟩, ?_, Mv.over (Below.refl _ _) HM.out HG.out (Nat.le_refl _) hlt⟩
 exact ((st_node (B := w.heap.size + 1) ⟨Nat.zero_le _, Nat.zero_le _⟩ HF1.out.fk HF2.out.fk HF3.out.fk (FkL.nil _ _ _) HQ1.out HQ2.out HQ3.out rfl).grown HG.out (.inl (by omega))).mono (by omega)
theorem choice_of (HE : ExAny) (n : Nat) (b : Rb) (HBL : SpecK n b) (hbl : ∀ s, (b s).2.len ≤ s.len) (W0 w : World) (c : Nat) (s : RS) (hv : Vars W0) (h : Rd W0 c s w) (hn : 4 * s.len + 3 ≤ n) : Calls Tryz.prog 156 #[.pointer (some ⟨c, 0, none⟩)] w (StC W0 c w (choS b s)) := by
 cases hel : (b (cond s).2).2.sees 0 kElse with
 | false => exact choice_0 HE n b HBL hbl W0 w c s hv h hn hel
 | true => exact choice_1 HE n b HBL hbl W0 w c s hv h hn hel
theorem result_0 (HE : ExAny) (W0 w : World) (c : Nat) (s : RS) (hv : Vars W0) (h : Rd W0 c s w) (hel : s.sees 0 sSemi = false) : Calls Tryz.prog 158 #[.pointer (some ⟨c, 0, none⟩)] w (StC W0 c w (resS s)) := by
 obtain ⟨q, hq⟩ : ∃ q, finE s = q := ⟨_, rfl⟩
 have HRE : Hid (resS s = (mkS 6 0 E0 E0 q.1 [] [] [], q.2)) := Lib.hid (by simp only [resS, hel, hq]; simp)
 obtain ⟨RR, hRR⟩ : ∃ RR, resS s = RR := ⟨_, rfl⟩
 rw [hRR] at HRE ⊢
 have hlt := h.lt
 have hle0 := h.le
 obtain ⟨W1, hW1⟩ : ∃ W1, w.alloc (.cells #[.int .i64 0, .int .i32 0, .string ⟨#[]⟩, .string ⟨#[]⟩, .slice none 0 0, .slice none 0 0, .slice none 0 0, .slice none 0 0, .int .i64 0] 118) = W1 := ⟨_, rfl⟩
 have hb : Below w.heap.size w W1 := by rw [← hW1]; exact (Below.refl _ w).alloc (Nat.le_refl _) _
 have hx : Bx W1 w.heap.size #[.int .i64 0, .int .i32 0, .string ⟨#[]⟩, .string ⟨#[]⟩, .slice none 0 0, .slice none 0 0, .slice none 0 0, .slice none 0 0, .int .i64 0] 118 := by rw [← hW1]; exact Bx.new _ _ _
 have hz : W1.heap.size = w.heap.size + 1 := by rw [← hW1]; simp
 have HM := Lib.hid (Mv.below hb h)
 have HB := Lib.hid hx
 clear hb hx
 have HC : Hid (∀ w', Rd W0 c (s) w' → Calls Tryz.prog 159 #[.pointer (some ⟨c, 0, none⟩)] w' (LsC W0 c w' q)) := by
   show ∀ w', _
   intro w' h'; have := finE_of HE W0 w' c _ hv h'; rw [hq] at this; exact this
 have HT : Hid (∀ w', Rd W0 c s w' → Calls Tryz.prog 57 #[.pointer (some ⟨c, 0, none⟩), .string sSemi] w' fun e w'' => e = .returned (.bool false) ∧ w' = w'') := by
   show ∀ w', _
   intro w' h'; exact take_false W0 w' c _ _ h' hel
 obtain ⟨W2, hW2⟩ : ∃ W, W1.alloc (.cells #[.int .i64 6, .int .i32 0, .string ⟨#[]⟩, .string ⟨#[]⟩, .slice none 0 0, .slice none 0 0, .slice none 0 0, .slice none 0 0, .int .i64 0] 118) = W := ⟨_, rfl⟩
 have hb : Below W1.heap.size W1 W2 := by rw [← hW2]; exact (Below.refl _ _).alloc (Nat.le_refl _) _
 have HL : Hid (Bx W2 (w.heap.size + 1) #[.int .i64 6, .int .i32 0, .string ⟨#[]⟩, .string ⟨#[]⟩, .slice none 0 0, .slice none 0 0, .slice none 0 0, .slice none 0 0, .int .i64 0] 118) := Lib.hid (by rw [← hW2, ← hz]; exact Bx.new _ _ _)
 have hz2 : W2.heap.size = w.heap.size + 1 + 1 := by rw [← hW2]; simp [hz]
 replace HM := Lib.hid (HM.out.trans (Mv.below hb HM.out.2))
 replace HB := Lib.hid (HB.out.next hb)
 clear hb
 subst hW2
 clear hRR hq h hv hel HE
 go_enter Tryz.func158, Tryz.ntmps158
 go_wp2_with fail
 refine (HT.out _ HM.out.2).mono ?_
 clear HT hW1
 rintro e w2 ⟨rfl, rfl⟩
 go_wp2_with fail
 refine (HC.out _ HM.out.2).mono ?_
 clear HC
 rintro e w3 ⟨v1, ys1, rfl, ho, hq1, hm⟩
 obtain ⟨A1, c1, rfl⟩ := ho.form
 have hf1 := FkL.past ho.own.fk (show (w.heap.size + 1) < _ by omega) (show w.heap.size + 1 ≤ _ by omega)
 have HQ1 := Lib.hid hq1
 clear ho hq1
 replace HM := Lib.hid (HM.out.trans hm)
 replace HB := Lib.hid (Bx.grown HB.out hm.1 (by omega))
 replace HL := Lib.hid (Bx.grown HL.out hm.1 (by omega))
 have hs3 := hm.1.size
 clear hm
 have HF1 := Lib.hid hf1
 clear hf1
 obtain ⟨W4, hW4⟩ : ∃ W, w3.setCell ⟨(w.heap.size + 1), 4, none⟩ (.slice A1 ys1.length c1) = W := ⟨_, rfl⟩
 have hg : w3.grownBy W4 (some (w.heap.size + 1)) := by rw [← hW4]; exact grown_set_at _ _ _ _
 have hl2 : Bx W4 (w.heap.size + 1) #[.int .i64 6, .int .i32 0, .string ⟨#[]⟩, .string ⟨#[]⟩, .slice A1 ys1.length c1, .slice none 0 0, .slice none 0 0, .slice none 0 0, .int .i64 0] 118 := by
   rw [← hW4]
   have := HL.out.set 4 (.slice A1 ys1.length c1)
   simpa using this
 obtain ⟨xs40, xs41, xs42, xs43, xs44, xs45, xs46, xs47, xs48⟩ := HL.out.all_9
 have gxs44 := HL.out.fro 4
 replace HM := Lib.hid (Mv.over (Below.refl _ _) HM.out hg (by omega) hlt)
 replace HB := Lib.hid (Bx.grown HB.out hg (by omega))
 replace HF1 := Lib.hid (HF1.out.grown hg (.inr rfl))
 replace HL := Lib.hid hl2
 have hs3x := hg.size
 clear hl2 hg
 obtain ⟨r0, r1, r2, r3, r4, r5, r6, r7, r8⟩ := HB.out.all_9
 have g0 := HB.out.fro 0; have g1 := HB.out.fro 1; have g2 := HB.out.fro 2; have g3 := HB.out.fro 3; have g4 := HB.out.fro 4; have g5 := HB.out.fro 5; have g6 := HB.out.fro 6; have g7 := HB.out.fro 7; have g8 := HB.out.fro 8
 obtain ⟨x0, x1, x2, x3, x4, x5, x6, x7, x8⟩ := HL.out.all_9
 have HG := Lib.hid (grown_9 W4 w.heap.size (.int .i64 6) (.int .i32 0) (.string ⟨#[]⟩) (.string ⟨#[]⟩) (.slice A1 ys1.length c1) (.slice none 0 0) (.slice none 0 0) (.slice none 0 0) (.int .i64 0))
 go_wp2_with fail
 obtain ⟨z0, z1, z2, z3, z4, z5, z6, z7, z8⟩ := (HB.out.to_9 (.int .i64 6) (.int .i32 0) (.string ⟨#[]⟩) (.string ⟨#[]⟩) (.slice A1 ys1.length c1) (.slice none 0 0) (.slice none 0 0) (.slice none 0 0) (.int .i64 0)).all_9
 (try simp only [Exit.inBlock, Exit.then])
 refine bodyPost_ret (v := .agg #[.int .i64 6, .int .i32 0, .string ⟨#[]⟩, .string ⟨#[]⟩, .slice A1 ys1.length c1, .slice none 0 0, .slice none 0 0, .slice none 0 0, .int .i64 0]) (by simp [results, Tryz.results158, go_sem, z0, z1, z2, z3, z4, z5, z6, z7, z8]) rfl ?_
 rw [HRE.out]
 refine ⟨.st (6) (0) ⟨#[]⟩ ⟨#[]⟩ (.slice A1 ys1.length c1) (.slice none 0 0) (.slice none 0 0) (.slice none 0 0) ys1 [] [] [] 0, rfl, ⟨_, _, _, _, A1, none, none, none, c1, 0, 0, 0, ys1, [], [], [], rfl⟩, ?_, Mv.over (Below.refl _ _) HM.out HG.out (Nat.le_refl _) hlt⟩
 exact ((st_node (B := w.heap.size + 1) ⟨Nat.zero_le _, Nat.zero_le _⟩ HF1.out.fk (FkL.nil _ _ _) (FkL.nil _ _ _) (FkL.nil _ _ _) HQ1.out rfl rfl rfl).grown HG.out (.inl (by omega))).mono (by omega)
theorem result_1 (HE : ExAny) (W0 w : World) (c : Nat) (s : RS) (hv : Vars W0) (h : Rd W0 c s w) (hel : s.sees 0 sSemi = true) : Calls Tryz.prog 158 #[.pointer (some ⟨c, 0, none⟩)] w (StC W0 c w (resS s)) := by
 have HRE : Hid (resS s = (mkS 6 0 E0 E0 [] [] [] [], s.skip)) := Lib.hid (by simp only [resS, hel, if_true])
 obtain ⟨RR, hRR⟩ : ∃ RR, resS s = RR := ⟨_, rfl⟩
 rw [hRR] at HRE ⊢
 have hlt := h.lt
 have hle0 := h.le
 obtain ⟨W1, hW1⟩ : ∃ W1, w.alloc (.cells #[.int .i64 0, .int .i32 0, .string ⟨#[]⟩, .string ⟨#[]⟩, .slice none 0 0, .slice none 0 0, .slice none 0 0, .slice none 0 0, .int .i64 0] 118) = W1 := ⟨_, rfl⟩
 have hb : Below w.heap.size w W1 := by rw [← hW1]; exact (Below.refl _ w).alloc (Nat.le_refl _) _
 have hx : Bx W1 w.heap.size #[.int .i64 0, .int .i32 0, .string ⟨#[]⟩, .string ⟨#[]⟩, .slice none 0 0, .slice none 0 0, .slice none 0 0, .slice none 0 0, .int .i64 0] 118 := by rw [← hW1]; exact Bx.new _ _ _
 have hz : W1.heap.size = w.heap.size + 1 := by rw [← hW1]; simp
 have HM := Lib.hid (Mv.below hb h)
 have HB := Lib.hid hx
 clear hb hx
 have HT : Hid (∀ w', Rd W0 c s w' → Calls Tryz.prog 57 #[.pointer (some ⟨c, 0, none⟩), .string sSemi] w' fun e w'' => e = .returned (.bool true) ∧ Mv W0 c s.skip w' w'') := by
   show ∀ w', _
   intro w' h'; exact take_true W0 w' c _ _ h' hel
 obtain ⟨W2, hW2⟩ : ∃ W, W1.alloc (.cells #[.int .i64 6, .int .i32 0, .string ⟨#[]⟩, .string ⟨#[]⟩, .slice none 0 0, .slice none 0 0, .slice none 0 0, .slice none 0 0, .int .i64 0] 118) = W := ⟨_, rfl⟩
 have hb : Below W1.heap.size W1 W2 := by rw [← hW2]; exact (Below.refl _ _).alloc (Nat.le_refl _) _
 have HL : Hid (Bx W2 (w.heap.size + 1) #[.int .i64 6, .int .i32 0, .string ⟨#[]⟩, .string ⟨#[]⟩, .slice none 0 0, .slice none 0 0, .slice none 0 0, .slice none 0 0, .int .i64 0] 118) := Lib.hid (by rw [← hW2, ← hz]; exact Bx.new _ _ _)
 have hz2 : W2.heap.size = w.heap.size + 1 + 1 := by rw [← hW2]; simp [hz]
 replace HM := Lib.hid (HM.out.trans (Mv.below hb HM.out.2))
 replace HB := Lib.hid (HB.out.next hb)
 clear hb
 subst hW2
 clear hRR h hv hel HE
 go_enter Tryz.func158, Tryz.ntmps158
 go_wp2_with fail
 refine (HT.out _ HM.out.2).mono ?_
 clear HT hW1
 rintro e w2 ⟨rfl, hm⟩
 replace HM := Lib.hid (HM.out.trans hm)
 replace HB := Lib.hid (Bx.grown HB.out hm.1 (by omega))
 replace HL := Lib.hid (Bx.grown HL.out hm.1 (by omega))
 have hs2 := hm.1.size
 clear hm
 obtain ⟨r0, r1, r2, r3, r4, r5, r6, r7, r8⟩ := HB.out.all_9
 have g0 := HB.out.fro 0; have g1 := HB.out.fro 1; have g2 := HB.out.fro 2; have g3 := HB.out.fro 3; have g4 := HB.out.fro 4; have g5 := HB.out.fro 5; have g6 := HB.out.fro 6; have g7 := HB.out.fro 7; have g8 := HB.out.fro 8
 obtain ⟨x0, x1, x2, x3, x4, x5, x6, x7, x8⟩ := HL.out.all_9
 have HG := Lib.hid (grown_9 w2 w.heap.size (.int .i64 6) (.int .i32 0) (.string ⟨#[]⟩) (.string ⟨#[]⟩) (.slice none 0 0) (.slice none 0 0) (.slice none 0 0) (.slice none 0 0) (.int .i64 0))
 go_wp2_with fail
 obtain ⟨z0, z1, z2, z3, z4, z5, z6, z7, z8⟩ := (HB.out.to_9 (.int .i64 6) (.int .i32 0) (.string ⟨#[]⟩) (.string ⟨#[]⟩) (.slice none 0 0) (.slice none 0 0) (.slice none 0 0) (.slice none 0 0) (.int .i64 0)).all_9
 (try simp only [Exit.inBlock, Exit.then])
 refine bodyPost_ret (v := .agg #[.int .i64 6, .int .i32 0, .string ⟨#[]⟩, .string ⟨#[]⟩, .slice none 0 0, .slice none 0 0, .slice none 0 0, .slice none 0 0, .int .i64 0]) (by simp [results, Tryz.results158, go_sem, z0, z1, z2, z3, z4, z5, z6, z7, z8]) rfl ?_
 rw [HRE.out]
 refine ⟨.st (6) (0) ⟨#[]⟩ ⟨#[]⟩ (.slice none 0 0) (.slice none 0 0) (.slice none 0 0) (.slice none 0 0) [] [] [] [] 0, rfl, ⟨_, _, _, _, none, none, none, none, 0, 0, 0, 0, [], [], [], [], rfl⟩, ?_, Mv.over (Below.refl _ _) HM.out HG.out (Nat.le_refl _) hlt⟩
 exact ((st_node (B := w.heap.size + 1) ⟨Nat.zero_le _, Nat.zero_le _⟩ (FkL.nil _ _ _) (FkL.nil _ _ _) (FkL.nil _ _ _) (FkL.nil _ _ _) rfl rfl rfl rfl).grown HG.out (.inl (by omega))).mono (by omega)
theorem result_of (HE : ExAny) (W0 w : World) (c : Nat) (s : RS) (hv : Vars W0) (h : Rd W0 c s w) : Calls Tryz.prog 158 #[.pointer (some ⟨c, 0, none⟩)] w (StC W0 c w (resS s)) := by
 cases hel : s.sees 0 sSemi with
 | false => exact result_0 HE W0 w c s hv h hel
 | true => exact result_1 HE W0 w c s hv h hel
theorem super_of (HA : ArAny) (W0 w : World) (c : Nat) (s : RS) (hv : Vars W0) (h : Rd W0 c s w) (hne : s.ws ≠ []) : Calls Tryz.prog 161 #[.pointer (some ⟨c, 0, none⟩)] w (StC W0 c w (supS s)) := by
 obtain ⟨q, hq⟩ : ∃ q, ar s.skip = q := ⟨_, rfl⟩
 have HRE : Hid (supS s = (mkS 11 0 E0 E0 q.1 [] [] [], q.2.need sSemi)) := Lib.hid (by simp only [supS, hq])
 obtain ⟨RR, hRR⟩ : ∃ RR, supS s = RR := ⟨_, rfl⟩
 rw [hRR] at HRE ⊢
 have hlt := h.lt
 have hle0 := h.le
 obtain ⟨W1, hW1⟩ : ∃ W1, w.alloc (.cells #[.int .i64 0, .int .i32 0, .string ⟨#[]⟩, .string ⟨#[]⟩, .slice none 0 0, .slice none 0 0, .slice none 0 0, .slice none 0 0, .int .i64 0] 118) = W1 := ⟨_, rfl⟩
 have hb : Below w.heap.size w W1 := by rw [← hW1]; exact (Below.refl _ w).alloc (Nat.le_refl _) _
 have hx : Bx W1 w.heap.size #[.int .i64 0, .int .i32 0, .string ⟨#[]⟩, .string ⟨#[]⟩, .slice none 0 0, .slice none 0 0, .slice none 0 0, .slice none 0 0, .int .i64 0] 118 := by rw [← hW1]; exact Bx.new _ _ _
 have hz : W1.heap.size = w.heap.size + 1 := by rw [← hW1]; simp
 have HM := Lib.hid (Mv.below hb h)
 have HB := Lib.hid hx
 clear hb hx
 have HT := Lib.hid (skip_any W0 W1 c s HM.out.2 hne)
 have HC : Hid (∀ w', Rd W0 c (s.skip) w' → Calls Tryz.prog 150 #[.pointer (some ⟨c, 0, none⟩)] w' (LsC W0 c w' q)) := by
   show ∀ w', _
   intro w' h'; have := HA W0 w' c _ hv h'; rw [hq] at this; exact this
 have HN : Hid (∀ w', Rd W0 c (q.2) w' → Calls Tryz.prog 55 #[.pointer (some ⟨c, 0, none⟩), .string sSemi] w' fun e w'' => e = .returned (.tuple #[]) ∧ Mv W0 c (RS.need (q.2) sSemi) w' w'') := by
   show ∀ w', _
   intro w' h'; exact need_any W0 w' c _ sSemi h'
 clear hRR hq h hv hne HA
 go_enter Tryz.func161, Tryz.ntmps161
 go_wp2_with fail
 refine HT.out.mono ?_
 clear HT hW1
 rintro e w2 ⟨rfl, hm⟩
 replace HM := Lib.hid (HM.out.trans hm)
 replace HB := Lib.hid (Bx.grown HB.out hm.1 (by omega))
 have hs2 := hm.1.size
 clear hm
 go_wp2_with fail
 refine (HC.out _ HM.out.2).mono ?_
 clear HC
 rintro e w3 ⟨v1, ys1, rfl, ho, hq1, hm⟩
 obtain ⟨A1, c1, rfl⟩ := ho.form
 have hf1 := (FkL.x ho.own.fk).mono (show w.heap.size + 1 ≤ _ by omega)
 have HQ1 := Lib.hid hq1
 clear ho hq1
 replace HM := Lib.hid (HM.out.trans hm)
 replace HB := Lib.hid (Bx.grown HB.out hm.1 (by omega))
 have hs3 := hm.1.size
 clear hm
 have HF1 := Lib.hid hf1
 clear hf1
 obtain ⟨W4, hW4⟩ : ∃ W, w3.alloc (.cells #[.int .i64 11, .int .i32 0, .string ⟨#[]⟩, .string ⟨#[]⟩, .slice A1 ys1.length c1, .slice none 0 0, .slice none 0 0, .slice none 0 0, .int .i64 0] 118) = W := ⟨_, rfl⟩
 have hb : Below w3.heap.size w3 W4 := by rw [← hW4]; exact (Below.refl _ _).alloc (Nat.le_refl _) _
 have HL : Hid (Bx W4 w3.heap.size #[.int .i64 11, .int .i32 0, .string ⟨#[]⟩, .string ⟨#[]⟩, .slice A1 ys1.length c1, .slice none 0 0, .slice none 0 0, .slice none 0 0, .int .i64 0] 118) := Lib.hid (by rw [← hW4]; exact Bx.new _ _ _)
 have hz3 : W4.heap.size = w3.heap.size + 1 := by rw [← hW4]; simp
 replace HM := Lib.hid (HM.out.trans (Mv.below hb HM.out.2))
 replace HB := Lib.hid (HB.out.next hb)
 replace HF1 := Lib.hid (HF1.out.excl hb (Nat.le_refl _))
 clear hb
 subst hW4
 go_wp2_with fail
 refine (HN.out _ HM.out.2).mono ?_
 clear HN
 rintro e w4 ⟨rfl, hm⟩
 replace HM := Lib.hid (HM.out.trans hm)
 replace HB := Lib.hid (Bx.grown HB.out hm.1 (by omega))
 replace HL := Lib.hid (Bx.grown HL.out hm.1 (by omega))
 replace HF1 := Lib.hid (HF1.out.grown hm.1 (.inl (by omega)))
 have hs4 := hm.1.size
 clear hm
 obtain ⟨r0, r1, r2, r3, r4, r5, r6, r7, r8⟩ := HB.out.all_9
 have g0 := HB.out.fro 0; have g1 := HB.out.fro 1; have g2 := HB.out.fro 2; have g3 := HB.out.fro 3; have g4 := HB.out.fro 4; have g5 := HB.out.fro 5; have g6 := HB.out.fro 6; have g7 := HB.out.fro 7; have g8 := HB.out.fro 8
 obtain ⟨x0, x1, x2, x3, x4, x5, x6, x7, x8⟩ := HL.out.all_9
 have HG := Lib.hid (grown_9 w4 w.heap.size (.int .i64 11) (.int .i32 0) (.string ⟨#[]⟩) (.string ⟨#[]⟩) (.slice A1 ys1.length c1) (.slice none 0 0) (.slice none 0 0) (.slice none 0 0) (.int .i64 0))
 go_wp2_with fail
 obtain ⟨z0, z1, z2, z3, z4, z5, z6, z7, z8⟩ := (HB.out.to_9 (.int .i64 11) (.int .i32 0) (.string ⟨#[]⟩) (.string ⟨#[]⟩) (.slice A1 ys1.length c1) (.slice none 0 0) (.slice none 0 0) (.slice none 0 0) (.int .i64 0)).all_9
 (try simp only [Exit.inBlock, Exit.then])
 refine bodyPost_ret (v := .agg #[.int .i64 11, .int .i32 0, .string ⟨#[]⟩, .string ⟨#[]⟩, .slice A1 ys1.length c1, .slice none 0 0, .slice none 0 0, .slice none 0 0, .int .i64 0]) (by simp [results, Tryz.results161, go_sem, z0, z1, z2, z3, z4, z5, z6, z7, z8]) rfl ?_
 rw [HRE.out]
 refine ⟨.st (11) (0) ⟨#[]⟩ ⟨#[]⟩ (.slice A1 ys1.length c1) (.slice none 0 0) (.slice none 0 0) (.slice none 0 0) ys1 [] [] [] 0, rfl, ⟨_, _, _, _, A1, none, none, none, c1, 0, 0, 0, ys1, [], [], [], rfl⟩, ?_, Mv.over (Below.refl _ _) HM.out HG.out (Nat.le_refl _) hlt⟩
 exact ((st_node (B := w.heap.size + 1) ⟨Nat.zero_le _, Nat.zero_le _⟩ HF1.out.fk (FkL.nil _ _ _) (FkL.nil _ _ _) (FkL.nil _ _ _) HQ1.out rfl rfl rfl).grown HG.out (.inl (by omega))).mono (by omega)
theorem attempt_0 (HE : ExAny) (n : Nat) (b : Rb) (HBL : SpecK n b) (hbl : ∀ s, (b s).2.len ≤ s.len) (W0 w : World) (c : Nat) (s : RS) (hv : Vars W0) (h : Rd W0 c s w) (hn : 4 * s.len + 3 ≤ n) (hel : (b (at3 b s)).2.sees 0 kFinally = false) : Calls Tryz.prog 160 #[.pointer (some ⟨c, 0, none⟩)] w (StC W0 c w (attS b s)) := by
 obtain ⟨a, ha⟩ : ∃ a, b s = a := ⟨_, rfl⟩
 obtain ⟨d, hd⟩ : ∃ d, b (at3 b s) = d := ⟨_, rfl⟩
 rw [hd] at hel
 have hl0 : (at3 b s).len ≤ s.len := len_at3' hbl s
 have hl2 : d.2.len ≤ (at3 b s).len := by rw [← hd]; exact hbl _
 have hn1 := name_len (at2 b s)
 have hn2 := class_len (at1 b s)
 have HRE : Hid (attS b s = (mkS 10 0 (at1 b s).classV (at2 b s).nameV [] a.1 d.1 [], d.2)) := Lib.hid (by simp only [attS, ha, hd, hel]; simp)
 obtain ⟨RR, hRR⟩ : ∃ RR, attS b s = RR := ⟨_, rfl⟩
 rw [hRR] at HRE ⊢
 have hlt := h.lt
 have hle0 := h.le
 obtain ⟨W1, hW1⟩ : ∃ W1, w.alloc (.cells #[.int .i64 0, .int .i32 0, .string ⟨#[]⟩, .string ⟨#[]⟩, .slice none 0 0, .slice none 0 0, .slice none 0 0, .slice none 0 0, .int .i64 0] 118) = W1 := ⟨_, rfl⟩
 have hb : Below w.heap.size w W1 := by rw [← hW1]; exact (Below.refl _ w).alloc (Nat.le_refl _) _
 have hx : Bx W1 w.heap.size #[.int .i64 0, .int .i32 0, .string ⟨#[]⟩, .string ⟨#[]⟩, .slice none 0 0, .slice none 0 0, .slice none 0 0, .slice none 0 0, .int .i64 0] 118 := by rw [← hW1]; exact Bx.new _ _ _
 have hz : W1.heap.size = w.heap.size + 1 := by rw [← hW1]; simp
 have HM := Lib.hid (Mv.below hb h)
 have HB := Lib.hid hx
 clear hb hx
 have HA : Hid (∀ w', Rd W0 c (s) w' → Calls Tryz.prog 119 #[.pointer (some ⟨c, 0, none⟩)] w' (BlC W0 c w' a)) := by
   show ∀ w', _
   intro w' h'; have := HBL W0 w' c _ hv h' (by omega); rw [ha] at this; exact this
 have HN1 : Hid (∀ w', Rd W0 c (a.2) w' → Calls Tryz.prog 55 #[.pointer (some ⟨c, 0, none⟩), .string kCatch] w' fun e w'' => e = .returned (.tuple #[]) ∧ Mv W0 c (RS.need (a.2) kCatch) w' w'') := by
   show ∀ w', _
   intro w' h'; exact need_any W0 w' c _ kCatch h'
 have HN2 : Hid (∀ w', Rd W0 c (a.2.need kCatch) w' → Calls Tryz.prog 55 #[.pointer (some ⟨c, 0, none⟩), .string sOpen] w' fun e w'' => e = .returned (.tuple #[]) ∧ Mv W0 c (RS.need (a.2.need kCatch) sOpen) w' w'') := by
   show ∀ w', _
   intro w' h'; exact need_any W0 w' c _ sOpen h'
 have e1 : at1 b s = (a.2.need kCatch).need sOpen := by rw [at1, ha]
 obtain ⟨s1, hs1⟩ : ∃ s1, at1 b s = s1 := ⟨_, rfl⟩
 obtain ⟨s2, hs2⟩ : ∃ s2, at2 b s = s2 := ⟨_, rfl⟩
 obtain ⟨s3, hs3⟩ : ∃ s3, at3 b s = s3 := ⟨_, rfl⟩
 have e2 : s2 = s1.class := by rw [← hs1, ← hs2]; rfl
 have e3 : s3 = s2.name.need sShut := by rw [← hs2, ← hs3]; rfl
 rw [hs1] at e1 HRE hn2
 rw [hs2] at HRE hn1
 rw [hs3] at hd hl0 hl2
 rw [← e1] at HN2
 have HK : Hid (∀ w', Rd W0 c (s1) w' → Calls Tryz.prog 56 #[.pointer (some ⟨c, 0, none⟩)] w' fun e w'' => e = .returned (.string s1.classV) ∧ Mv W0 c (s1.class) w' w'') := by
   show ∀ w', _
   intro w' h'; exact classR_any W0 w' c _ h'
 rw [← e2] at HK
 have HW : Hid (∀ w', Rd W0 c (s2) w' → Calls Tryz.prog 87 #[.pointer (some ⟨c, 0, none⟩)] w' fun e w'' => e = .returned (.string s2.nameV) ∧ Mv W0 c (s2.name) w' w'') := by
   show ∀ w', _
   intro w' h'; exact nameR_any W0 w' c _ h'
 have HN3 : Hid (∀ w', Rd W0 c (s2.name) w' → Calls Tryz.prog 55 #[.pointer (some ⟨c, 0, none⟩), .string sShut] w' fun e w'' => e = .returned (.tuple #[]) ∧ Mv W0 c (RS.need (s2.name) sShut) w' w'') := by
   show ∀ w', _
   intro w' h'; exact need_any W0 w' c _ sShut h'
 rw [← e3] at HN3
 have HD : Hid (∀ w', Rd W0 c (s3) w' → Calls Tryz.prog 119 #[.pointer (some ⟨c, 0, none⟩)] w' (BlC W0 c w' d)) := by
   show ∀ w', _
   intro w' h'; have := HBL W0 w' c _ hv h' (by omega); rw [hd] at this; exact this
 have HT : Hid (∀ w', Rd W0 c d.2 w' → Calls Tryz.prog 57 #[.pointer (some ⟨c, 0, none⟩), .string kFinally] w' fun e w'' => e = .returned (.bool false) ∧ w' = w'') := by
   show ∀ w', _
   intro w' h'; exact take_false W0 w' c _ _ h' hel
 obtain ⟨cl, hcl⟩ : ∃ cl, s1.classV = cl := ⟨_, rfl⟩
 obtain ⟨nm, hnm⟩ : ∃ nm, s2.nameV = nm := ⟨_, rfl⟩
 rw [hcl] at HK HRE hn2
 rw [hnm] at HW HRE hn1
 clear hRR ha hd hl0 hl2 e1 e2 e3 hs1 hs2 hs3 hcl hnm h hv hn hel HE HBL hbl
 go_enter Tryz.func160, Tryz.ntmps160
 go_wp2_with fail
 refine (HA.out _ HM.out.2).mono ?_
 clear HA hW1
 rintro e w2 ⟨v1, ys1, rfl, ho, hq1, hm⟩
 obtain ⟨A1, c1, rfl⟩ := fk_len ho
 have hf1 := (FkL.x ho).mono (show w.heap.size + 1 ≤ _ by omega)
 have HQ1 := Lib.hid hq1
 clear ho hq1
 replace HM := Lib.hid (HM.out.trans hm)
 replace HB := Lib.hid (Bx.grown HB.out hm.1 (by omega))
 have hs2 := hm.1.size
 clear hm
 have HF1 := Lib.hid hf1
 clear hf1
 obtain ⟨W3, hW3⟩ : ∃ W, w2.alloc (.cells #[.int .i64 10, .int .i32 0, .string ⟨#[]⟩, .string ⟨#[]⟩, .slice none 0 0, .slice A1 ys1.length c1, .slice none 0 0, .slice none 0 0, .int .i64 0] 118) = W := ⟨_, rfl⟩
 have hb : Below w2.heap.size w2 W3 := by rw [← hW3]; exact (Below.refl _ _).alloc (Nat.le_refl _) _
 have HL : Hid (Bx W3 w2.heap.size #[.int .i64 10, .int .i32 0, .string ⟨#[]⟩, .string ⟨#[]⟩, .slice none 0 0, .slice A1 ys1.length c1, .slice none 0 0, .slice none 0 0, .int .i64 0] 118) := Lib.hid (by rw [← hW3]; exact Bx.new _ _ _)
 have hz2 : W3.heap.size = w2.heap.size + 1 := by rw [← hW3]; simp
 replace HM := Lib.hid (HM.out.trans (Mv.below hb HM.out.2))
 replace HB := Lib.hid (HB.out.next hb)
 replace HF1 := Lib.hid (HF1.out.excl hb (Nat.le_refl _))
 clear hb
 subst hW3
 go_wp2_with fail
 refine (HN1.out _ HM.out.2).mono ?_
 clear HN1
 rintro e w3 ⟨rfl, hm⟩
 replace HM := Lib.hid (HM.out.trans hm)
 replace HB := Lib.hid (Bx.grown HB.out hm.1 (by omega))
 replace HL := Lib.hid (Bx.grown HL.out hm.1 (by omega))
 replace HF1 := Lib.hid (HF1.out.grown hm.1 (.inl (by omega)))
 have hs3 := hm.1.size
 clear hm
 go_wp2_with fail
 refine (HN2.out _ HM.out.2).mono ?_
 clear HN2
 rintro e w4 ⟨rfl, hm⟩
 replace HM := Lib.hid (HM.out.trans hm)
 replace HB := Lib.hid (Bx.grown HB.out hm.1 (by omega))
 replace HL := Lib.hid (Bx.grown HL.out hm.1 (by omega))
 replace HF1 := Lib.hid (HF1.out.grown hm.1 (.inl (by omega)))
 have hs4 := hm.1.size
 clear hm
 go_wp2_with fail
 refine (HK.out _ HM.out.2).mono ?_
 clear HK
 rintro e w5 ⟨rfl, hm⟩
 replace HM := Lib.hid (HM.out.trans hm)
 replace HB := Lib.hid (Bx.grown HB.out hm.1 (by omega))
 replace HL := Lib.hid (Bx.grown HL.out hm.1 (by omega))
 replace HF1 := Lib.hid (HF1.out.grown hm.1 (.inl (by omega)))
 have hs5 := hm.1.size
 clear hm
 go_wp2_with fail
 refine (HW.out _ HM.out.2).mono ?_
 clear HW
 rintro e w6 ⟨rfl, hm⟩
 replace HM := Lib.hid (HM.out.trans hm)
 replace HB := Lib.hid (Bx.grown HB.out hm.1 (by omega))
 replace HL := Lib.hid (Bx.grown HL.out hm.1 (by omega))
 replace HF1 := Lib.hid (HF1.out.grown hm.1 (.inl (by omega)))
 have hs6 := hm.1.size
 clear hm
 obtain ⟨W7, hW7⟩ : ∃ W, (w6.setCell ⟨w2.heap.size, 2, none⟩ (.string cl)).setCell ⟨w2.heap.size, 3, none⟩ (.string nm) = W := ⟨_, rfl⟩
 have hg : w6.grownBy W7 (some w2.heap.size) := by rw [← hW7]; exact (grown_set_at _ _ _ _).trans (grown_set_at _ _ _ _)
 have hl2 : Bx W7 w2.heap.size #[.int .i64 10, .int .i32 0, .string cl, .string nm, .slice none 0 0, .slice A1 ys1.length c1, .slice none 0 0, .slice none 0 0, .int .i64 0] 118 := by
   rw [← hW7]
   have := (HL.out.set 2 (.string cl)).set 3 (.string nm)
   simpa using this
 obtain ⟨xt0, xt1, xt2, xt3, xt4, xt5, xt6, xt7, xt8⟩ := HL.out.all_9
 have gxt2 := HL.out.fro 2
 have gxt3 := HL.out.fro 3
 replace HM := Lib.hid (Mv.over (Below.refl _ _) HM.out hg (by omega) hlt)
 replace HB := Lib.hid (Bx.grown HB.out hg (by omega))
 replace HF1 := Lib.hid (HF1.out.grown hg (.inr rfl))
 replace HL := Lib.hid hl2
 have hs6x := hg.size
 clear hl2 hg
 go_wp2_with fail
 refine (HN3.out _ HM.out.2).mono ?_
 clear HN3 hW7
 rintro e w7 ⟨rfl, hm⟩
 replace HM := Lib.hid (HM.out.trans hm)
 replace HB := Lib.hid (Bx.grown HB.out hm.1 (by omega))
 replace HL := Lib.hid (Bx.grown HL.out hm.1 (by omega))
 replace HF1 := Lib.hid (HF1.out.grown hm.1 (.inl (by omega)))
 have hs7 := hm.1.size
 clear hm
 go_wp2_with fail
 refine (HD.out _ HM.out.2).mono ?_
 clear HD
 rintro e w8 ⟨v2, ys2, rfl, ho, hq2, hm⟩
 obtain ⟨A2, c2, rfl⟩ := fk_len ho
 have hf2 := FkL.past ho (show w2.heap.size < _ by omega) (show w.heap.size + 1 ≤ _ by omega)
 have HQ2 := Lib.hid hq2
 clear ho hq2
 replace HM := Lib.hid (HM.out.trans hm)
 replace HB := Lib.hid (Bx.grown HB.out hm.1 (by omega))
 replace HL := Lib.hid (Bx.grown HL.out hm.1 (by omega))
 replace HF1 := Lib.hid (HF1.out.grown hm.1 (.inl (by omega)))
 have hs8 := hm.1.size
 clear hm
 have HF2 := Lib.hid hf2
 clear hf2
 obtain ⟨W9, hW9⟩ : ∃ W, w8.setCell ⟨w2.heap.size, 6, none⟩ (.slice A2 ys2.length c2) = W := ⟨_, rfl⟩
 have hg : w8.grownBy W9 (some w2.heap.size) := by rw [← hW9]; exact grown_set_at _ _ _ _
 have hl2 : Bx W9 w2.heap.size #[.int .i64 10, .int .i32 0, .string cl, .string nm, .slice none 0 0, .slice A1 ys1.length c1, .slice A2 ys2.length c2, .slice none 0 0, .int .i64 0] 118 := by
   rw [← hW9]
   have := HL.out.set 6 (.slice A2 ys2.length c2)
   simpa using this
 obtain ⟨xs60, xs61, xs62, xs63, xs64, xs65, xs66, xs67, xs68⟩ := HL.out.all_9
 have gxs66 := HL.out.fro 6
 replace HM := Lib.hid (Mv.over (Below.refl _ _) HM.out hg (by omega) hlt)
 replace HB := Lib.hid (Bx.grown HB.out hg (by omega))
 replace HF1 := Lib.hid (HF1.out.grown hg (.inr rfl))
 replace HF2 := Lib.hid (HF2.out.grown hg (.inr rfl))
 replace HL := Lib.hid hl2
 have hs8x := hg.size
 clear hl2 hg
 go_wp2_with fail
 refine (HT.out _ HM.out.2).mono ?_
 clear HT hW9
 rintro e w30 ⟨rfl, rfl⟩
 obtain ⟨r0, r1, r2, r3, r4, r5, r6, r7, r8⟩ := HB.out.all_9
 have g0 := HB.out.fro 0; have g1 := HB.out.fro 1; have g2 := HB.out.fro 2; have g3 := HB.out.fro 3; have g4 := HB.out.fro 4; have g5 := HB.out.fro 5; have g6 := HB.out.fro 6; have g7 := HB.out.fro 7; have g8 := HB.out.fro 8
 obtain ⟨x0, x1, x2, x3, x4, x5, x6, x7, x8⟩ := HL.out.all_9
 have HG := Lib.hid (grown_9 W9 w.heap.size (.int .i64 10) (.int .i32 0) (.string cl) (.string nm) (.slice none 0 0) (.slice A1 ys1.length c1) (.slice A2 ys2.length c2) (.slice none 0 0) (.int .i64 0))
 go_wp2_with fail
 obtain ⟨z0, z1, z2, z3, z4, z5, z6, z7, z8⟩ := (HB.out.to_9 (.int .i64 10) (.int .i32 0) (.string cl) (.string nm) (.slice none 0 0) (.slice A1 ys1.length c1) (.slice A2 ys2.length c2) (.slice none 0 0) (.int .i64 0)).all_9
 (try simp only [Exit.inBlock, Exit.then])
 refine bodyPost_ret (v := .agg #[.int .i64 10, .int .i32 0, .string cl, .string nm, .slice none 0 0, .slice A1 ys1.length c1, .slice A2 ys2.length c2, .slice none 0 0, .int .i64 0]) (by simp [results, Tryz.results160, go_sem, z0, z1, z2, z3, z4, z5, z6, z7, z8]) rfl ?_
 rw [HRE.out]
 refine ⟨.st (10) (0) cl nm (.slice none 0 0) (.slice A1 ys1.length c1) (.slice A2 ys2.length c2) (.slice none 0 0) [] ys1 ys2 [] 0, rfl, ⟨_, _, _, _, none, A1, A2, none, 0, c1, c2, 0, [], ys1, ys2, [], rfl⟩, ?_, Mv.over (Below.refl _ _) HM.out HG.out (Nat.le_refl _) hlt⟩
 exact ((st_node (B := w.heap.size + 1) ⟨hn2, hn1⟩ (FkL.nil _ _ _) HF1.out.fk HF2.out.fk (FkL.nil _ _ _) rfl HQ1.out HQ2.out rfl).grown HG.out (.inl (by omega))).mono (by omega)
theorem attempt_1 (HE : ExAny) (n : Nat) (b : Rb) (HBL : SpecK n b) (hbl : ∀ s, (b s).2.len ≤ s.len) (W0 w : World) (c : Nat) (s : RS) (hv : Vars W0) (h : Rd W0 c s w) (hn : 4 * s.len + 3 ≤ n) (hel : (b (at3 b s)).2.sees 0 kFinally = true) : Calls Tryz.prog 160 #[.pointer (some ⟨c, 0, none⟩)] w (StC W0 c w (attS b s)) := by
 obtain ⟨a, ha⟩ : ∃ a, b s = a := ⟨_, rfl⟩
 obtain ⟨d, hd⟩ : ∃ d, b (at3 b s) = d := ⟨_, rfl⟩
 rw [hd] at hel
 have hl0 : (at3 b s).len ≤ s.len := len_at3' hbl s
 have hl2 : d.2.len ≤ (at3 b s).len := by rw [← hd]; exact hbl _
 have hn1 := name_len (at2 b s)
 have hn2 := class_len (at1 b s)
 obtain ⟨f, hf⟩ : ∃ f, b d.2.skip = f := ⟨_, rfl⟩
 have hl3 := len_skip d.2
 have HRE : Hid (attS b s = (mkS 10 0 (at1 b s).classV (at2 b s).nameV [] a.1 d.1 f.1, f.2)) := Lib.hid (by simp only [attS, ha, hd, hel, hf, if_true])
 obtain ⟨RR, hRR⟩ : ∃ RR, attS b s = RR := ⟨_, rfl⟩
 rw [hRR] at HRE ⊢
 have hlt := h.lt
 have hle0 := h.le
 obtain ⟨W1, hW1⟩ : ∃ W1, w.alloc (.cells #[.int .i64 0, .int .i32 0, .string ⟨#[]⟩, .string ⟨#[]⟩, .slice none 0 0, .slice none 0 0, .slice none 0 0, .slice none 0 0, .int .i64 0] 118) = W1 := ⟨_, rfl⟩
 have hb : Below w.heap.size w W1 := by rw [← hW1]; exact (Below.refl _ w).alloc (Nat.le_refl _) _
 have hx : Bx W1 w.heap.size #[.int .i64 0, .int .i32 0, .string ⟨#[]⟩, .string ⟨#[]⟩, .slice none 0 0, .slice none 0 0, .slice none 0 0, .slice none 0 0, .int .i64 0] 118 := by rw [← hW1]; exact Bx.new _ _ _
 have hz : W1.heap.size = w.heap.size + 1 := by rw [← hW1]; simp
 have HM := Lib.hid (Mv.below hb h)
 have HB := Lib.hid hx
 clear hb hx
 have HA : Hid (∀ w', Rd W0 c (s) w' → Calls Tryz.prog 119 #[.pointer (some ⟨c, 0, none⟩)] w' (BlC W0 c w' a)) := by
   show ∀ w', _
   intro w' h'; have := HBL W0 w' c _ hv h' (by omega); rw [ha] at this; exact this
 have HN1 : Hid (∀ w', Rd W0 c (a.2) w' → Calls Tryz.prog 55 #[.pointer (some ⟨c, 0, none⟩), .string kCatch] w' fun e w'' => e = .returned (.tuple #[]) ∧ Mv W0 c (RS.need (a.2) kCatch) w' w'') := by
   show ∀ w', _
   intro w' h'; exact need_any W0 w' c _ kCatch h'
 have HN2 : Hid (∀ w', Rd W0 c (a.2.need kCatch) w' → Calls Tryz.prog 55 #[.pointer (some ⟨c, 0, none⟩), .string sOpen] w' fun e w'' => e = .returned (.tuple #[]) ∧ Mv W0 c (RS.need (a.2.need kCatch) sOpen) w' w'') := by
   show ∀ w', _
   intro w' h'; exact need_any W0 w' c _ sOpen h'
 have e1 : at1 b s = (a.2.need kCatch).need sOpen := by rw [at1, ha]
 obtain ⟨s1, hs1⟩ : ∃ s1, at1 b s = s1 := ⟨_, rfl⟩
 obtain ⟨s2, hs2⟩ : ∃ s2, at2 b s = s2 := ⟨_, rfl⟩
 obtain ⟨s3, hs3⟩ : ∃ s3, at3 b s = s3 := ⟨_, rfl⟩
 have e2 : s2 = s1.class := by rw [← hs1, ← hs2]; rfl
 have e3 : s3 = s2.name.need sShut := by rw [← hs2, ← hs3]; rfl
 rw [hs1] at e1 HRE hn2
 rw [hs2] at HRE hn1
 rw [hs3] at hd hl0 hl2
 rw [← e1] at HN2
 have HK : Hid (∀ w', Rd W0 c (s1) w' → Calls Tryz.prog 56 #[.pointer (some ⟨c, 0, none⟩)] w' fun e w'' => e = .returned (.string s1.classV) ∧ Mv W0 c (s1.class) w' w'') := by
   show ∀ w', _
   intro w' h'; exact classR_any W0 w' c _ h'
 rw [← e2] at HK
 have HW : Hid (∀ w', Rd W0 c (s2) w' → Calls Tryz.prog 87 #[.pointer (some ⟨c, 0, none⟩)] w' fun e w'' => e = .returned (.string s2.nameV) ∧ Mv W0 c (s2.name) w' w'') := by
   show ∀ w', _
   intro w' h'; exact nameR_any W0 w' c _ h'
 have HN3 : Hid (∀ w', Rd W0 c (s2.name) w' → Calls Tryz.prog 55 #[.pointer (some ⟨c, 0, none⟩), .string sShut] w' fun e w'' => e = .returned (.tuple #[]) ∧ Mv W0 c (RS.need (s2.name) sShut) w' w'') := by
   show ∀ w', _
   intro w' h'; exact need_any W0 w' c _ sShut h'
 rw [← e3] at HN3
 have HD : Hid (∀ w', Rd W0 c (s3) w' → Calls Tryz.prog 119 #[.pointer (some ⟨c, 0, none⟩)] w' (BlC W0 c w' d)) := by
   show ∀ w', _
   intro w' h'; have := HBL W0 w' c _ hv h' (by omega); rw [hd] at this; exact this
 have HF : Hid (∀ w', Rd W0 c (d.2.skip) w' → Calls Tryz.prog 119 #[.pointer (some ⟨c, 0, none⟩)] w' (BlC W0 c w' f)) := by
   show ∀ w', _
   intro w' h'; have := HBL W0 w' c _ hv h' (by omega); rw [hf] at this; exact this
 have HT : Hid (∀ w', Rd W0 c d.2 w' → Calls Tryz.prog 57 #[.pointer (some ⟨c, 0, none⟩), .string kFinally] w' fun e w'' => e = .returned (.bool true) ∧ Mv W0 c d.2.skip w' w'') := by
   show ∀ w', _
   intro w' h'; exact take_true W0 w' c _ _ h' hel
 obtain ⟨cl, hcl⟩ : ∃ cl, s1.classV = cl := ⟨_, rfl⟩
 obtain ⟨nm, hnm⟩ : ∃ nm, s2.nameV = nm := ⟨_, rfl⟩
 rw [hcl] at HK HRE hn2
 rw [hnm] at HW HRE hn1
 clear hRR ha hd hl0 hl2 e1 e2 e3 hs1 hs2 hs3 hcl hnm h hv hn hel HE HBL hbl hf hl3
 go_enter Tryz.func160, Tryz.ntmps160
 go_wp2_with fail
 refine (HA.out _ HM.out.2).mono ?_
 clear HA hW1
 rintro e w2 ⟨v1, ys1, rfl, ho, hq1, hm⟩
 obtain ⟨A1, c1, rfl⟩ := fk_len ho
 have hf1 := (FkL.x ho).mono (show w.heap.size + 1 ≤ _ by omega)
 have HQ1 := Lib.hid hq1
 clear ho hq1
 replace HM := Lib.hid (HM.out.trans hm)
 replace HB := Lib.hid (Bx.grown HB.out hm.1 (by omega))
 have hs2 := hm.1.size
 clear hm
 have HF1 := Lib.hid hf1
 clear hf1
 obtain ⟨W3, hW3⟩ : ∃ W, w2.alloc (.cells #[.int .i64 10, .int .i32 0, .string ⟨#[]⟩, .string ⟨#[]⟩, .slice none 0 0, .slice A1 ys1.length c1, .slice none 0 0, .slice none 0 0, .int .i64 0] 118) = W := ⟨_, rfl⟩
 have hb : Below w2.heap.size w2 W3 := by rw [← hW3]; exact (Below.refl _ _).alloc (Nat.le_refl _) _
 have HL : Hid (Bx W3 w2.heap.size #[.int .i64 10, .int .i32 0, .string ⟨#[]⟩, .string ⟨#[]⟩, .slice none 0 0, .slice A1 ys1.length c1, .slice none 0 0, .slice none 0 0, .int .i64 0] 118) := Lib.hid (by rw [← hW3]; exact Bx.new _ _ _)
 have hz2 : W3.heap.size = w2.heap.size + 1 := by rw [← hW3]; simp
 replace HM := Lib.hid (HM.out.trans (Mv.below hb HM.out.2))
 replace HB := Lib.hid (HB.out.next hb)
 replace HF1 := Lib.hid (HF1.out.excl hb (Nat.le_refl _))
 clear hb
 subst hW3
 go_wp2_with fail
 refine (HN1.out _ HM.out.2).mono ?_
 clear HN1
 rintro e w3 ⟨rfl, hm⟩
 replace HM := Lib.hid (HM.out.trans hm)
 replace HB := Lib.hid (Bx.grown HB.out hm.1 (by omega))
 replace HL := Lib.hid (Bx.grown HL.out hm.1 (by omega))
 replace HF1 := Lib.hid (HF1.out.grown hm.1 (.inl (by omega)))
 have hs3 := hm.1.size
 clear hm
 go_wp2_with fail
 refine (HN2.out _ HM.out.2).mono ?_
 clear HN2
 rintro e w4 ⟨rfl, hm⟩
 replace HM := Lib.hid (HM.out.trans hm)
 replace HB := Lib.hid (Bx.grown HB.out hm.1 (by omega))
 replace HL := Lib.hid (Bx.grown HL.out hm.1 (by omega))
 replace HF1 := Lib.hid (HF1.out.grown hm.1 (.inl (by omega)))
 have hs4 := hm.1.size
 clear hm
 go_wp2_with fail
 refine (HK.out _ HM.out.2).mono ?_
 clear HK
 rintro e w5 ⟨rfl, hm⟩
 replace HM := Lib.hid (HM.out.trans hm)
 replace HB := Lib.hid (Bx.grown HB.out hm.1 (by omega))
 replace HL := Lib.hid (Bx.grown HL.out hm.1 (by omega))
 replace HF1 := Lib.hid (HF1.out.grown hm.1 (.inl (by omega)))
 have hs5 := hm.1.size
 clear hm
 go_wp2_with fail
 refine (HW.out _ HM.out.2).mono ?_
 clear HW
 rintro e w6 ⟨rfl, hm⟩
 replace HM := Lib.hid (HM.out.trans hm)
 replace HB := Lib.hid (Bx.grown HB.out hm.1 (by omega))
 replace HL := Lib.hid (Bx.grown HL.out hm.1 (by omega))
 replace HF1 := Lib.hid (HF1.out.grown hm.1 (.inl (by omega)))
 have hs6 := hm.1.size
 clear hm
 obtain ⟨W7, hW7⟩ : ∃ W, (w6.setCell ⟨w2.heap.size, 2, none⟩ (.string cl)).setCell ⟨w2.heap.size, 3, none⟩ (.string nm) = W := ⟨_, rfl⟩
 have hg : w6.grownBy W7 (some w2.heap.size) := by rw [← hW7]; exact (grown_set_at _ _ _ _).trans (grown_set_at _ _ _ _)
 have hl2 : Bx W7 w2.heap.size #[.int .i64 10, .int .i32 0, .string cl, .string nm, .slice none 0 0, .slice A1 ys1.length c1, .slice none 0 0, .slice none 0 0, .int .i64 0] 118 := by
   rw [← hW7]
   have := (HL.out.set 2 (.string cl)).set 3 (.string nm)
   simpa using this
 obtain ⟨xt0, xt1, xt2, xt3, xt4, xt5, xt6, xt7, xt8⟩ := HL.out.all_9
 have gxt2 := HL.out.fro 2
 have gxt3 := HL.out.fro 3
 replace HM := Lib.hid (Mv.over (Below.refl _ _) HM.out hg (by omega) hlt)
 replace HB := Lib.hid (Bx.grown HB.out hg (by omega))
 replace HF1 := Lib.hid (HF1.out.grown hg (.inr rfl))
 replace HL := Lib.hid hl2
 have hs6x := hg.size
 clear hl2 hg
 go_wp2_with fail
 refine (HN3.out _ HM.out.2).mono ?_
 clear HN3 hW7
 rintro e w7 ⟨rfl, hm⟩
 replace HM := Lib.hid (HM.out.trans hm)
 replace HB := Lib.hid (Bx.grown HB.out hm.1 (by omega))
 replace HL := Lib.hid (Bx.grown HL.out hm.1 (by omega))
 replace HF1 := Lib.hid (HF1.out.grown hm.1 (.inl (by omega)))
 have hs7 := hm.1.size
 clear hm
 go_wp2_with fail
 refine (HD.out _ HM.out.2).mono ?_
 clear HD
 rintro e w8 ⟨v2, ys2, rfl, ho, hq2, hm⟩
 obtain ⟨A2, c2, rfl⟩ := fk_len ho
 have hf2 := FkL.past ho (show w2.heap.size < _ by omega) (show w.heap.size + 1 ≤ _ by omega)
 have HQ2 := Lib.hid hq2
 clear ho hq2
 replace HM := Lib.hid (HM.out.trans hm)
 replace HB := Lib.hid (Bx.grown HB.out hm.1 (by omega))
 replace HL := Lib.hid (Bx.grown HL.out hm.1 (by omega))
 replace HF1 := Lib.hid (HF1.out.grown hm.1 (.inl (by omega)))
 have hs8 := hm.1.size
 clear hm
 have HF2 := Lib.hid hf2
 clear hf2
 obtain ⟨W9, hW9⟩ : ∃ W, w8.setCell ⟨w2.heap.size, 6, none⟩ (.slice A2 ys2.length c2) = W := ⟨_, rfl⟩
 have hg : w8.grownBy W9 (some w2.heap.size) := by rw [← hW9]; exact grown_set_at _ _ _ _
 have hl2 : Bx W9 w2.heap.size #[.int .i64 10, .int .i32 0, .string cl, .string nm, .slice none 0 0, .slice A1 ys1.length c1, .slice A2 ys2.length c2, .slice none 0 0, .int .i64 0] 118 := by
   rw [← hW9]
   have := HL.out.set 6 (.slice A2 ys2.length c2)
   simpa using this
 obtain ⟨xs60, xs61, xs62, xs63, xs64, xs65, xs66, xs67, xs68⟩ := HL.out.all_9
 have gxs66 := HL.out.fro 6
 replace HM := Lib.hid (Mv.over (Below.refl _ _) HM.out hg (by omega) hlt)
 replace HB := Lib.hid (Bx.grown HB.out hg (by omega))
 replace HF1 := Lib.hid (HF1.out.grown hg (.inr rfl))
 replace HF2 := Lib.hid (HF2.out.grown hg (.inr rfl))
 replace HL := Lib.hid hl2
 have hs8x := hg.size
 clear hl2 hg
 go_wp2_with fail
 refine (HT.out _ HM.out.2).mono ?_
 clear HT hW9
 rintro e w9 ⟨rfl, hm⟩
 replace HM := Lib.hid (HM.out.trans hm)
 replace HB := Lib.hid (Bx.grown HB.out hm.1 (by omega))
 replace HL := Lib.hid (Bx.grown HL.out hm.1 (by omega))
 replace HF1 := Lib.hid (HF1.out.grown hm.1 (.inl (by omega)))
 replace HF2 := Lib.hid (HF2.out.grown hm.1 (.inl (by omega)))
 have hs9 := hm.1.size
 clear hm
 go_wp2_with fail
 refine (HF.out _ HM.out.2).mono ?_
 clear HF
 rintro e w10 ⟨v3, ys3, rfl, ho, hq3, hm⟩
 obtain ⟨A3, c3, rfl⟩ := fk_len ho
 have hf3 := FkL.past ho (show w2.heap.size < _ by omega) (show w.heap.size + 1 ≤ _ by omega)
 have HQ3 := Lib.hid hq3
 clear ho hq3
 replace HM := Lib.hid (HM.out.trans hm)
 replace HB := Lib.hid (Bx.grown HB.out hm.1 (by omega))
 replace HL := Lib.hid (Bx.grown HL.out hm.1 (by omega))
 replace HF1 := Lib.hid (HF1.out.grown hm.1 (.inl (by omega)))
 replace HF2 := Lib.hid (HF2.out.grown hm.1 (.inl (by omega)))
 have hs10 := hm.1.size
 clear hm
 have HF3 := Lib.hid hf3
 clear hf3
 obtain ⟨W11, hW11⟩ : ∃ W, w10.setCell ⟨w2.heap.size, 7, none⟩ (.slice A3 ys3.length c3) = W := ⟨_, rfl⟩
 have hg : w10.grownBy W11 (some w2.heap.size) := by rw [← hW11]; exact grown_set_at _ _ _ _
 have hl2 : Bx W11 w2.heap.size #[.int .i64 10, .int .i32 0, .string cl, .string nm, .slice none 0 0, .slice A1 ys1.length c1, .slice A2 ys2.length c2, .slice A3 ys3.length c3, .int .i64 0] 118 := by
   rw [← hW11]
   have := HL.out.set 7 (.slice A3 ys3.length c3)
   simpa using this
 obtain ⟨xs70, xs71, xs72, xs73, xs74, xs75, xs76, xs77, xs78⟩ := HL.out.all_9
 have gxs77 := HL.out.fro 7
 replace HM := Lib.hid (Mv.over (Below.refl _ _) HM.out hg (by omega) hlt)
 replace HB := Lib.hid (Bx.grown HB.out hg (by omega))
 replace HF1 := Lib.hid (HF1.out.grown hg (.inr rfl))
 replace HF2 := Lib.hid (HF2.out.grown hg (.inr rfl))
 replace HF3 := Lib.hid (HF3.out.grown hg (.inr rfl))
 replace HL := Lib.hid hl2
 have hs10x := hg.size
 clear hl2 hg
 obtain ⟨r0, r1, r2, r3, r4, r5, r6, r7, r8⟩ := HB.out.all_9
 have g0 := HB.out.fro 0; have g1 := HB.out.fro 1; have g2 := HB.out.fro 2; have g3 := HB.out.fro 3; have g4 := HB.out.fro 4; have g5 := HB.out.fro 5; have g6 := HB.out.fro 6; have g7 := HB.out.fro 7; have g8 := HB.out.fro 8
 obtain ⟨x0, x1, x2, x3, x4, x5, x6, x7, x8⟩ := HL.out.all_9
 have HG := Lib.hid (grown_9 W11 w.heap.size (.int .i64 10) (.int .i32 0) (.string cl) (.string nm) (.slice none 0 0) (.slice A1 ys1.length c1) (.slice A2 ys2.length c2) (.slice A3 ys3.length c3) (.int .i64 0))
 go_wp2_with fail
 obtain ⟨z0, z1, z2, z3, z4, z5, z6, z7, z8⟩ := (HB.out.to_9 (.int .i64 10) (.int .i32 0) (.string cl) (.string nm) (.slice none 0 0) (.slice A1 ys1.length c1) (.slice A2 ys2.length c2) (.slice A3 ys3.length c3) (.int .i64 0)).all_9
 (try simp only [Exit.inBlock, Exit.then])
 refine bodyPost_ret (v := .agg #[.int .i64 10, .int .i32 0, .string cl, .string nm, .slice none 0 0, .slice A1 ys1.length c1, .slice A2 ys2.length c2, .slice A3 ys3.length c3, .int .i64 0]) (by simp [results, Tryz.results160, go_sem, z0, z1, z2, z3, z4, z5, z6, z7, z8]) rfl ?_
 rw [HRE.out]
 refine ⟨.st (10) (0) cl nm (.slice none 0 0) (.slice A1 ys1.length c1) (.slice A2 ys2.length c2) (.slice A3 ys3.length c3) [] ys1 ys2 ys3 0, rfl, ⟨_, _, _, _, none, A1, A2, A3, 0, c1, c2, c3, [], ys1, ys2, ys3, rfl⟩, ?_, Mv.over (Below.refl _ _) HM.out HG.out (Nat.le_refl _) hlt⟩
 exact ((st_node (B := w.heap.size + 1) ⟨hn2, hn1⟩ (FkL.nil _ _ _) HF1.out.fk HF2.out.fk HF3.out.fk rfl HQ1.out HQ2.out HQ3.out).grown HG.out (.inl (by omega))).mono (by omega)
theorem attempt_of (HE : ExAny) (n : Nat) (b : Rb) (HBL : SpecK n b) (hbl : ∀ s, (b s).2.len ≤ s.len) (W0 w : World) (c : Nat) (s : RS) (hv : Vars W0) (h : Rd W0 c s w) (hn : 4 * s.len + 3 ≤ n) : Calls Tryz.prog 160 #[.pointer (some ⟨c, 0, none⟩)] w (StC W0 c w (attS b s)) := by
 cases hel : (b (at3 b s)).2.sees 0 kFinally with
 | false => exact attempt_0 HE n b HBL hbl W0 w c s hv h hn hel
 | true => exact attempt_1 HE n b HBL hbl W0 w c s hv h hn hel
end Go.Proofs.YtnbfajmdfkgebaaGreatDoor
