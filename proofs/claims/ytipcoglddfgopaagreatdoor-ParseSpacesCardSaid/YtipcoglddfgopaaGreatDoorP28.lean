/- Parts of the proof: StA, StB, StC, StD. -/
import Derived.Test.YtipcoglddfgopaaGreatDoorOwn
import Derived.Test.YtipcoglddfgopaaGreatDoorBxN
import Derived.Test.YtipcoglddfgopaaGreatDoorP24
import Derived.Test.YtipcoglddfgopaaGreatDoorP23
import Derived.Deep.RegionWith
set_option maxHeartbeats 4000000
set_option maxRecDepth 100000
namespace Go.Proofs.YtipcoglddfgopaaGreatDoor
set_option linter.unusedSimpArgs false
set_option linter.unusedVariables false
section
open Go.RowKit
theorem finE_of (HE : ExAny) (W0 w : World) (c : Nat) (s : RS) (hv : Vars W0) (h : Rd W0 c s w) : Calls Tryz.prog 136 #[.pointer (some ⟨c, 0, none⟩)] w (LsC W0 c w (finE s)) := by
 obtain ⟨q, hq⟩ : ∃ q, ex (s) = q := ⟨_, rfl⟩
 have HRE : Hid (finE s = ([hdE q.1], q.2.need sSemi)) := Lib.hid (by simp only [finE, hq])
 obtain ⟨RR, hRR⟩ : ∃ RR, finE s = RR := ⟨_, rfl⟩
 rw [hRR] at HRE ⊢
 have hlt := h.lt
 have hle0 := h.le
 have HX : Hid (∀ w', Rd W0 c (s) w' → Calls Tryz.prog 20 #[.pointer (some ⟨c, 0, none⟩)] w' (ExC W0 c w' q)) := by
   show ∀ w', _
   intro w' h'; have := HE W0 w' c _ hv h'; rw [hq] at this; exact this
 have HN : Hid (∀ w', Rd W0 c (q.2) w' → Calls Tryz.prog 36 #[.pointer (some ⟨c, 0, none⟩), .string sSemi] w' fun e w'' => e = .returned (.tuple #[]) ∧ Mv W0 c (RS.need (q.2) sSemi) w' w'') := by
   show ∀ w', _
   intro w' h'; exact need_any W0 w' c _ sSemi h'
 have HM := Lib.hid (Mv.refl h)
 clear hq hRR h hv HE
 go_enter Tryz.func136, Tryz.ntmps136
 go_wp2_with fail
 refine (HX.out _ HM.out.2).mono ?_
 clear HX
 rintro e w2 ⟨y, rfl, hk, hm⟩
 replace HM := Lib.hid (HM.out.trans hm)
 have hs2 := hm.1.size
 have HK := Lib.hid (hk.mono (show w.heap.size ≤ _ by omega))
 obtain ⟨k, m, tx, nm, ty, A, cap, l, rfl, _, _, _⟩ := hk
 clear hm
 obtain ⟨W3, hW3⟩ : ∃ W, w2.alloc (.cells #[.int .i64 k, .int .i32 m, .string tx, .string nm, .string ty, .slice A l.length cap, .string ⟨#[]⟩, .int .i64 0] 42) = W := ⟨_, rfl⟩
 have hb : Below w2.heap.size w2 W3 := by rw [← hW3]; exact (Below.refl _ _).alloc (Nat.le_refl _) _
 have HL : Hid (Bx W3 w2.heap.size #[.int .i64 k, .int .i32 m, .string tx, .string nm, .string ty, .slice A l.length cap, .string ⟨#[]⟩, .int .i64 0] 42) := Lib.hid (by rw [← hW3]; exact Bx.new _ _ _)
 replace HM := Lib.hid (HM.out.trans (Mv.below hb HM.out.2))
 replace HK := Lib.hid (HK.out.below hb)
 have hs3 := hb.size
 clear hb
 subst hW3
 simp only [cellsN]
 go_wp2_with fail
 refine (HN.out _ HM.out.2).mono ?_
 clear HN
 rintro e w4 ⟨rfl, hm⟩
 replace HM := Lib.hid (HM.out.trans hm)
 replace HL := Lib.hid (Bx.grown HL.out hm.1 (by omega))
 replace HK := Lib.hid (HK.out.grown hm.1 (.inl hlt))
 have hs4 := hm.1.size
 clear hm
 obtain ⟨a0, a1, a2, a3, a4, a5, a6, a7⟩ := HL.out.all_8
 go_wp2_with fail
 go_ret
 have HY := Lib.hid (OwnE.one HK.out (show w.heap.size ≤ w4.heap.size by omega))
 rw [HRE.out]
 exact ⟨_, _, rfl, HY.out, bare_one (ExK.nk HK.out).2.2, HM.out.trans (Mv.below ((Below.refl _ _).alloc (Nat.le_refl _) _) HM.out.2)⟩
theorem cond_of (HE : ExAny) (W0 w : World) (c : Nat) (s : RS) (hv : Vars W0) (h : Rd W0 c s w) : Calls Tryz.prog 134 #[.pointer (some ⟨c, 0, none⟩)] w (LsC W0 c w (cond s)) := by
 obtain ⟨q, hq⟩ : ∃ q, ex (s.need sOpen) = q := ⟨_, rfl⟩
 have HRE : Hid (cond s = ([hdE q.1], q.2.need sShut)) := Lib.hid (by simp only [cond, hq])
 obtain ⟨RR, hRR⟩ : ∃ RR, cond s = RR := ⟨_, rfl⟩
 rw [hRR] at HRE ⊢
 have hlt := h.lt
 have hle0 := h.le
 have HN0 : Hid (∀ w', Rd W0 c (s) w' → Calls Tryz.prog 36 #[.pointer (some ⟨c, 0, none⟩), .string sOpen] w' fun e w'' => e = .returned (.tuple #[]) ∧ Mv W0 c (RS.need (s) sOpen) w' w'') := by
   show ∀ w', _
   intro w' h'; exact need_any W0 w' c _ sOpen h'
 have HX : Hid (∀ w', Rd W0 c (s.need sOpen) w' → Calls Tryz.prog 20 #[.pointer (some ⟨c, 0, none⟩)] w' (ExC W0 c w' q)) := by
   show ∀ w', _
   intro w' h'; have := HE W0 w' c _ hv h'; rw [hq] at this; exact this
 have HN : Hid (∀ w', Rd W0 c (q.2) w' → Calls Tryz.prog 36 #[.pointer (some ⟨c, 0, none⟩), .string sShut] w' fun e w'' => e = .returned (.tuple #[]) ∧ Mv W0 c (RS.need (q.2) sShut) w' w'') := by
   show ∀ w', _
   intro w' h'; exact need_any W0 w' c _ sShut h'
 have HM := Lib.hid (Mv.refl h)
 clear hq hRR h hv HE
 go_enter Tryz.func134, Tryz.ntmps134
 go_wp2_with fail
 refine (HN0.out _ HM.out.2).mono ?_
 clear HN0
 rintro e w1 ⟨rfl, hm⟩
 replace HM := Lib.hid (HM.out.trans hm)
 have hs1 := hm.1.size
 clear hm
 go_wp2_with fail
 refine (HX.out _ HM.out.2).mono ?_
 clear HX
 rintro e w2 ⟨y, rfl, hk, hm⟩
 replace HM := Lib.hid (HM.out.trans hm)
 have hs2 := hm.1.size
 have HK := Lib.hid (hk.mono (show w.heap.size ≤ _ by omega))
 obtain ⟨k, m, tx, nm, ty, A, cap, l, rfl, _, _, _⟩ := hk
 clear hm
 obtain ⟨W3, hW3⟩ : ∃ W, w2.alloc (.cells #[.int .i64 k, .int .i32 m, .string tx, .string nm, .string ty, .slice A l.length cap, .string ⟨#[]⟩, .int .i64 0] 42) = W := ⟨_, rfl⟩
 have hb : Below w2.heap.size w2 W3 := by rw [← hW3]; exact (Below.refl _ _).alloc (Nat.le_refl _) _
 have HL : Hid (Bx W3 w2.heap.size #[.int .i64 k, .int .i32 m, .string tx, .string nm, .string ty, .slice A l.length cap, .string ⟨#[]⟩, .int .i64 0] 42) := Lib.hid (by rw [← hW3]; exact Bx.new _ _ _)
 replace HM := Lib.hid (HM.out.trans (Mv.below hb HM.out.2))
 replace HK := Lib.hid (HK.out.below hb)
 have hs3 := hb.size
 clear hb
 subst hW3
 simp only [cellsN]
 go_wp2_with fail
 refine (HN.out _ HM.out.2).mono ?_
 clear HN
 rintro e w4 ⟨rfl, hm⟩
 replace HM := Lib.hid (HM.out.trans hm)
 replace HL := Lib.hid (Bx.grown HL.out hm.1 (by omega))
 replace HK := Lib.hid (HK.out.grown hm.1 (.inl hlt))
 have hs4 := hm.1.size
 clear hm
 obtain ⟨a0, a1, a2, a3, a4, a5, a6, a7⟩ := HL.out.all_8
 go_wp2_with fail
 go_ret
 have HY := Lib.hid (OwnE.one HK.out (show w.heap.size ≤ w4.heap.size by omega))
 rw [HRE.out]
 exact ⟨_, _, rfl, HY.out, bare_one (ExK.nk HK.out).2.2, HM.out.trans (Mv.below ((Below.refl _ _).alloc (Nat.le_refl _) _) HM.out.2)⟩
theorem valE_of (HE : ExAny) (W0 w : World) (c : Nat) (s : RS) (hv : Vars W0) (h : Rd W0 c s w) : Calls Tryz.prog 132 #[.pointer (some ⟨c, 0, none⟩)] w (LsC W0 c w (valE s)) := by
 obtain ⟨q, hq⟩ : ∃ q, finE (s.need sEq) = q := ⟨_, rfl⟩
 have HRE : Hid (valE s = q) := Lib.hid (by simp only [valE, hq])
 obtain ⟨RR, hRR⟩ : ∃ RR, valE s = RR := ⟨_, rfl⟩
 rw [hRR] at HRE ⊢
 have hlt := h.lt
 have hle0 := h.le
 have HN : Hid (∀ w', Rd W0 c (s) w' → Calls Tryz.prog 36 #[.pointer (some ⟨c, 0, none⟩), .string sEq] w' fun e w'' => e = .returned (.tuple #[]) ∧ Mv W0 c (RS.need (s) sEq) w' w'') := by
   show ∀ w', _
   intro w' h'; exact need_any W0 w' c _ sEq h'
 have HX : Hid (∀ w', Rd W0 c (s.need sEq) w' → Calls Tryz.prog 136 #[.pointer (some ⟨c, 0, none⟩)] w' (LsC W0 c w' q)) := by
   show ∀ w', _
   intro w' h'; have := finE_of HE W0 w' c _ hv h'; rw [hq] at this; exact this
 have HM := Lib.hid (Mv.refl h)
 clear hq hRR h hv HE
 go_enter Tryz.func132, Tryz.ntmps132
 go_wp2_with fail
 refine (HN.out _ HM.out.2).mono ?_
 clear HN
 rintro e w1 ⟨rfl, hm⟩
 replace HM := Lib.hid (HM.out.trans hm)
 have hs1 := hm.1.size
 clear hm
 go_wp2_with fail
 refine (HX.out _ HM.out.2).mono ?_
 clear HX
 rintro e w2 ⟨v, ys, rfl, ho, hq, hm⟩
 have HY := Lib.hid (ho.mono (show w.heap.size ≤ _ by omega))
 have HQ := Lib.hid hq
 obtain ⟨A, cap, rfl⟩ := ho.form
 replace HM := Lib.hid (HM.out.trans hm)
 clear ho hq hm
 go_wp2_with fail
 go_ret
 rw [HRE.out]
 exact ⟨_, ys, rfl, HY.out, HQ.out, HM.out⟩
end
section
open Go.RowKit
theorem len_at3' {b : Rb} (hb : ∀ s, (b s).2.len ≤ s.len) (s : RS) : (at3 b s).len ≤ s.len := by
 have d1 := hb s
 have d2 := len_need (b s).2 kCatch
 have d3 := len_need ((b s).2.need kCatch) sOpen
 have d4 := len_class (at1 b s)
 have d5 := len_name (at2 b s)
 have d6 := len_need (at2 b s).name sShut
 have e1 : (at1 b s).len = (((b s).2.need kCatch).need sOpen).len := rfl
 have e2 : (at2 b s).len = (at1 b s).class.len := rfl
 show ((at2 b s).name.need sShut).len ≤ _
 omega
def SpecK (n : Nat) (b : Rb) : Prop := ∀ (W0 w : World) (c : Nat) (s : RS), Vars W0 → Rd W0 c s w → 4 * s.len + 3 ≤ n → Calls Tryz.prog 96 #[.pointer (some ⟨c, 0, none⟩)] w (BlC W0 c w (b s))
theorem choice_0 (HE : ExAny) (n : Nat) (b : Rb) (HBL : SpecK n b) (hbl : ∀ s, (b s).2.len ≤ s.len) (W0 w : World) (c : Nat) (s : RS) (hv : Vars W0) (h : Rd W0 c s w) (hn : 4 * s.len + 3 ≤ n) (hel : (b (cond s).2).2.sees 0 kElse = false) : Calls Tryz.prog 133 #[.pointer (some ⟨c, 0, none⟩)] w (StC W0 c w (choS b s)) := by
 obtain ⟨q, hq⟩ : ∃ q, cond s = q := ⟨_, rfl⟩
 rw [hq] at hel
 obtain ⟨a, ha⟩ : ∃ a, b q.2 = a := ⟨_, rfl⟩
 rw [ha] at hel
 have hl1 : q.2.len ≤ s.len - 1 := by rw [← hq]; exact len_cond s
 have hl2 : a.2.len ≤ q.2.len := by rw [← ha]; exact hbl _
 have HRE : Hid (choS b s = (mkS 4 0 E0 E0 q.1 a.1 [] [], a.2)) := Lib.hid (by simp only [choS, hq, ha, hel]; simp)
 obtain ⟨RR, hRR⟩ : ∃ RR, choS b s = RR := ⟨_, rfl⟩
 rw [hRR] at HRE ⊢
 have hlt := h.lt
 have hle0 := h.le
 obtain ⟨W1, hW1⟩ : ∃ W1, w.alloc (.cells #[.int .i64 0, .int .i32 0, .string ⟨#[]⟩, .string ⟨#[]⟩, .slice none 0 0, .slice none 0 0, .slice none 0 0, .slice none 0 0, .int .i64 0] 144) = W1 := ⟨_, rfl⟩
 have hb : Below w.heap.size w W1 := by rw [← hW1]; exact (Below.refl _ w).alloc (Nat.le_refl _) _
 have hx : Bx W1 w.heap.size #[.int .i64 0, .int .i32 0, .string ⟨#[]⟩, .string ⟨#[]⟩, .slice none 0 0, .slice none 0 0, .slice none 0 0, .slice none 0 0, .int .i64 0] 144 := by rw [← hW1]; exact Bx.new _ _ _
 have hz : W1.heap.size = w.heap.size + 1 := by rw [← hW1]; simp
 have HM := Lib.hid (Mv.below hb h)
 have HB := Lib.hid hx
 clear hb hx
 have HC : Hid (∀ w', Rd W0 c (s) w' → Calls Tryz.prog 134 #[.pointer (some ⟨c, 0, none⟩)] w' (LsC W0 c w' q)) := by
   show ∀ w', _
   intro w' h'; have := cond_of HE W0 w' c _ hv h'; rw [hq] at this; exact this
 have HA : Hid (∀ w', Rd W0 c (q.2) w' → Calls Tryz.prog 96 #[.pointer (some ⟨c, 0, none⟩)] w' (BlC W0 c w' a)) := by
   show ∀ w', _
   intro w' h'; have := HBL W0 w' c _ hv h' (by omega); rw [ha] at this; exact this
 have HT : Hid (∀ w', Rd W0 c a.2 w' → Calls Tryz.prog 38 #[.pointer (some ⟨c, 0, none⟩), .string kElse] w' fun e w'' => e = .returned (.bool false) ∧ w' = w'') := by
   show ∀ w', _
   intro w' h'; exact take_false W0 w' c _ _ h' hel
 clear hRR hq ha hl1 hl2 h hv hn hel HE HBL hbl
 go_enter Tryz.func133, Tryz.ntmps133
 go_wp2_with fail
 refine (HC.out _ HM.out.2).mono ?_
 clear HC hW1
 rintro e w2 ⟨v1, ys1, rfl, ho, hq1, hm⟩
 obtain ⟨A1, c1, rfl⟩ := ho.form
 have hf1 := (FkL.x ho.own.fk).mono (show w.heap.size + 1 ≤ _ by omega)
 have HQ1 := Lib.hid hq1
 clear ho hq1
 replace HM := Lib.hid (HM.out.trans hm)
 replace HB := Lib.hid (Bx.grown HB.out hm.1 (by omega))
 have hs2 := hm.1.size
 clear hm
 have HF1 := Lib.hid hf1
 clear hf1
 go_wp2_with fail
 refine (HA.out _ HM.out.2).mono ?_
 clear HA
 rintro e w3 ⟨v2, ys2, rfl, ho, hq2, hm⟩
 obtain ⟨A2, c2, rfl⟩ := fk_len ho
 have hf2 := (FkL.x ho).mono (show w.heap.size + 1 ≤ _ by omega)
 have HQ2 := Lib.hid hq2
 clear ho hq2
 replace HM := Lib.hid (HM.out.trans hm)
 replace HB := Lib.hid (Bx.grown HB.out hm.1 (by omega))
 replace HF1 := Lib.hid (HF1.out.grown hm.1 (.inl (by omega)))
 have hs3 := hm.1.size
 clear hm
 have HF2 := Lib.hid hf2
 clear hf2
 obtain ⟨W4, hW4⟩ : ∃ W, w3.alloc (.cells #[.int .i64 4, .int .i32 0, .string ⟨#[]⟩, .string ⟨#[]⟩, .slice A1 ys1.length c1, .slice A2 ys2.length c2, .slice none 0 0, .slice none 0 0, .int .i64 0] 144) = W := ⟨_, rfl⟩
 have hb : Below w3.heap.size w3 W4 := by rw [← hW4]; exact (Below.refl _ _).alloc (Nat.le_refl _) _
 have HL : Hid (Bx W4 w3.heap.size #[.int .i64 4, .int .i32 0, .string ⟨#[]⟩, .string ⟨#[]⟩, .slice A1 ys1.length c1, .slice A2 ys2.length c2, .slice none 0 0, .slice none 0 0, .int .i64 0] 144) := Lib.hid (by rw [← hW4]; exact Bx.new _ _ _)
 have hz3 : W4.heap.size = w3.heap.size + 1 := by rw [← hW4]; simp
 replace HM := Lib.hid (HM.out.trans (Mv.below hb HM.out.2))
 replace HB := Lib.hid (HB.out.next hb)
 replace HF1 := Lib.hid (HF1.out.excl hb (Nat.le_refl _))
 replace HF2 := Lib.hid (HF2.out.excl hb (Nat.le_refl _))
 clear hb
 subst hW4
 go_wp2_with fail
 refine (HT.out _ HM.out.2).mono ?_
 clear HT
 rintro e w5 ⟨rfl, rfl⟩
 obtain ⟨r0, r1, r2, r3, r4, r5, r6, r7, r8⟩ := HB.out.all_9
 have g0 := HB.out.fro 0; have g1 := HB.out.fro 1; have g2 := HB.out.fro 2; have g3 := HB.out.fro 3; have g4 := HB.out.fro 4; have g5 := HB.out.fro 5; have g6 := HB.out.fro 6; have g7 := HB.out.fro 7; have g8 := HB.out.fro 8
 obtain ⟨x0, x1, x2, x3, x4, x5, x6, x7, x8⟩ := HL.out.all_9
 have HG := Lib.hid (grown_9 (w3.alloc (.cells #[.int .i64 4, .int .i32 0, .string ⟨#[]⟩, .string ⟨#[]⟩, .slice A1 ys1.length c1, .slice A2 ys2.length c2, .slice none 0 0, .slice none 0 0, .int .i64 0] 144)) w.heap.size (.int .i64 4) (.int .i32 0) (.string ⟨#[]⟩) (.string ⟨#[]⟩) (.slice A1 ys1.length c1) (.slice A2 ys2.length c2) (.slice none 0 0) (.slice none 0 0) (.int .i64 0))
 go_wp2_with fail
 obtain ⟨z0, z1, z2, z3, z4, z5, z6, z7, z8⟩ := (HB.out.to_9 (.int .i64 4) (.int .i32 0) (.string ⟨#[]⟩) (.string ⟨#[]⟩) (.slice A1 ys1.length c1) (.slice A2 ys2.length c2) (.slice none 0 0) (.slice none 0 0) (.int .i64 0)).all_9
 (try simp only [Exit.inBlock, Exit.then])
 refine bodyPost_ret (v := .agg #[.int .i64 4, .int .i32 0, .string ⟨#[]⟩, .string ⟨#[]⟩, .slice A1 ys1.length c1, .slice A2 ys2.length c2, .slice none 0 0, .slice none 0 0, .int .i64 0]) (by simp [results, Tryz.results133, go_sem, z0, z1, z2, z3, z4, z5, z6, z7, z8]) rfl ?_
 rw [HRE.out]
 refine ⟨.st (4) (0) ⟨#[]⟩ ⟨#[]⟩ (.slice A1 ys1.length c1) (.slice A2 ys2.length c2) (.slice none 0 0) (.slice none 0 0) ys1 ys2 [] [] 0, rfl, ⟨_, _, _, _, A1, A2, none, none, c1, c2, 0, 0, ys1, ys2, [], [], rfl⟩, ?_, Mv.over (Below.refl _ _) HM.out HG.out (Nat.le_refl _) hlt⟩
 exact ((st_node (B := w.heap.size + 1) ⟨Nat.zero_le _, Nat.zero_le _⟩ HF1.out.fk HF2.out.fk (FkL.nil _ _ _) (FkL.nil _ _ _) HQ1.out HQ2.out rfl rfl).grown HG.out (.inl (by omega))).mono (by omega)
theorem choice_1 (HE : ExAny) (n : Nat) (b : Rb) (HBL : SpecK n b) (hbl : ∀ s, (b s).2.len ≤ s.len) (W0 w : World) (c : Nat) (s : RS) (hv : Vars W0) (h : Rd W0 c s w) (hn : 4 * s.len + 3 ≤ n) (hel : (b (cond s).2).2.sees 0 kElse = true) : Calls Tryz.prog 133 #[.pointer (some ⟨c, 0, none⟩)] w (StC W0 c w (choS b s)) := by
 obtain ⟨q, hq⟩ : ∃ q, cond s = q := ⟨_, rfl⟩
 rw [hq] at hel
 obtain ⟨a, ha⟩ : ∃ a, b q.2 = a := ⟨_, rfl⟩
 rw [ha] at hel
 have hl1 : q.2.len ≤ s.len - 1 := by rw [← hq]; exact len_cond s
 have hl2 : a.2.len ≤ q.2.len := by rw [← ha]; exact hbl _
 obtain ⟨d, hd⟩ : ∃ d, b a.2.skip = d := ⟨_, rfl⟩
 have hl3 := len_skip a.2
 have HRE : Hid (choS b s = (mkS 4 0 E0 E0 q.1 a.1 d.1 [], d.2)) := Lib.hid (by simp only [choS, hq, ha, hel, hd, if_true])
 obtain ⟨RR, hRR⟩ : ∃ RR, choS b s = RR := ⟨_, rfl⟩
 rw [hRR] at HRE ⊢
 have hlt := h.lt
 have hle0 := h.le
 obtain ⟨W1, hW1⟩ : ∃ W1, w.alloc (.cells #[.int .i64 0, .int .i32 0, .string ⟨#[]⟩, .string ⟨#[]⟩, .slice none 0 0, .slice none 0 0, .slice none 0 0, .slice none 0 0, .int .i64 0] 144) = W1 := ⟨_, rfl⟩
 have hb : Below w.heap.size w W1 := by rw [← hW1]; exact (Below.refl _ w).alloc (Nat.le_refl _) _
 have hx : Bx W1 w.heap.size #[.int .i64 0, .int .i32 0, .string ⟨#[]⟩, .string ⟨#[]⟩, .slice none 0 0, .slice none 0 0, .slice none 0 0, .slice none 0 0, .int .i64 0] 144 := by rw [← hW1]; exact Bx.new _ _ _
 have hz : W1.heap.size = w.heap.size + 1 := by rw [← hW1]; simp
 have HM := Lib.hid (Mv.below hb h)
 have HB := Lib.hid hx
 clear hb hx
 have HC : Hid (∀ w', Rd W0 c (s) w' → Calls Tryz.prog 134 #[.pointer (some ⟨c, 0, none⟩)] w' (LsC W0 c w' q)) := by
   show ∀ w', _
   intro w' h'; have := cond_of HE W0 w' c _ hv h'; rw [hq] at this; exact this
 have HA : Hid (∀ w', Rd W0 c (q.2) w' → Calls Tryz.prog 96 #[.pointer (some ⟨c, 0, none⟩)] w' (BlC W0 c w' a)) := by
   show ∀ w', _
   intro w' h'; have := HBL W0 w' c _ hv h' (by omega); rw [ha] at this; exact this
 have HD : Hid (∀ w', Rd W0 c (a.2.skip) w' → Calls Tryz.prog 96 #[.pointer (some ⟨c, 0, none⟩)] w' (BlC W0 c w' d)) := by
   show ∀ w', _
   intro w' h'; have := HBL W0 w' c _ hv h' (by omega); rw [hd] at this; exact this
 have HT : Hid (∀ w', Rd W0 c a.2 w' → Calls Tryz.prog 38 #[.pointer (some ⟨c, 0, none⟩), .string kElse] w' fun e w'' => e = .returned (.bool true) ∧ Mv W0 c a.2.skip w' w'') := by
   show ∀ w', _
   intro w' h'; exact take_true W0 w' c _ _ h' hel
 clear hRR hq ha hl1 hl2 h hv hn hel HE HBL hbl hd hl3
 go_enter Tryz.func133, Tryz.ntmps133
 go_wp2_with fail
 refine (HC.out _ HM.out.2).mono ?_
 clear HC hW1
 rintro e w2 ⟨v1, ys1, rfl, ho, hq1, hm⟩
 obtain ⟨A1, c1, rfl⟩ := ho.form
 have hf1 := (FkL.x ho.own.fk).mono (show w.heap.size + 1 ≤ _ by omega)
 have HQ1 := Lib.hid hq1
 clear ho hq1
 replace HM := Lib.hid (HM.out.trans hm)
 replace HB := Lib.hid (Bx.grown HB.out hm.1 (by omega))
 have hs2 := hm.1.size
 clear hm
 have HF1 := Lib.hid hf1
 clear hf1
 go_wp2_with fail
 refine (HA.out _ HM.out.2).mono ?_
 clear HA
 rintro e w3 ⟨v2, ys2, rfl, ho, hq2, hm⟩
 obtain ⟨A2, c2, rfl⟩ := fk_len ho
 have hf2 := (FkL.x ho).mono (show w.heap.size + 1 ≤ _ by omega)
 have HQ2 := Lib.hid hq2
 clear ho hq2
 replace HM := Lib.hid (HM.out.trans hm)
 replace HB := Lib.hid (Bx.grown HB.out hm.1 (by omega))
 replace HF1 := Lib.hid (HF1.out.grown hm.1 (.inl (by omega)))
 have hs3 := hm.1.size
 clear hm
 have HF2 := Lib.hid hf2
 clear hf2
 obtain ⟨W4, hW4⟩ : ∃ W, w3.alloc (.cells #[.int .i64 4, .int .i32 0, .string ⟨#[]⟩, .string ⟨#[]⟩, .slice A1 ys1.length c1, .slice A2 ys2.length c2, .slice none 0 0, .slice none 0 0, .int .i64 0] 144) = W := ⟨_, rfl⟩
 have hb : Below w3.heap.size w3 W4 := by rw [← hW4]; exact (Below.refl _ _).alloc (Nat.le_refl _) _
 have HL : Hid (Bx W4 w3.heap.size #[.int .i64 4, .int .i32 0, .string ⟨#[]⟩, .string ⟨#[]⟩, .slice A1 ys1.length c1, .slice A2 ys2.length c2, .slice none 0 0, .slice none 0 0, .int .i64 0] 144) := Lib.hid (by rw [← hW4]; exact Bx.new _ _ _)
 have hz3 : W4.heap.size = w3.heap.size + 1 := by rw [← hW4]; simp
 replace HM := Lib.hid (HM.out.trans (Mv.below hb HM.out.2))
 replace HB := Lib.hid (HB.out.next hb)
 replace HF1 := Lib.hid (HF1.out.excl hb (Nat.le_refl _))
 replace HF2 := Lib.hid (HF2.out.excl hb (Nat.le_refl _))
 clear hb
 subst hW4
 go_wp2_with fail
 refine (HT.out _ HM.out.2).mono ?_
 clear HT
 rintro e w4 ⟨rfl, hm⟩
 replace HM := Lib.hid (HM.out.trans hm)
 replace HB := Lib.hid (Bx.grown HB.out hm.1 (by omega))
 replace HL := Lib.hid (Bx.grown HL.out hm.1 (by omega))
 replace HF1 := Lib.hid (HF1.out.grown hm.1 (.inl (by omega)))
 replace HF2 := Lib.hid (HF2.out.grown hm.1 (.inl (by omega)))
 have hs4 := hm.1.size
 clear hm
 go_wp2_with fail
 refine (HD.out _ HM.out.2).mono ?_
 clear HD
 rintro e w5 ⟨v3, ys3, rfl, ho, hq3, hm⟩
 obtain ⟨A3, c3, rfl⟩ := fk_len ho
 have hf3 := FkL.past ho (show w3.heap.size < _ by omega) (show w.heap.size + 1 ≤ _ by omega)
 have HQ3 := Lib.hid hq3
 clear ho hq3
 replace HM := Lib.hid (HM.out.trans hm)
 replace HB := Lib.hid (Bx.grown HB.out hm.1 (by omega))
 replace HL := Lib.hid (Bx.grown HL.out hm.1 (by omega))
 replace HF1 := Lib.hid (HF1.out.grown hm.1 (.inl (by omega)))
 replace HF2 := Lib.hid (HF2.out.grown hm.1 (.inl (by omega)))
 have hs5 := hm.1.size
 clear hm
 have HF3 := Lib.hid hf3
 clear hf3
 obtain ⟨W6, hW6⟩ : ∃ W, w5.setCell ⟨w3.heap.size, 6, none⟩ (.slice A3 ys3.length c3) = W := ⟨_, rfl⟩
 have hg : w5.grownBy W6 (some w3.heap.size) := by rw [← hW6]; exact grown_set_at _ _ _ _
 have hl2 : Bx W6 w3.heap.size #[.int .i64 4, .int .i32 0, .string ⟨#[]⟩, .string ⟨#[]⟩, .slice A1 ys1.length c1, .slice A2 ys2.length c2, .slice A3 ys3.length c3, .slice none 0 0, .int .i64 0] 144 := by
   rw [← hW6]
   have := HL.out.set 6 (.slice A3 ys3.length c3)
   simpa using this
 obtain ⟨xs60, xs61, xs62, xs63, xs64, xs65, xs66, xs67, xs68⟩ := HL.out.all_9
 have gxs66 := HL.out.fro 6
 replace HM := Lib.hid (Mv.over (Below.refl _ _) HM.out hg (by omega) hlt)
 replace HB := Lib.hid (Bx.grown HB.out hg (by omega))
 replace HF1 := Lib.hid (HF1.out.grown hg (.inr rfl))
 replace HF2 := Lib.hid (HF2.out.grown hg (.inr rfl))
 replace HF3 := Lib.hid (HF3.out.grown hg (.inr rfl))
 replace HL := Lib.hid hl2
 have hs5x := hg.size
 clear hl2 hg
 obtain ⟨r0, r1, r2, r3, r4, r5, r6, r7, r8⟩ := HB.out.all_9
 have g0 := HB.out.fro 0; have g1 := HB.out.fro 1; have g2 := HB.out.fro 2; have g3 := HB.out.fro 3; have g4 := HB.out.fro 4; have g5 := HB.out.fro 5; have g6 := HB.out.fro 6; have g7 := HB.out.fro 7; have g8 := HB.out.fro 8
 obtain ⟨x0, x1, x2, x3, x4, x5, x6, x7, x8⟩ := HL.out.all_9
 have HG := Lib.hid (grown_9 W6 w.heap.size (.int .i64 4) (.int .i32 0) (.string ⟨#[]⟩) (.string ⟨#[]⟩) (.slice A1 ys1.length c1) (.slice A2 ys2.length c2) (.slice A3 ys3.length c3) (.slice none 0 0) (.int .i64 0))
 go_wp2_with fail
 obtain ⟨z0, z1, z2, z3, z4, z5, z6, z7, z8⟩ := (HB.out.to_9 (.int .i64 4) (.int .i32 0) (.string ⟨#[]⟩) (.string ⟨#[]⟩) (.slice A1 ys1.length c1) (.slice A2 ys2.length c2) (.slice A3 ys3.length c3) (.slice none 0 0) (.int .i64 0)).all_9
 (try simp only [Exit.inBlock, Exit.then])
 refine bodyPost_ret (v := .agg #[.int .i64 4, .int .i32 0, .string ⟨#[]⟩, .string ⟨#[]⟩, .slice A1 ys1.length c1, .slice A2 ys2.length c2, .slice A3 ys3.length c3, .slice none 0 0, .int .i64 0]) (by simp [results, Tryz.results133, go_sem, z0, z1, z2, z3, z4, z5, z6, z7, z8]) rfl ?_
 rw [HRE.out]
 refine ⟨.st (4) (0) ⟨#[]⟩ ⟨#[]⟩ (.slice A1 ys1.length c1) (.slice A2 ys2.length c2) (.slice A3 ys3.length c3) (.slice none 0 0) ys1 ys2 ys3 [] 0, rfl, ⟨_, _, _, _, A1, A2, A3, none, c1, c2, c3, 0, ys1, ys2, ys3, [], rfl⟩, ?_, Mv.over (Below.refl _ _) HM.out HG.out (Nat.le_refl _) hlt⟩
 exact ((st_node (B := w.heap.size + 1) ⟨Nat.zero_le _, Nat.zero_le _⟩ HF1.out.fk HF2.out.fk HF3.out.fk (FkL.nil _ _ _) HQ1.out HQ2.out HQ3.out rfl).grown HG.out (.inl (by omega))).mono (by omega)
theorem choice_of (HE : ExAny) (n : Nat) (b : Rb) (HBL : SpecK n b) (hbl : ∀ s, (b s).2.len ≤ s.len) (W0 w : World) (c : Nat) (s : RS) (hv : Vars W0) (h : Rd W0 c s w) (hn : 4 * s.len + 3 ≤ n) : Calls Tryz.prog 133 #[.pointer (some ⟨c, 0, none⟩)] w (StC W0 c w (choS b s)) := by
 cases hel : (b (cond s).2).2.sees 0 kElse with
 | false => exact choice_0 HE n b HBL hbl W0 w c s hv h hn hel
 | true => exact choice_1 HE n b HBL hbl W0 w c s hv h hn hel
theorem result_0 (HE : ExAny) (W0 w : World) (c : Nat) (s : RS) (hv : Vars W0) (h : Rd W0 c s w) (hel : s.sees 0 sSemi = false) : Calls Tryz.prog 135 #[.pointer (some ⟨c, 0, none⟩)] w (StC W0 c w (resS s)) := by
 obtain ⟨q, hq⟩ : ∃ q, finE s = q := ⟨_, rfl⟩
 have HRE : Hid (resS s = (mkS 6 0 E0 E0 q.1 [] [] [], q.2)) := Lib.hid (by simp only [resS, hel, hq]; simp)
 obtain ⟨RR, hRR⟩ : ∃ RR, resS s = RR := ⟨_, rfl⟩
 rw [hRR] at HRE ⊢
 have hlt := h.lt
 have hle0 := h.le
 obtain ⟨W1, hW1⟩ : ∃ W1, w.alloc (.cells #[.int .i64 0, .int .i32 0, .string ⟨#[]⟩, .string ⟨#[]⟩, .slice none 0 0, .slice none 0 0, .slice none 0 0, .slice none 0 0, .int .i64 0] 144) = W1 := ⟨_, rfl⟩
 have hb : Below w.heap.size w W1 := by rw [← hW1]; exact (Below.refl _ w).alloc (Nat.le_refl _) _
 have hx : Bx W1 w.heap.size #[.int .i64 0, .int .i32 0, .string ⟨#[]⟩, .string ⟨#[]⟩, .slice none 0 0, .slice none 0 0, .slice none 0 0, .slice none 0 0, .int .i64 0] 144 := by rw [← hW1]; exact Bx.new _ _ _
 have hz : W1.heap.size = w.heap.size + 1 := by rw [← hW1]; simp
 have HM := Lib.hid (Mv.below hb h)
 have HB := Lib.hid hx
 clear hb hx
 have HC : Hid (∀ w', Rd W0 c (s) w' → Calls Tryz.prog 136 #[.pointer (some ⟨c, 0, none⟩)] w' (LsC W0 c w' q)) := by
   show ∀ w', _
   intro w' h'; have := finE_of HE W0 w' c _ hv h'; rw [hq] at this; exact this
 have HT : Hid (∀ w', Rd W0 c s w' → Calls Tryz.prog 38 #[.pointer (some ⟨c, 0, none⟩), .string sSemi] w' fun e w'' => e = .returned (.bool false) ∧ w' = w'') := by
   show ∀ w', _
   intro w' h'; exact take_false W0 w' c _ _ h' hel
 obtain ⟨W2, hW2⟩ : ∃ W, W1.alloc (.cells #[.int .i64 6, .int .i32 0, .string ⟨#[]⟩, .string ⟨#[]⟩, .slice none 0 0, .slice none 0 0, .slice none 0 0, .slice none 0 0, .int .i64 0] 144) = W := ⟨_, rfl⟩
 have hb : Below W1.heap.size W1 W2 := by rw [← hW2]; exact (Below.refl _ _).alloc (Nat.le_refl _) _
 have HL : Hid (Bx W2 (w.heap.size + 1) #[.int .i64 6, .int .i32 0, .string ⟨#[]⟩, .string ⟨#[]⟩, .slice none 0 0, .slice none 0 0, .slice none 0 0, .slice none 0 0, .int .i64 0] 144) := Lib.hid (by rw [← hW2, ← hz]; exact Bx.new _ _ _)
 have hz2 : W2.heap.size = w.heap.size + 1 + 1 := by rw [← hW2]; simp [hz]
 replace HM := Lib.hid (HM.out.trans (Mv.below hb HM.out.2))
 replace HB := Lib.hid (HB.out.next hb)
 clear hb
 subst hW2
 clear hRR hq h hv hel HE
 go_enter Tryz.func135, Tryz.ntmps135
 go_wp2_with fail
 refine (HT.out _ HM.out.2).mono ?_
 clear HT hW1
 rintro e w2 ⟨rfl, rfl⟩
 go_wp2_with fail
 refine (HC.out _ HM.out.2).mono ?_
 clear HC
 rintro e w3 ⟨v1, ys1, rfl, ho, hq1, hm⟩
 obtain ⟨A1, c1, rfl⟩ := ho.form
 have hf1 := FkL.past ho.own.fk (show (w.heap.size + 1) < _ by omega) (show w.heap.size + 1 ≤ _ by omega)
 have HQ1 := Lib.hid hq1
 clear ho hq1
 replace HM := Lib.hid (HM.out.trans hm)
 replace HB := Lib.hid (Bx.grown HB.out hm.1 (by omega))
 replace HL := Lib.hid (Bx.grown HL.out hm.1 (by omega))
 have hs3 := hm.1.size
 clear hm
 have HF1 := Lib.hid hf1
 clear hf1
 obtain ⟨W4, hW4⟩ : ∃ W, w3.setCell ⟨(w.heap.size + 1), 4, none⟩ (.slice A1 ys1.length c1) = W := ⟨_, rfl⟩
 have hg : w3.grownBy W4 (some (w.heap.size + 1)) := by rw [← hW4]; exact grown_set_at _ _ _ _
 have hl2 : Bx W4 (w.heap.size + 1) #[.int .i64 6, .int .i32 0, .string ⟨#[]⟩, .string ⟨#[]⟩, .slice A1 ys1.length c1, .slice none 0 0, .slice none 0 0, .slice none 0 0, .int .i64 0] 144 := by
   rw [← hW4]
   have := HL.out.set 4 (.slice A1 ys1.length c1)
   simpa using this
 obtain ⟨xs40, xs41, xs42, xs43, xs44, xs45, xs46, xs47, xs48⟩ := HL.out.all_9
 have gxs44 := HL.out.fro 4
 replace HM := Lib.hid (Mv.over (Below.refl _ _) HM.out hg (by omega) hlt)
 replace HB := Lib.hid (Bx.grown HB.out hg (by omega))
 replace HF1 := Lib.hid (HF1.out.grown hg (.inr rfl))
 replace HL := Lib.hid hl2
 have hs3x := hg.size
 clear hl2 hg
 obtain ⟨r0, r1, r2, r3, r4, r5, r6, r7, r8⟩ := HB.out.all_9
 have g0 := HB.out.fro 0; have g1 := HB.out.fro 1; have g2 := HB.out.fro 2; have g3 := HB.out.fro 3; have g4 := HB.out.fro 4; have g5 := HB.out.fro 5; have g6 := HB.out.fro 6; have g7 := HB.out.fro 7; have g8 := HB.out.fro 8
 obtain ⟨x0, x1, x2, x3, x4, x5, x6, x7, x8⟩ := HL.out.all_9
 have HG := Lib.hid (grown_9 W4 w.heap.size (.int .i64 6) (.int .i32 0) (.string ⟨#[]⟩) (.string ⟨#[]⟩) (.slice A1 ys1.length c1) (.slice none 0 0) (.slice none 0 0) (.slice none 0 0) (.int .i64 0))
 go_wp2_with fail
 obtain ⟨z0, z1, z2, z3, z4, z5, z6, z7, z8⟩ := (HB.out.to_9 (.int .i64 6) (.int .i32 0) (.string ⟨#[]⟩) (.string ⟨#[]⟩) (.slice A1 ys1.length c1) (.slice none 0 0) (.slice none 0 0) (.slice none 0 0) (.int .i64 0)).all_9
 (try simp only [Exit.inBlock, Exit.then])
 refine bodyPost_ret (v := .agg #[.int .i64 6, .int .i32 0, .string ⟨#[]⟩, .string ⟨#[]⟩, .slice A1 ys1.length c1, .slice none 0 0, .slice none 0 0, .slice none 0 0, .int .i64 0]) (by simp [results, Tryz.results135, go_sem, z0, z1, z2, z3, z4, z5, z6, z7, z8]) rfl ?_
 rw [HRE.out]
 refine ⟨.st (6) (0) ⟨#[]⟩ ⟨#[]⟩ (.slice A1 ys1.length c1) (.slice none 0 0) (.slice none 0 0) (.slice none 0 0) ys1 [] [] [] 0, rfl, ⟨_, _, _, _, A1, none, none, none, c1, 0, 0, 0, ys1, [], [], [], rfl⟩, ?_, Mv.over (Below.refl _ _) HM.out HG.out (Nat.le_refl _) hlt⟩
 exact ((st_node (B := w.heap.size + 1) ⟨Nat.zero_le _, Nat.zero_le _⟩ HF1.out.fk (FkL.nil _ _ _) (FkL.nil _ _ _) (FkL.nil _ _ _) HQ1.out rfl rfl rfl).grown HG.out (.inl (by omega))).mono (by omega)
theorem result_1 (HE : ExAny) (W0 w : World) (c : Nat) (s : RS) (hv : Vars W0) (h : Rd W0 c s w) (hel : s.sees 0 sSemi = true) : Calls Tryz.prog 135 #[.pointer (some ⟨c, 0, none⟩)] w (StC W0 c w (resS s)) := by
 have HRE : Hid (resS s = (mkS 6 0 E0 E0 [] [] [] [], s.skip)) := Lib.hid (by simp only [resS, hel, if_true])
 obtain ⟨RR, hRR⟩ : ∃ RR, resS s = RR := ⟨_, rfl⟩
 rw [hRR] at HRE ⊢
 have hlt := h.lt
 have hle0 := h.le
 obtain ⟨W1, hW1⟩ : ∃ W1, w.alloc (.cells #[.int .i64 0, .int .i32 0, .string ⟨#[]⟩, .string ⟨#[]⟩, .slice none 0 0, .slice none 0 0, .slice none 0 0, .slice none 0 0, .int .i64 0] 144) = W1 := ⟨_, rfl⟩
 have hb : Below w.heap.size w W1 := by rw [← hW1]; exact (Below.refl _ w).alloc (Nat.le_refl _) _
 have hx : Bx W1 w.heap.size #[.int .i64 0, .int .i32 0, .string ⟨#[]⟩, .string ⟨#[]⟩, .slice none 0 0, .slice none 0 0, .slice none 0 0, .slice none 0 0, .int .i64 0] 144 := by rw [← hW1]; exact Bx.new _ _ _
 have hz : W1.heap.size = w.heap.size + 1 := by rw [← hW1]; simp
 have HM := Lib.hid (Mv.below hb h)
 have HB := Lib.hid hx
 clear hb hx
 have HT : Hid (∀ w', Rd W0 c s w' → Calls Tryz.prog 38 #[.pointer (some ⟨c, 0, none⟩), .string sSemi] w' fun e w'' => e = .returned (.bool true) ∧ Mv W0 c s.skip w' w'') := by
   show ∀ w', _
   intro w' h'; exact take_true W0 w' c _ _ h' hel
 obtain ⟨W2, hW2⟩ : ∃ W, W1.alloc (.cells #[.int .i64 6, .int .i32 0, .string ⟨#[]⟩, .string ⟨#[]⟩, .slice none 0 0, .slice none 0 0, .slice none 0 0, .slice none 0 0, .int .i64 0] 144) = W := ⟨_, rfl⟩
 have hb : Below W1.heap.size W1 W2 := by rw [← hW2]; exact (Below.refl _ _).alloc (Nat.le_refl _) _
 have HL : Hid (Bx W2 (w.heap.size + 1) #[.int .i64 6, .int .i32 0, .string ⟨#[]⟩, .string ⟨#[]⟩, .slice none 0 0, .slice none 0 0, .slice none 0 0, .slice none 0 0, .int .i64 0] 144) := Lib.hid (by rw [← hW2, ← hz]; exact Bx.new _ _ _)
 have hz2 : W2.heap.size = w.heap.size + 1 + 1 := by rw [← hW2]; simp [hz]
 replace HM := Lib.hid (HM.out.trans (Mv.below hb HM.out.2))
 replace HB := Lib.hid (HB.out.next hb)
 clear hb
 subst hW2
 clear hRR h hv hel HE
 go_enter Tryz.func135, Tryz.ntmps135
 go_wp2_with fail
 refine (HT.out _ HM.out.2).mono ?_
 clear HT hW1
 rintro e w2 ⟨rfl, hm⟩
 replace HM := Lib.hid (HM.out.trans hm)
 replace HB := Lib.hid (Bx.grown HB.out hm.1 (by omega))
 replace HL := Lib.hid (Bx.grown HL.out hm.1 (by omega))
 have hs2 := hm.1.size
 clear hm
 obtain ⟨r0, r1, r2, r3, r4, r5, r6, r7, r8⟩ := HB.out.all_9
 have g0 := HB.out.fro 0; have g1 := HB.out.fro 1; have g2 := HB.out.fro 2; have g3 := HB.out.fro 3; have g4 := HB.out.fro 4; have g5 := HB.out.fro 5; have g6 := HB.out.fro 6; have g7 := HB.out.fro 7; have g8 := HB.out.fro 8
 obtain ⟨x0, x1, x2, x3, x4, x5, x6, x7, x8⟩ := HL.out.all_9
 have HG := Lib.hid (grown_9 w2 w.heap.size (.int .i64 6) (.int .i32 0) (.string ⟨#[]⟩) (.string ⟨#[]⟩) (.slice none 0 0) (.slice none 0 0) (.slice none 0 0) (.slice none 0 0) (.int .i64 0))
 go_wp2_with fail
 obtain ⟨z0, z1, z2, z3, z4, z5, z6, z7, z8⟩ := (HB.out.to_9 (.int .i64 6) (.int .i32 0) (.string ⟨#[]⟩) (.string ⟨#[]⟩) (.slice none 0 0) (.slice none 0 0) (.slice none 0 0) (.slice none 0 0) (.int .i64 0)).all_9
 (try simp only [Exit.inBlock, Exit.then])
 refine bodyPost_ret (v := .agg #[.int .i64 6, .int .i32 0, .string ⟨#[]⟩, .string ⟨#[]⟩, .slice none 0 0, .slice none 0 0, .slice none 0 0, .slice none 0 0, .int .i64 0]) (by simp [results, Tryz.results135, go_sem, z0, z1, z2, z3, z4, z5, z6, z7, z8]) rfl ?_
 rw [HRE.out]
 refine ⟨.st (6) (0) ⟨#[]⟩ ⟨#[]⟩ (.slice none 0 0) (.slice none 0 0) (.slice none 0 0) (.slice none 0 0) [] [] [] [] 0, rfl, ⟨_, _, _, _, none, none, none, none, 0, 0, 0, 0, [], [], [], [], rfl⟩, ?_, Mv.over (Below.refl _ _) HM.out HG.out (Nat.le_refl _) hlt⟩
 exact ((st_node (B := w.heap.size + 1) ⟨Nat.zero_le _, Nat.zero_le _⟩ (FkL.nil _ _ _) (FkL.nil _ _ _) (FkL.nil _ _ _) (FkL.nil _ _ _) rfl rfl rfl rfl).grown HG.out (.inl (by omega))).mono (by omega)
theorem result_of (HE : ExAny) (W0 w : World) (c : Nat) (s : RS) (hv : Vars W0) (h : Rd W0 c s w) : Calls Tryz.prog 135 #[.pointer (some ⟨c, 0, none⟩)] w (StC W0 c w (resS s)) := by
 cases hel : s.sees 0 sSemi with
 | false => exact result_0 HE W0 w c s hv h hel
 | true => exact result_1 HE W0 w c s hv h hel
theorem super_of (HA : ArAny) (W0 w : World) (c : Nat) (s : RS) (hv : Vars W0) (h : Rd W0 c s w) (hne : s.ws ≠ []) : Calls Tryz.prog 138 #[.pointer (some ⟨c, 0, none⟩)] w (StC W0 c w (supS s)) := by
 obtain ⟨q, hq⟩ : ∃ q, ar s.skip = q := ⟨_, rfl⟩
 have HRE : Hid (supS s = (mkS 11 0 E0 E0 q.1 [] [] [], q.2.need sSemi)) := Lib.hid (by simp only [supS, hq])
 obtain ⟨RR, hRR⟩ : ∃ RR, supS s = RR := ⟨_, rfl⟩
 rw [hRR] at HRE ⊢
 have hlt := h.lt
 have hle0 := h.le
 obtain ⟨W1, hW1⟩ : ∃ W1, w.alloc (.cells #[.int .i64 0, .int .i32 0, .string ⟨#[]⟩, .string ⟨#[]⟩, .slice none 0 0, .slice none 0 0, .slice none 0 0, .slice none 0 0, .int .i64 0] 144) = W1 := ⟨_, rfl⟩
 have hb : Below w.heap.size w W1 := by rw [← hW1]; exact (Below.refl _ w).alloc (Nat.le_refl _) _
 have hx : Bx W1 w.heap.size #[.int .i64 0, .int .i32 0, .string ⟨#[]⟩, .string ⟨#[]⟩, .slice none 0 0, .slice none 0 0, .slice none 0 0, .slice none 0 0, .int .i64 0] 144 := by rw [← hW1]; exact Bx.new _ _ _
 have hz : W1.heap.size = w.heap.size + 1 := by rw [← hW1]; simp
 have HM := Lib.hid (Mv.below hb h)
 have HB := Lib.hid hx
 clear hb hx
 have HT := Lib.hid (skip_any W0 W1 c s HM.out.2 hne)
 have HC : Hid (∀ w', Rd W0 c (s.skip) w' → Calls Tryz.prog 127 #[.pointer (some ⟨c, 0, none⟩)] w' (LsC W0 c w' q)) := by
   show ∀ w', _
   intro w' h'; have := HA W0 w' c _ hv h'; rw [hq] at this; exact this
 have HN : Hid (∀ w', Rd W0 c (q.2) w' → Calls Tryz.prog 36 #[.pointer (some ⟨c, 0, none⟩), .string sSemi] w' fun e w'' => e = .returned (.tuple #[]) ∧ Mv W0 c (RS.need (q.2) sSemi) w' w'') := by
   show ∀ w', _
   intro w' h'; exact need_any W0 w' c _ sSemi h'
 clear hRR hq h hv hne HA
 go_enter Tryz.func138, Tryz.ntmps138
 go_wp2_with fail
 refine HT.out.mono ?_
 clear HT hW1
 rintro e w2 ⟨rfl, hm⟩
 replace HM := Lib.hid (HM.out.trans hm)
 replace HB := Lib.hid (Bx.grown HB.out hm.1 (by omega))
 have hs2 := hm.1.size
 clear hm
 go_wp2_with fail
 refine (HC.out _ HM.out.2).mono ?_
 clear HC
 rintro e w3 ⟨v1, ys1, rfl, ho, hq1, hm⟩
 obtain ⟨A1, c1, rfl⟩ := ho.form
 have hf1 := (FkL.x ho.own.fk).mono (show w.heap.size + 1 ≤ _ by omega)
 have HQ1 := Lib.hid hq1
 clear ho hq1
 replace HM := Lib.hid (HM.out.trans hm)
 replace HB := Lib.hid (Bx.grown HB.out hm.1 (by omega))
 have hs3 := hm.1.size
 clear hm
 have HF1 := Lib.hid hf1
 clear hf1
 obtain ⟨W4, hW4⟩ : ∃ W, w3.alloc (.cells #[.int .i64 11, .int .i32 0, .string ⟨#[]⟩, .string ⟨#[]⟩, .slice A1 ys1.length c1, .slice none 0 0, .slice none 0 0, .slice none 0 0, .int .i64 0] 144) = W := ⟨_, rfl⟩
 have hb : Below w3.heap.size w3 W4 := by rw [← hW4]; exact (Below.refl _ _).alloc (Nat.le_refl _) _
 have HL : Hid (Bx W4 w3.heap.size #[.int .i64 11, .int .i32 0, .string ⟨#[]⟩, .string ⟨#[]⟩, .slice A1 ys1.length c1, .slice none 0 0, .slice none 0 0, .slice none 0 0, .int .i64 0] 144) := Lib.hid (by rw [← hW4]; exact Bx.new _ _ _)
 have hz3 : W4.heap.size = w3.heap.size + 1 := by rw [← hW4]; simp
 replace HM := Lib.hid (HM.out.trans (Mv.below hb HM.out.2))
 replace HB := Lib.hid (HB.out.next hb)
 replace HF1 := Lib.hid (HF1.out.excl hb (Nat.le_refl _))
 clear hb
 subst hW4
 go_wp2_with fail
 refine (HN.out _ HM.out.2).mono ?_
 clear HN
 rintro e w4 ⟨rfl, hm⟩
 replace HM := Lib.hid (HM.out.trans hm)
 replace HB := Lib.hid (Bx.grown HB.out hm.1 (by omega))
 replace HL := Lib.hid (Bx.grown HL.out hm.1 (by omega))
 replace HF1 := Lib.hid (HF1.out.grown hm.1 (.inl (by omega)))
 have hs4 := hm.1.size
 clear hm
 obtain ⟨r0, r1, r2, r3, r4, r5, r6, r7, r8⟩ := HB.out.all_9
 have g0 := HB.out.fro 0; have g1 := HB.out.fro 1; have g2 := HB.out.fro 2; have g3 := HB.out.fro 3; have g4 := HB.out.fro 4; have g5 := HB.out.fro 5; have g6 := HB.out.fro 6; have g7 := HB.out.fro 7; have g8 := HB.out.fro 8
 obtain ⟨x0, x1, x2, x3, x4, x5, x6, x7, x8⟩ := HL.out.all_9
 have HG := Lib.hid (grown_9 w4 w.heap.size (.int .i64 11) (.int .i32 0) (.string ⟨#[]⟩) (.string ⟨#[]⟩) (.slice A1 ys1.length c1) (.slice none 0 0) (.slice none 0 0) (.slice none 0 0) (.int .i64 0))
 go_wp2_with fail
 obtain ⟨z0, z1, z2, z3, z4, z5, z6, z7, z8⟩ := (HB.out.to_9 (.int .i64 11) (.int .i32 0) (.string ⟨#[]⟩) (.string ⟨#[]⟩) (.slice A1 ys1.length c1) (.slice none 0 0) (.slice none 0 0) (.slice none 0 0) (.int .i64 0)).all_9
 (try simp only [Exit.inBlock, Exit.then])
 refine bodyPost_ret (v := .agg #[.int .i64 11, .int .i32 0, .string ⟨#[]⟩, .string ⟨#[]⟩, .slice A1 ys1.length c1, .slice none 0 0, .slice none 0 0, .slice none 0 0, .int .i64 0]) (by simp [results, Tryz.results138, go_sem, z0, z1, z2, z3, z4, z5, z6, z7, z8]) rfl ?_
 rw [HRE.out]
 refine ⟨.st (11) (0) ⟨#[]⟩ ⟨#[]⟩ (.slice A1 ys1.length c1) (.slice none 0 0) (.slice none 0 0) (.slice none 0 0) ys1 [] [] [] 0, rfl, ⟨_, _, _, _, A1, none, none, none, c1, 0, 0, 0, ys1, [], [], [], rfl⟩, ?_, Mv.over (Below.refl _ _) HM.out HG.out (Nat.le_refl _) hlt⟩
 exact ((st_node (B := w.heap.size + 1) ⟨Nat.zero_le _, Nat.zero_le _⟩ HF1.out.fk (FkL.nil _ _ _) (FkL.nil _ _ _) (FkL.nil _ _ _) HQ1.out rfl rfl rfl).grown HG.out (.inl (by omega))).mono (by omega)
theorem attempt_0 (HE : ExAny) (n : Nat) (b : Rb) (HBL : SpecK n b) (hbl : ∀ s, (b s).2.len ≤ s.len) (W0 w : World) (c : Nat) (s : RS) (hv : Vars W0) (h : Rd W0 c s w) (hn : 4 * s.len + 3 ≤ n) (hel : (b (at3 b s)).2.sees 0 kFinally = false) : Calls Tryz.prog 137 #[.pointer (some ⟨c, 0, none⟩)] w (StC W0 c w (attS b s)) := by
 obtain ⟨a, ha⟩ : ∃ a, b s = a := ⟨_, rfl⟩
 obtain ⟨d, hd⟩ : ∃ d, b (at3 b s) = d := ⟨_, rfl⟩
 rw [hd] at hel
 have hl0 : (at3 b s).len ≤ s.len := len_at3' hbl s
 have hl2 : d.2.len ≤ (at3 b s).len := by rw [← hd]; exact hbl _
 have hn1 := name_len (at2 b s)
 have hn2 := class_len (at1 b s)
 have HRE : Hid (attS b s = (mkS 10 0 (at1 b s).classV (at2 b s).nameV [] a.1 d.1 [], d.2)) := Lib.hid (by simp only [attS, ha, hd, hel]; simp)
 obtain ⟨RR, hRR⟩ : ∃ RR, attS b s = RR := ⟨_, rfl⟩
 rw [hRR] at HRE ⊢
 have hlt := h.lt
 have hle0 := h.le
 obtain ⟨W1, hW1⟩ : ∃ W1, w.alloc (.cells #[.int .i64 0, .int .i32 0, .string ⟨#[]⟩, .string ⟨#[]⟩, .slice none 0 0, .slice none 0 0, .slice none 0 0, .slice none 0 0, .int .i64 0] 144) = W1 := ⟨_, rfl⟩
 have hb : Below w.heap.size w W1 := by rw [← hW1]; exact (Below.refl _ w).alloc (Nat.le_refl _) _
 have hx : Bx W1 w.heap.size #[.int .i64 0, .int .i32 0, .string ⟨#[]⟩, .string ⟨#[]⟩, .slice none 0 0, .slice none 0 0, .slice none 0 0, .slice none 0 0, .int .i64 0] 144 := by rw [← hW1]; exact Bx.new _ _ _
 have hz : W1.heap.size = w.heap.size + 1 := by rw [← hW1]; simp
 have HM := Lib.hid (Mv.below hb h)
 have HB := Lib.hid hx
 clear hb hx
 have HA : Hid (∀ w', Rd W0 c (s) w' → Calls Tryz.prog 96 #[.pointer (some ⟨c, 0, none⟩)] w' (BlC W0 c w' a)) := by
   show ∀ w', _
   intro w' h'; have := HBL W0 w' c _ hv h' (by omega); rw [ha] at this; exact this
 have HN1 : Hid (∀ w', Rd W0 c (a.2) w' → Calls Tryz.prog 36 #[.pointer (some ⟨c, 0, none⟩), .string kCatch] w' fun e w'' => e = .returned (.tuple #[]) ∧ Mv W0 c (RS.need (a.2) kCatch) w' w'') := by
   show ∀ w', _
   intro w' h'; exact need_any W0 w' c _ kCatch h'
 have HN2 : Hid (∀ w', Rd W0 c (a.2.need kCatch) w' → Calls Tryz.prog 36 #[.pointer (some ⟨c, 0, none⟩), .string sOpen] w' fun e w'' => e = .returned (.tuple #[]) ∧ Mv W0 c (RS.need (a.2.need kCatch) sOpen) w' w'') := by
   show ∀ w', _
   intro w' h'; exact need_any W0 w' c _ sOpen h'
 have e1 : at1 b s = (a.2.need kCatch).need sOpen := by rw [at1, ha]
 obtain ⟨s1, hs1⟩ : ∃ s1, at1 b s = s1 := ⟨_, rfl⟩
 obtain ⟨s2, hs2⟩ : ∃ s2, at2 b s = s2 := ⟨_, rfl⟩
 obtain ⟨s3, hs3⟩ : ∃ s3, at3 b s = s3 := ⟨_, rfl⟩
 have e2 : s2 = s1.class := by rw [← hs1, ← hs2]; rfl
 have e3 : s3 = s2.name.need sShut := by rw [← hs2, ← hs3]; rfl
 rw [hs1] at e1 HRE hn2
 rw [hs2] at HRE hn1
 rw [hs3] at hd hl0 hl2
 rw [← e1] at HN2
 have HK : Hid (∀ w', Rd W0 c (s1) w' → Calls Tryz.prog 37 #[.pointer (some ⟨c, 0, none⟩)] w' fun e w'' => e = .returned (.string s1.classV) ∧ Mv W0 c (s1.class) w' w'') := by
   show ∀ w', _
   intro w' h'; exact classR_any W0 w' c _ h'
 rw [← e2] at HK
 have HW : Hid (∀ w', Rd W0 c (s2) w' → Calls Tryz.prog 65 #[.pointer (some ⟨c, 0, none⟩)] w' fun e w'' => e = .returned (.string s2.nameV) ∧ Mv W0 c (s2.name) w' w'') := by
   show ∀ w', _
   intro w' h'; exact nameR_any W0 w' c _ h'
 have HN3 : Hid (∀ w', Rd W0 c (s2.name) w' → Calls Tryz.prog 36 #[.pointer (some ⟨c, 0, none⟩), .string sShut] w' fun e w'' => e = .returned (.tuple #[]) ∧ Mv W0 c (RS.need (s2.name) sShut) w' w'') := by
   show ∀ w', _
   intro w' h'; exact need_any W0 w' c _ sShut h'
 rw [← e3] at HN3
 have HD : Hid (∀ w', Rd W0 c (s3) w' → Calls Tryz.prog 96 #[.pointer (some ⟨c, 0, none⟩)] w' (BlC W0 c w' d)) := by
   show ∀ w', _
   intro w' h'; have := HBL W0 w' c _ hv h' (by omega); rw [hd] at this; exact this
 have HT : Hid (∀ w', Rd W0 c d.2 w' → Calls Tryz.prog 38 #[.pointer (some ⟨c, 0, none⟩), .string kFinally] w' fun e w'' => e = .returned (.bool false) ∧ w' = w'') := by
   show ∀ w', _
   intro w' h'; exact take_false W0 w' c _ _ h' hel
 obtain ⟨cl, hcl⟩ : ∃ cl, s1.classV = cl := ⟨_, rfl⟩
 obtain ⟨nm, hnm⟩ : ∃ nm, s2.nameV = nm := ⟨_, rfl⟩
 rw [hcl] at HK HRE hn2
 rw [hnm] at HW HRE hn1
 clear hRR ha hd hl0 hl2 e1 e2 e3 hs1 hs2 hs3 hcl hnm h hv hn hel HE HBL hbl
 go_enter Tryz.func137, Tryz.ntmps137
 go_wp2_with fail
 refine (HA.out _ HM.out.2).mono ?_
 clear HA hW1
 rintro e w2 ⟨v1, ys1, rfl, ho, hq1, hm⟩
 obtain ⟨A1, c1, rfl⟩ := fk_len ho
 have hf1 := (FkL.x ho).mono (show w.heap.size + 1 ≤ _ by omega)
 have HQ1 := Lib.hid hq1
 clear ho hq1
 replace HM := Lib.hid (HM.out.trans hm)
 replace HB := Lib.hid (Bx.grown HB.out hm.1 (by omega))
 have hs2 := hm.1.size
 clear hm
 have HF1 := Lib.hid hf1
 clear hf1
 obtain ⟨W3, hW3⟩ : ∃ W, w2.alloc (.cells #[.int .i64 10, .int .i32 0, .string ⟨#[]⟩, .string ⟨#[]⟩, .slice none 0 0, .slice A1 ys1.length c1, .slice none 0 0, .slice none 0 0, .int .i64 0] 144) = W := ⟨_, rfl⟩
 have hb : Below w2.heap.size w2 W3 := by rw [← hW3]; exact (Below.refl _ _).alloc (Nat.le_refl _) _
 have HL : Hid (Bx W3 w2.heap.size #[.int .i64 10, .int .i32 0, .string ⟨#[]⟩, .string ⟨#[]⟩, .slice none 0 0, .slice A1 ys1.length c1, .slice none 0 0, .slice none 0 0, .int .i64 0] 144) := Lib.hid (by rw [← hW3]; exact Bx.new _ _ _)
 have hz2 : W3.heap.size = w2.heap.size + 1 := by rw [← hW3]; simp
 replace HM := Lib.hid (HM.out.trans (Mv.below hb HM.out.2))
 replace HB := Lib.hid (HB.out.next hb)
 replace HF1 := Lib.hid (HF1.out.excl hb (Nat.le_refl _))
 clear hb
 subst hW3
 go_wp2_with fail
 refine (HN1.out _ HM.out.2).mono ?_
 clear HN1
 rintro e w3 ⟨rfl, hm⟩
 replace HM := Lib.hid (HM.out.trans hm)
 replace HB := Lib.hid (Bx.grown HB.out hm.1 (by omega))
 replace HL := Lib.hid (Bx.grown HL.out hm.1 (by omega))
 replace HF1 := Lib.hid (HF1.out.grown hm.1 (.inl (by omega)))
 have hs3 := hm.1.size
 clear hm
 go_wp2_with fail
 refine (HN2.out _ HM.out.2).mono ?_
 clear HN2
 rintro e w4 ⟨rfl, hm⟩
 replace HM := Lib.hid (HM.out.trans hm)
 replace HB := Lib.hid (Bx.grown HB.out hm.1 (by omega))
 replace HL := Lib.hid (Bx.grown HL.out hm.1 (by omega))
 replace HF1 := Lib.hid (HF1.out.grown hm.1 (.inl (by omega)))
 have hs4 := hm.1.size
 clear hm
 go_wp2_with fail
 refine (HK.out _ HM.out.2).mono ?_
 clear HK
 rintro e w5 ⟨rfl, hm⟩
 replace HM := Lib.hid (HM.out.trans hm)
 replace HB := Lib.hid (Bx.grown HB.out hm.1 (by omega))
 replace HL := Lib.hid (Bx.grown HL.out hm.1 (by omega))
 replace HF1 := Lib.hid (HF1.out.grown hm.1 (.inl (by omega)))
 have hs5 := hm.1.size
 clear hm
 go_wp2_with fail
 refine (HW.out _ HM.out.2).mono ?_
 clear HW
 rintro e w6 ⟨rfl, hm⟩
 replace HM := Lib.hid (HM.out.trans hm)
 replace HB := Lib.hid (Bx.grown HB.out hm.1 (by omega))
 replace HL := Lib.hid (Bx.grown HL.out hm.1 (by omega))
 replace HF1 := Lib.hid (HF1.out.grown hm.1 (.inl (by omega)))
 have hs6 := hm.1.size
 clear hm
 obtain ⟨W7, hW7⟩ : ∃ W, (w6.setCell ⟨w2.heap.size, 2, none⟩ (.string cl)).setCell ⟨w2.heap.size, 3, none⟩ (.string nm) = W := ⟨_, rfl⟩
 have hg : w6.grownBy W7 (some w2.heap.size) := by rw [← hW7]; exact (grown_set_at _ _ _ _).trans (grown_set_at _ _ _ _)
 have hl2 : Bx W7 w2.heap.size #[.int .i64 10, .int .i32 0, .string cl, .string nm, .slice none 0 0, .slice A1 ys1.length c1, .slice none 0 0, .slice none 0 0, .int .i64 0] 144 := by
   rw [← hW7]
   have := (HL.out.set 2 (.string cl)).set 3 (.string nm)
   simpa using this
 obtain ⟨xt0, xt1, xt2, xt3, xt4, xt5, xt6, xt7, xt8⟩ := HL.out.all_9
 have gxt2 := HL.out.fro 2
 have gxt3 := HL.out.fro 3
 replace HM := Lib.hid (Mv.over (Below.refl _ _) HM.out hg (by omega) hlt)
 replace HB := Lib.hid (Bx.grown HB.out hg (by omega))
 replace HF1 := Lib.hid (HF1.out.grown hg (.inr rfl))
 replace HL := Lib.hid hl2
 have hs6x := hg.size
 clear hl2 hg
 go_wp2_with fail
 refine (HN3.out _ HM.out.2).mono ?_
 clear HN3 hW7
 rintro e w7 ⟨rfl, hm⟩
 replace HM := Lib.hid (HM.out.trans hm)
 replace HB := Lib.hid (Bx.grown HB.out hm.1 (by omega))
 replace HL := Lib.hid (Bx.grown HL.out hm.1 (by omega))
 replace HF1 := Lib.hid (HF1.out.grown hm.1 (.inl (by omega)))
 have hs7 := hm.1.size
 clear hm
 go_wp2_with fail
 refine (HD.out _ HM.out.2).mono ?_
 clear HD
 rintro e w8 ⟨v2, ys2, rfl, ho, hq2, hm⟩
 obtain ⟨A2, c2, rfl⟩ := fk_len ho
 have hf2 := FkL.past ho (show w2.heap.size < _ by omega) (show w.heap.size + 1 ≤ _ by omega)
 have HQ2 := Lib.hid hq2
 clear ho hq2
 replace HM := Lib.hid (HM.out.trans hm)
 replace HB := Lib.hid (Bx.grown HB.out hm.1 (by omega))
 replace HL := Lib.hid (Bx.grown HL.out hm.1 (by omega))
 replace HF1 := Lib.hid (HF1.out.grown hm.1 (.inl (by omega)))
 have hs8 := hm.1.size
 clear hm
 have HF2 := Lib.hid hf2
 clear hf2
 obtain ⟨W9, hW9⟩ : ∃ W, w8.setCell ⟨w2.heap.size, 6, none⟩ (.slice A2 ys2.length c2) = W := ⟨_, rfl⟩
 have hg : w8.grownBy W9 (some w2.heap.size) := by rw [← hW9]; exact grown_set_at _ _ _ _
 have hl2 : Bx W9 w2.heap.size #[.int .i64 10, .int .i32 0, .string cl, .string nm, .slice none 0 0, .slice A1 ys1.length c1, .slice A2 ys2.length c2, .slice none 0 0, .int .i64 0] 144 := by
   rw [← hW9]
   have := HL.out.set 6 (.slice A2 ys2.length c2)
   simpa using this
 obtain ⟨xs60, xs61, xs62, xs63, xs64, xs65, xs66, xs67, xs68⟩ := HL.out.all_9
 have gxs66 := HL.out.fro 6
 replace HM := Lib.hid (Mv.over (Below.refl _ _) HM.out hg (by omega) hlt)
 replace HB := Lib.hid (Bx.grown HB.out hg (by omega))
 replace HF1 := Lib.hid (HF1.out.grown hg (.inr rfl))
 replace HF2 := Lib.hid (HF2.out.grown hg (.inr rfl))
 replace HL := Lib.hid hl2
 have hs8x := hg.size
 clear hl2 hg
 go_wp2_with fail
 refine (HT.out _ HM.out.2).mono ?_
 clear HT hW9
 rintro e w30 ⟨rfl, rfl⟩
 obtain ⟨r0, r1, r2, r3, r4, r5, r6, r7, r8⟩ := HB.out.all_9
 have g0 := HB.out.fro 0; have g1 := HB.out.fro 1; have g2 := HB.out.fro 2; have g3 := HB.out.fro 3; have g4 := HB.out.fro 4; have g5 := HB.out.fro 5; have g6 := HB.out.fro 6; have g7 := HB.out.fro 7; have g8 := HB.out.fro 8
 obtain ⟨x0, x1, x2, x3, x4, x5, x6, x7, x8⟩ := HL.out.all_9
 have HG := Lib.hid (grown_9 W9 w.heap.size (.int .i64 10) (.int .i32 0) (.string cl) (.string nm) (.slice none 0 0) (.slice A1 ys1.length c1) (.slice A2 ys2.length c2) (.slice none 0 0) (.int .i64 0))
 go_wp2_with fail
 obtain ⟨z0, z1, z2, z3, z4, z5, z6, z7, z8⟩ := (HB.out.to_9 (.int .i64 10) (.int .i32 0) (.string cl) (.string nm) (.slice none 0 0) (.slice A1 ys1.length c1) (.slice A2 ys2.length c2) (.slice none 0 0) (.int .i64 0)).all_9
 (try simp only [Exit.inBlock, Exit.then])
 refine bodyPost_ret (v := .agg #[.int .i64 10, .int .i32 0, .string cl, .string nm, .slice none 0 0, .slice A1 ys1.length c1, .slice A2 ys2.length c2, .slice none 0 0, .int .i64 0]) (by simp [results, Tryz.results137, go_sem, z0, z1, z2, z3, z4, z5, z6, z7, z8]) rfl ?_
 rw [HRE.out]
 refine ⟨.st (10) (0) cl nm (.slice none 0 0) (.slice A1 ys1.length c1) (.slice A2 ys2.length c2) (.slice none 0 0) [] ys1 ys2 [] 0, rfl, ⟨_, _, _, _, none, A1, A2, none, 0, c1, c2, 0, [], ys1, ys2, [], rfl⟩, ?_, Mv.over (Below.refl _ _) HM.out HG.out (Nat.le_refl _) hlt⟩
 exact ((st_node (B := w.heap.size + 1) ⟨hn2, hn1⟩ (FkL.nil _ _ _) HF1.out.fk HF2.out.fk (FkL.nil _ _ _) rfl HQ1.out HQ2.out rfl).grown HG.out (.inl (by omega))).mono (by omega)
theorem attempt_1 (HE : ExAny) (n : Nat) (b : Rb) (HBL : SpecK n b) (hbl : ∀ s, (b s).2.len ≤ s.len) (W0 w : World) (c : Nat) (s : RS) (hv : Vars W0) (h : Rd W0 c s w) (hn : 4 * s.len + 3 ≤ n) (hel : (b (at3 b s)).2.sees 0 kFinally = true) : Calls Tryz.prog 137 #[.pointer (some ⟨c, 0, none⟩)] w (StC W0 c w (attS b s)) := by
 obtain ⟨a, ha⟩ : ∃ a, b s = a := ⟨_, rfl⟩
 obtain ⟨d, hd⟩ : ∃ d, b (at3 b s) = d := ⟨_, rfl⟩
 rw [hd] at hel
 have hl0 : (at3 b s).len ≤ s.len := len_at3' hbl s
 have hl2 : d.2.len ≤ (at3 b s).len := by rw [← hd]; exact hbl _
 have hn1 := name_len (at2 b s)
 have hn2 := class_len (at1 b s)
 obtain ⟨f, hf⟩ : ∃ f, b d.2.skip = f := ⟨_, rfl⟩
 have hl3 := len_skip d.2
 have HRE : Hid (attS b s = (mkS 10 0 (at1 b s).classV (at2 b s).nameV [] a.1 d.1 f.1, f.2)) := Lib.hid (by simp only [attS, ha, hd, hel, hf, if_true])
 obtain ⟨RR, hRR⟩ : ∃ RR, attS b s = RR := ⟨_, rfl⟩
 rw [hRR] at HRE ⊢
 have hlt := h.lt
 have hle0 := h.le
 obtain ⟨W1, hW1⟩ : ∃ W1, w.alloc (.cells #[.int .i64 0, .int .i32 0, .string ⟨#[]⟩, .string ⟨#[]⟩, .slice none 0 0, .slice none 0 0, .slice none 0 0, .slice none 0 0, .int .i64 0] 144) = W1 := ⟨_, rfl⟩
 have hb : Below w.heap.size w W1 := by rw [← hW1]; exact (Below.refl _ w).alloc (Nat.le_refl _) _
 have hx : Bx W1 w.heap.size #[.int .i64 0, .int .i32 0, .string ⟨#[]⟩, .string ⟨#[]⟩, .slice none 0 0, .slice none 0 0, .slice none 0 0, .slice none 0 0, .int .i64 0] 144 := by rw [← hW1]; exact Bx.new _ _ _
 have hz : W1.heap.size = w.heap.size + 1 := by rw [← hW1]; simp
 have HM := Lib.hid (Mv.below hb h)
 have HB := Lib.hid hx
 clear hb hx
 have HA : Hid (∀ w', Rd W0 c (s) w' → Calls Tryz.prog 96 #[.pointer (some ⟨c, 0, none⟩)] w' (BlC W0 c w' a)) := by
   show ∀ w', _
   intro w' h'; have := HBL W0 w' c _ hv h' (by omega); rw [ha] at this; exact this
 have HN1 : Hid (∀ w', Rd W0 c (a.2) w' → Calls Tryz.prog 36 #[.pointer (some ⟨c, 0, none⟩), .string kCatch] w' fun e w'' => e = .returned (.tuple #[]) ∧ Mv W0 c (RS.need (a.2) kCatch) w' w'') := by
   show ∀ w', _
   intro w' h'; exact need_any W0 w' c _ kCatch h'
 have HN2 : Hid (∀ w', Rd W0 c (a.2.need kCatch) w' → Calls Tryz.prog 36 #[.pointer (some ⟨c, 0, none⟩), .string sOpen] w' fun e w'' => e = .returned (.tuple #[]) ∧ Mv W0 c (RS.need (a.2.need kCatch) sOpen) w' w'') := by
   show ∀ w', _
   intro w' h'; exact need_any W0 w' c _ sOpen h'
 have e1 : at1 b s = (a.2.need kCatch).need sOpen := by rw [at1, ha]
 obtain ⟨s1, hs1⟩ : ∃ s1, at1 b s = s1 := ⟨_, rfl⟩
 obtain ⟨s2, hs2⟩ : ∃ s2, at2 b s = s2 := ⟨_, rfl⟩
 obtain ⟨s3, hs3⟩ : ∃ s3, at3 b s = s3 := ⟨_, rfl⟩
 have e2 : s2 = s1.class := by rw [← hs1, ← hs2]; rfl
 have e3 : s3 = s2.name.need sShut := by rw [← hs2, ← hs3]; rfl
 rw [hs1] at e1 HRE hn2
 rw [hs2] at HRE hn1
 rw [hs3] at hd hl0 hl2
 rw [← e1] at HN2
 have HK : Hid (∀ w', Rd W0 c (s1) w' → Calls Tryz.prog 37 #[.pointer (some ⟨c, 0, none⟩)] w' fun e w'' => e = .returned (.string s1.classV) ∧ Mv W0 c (s1.class) w' w'') := by
   show ∀ w', _
   intro w' h'; exact classR_any W0 w' c _ h'
 rw [← e2] at HK
 have HW : Hid (∀ w', Rd W0 c (s2) w' → Calls Tryz.prog 65 #[.pointer (some ⟨c, 0, none⟩)] w' fun e w'' => e = .returned (.string s2.nameV) ∧ Mv W0 c (s2.name) w' w'') := by
   show ∀ w', _
   intro w' h'; exact nameR_any W0 w' c _ h'
 have HN3 : Hid (∀ w', Rd W0 c (s2.name) w' → Calls Tryz.prog 36 #[.pointer (some ⟨c, 0, none⟩), .string sShut] w' fun e w'' => e = .returned (.tuple #[]) ∧ Mv W0 c (RS.need (s2.name) sShut) w' w'') := by
   show ∀ w', _
   intro w' h'; exact need_any W0 w' c _ sShut h'
 rw [← e3] at HN3
 have HD : Hid (∀ w', Rd W0 c (s3) w' → Calls Tryz.prog 96 #[.pointer (some ⟨c, 0, none⟩)] w' (BlC W0 c w' d)) := by
   show ∀ w', _
   intro w' h'; have := HBL W0 w' c _ hv h' (by omega); rw [hd] at this; exact this
 have HF : Hid (∀ w', Rd W0 c (d.2.skip) w' → Calls Tryz.prog 96 #[.pointer (some ⟨c, 0, none⟩)] w' (BlC W0 c w' f)) := by
   show ∀ w', _
   intro w' h'; have := HBL W0 w' c _ hv h' (by omega); rw [hf] at this; exact this
 have HT : Hid (∀ w', Rd W0 c d.2 w' → Calls Tryz.prog 38 #[.pointer (some ⟨c, 0, none⟩), .string kFinally] w' fun e w'' => e = .returned (.bool true) ∧ Mv W0 c d.2.skip w' w'') := by
   show ∀ w', _
   intro w' h'; exact take_true W0 w' c _ _ h' hel
 obtain ⟨cl, hcl⟩ : ∃ cl, s1.classV = cl := ⟨_, rfl⟩
 obtain ⟨nm, hnm⟩ : ∃ nm, s2.nameV = nm := ⟨_, rfl⟩
 rw [hcl] at HK HRE hn2
 rw [hnm] at HW HRE hn1
 clear hRR ha hd hl0 hl2 e1 e2 e3 hs1 hs2 hs3 hcl hnm h hv hn hel HE HBL hbl hf hl3
 go_enter Tryz.func137, Tryz.ntmps137
 go_wp2_with fail
 refine (HA.out _ HM.out.2).mono ?_
 clear HA hW1
 rintro e w2 ⟨v1, ys1, rfl, ho, hq1, hm⟩
 obtain ⟨A1, c1, rfl⟩ := fk_len ho
 have hf1 := (FkL.x ho).mono (show w.heap.size + 1 ≤ _ by omega)
 have HQ1 := Lib.hid hq1
 clear ho hq1
 replace HM := Lib.hid (HM.out.trans hm)
 replace HB := Lib.hid (Bx.grown HB.out hm.1 (by omega))
 have hs2 := hm.1.size
 clear hm
 have HF1 := Lib.hid hf1
 clear hf1
 obtain ⟨W3, hW3⟩ : ∃ W, w2.alloc (.cells #[.int .i64 10, .int .i32 0, .string ⟨#[]⟩, .string ⟨#[]⟩, .slice none 0 0, .slice A1 ys1.length c1, .slice none 0 0, .slice none 0 0, .int .i64 0] 144) = W := ⟨_, rfl⟩
 have hb : Below w2.heap.size w2 W3 := by rw [← hW3]; exact (Below.refl _ _).alloc (Nat.le_refl _) _
 have HL : Hid (Bx W3 w2.heap.size #[.int .i64 10, .int .i32 0, .string ⟨#[]⟩, .string ⟨#[]⟩, .slice none 0 0, .slice A1 ys1.length c1, .slice none 0 0, .slice none 0 0, .int .i64 0] 144) := Lib.hid (by rw [← hW3]; exact Bx.new _ _ _)
 have hz2 : W3.heap.size = w2.heap.size + 1 := by rw [← hW3]; simp
 replace HM := Lib.hid (HM.out.trans (Mv.below hb HM.out.2))
 replace HB := Lib.hid (HB.out.next hb)
 replace HF1 := Lib.hid (HF1.out.excl hb (Nat.le_refl _))
 clear hb
 subst hW3
 go_wp2_with fail
 refine (HN1.out _ HM.out.2).mono ?_
 clear HN1
 rintro e w3 ⟨rfl, hm⟩
 replace HM := Lib.hid (HM.out.trans hm)
 replace HB := Lib.hid (Bx.grown HB.out hm.1 (by omega))
 replace HL := Lib.hid (Bx.grown HL.out hm.1 (by omega))
 replace HF1 := Lib.hid (HF1.out.grown hm.1 (.inl (by omega)))
 have hs3 := hm.1.size
 clear hm
 go_wp2_with fail
 refine (HN2.out _ HM.out.2).mono ?_
 clear HN2
 rintro e w4 ⟨rfl, hm⟩
 replace HM := Lib.hid (HM.out.trans hm)
 replace HB := Lib.hid (Bx.grown HB.out hm.1 (by omega))
 replace HL := Lib.hid (Bx.grown HL.out hm.1 (by omega))
 replace HF1 := Lib.hid (HF1.out.grown hm.1 (.inl (by omega)))
 have hs4 := hm.1.size
 clear hm
 go_wp2_with fail
 refine (HK.out _ HM.out.2).mono ?_
 clear HK
 rintro e w5 ⟨rfl, hm⟩
 replace HM := Lib.hid (HM.out.trans hm)
 replace HB := Lib.hid (Bx.grown HB.out hm.1 (by omega))
 replace HL := Lib.hid (Bx.grown HL.out hm.1 (by omega))
 replace HF1 := Lib.hid (HF1.out.grown hm.1 (.inl (by omega)))
 have hs5 := hm.1.size
 clear hm
 go_wp2_with fail
 refine (HW.out _ HM.out.2).mono ?_
 clear HW
 rintro e w6 ⟨rfl, hm⟩
 replace HM := Lib.hid (HM.out.trans hm)
 replace HB := Lib.hid (Bx.grown HB.out hm.1 (by omega))
 replace HL := Lib.hid (Bx.grown HL.out hm.1 (by omega))
 replace HF1 := Lib.hid (HF1.out.grown hm.1 (.inl (by omega)))
 have hs6 := hm.1.size
 clear hm
 obtain ⟨W7, hW7⟩ : ∃ W, (w6.setCell ⟨w2.heap.size, 2, none⟩ (.string cl)).setCell ⟨w2.heap.size, 3, none⟩ (.string nm) = W := ⟨_, rfl⟩
 have hg : w6.grownBy W7 (some w2.heap.size) := by rw [← hW7]; exact (grown_set_at _ _ _ _).trans (grown_set_at _ _ _ _)
 have hl2 : Bx W7 w2.heap.size #[.int .i64 10, .int .i32 0, .string cl, .string nm, .slice none 0 0, .slice A1 ys1.length c1, .slice none 0 0, .slice none 0 0, .int .i64 0] 144 := by
   rw [← hW7]
   have := (HL.out.set 2 (.string cl)).set 3 (.string nm)
   simpa using this
 obtain ⟨xt0, xt1, xt2, xt3, xt4, xt5, xt6, xt7, xt8⟩ := HL.out.all_9
 have gxt2 := HL.out.fro 2
 have gxt3 := HL.out.fro 3
 replace HM := Lib.hid (Mv.over (Below.refl _ _) HM.out hg (by omega) hlt)
 replace HB := Lib.hid (Bx.grown HB.out hg (by omega))
 replace HF1 := Lib.hid (HF1.out.grown hg (.inr rfl))
 replace HL := Lib.hid hl2
 have hs6x := hg.size
 clear hl2 hg
 go_wp2_with fail
 refine (HN3.out _ HM.out.2).mono ?_
 clear HN3 hW7
 rintro e w7 ⟨rfl, hm⟩
 replace HM := Lib.hid (HM.out.trans hm)
 replace HB := Lib.hid (Bx.grown HB.out hm.1 (by omega))
 replace HL := Lib.hid (Bx.grown HL.out hm.1 (by omega))
 replace HF1 := Lib.hid (HF1.out.grown hm.1 (.inl (by omega)))
 have hs7 := hm.1.size
 clear hm
 go_wp2_with fail
 refine (HD.out _ HM.out.2).mono ?_
 clear HD
 rintro e w8 ⟨v2, ys2, rfl, ho, hq2, hm⟩
 obtain ⟨A2, c2, rfl⟩ := fk_len ho
 have hf2 := FkL.past ho (show w2.heap.size < _ by omega) (show w.heap.size + 1 ≤ _ by omega)
 have HQ2 := Lib.hid hq2
 clear ho hq2
 replace HM := Lib.hid (HM.out.trans hm)
 replace HB := Lib.hid (Bx.grown HB.out hm.1 (by omega))
 replace HL := Lib.hid (Bx.grown HL.out hm.1 (by omega))
 replace HF1 := Lib.hid (HF1.out.grown hm.1 (.inl (by omega)))
 have hs8 := hm.1.size
 clear hm
 have HF2 := Lib.hid hf2
 clear hf2
 obtain ⟨W9, hW9⟩ : ∃ W, w8.setCell ⟨w2.heap.size, 6, none⟩ (.slice A2 ys2.length c2) = W := ⟨_, rfl⟩
 have hg : w8.grownBy W9 (some w2.heap.size) := by rw [← hW9]; exact grown_set_at _ _ _ _
 have hl2 : Bx W9 w2.heap.size #[.int .i64 10, .int .i32 0, .string cl, .string nm, .slice none 0 0, .slice A1 ys1.length c1, .slice A2 ys2.length c2, .slice none 0 0, .int .i64 0] 144 := by
   rw [← hW9]
   have := HL.out.set 6 (.slice A2 ys2.length c2)
   simpa using this
 obtain ⟨xs60, xs61, xs62, xs63, xs64, xs65, xs66, xs67, xs68⟩ := HL.out.all_9
 have gxs66 := HL.out.fro 6
 replace HM := Lib.hid (Mv.over (Below.refl _ _) HM.out hg (by omega) hlt)
 replace HB := Lib.hid (Bx.grown HB.out hg (by omega))
 replace HF1 := Lib.hid (HF1.out.grown hg (.inr rfl))
 replace HF2 := Lib.hid (HF2.out.grown hg (.inr rfl))
 replace HL := Lib.hid hl2
 have hs8x := hg.size
 clear hl2 hg
 go_wp2_with fail
 refine (HT.out _ HM.out.2).mono ?_
 clear HT hW9
 rintro e w9 ⟨rfl, hm⟩
 replace HM := Lib.hid (HM.out.trans hm)
 replace HB := Lib.hid (Bx.grown HB.out hm.1 (by omega))
 replace HL := Lib.hid (Bx.grown HL.out hm.1 (by omega))
 replace HF1 := Lib.hid (HF1.out.grown hm.1 (.inl (by omega)))
 replace HF2 := Lib.hid (HF2.out.grown hm.1 (.inl (by omega)))
 have hs9 := hm.1.size
 clear hm
 go_wp2_with fail
 refine (HF.out _ HM.out.2).mono ?_
 clear HF
 rintro e w10 ⟨v3, ys3, rfl, ho, hq3, hm⟩
 obtain ⟨A3, c3, rfl⟩ := fk_len ho
 have hf3 := FkL.past ho (show w2.heap.size < _ by omega) (show w.heap.size + 1 ≤ _ by omega)
 have HQ3 := Lib.hid hq3
 clear ho hq3
 replace HM := Lib.hid (HM.out.trans hm)
 replace HB := Lib.hid (Bx.grown HB.out hm.1 (by omega))
 replace HL := Lib.hid (Bx.grown HL.out hm.1 (by omega))
 replace HF1 := Lib.hid (HF1.out.grown hm.1 (.inl (by omega)))
 replace HF2 := Lib.hid (HF2.out.grown hm.1 (.inl (by omega)))
 have hs10 := hm.1.size
 clear hm
 have HF3 := Lib.hid hf3
 clear hf3
 obtain ⟨W11, hW11⟩ : ∃ W, w10.setCell ⟨w2.heap.size, 7, none⟩ (.slice A3 ys3.length c3) = W := ⟨_, rfl⟩
 have hg : w10.grownBy W11 (some w2.heap.size) := by rw [← hW11]; exact grown_set_at _ _ _ _
 have hl2 : Bx W11 w2.heap.size #[.int .i64 10, .int .i32 0, .string cl, .string nm, .slice none 0 0, .slice A1 ys1.length c1, .slice A2 ys2.length c2, .slice A3 ys3.length c3, .int .i64 0] 144 := by
   rw [← hW11]
   have := HL.out.set 7 (.slice A3 ys3.length c3)
   simpa using this
 obtain ⟨xs70, xs71, xs72, xs73, xs74, xs75, xs76, xs77, xs78⟩ := HL.out.all_9
 have gxs77 := HL.out.fro 7
 replace HM := Lib.hid (Mv.over (Below.refl _ _) HM.out hg (by omega) hlt)
 replace HB := Lib.hid (Bx.grown HB.out hg (by omega))
 replace HF1 := Lib.hid (HF1.out.grown hg (.inr rfl))
 replace HF2 := Lib.hid (HF2.out.grown hg (.inr rfl))
 replace HF3 := Lib.hid (HF3.out.grown hg (.inr rfl))
 replace HL := Lib.hid hl2
 have hs10x := hg.size
 clear hl2 hg
 obtain ⟨r0, r1, r2, r3, r4, r5, r6, r7, r8⟩ := HB.out.all_9
 have g0 := HB.out.fro 0; have g1 := HB.out.fro 1; have g2 := HB.out.fro 2; have g3 := HB.out.fro 3; have g4 := HB.out.fro 4; have g5 := HB.out.fro 5; have g6 := HB.out.fro 6; have g7 := HB.out.fro 7; have g8 := HB.out.fro 8
 obtain ⟨x0, x1, x2, x3, x4, x5, x6, x7, x8⟩ := HL.out.all_9
 have HG := Lib.hid (grown_9 W11 w.heap.size (.int .i64 10) (.int .i32 0) (.string cl) (.string nm) (.slice none 0 0) (.slice A1 ys1.length c1) (.slice A2 ys2.length c2) (.slice A3 ys3.length c3) (.int .i64 0))
 go_wp2_with fail
 obtain ⟨z0, z1, z2, z3, z4, z5, z6, z7, z8⟩ := (HB.out.to_9 (.int .i64 10) (.int .i32 0) (.string cl) (.string nm) (.slice none 0 0) (.slice A1 ys1.length c1) (.slice A2 ys2.length c2) (.slice A3 ys3.length c3) (.int .i64 0)).all_9
 (try simp only [Exit.inBlock, Exit.then])
 refine bodyPost_ret (v := .agg #[.int .i64 10, .int .i32 0, .string cl, .string nm, .slice none 0 0, .slice A1 ys1.length c1, .slice A2 ys2.length c2, .slice A3 ys3.length c3, .int .i64 0]) (by simp [results, Tryz.results137, go_sem, z0, z1, z2, z3, z4, z5, z6, z7, z8]) rfl ?_
 rw [HRE.out]
 refine ⟨.st (10) (0) cl nm (.slice none 0 0) (.slice A1 ys1.length c1) (.slice A2 ys2.length c2) (.slice A3 ys3.length c3) [] ys1 ys2 ys3 0, rfl, ⟨_, _, _, _, none, A1, A2, A3, 0, c1, c2, c3, [], ys1, ys2, ys3, rfl⟩, ?_, Mv.over (Below.refl _ _) HM.out HG.out (Nat.le_refl _) hlt⟩
 exact ((st_node (B := w.heap.size + 1) ⟨hn2, hn1⟩ (FkL.nil _ _ _) HF1.out.fk HF2.out.fk HF3.out.fk rfl HQ1.out HQ2.out HQ3.out).grown HG.out (.inl (by omega))).mono (by omega)
theorem attempt_of (HE : ExAny) (n : Nat) (b : Rb) (HBL : SpecK n b) (hbl : ∀ s, (b s).2.len ≤ s.len) (W0 w : World) (c : Nat) (s : RS) (hv : Vars W0) (h : Rd W0 c s w) (hn : 4 * s.len + 3 ≤ n) : Calls Tryz.prog 137 #[.pointer (some ⟨c, 0, none⟩)] w (StC W0 c w (attS b s)) := by
 cases hel : (b (at3 b s)).2.sees 0 kFinally with
 | false => exact attempt_0 HE n b HBL hbl W0 w c s hv h hn hel
 | true => exact attempt_1 HE n b HBL hbl W0 w c s hv h hn hel
end
section
open Go.RowKit
theorem as_cl (l : List Pl) (k : Nat) : ∃ t, ∀ w, (Instr.typeAssert (aheadV l k) 71 122 true).run Tryz.prog w = .ok (.tuple #[.string t, .bool (clP l[k]?).isSome]) w := by
 cases hx : l[k]? with
 | none => exact ⟨_, fun w => by simp only [aheadV, hx, clP]; exact is_no_cl w⟩
 | some x =>
   obtain ⟨q, a⟩ := x
   cases q with
   | fx t => exact ⟨_, fun w => by simp only [aheadV, hx, clP, Pr.V]; exact is_fx_cl _ w⟩
   | nm t => exact ⟨_, fun w => by simp only [aheadV, hx, clP, Pr.V]; exact is_nm_cl _ w⟩
   | cl t => exact ⟨t, fun w => by simp only [aheadV, hx, clP, Pr.V]; exact is_cl_cl _ w⟩
   | nu t => exact ⟨_, fun w => by simp only [aheadV, hx, clP, Pr.V]; exact is_nu_cl _ w⟩
   | qu t => exact ⟨_, fun w => by simp only [aheadV, hx, clP, Pr.V]; exact is_qu_cl _ w⟩
theorem as_nm (l : List Pl) (k : Nat) : ∃ t, ∀ w, (Instr.typeAssert (aheadV l k) 71 121 true).run Tryz.prog w = .ok (.tuple #[.string t, .bool (nmP l[k]?).isSome]) w := by
 cases hx : l[k]? with
 | none => exact ⟨_, fun w => by simp only [aheadV, hx, nmP]; exact is_no_nm w⟩
 | some x =>
   obtain ⟨q, a⟩ := x
   cases q with
   | fx t => exact ⟨_, fun w => by simp only [aheadV, hx, nmP, Pr.V]; exact is_fx_nm _ w⟩
   | nm t => exact ⟨t, fun w => by simp only [aheadV, hx, nmP, Pr.V]; exact is_nm_nm _ w⟩
   | cl t => exact ⟨_, fun w => by simp only [aheadV, hx, nmP, Pr.V]; exact is_cl_nm _ w⟩
   | nu t => exact ⟨_, fun w => by simp only [aheadV, hx, nmP, Pr.V]; exact is_nu_nm _ w⟩
   | qu t => exact ⟨_, fun w => by simp only [aheadV, hx, nmP, Pr.V]; exact is_qu_nm _ w⟩
theorem sees_is (W0 w : World) (c : Nat) (s : RS) (p : ByteArray) (q : Bool) (h : Rd W0 c s w) (hr : s.sees 0 p = q) : Calls Tryz.prog 61 #[.pointer (some ⟨c, 0, none⟩), .string p] w fun e w' => e = .returned (.bool q) ∧ w = w' := by
 have := sees_any W0 w c s p h; rw [hr] at this; exact this
theorem var_0 (W0 w : World) (c : Nat) (s : RS) (h : Rd W0 c s w) (h0 : s.sees 0 tInt = true) : Calls Tryz.prog 131 #[.pointer (some ⟨c, 0, none⟩)] w fun e w' => e = .returned (.bool s.varB) ∧ w = w' := by
 have S0 := Lib.hid (sees_is W0 w c s tInt _ h h0)
 have HE := Lib.hid (show s.varB = true by simp [RS.varB, h0])
 clear h h0
 go_enter Tryz.func131, Tryz.ntmps131
 go_wp2_with fail
 refine S0.out.mono ?_
 clear S0
 rintro e w1 ⟨rfl, rfl⟩
 go_wp2_with fail
 go_ret
 exact ⟨ret_b HE.out, rfl⟩
theorem var_1 (W0 w : World) (c : Nat) (s : RS) (h : Rd W0 c s w) (h0 : s.sees 0 tInt = false) (h1 : s.sees 0 tBool = true) : Calls Tryz.prog 131 #[.pointer (some ⟨c, 0, none⟩)] w fun e w' => e = .returned (.bool s.varB) ∧ w = w' := by
 have S0 := Lib.hid (sees_is W0 w c s tInt _ h h0)
 have S1 := Lib.hid (sees_is W0 w c s tBool _ h h1)
 have HE := Lib.hid (show s.varB = true by simp [RS.varB, h0, h1])
 clear h h0 h1
 go_enter Tryz.func131, Tryz.ntmps131
 go_wp2_with fail
 refine S0.out.mono ?_
 clear S0
 rintro e w1 ⟨rfl, rfl⟩
 go_wp2_with fail
 refine S1.out.mono ?_
 clear S1
 rintro e w2 ⟨rfl, rfl⟩
 go_wp2_with fail
 go_ret
 exact ⟨ret_b HE.out, rfl⟩
theorem var_2 (W0 w : World) (c : Nat) (s : RS) (h : Rd W0 c s w) (h0 : s.sees 0 tInt = false) (h1 : s.sees 0 tBool = false) (h2 : s.sees 0 tStr = true) : Calls Tryz.prog 131 #[.pointer (some ⟨c, 0, none⟩)] w fun e w' => e = .returned (.bool s.varB) ∧ w = w' := by
 have S0 := Lib.hid (sees_is W0 w c s tInt _ h h0)
 have S1 := Lib.hid (sees_is W0 w c s tBool _ h h1)
 have S2 := Lib.hid (sees_is W0 w c s tStr _ h h2)
 have HE := Lib.hid (show s.varB = true by simp [RS.varB, h0, h1, h2])
 clear h h0 h1 h2
 go_enter Tryz.func131, Tryz.ntmps131
 go_wp2_with fail
 refine S0.out.mono ?_
 clear S0
 rintro e w1 ⟨rfl, rfl⟩
 go_wp2_with fail
 refine S1.out.mono ?_
 clear S1
 rintro e w2 ⟨rfl, rfl⟩
 go_wp2_with fail
 refine S2.out.mono ?_
 clear S2
 rintro e w3 ⟨rfl, rfl⟩
 go_wp2_with fail
 go_ret
 exact ⟨ret_b HE.out, rfl⟩
theorem var_3 (W0 w : World) (c : Nat) (s : RS) (h : Rd W0 c s w) (h0 : s.sees 0 tInt = false) (h1 : s.sees 0 tBool = false) (h2 : s.sees 0 tStr = false) : Calls Tryz.prog 131 #[.pointer (some ⟨c, 0, none⟩)] w fun e w' => e = .returned (.bool s.varB) ∧ w = w' := by
 have S0 := Lib.hid (sees_is W0 w c s tInt _ h h0)
 have S1 := Lib.hid (sees_is W0 w c s tBool _ h h1)
 have S2 := Lib.hid (sees_is W0 w c s tStr _ h h2)
 obtain ⟨t0, a0⟩ := as_cl s.ws 0
 obtain ⟨t1, a1⟩ := as_nm s.ws 1
 have A0 := Lib.hid (ahead_any W0 w c 0 s h (by omega))
 have A1 := Lib.hid (ahead_any W0 w c 1 s h (by omega))
 obtain ⟨u0, hu0⟩ : ∃ u, aheadV s.ws 0 = u := ⟨_, rfl⟩
 obtain ⟨u1, hu1⟩ : ∃ u, aheadV s.ws 1 = u := ⟨_, rfl⟩
 obtain ⟨q0, hq0⟩ : ∃ q, (clP s.ws[0]?).isSome = q := ⟨_, rfl⟩
 obtain ⟨q1, hq1⟩ : ∃ q, (nmP s.ws[1]?).isSome = q := ⟨_, rfl⟩
 have HE := Lib.hid (show s.varB = (q0 && q1) by simp only [RS.varB, h0, h1, h2, hq0, hq1]; simp)
 rw [hu0] at a0 A0
 rw [hu1] at a1 A1
 rw [hq0] at a0
 rw [hq1] at a1
 clear h h0 h1 h2 hu0 hu1 hq0 hq1
 go_enter Tryz.func131, Tryz.ntmps131
 go_wp2_with fail
 refine S0.out.mono ?_
 clear S0
 rintro e w1 ⟨rfl, rfl⟩
 go_wp2_with fail
 refine S1.out.mono ?_
 clear S1
 rintro e w2 ⟨rfl, rfl⟩
 go_wp2_with fail
 refine S2.out.mono ?_
 clear S2
 rintro e w3 ⟨rfl, rfl⟩
 cases q0
 · go_wp2_with fail
   refine A0.out.mono ?_
   clear A0
   rintro e w5 ⟨rfl, rfl⟩
   go_wp2_with fail
   refine A1.out.mono ?_
   clear A1
   rintro e w6 ⟨rfl, rfl⟩
   go_wp2_with fail
   go_ret
   exact ⟨ret_b (by rw [HE.out]; rfl), rfl⟩
 · go_wp2_with fail
   refine A0.out.mono ?_
   clear A0
   rintro e w5 ⟨rfl, rfl⟩
   go_wp2_with fail
   refine A1.out.mono ?_
   clear A1
   rintro e w6 ⟨rfl, rfl⟩
   go_wp2_with fail
   go_ret
   exact ⟨ret_b (by rw [HE.out]; rfl), rfl⟩
theorem var_any (W0 w : World) (c : Nat) (s : RS) (h : Rd W0 c s w) : Calls Tryz.prog 131 #[.pointer (some ⟨c, 0, none⟩)] w fun e w' => e = .returned (.bool s.varB) ∧ w = w' := by
 cases h0 : s.sees 0 tInt with
 | true => exact var_0 W0 w c s h h0
 | false =>
   cases h1 : s.sees 0 tBool with
   | true => exact var_1 W0 w c s h h0 h1
   | false =>
     cases h2 : s.sees 0 tStr with
     | true => exact var_2 W0 w c s h h0 h1 h2
     | false => exact var_3 W0 w c s h h0 h1 h2
theorem takesValue_any (w : World) (k : Int) : Calls Tryz.prog 140 #[.int .i64 k] w fun e w' => e = .returned (.bool (leftK k)) ∧ w = w' := by
 by_cases h6 : k = 6
 · subst h6
   go_enter Tryz.func140, Tryz.ntmps140
   go_wp2
   go_ret
   exact ⟨rfl, rfl⟩
 by_cases h7 : k = 7
 · subst h7
   go_enter Tryz.func140, Tryz.ntmps140
   go_wp2
   go_ret
   exact ⟨rfl, rfl⟩
 by_cases h8 : k = 8
 · subst h8
   go_enter Tryz.func140, Tryz.ntmps140
   go_wp2
   go_ret
   exact ⟨rfl, rfl⟩
 by_cases h9 : k = 9
 · subst h9
   go_enter Tryz.func140, Tryz.ntmps140
   go_wp2
   go_ret
   exact ⟨rfl, rfl⟩
 have e6 : (k == 6) = false := by rw [beq_eq_false_iff_ne]; exact h6
 have e7 : (k == 7) = false := by rw [beq_eq_false_iff_ne]; exact h7
 have e8 : (k == 8) = false := by rw [beq_eq_false_iff_ne]; exact h8
 have e9 : (k == 9) = false := by rw [beq_eq_false_iff_ne]; exact h9
 have HE := Lib.hid (show leftK k = false by simp only [leftK, e6, e7, e8, e9]; rfl)
 clear h6 h7 h8 h9
 go_enter Tryz.func140, Tryz.ntmps140
 go_wp2
 go_ret
 exact ⟨ret_b HE.out, rfl⟩
theorem does_any (w : World) (k : Int) : Calls Tryz.prog 141 #[.int .i64 k] w fun e w' => e = .returned (.bool (doesK k)) ∧ w = w' := by
 by_cases h10 : k = 10
 · subst h10
   go_enter Tryz.func141, Tryz.ntmps141
   go_wp2
   go_ret
   exact ⟨rfl, rfl⟩
 by_cases h11 : k = 11
 · subst h11
   go_enter Tryz.func141, Tryz.ntmps141
   go_wp2
   go_ret
   exact ⟨rfl, rfl⟩
 by_cases h12 : k = 12
 · subst h12
   go_enter Tryz.func141, Tryz.ntmps141
   go_wp2
   go_ret
   exact ⟨rfl, rfl⟩
 by_cases h13 : k = 13
 · subst h13
   go_enter Tryz.func141, Tryz.ntmps141
   go_wp2
   go_ret
   exact ⟨rfl, rfl⟩
 by_cases h14 : k = 14
 · subst h14
   go_enter Tryz.func141, Tryz.ntmps141
   go_wp2
   go_ret
   exact ⟨rfl, rfl⟩
 have e10 : (k == 10) = false := by rw [beq_eq_false_iff_ne]; exact h10
 have e11 : (k == 11) = false := by rw [beq_eq_false_iff_ne]; exact h11
 have e12 : (k == 12) = false := by rw [beq_eq_false_iff_ne]; exact h12
 have e13 : (k == 13) = false := by rw [beq_eq_false_iff_ne]; exact h13
 have e14 : (k == 14) = false := by rw [beq_eq_false_iff_ne]; exact h14
 have HE := Lib.hid (show doesK k = false by simp only [doesK, e10, e11, e12, e13, e14]; rfl)
 clear h10 h11 h12 h13 h14
 go_enter Tryz.func141, Tryz.ntmps141
 go_wp2
 go_ret
 exact ⟨ret_b HE.out, rfl⟩
theorem kindN_bare {x y : Nd} (h : bareN y = bareN x) : kindN y = kindN x := by
 cases x <;> cases y <;> simp only [bareN] at h <;> first | (simp only [Nd.ex.injEq] at h; exact h.1) | rfl | cases h
theorem hd_bare {a b : List Nd} (h : bareL a = bareL b) : bareN (hdE a) = bareN (hdE b) := by
 cases a with
 | nil => cases b with
   | nil => rfl
   | cons y b => simp [bareL] at h
 | cons x a => cases b with
   | nil => simp [bareL] at h
   | cons y b => simp only [bareL, List.cons.injEq] at h; exact h.1
theorem fitsS_bare {x y : Nd} (h : bareN y = bareN x) (f : Bool) : fitsS y f = fitsS x f := by
 cases x <;> cases y <;> simp only [bareN] at h <;> first | rfl | (simp only [Nd.st.injEq, true_and, and_true] at h; obtain ⟨h1, h2, h3, h4, h9, h10⟩ := h; simp only [fitsS]; rw [h1, kindN_bare (hd_bare h9)]) | cases h
theorem Rw.get0 {w : World} {t : Tg} {A : Option Addr} {n cap : Nat} {l : List Nd} (h : Rw w t (.slice A n cap) l) {k : Nat} (hk : k < n) : ∃ b o x, A = Option.some ⟨b, o, none⟩ ∧ l[k]? = Option.some x ∧ x.tag = t ∧ ∀ j u, (cellsN x)[j]? = Option.some u → w.cell? ⟨b, o + k * t.sz + j, none⟩ = Option.some u := by
 obtain ⟨A', cap', hv, _, ht, hc⟩ := h
 injection hv with h1 h2 h3
 obtain ⟨b, o, hA, hcell⟩ := hc (by omega)
 have hl : k < l.length := by omega
 exact ⟨b, o, l[k], h1.trans hA, List.getElem?_eq_getElem hl, ht _ (List.getElem_mem hl), hcell k _ (List.getElem?_eq_getElem hl)⟩
def goodS (x : Nd) : Prop := match x with
 | .st k _ _ _ _ _ _ _ e _ _ _ _ => (k = 2 ∨ k = 3) → e ≠ []
 | _ => True
theorem good_bare {x y : Nd} (h : bareN y = bareN x) (hg : goodS x) : goodS y := by
 cases x <;> cases y <;> simp only [bareN] at h <;> first | trivial | cases h; done | skip
 simp only [Nd.st.injEq, true_and, and_true] at h
 obtain ⟨h1, h2, h3, h4, h9, h10⟩ := h
 simp only [goodS] at hg ⊢
 intro hk e
 refine hg (h1 ▸ hk) ?_
 have := len_of_bare h9
 rw [e] at this
 exact List.length_eq_zero_iff.1 this.symm
theorem good_stS (b : Rb) (s : RS) : goodS (stS b s).1 := by
 unfold stS
 by_cases h0 : s.varB = true
 · rw [if_pos h0]; simp [varS, mkS, goodS]
 rw [if_neg h0]
 by_cases h1 : s.sees 0 kIf = true
 · rw [if_pos h1]; unfold choS; split <;> simp [mkS, goodS]
 rw [if_neg h1]
 by_cases h2 : s.sees 0 kWhile = true
 · rw [if_pos h2]; simp [whlS, mkS, goodS]
 rw [if_neg h2]
 by_cases h3 : s.sees 0 kReturn = true
 · rw [if_pos h3]; unfold resS; split <;> simp [mkS, goodS]
 rw [if_neg h3]
 by_cases h4 : s.sees 0 kPrint = true
 · rw [if_pos h4]; simp [mkS, goodS]
 rw [if_neg h4]
 by_cases h5 : s.sees 0 kAssert = true
 · rw [if_pos h5]; simp [mkS, goodS]
 rw [if_neg h5]
 by_cases h6 : s.sees 0 kThrow = true
 · rw [if_pos h6]; simp [mkS, goodS]
 rw [if_neg h6]
 by_cases h7 : s.sees 0 kTry = true
 · rw [if_pos h7]; unfold attS; split <;> simp [mkS, goodS]
 rw [if_neg h7]
 have hp : goodS (plaS s).1 := by unfold plaS; split <;> simp [mkS, goodS]
 by_cases h8 : s.sees 0 sSuper = true
 · rw [if_pos h8]
   split
   · simp [supS, mkS, goodS]
   · exact hp
 rw [if_neg h8]; exact hp
theorem fitsP_any (w : World) (k n : Int) (ty nm : ByteArray) (A1 A2 A3 A4 : Option Addr) (c1 c2 c3 c4 : Nat) (l1 l2 l3 l4 : List Nd) (first : Bool) (hr : Rw w .ex (.slice A1 l1.length c1) l1) (hg : goodS (.st k n ty nm (.slice A1 l1.length c1) (.slice A2 l2.length c2) (.slice A3 l3.length c3) (.slice A4 l4.length c4) l1 l2 l3 l4 0)) :
   Calls Tryz.prog 118 #[.agg #[.int .i64 k, .int .i32 n, .string ty, .string nm, .slice A1 l1.length c1, .slice A2 l2.length c2, .slice A3 l3.length c3, .slice A4 l4.length c4, .int .i64 0], .bool first] w fun e w' => e = .returned (.bool (fitsS (.st k n ty nm (.slice A1 l1.length c1) (.slice A2 l2.length c2) (.slice A3 l3.length c3) (.slice A4 l4.length c4) l1 l2 l3 l4 0) first)) ∧ Below w.heap.size w w' := by
 obtain ⟨W1, hW1⟩ : ∃ W1, w.alloc (.cells #[.int .i64 k, .int .i32 n, .string ty, .string nm, .slice A1 l1.length c1, .slice A2 l2.length c2, .slice A3 l3.length c3, .slice A4 l4.length c4, .int .i64 0] 144) = W1 := ⟨_, rfl⟩
 have hb : Below w.heap.size w W1 := by rw [← hW1]; exact (Below.refl _ w).alloc (Nat.le_refl _) _
 have hx : Bx W1 w.heap.size #[.int .i64 k, .int .i32 n, .string ty, .string nm, .slice A1 l1.length c1, .slice A2 l2.length c2, .slice A3 l3.length c3, .slice A4 l4.length c4, .int .i64 0] 144 := by rw [← hW1]; exact Bx.new _ _ _
 obtain ⟨a0, a1, a2, a3, a4, a5, a6, a7, a8⟩ := hx.all_9
 have HB := Lib.hid hb
 by_cases h11 : k = 11
 · have HE := Lib.hid (show fitsS (.st k n ty nm (.slice A1 l1.length c1) (.slice A2 l2.length c2) (.slice A3 l3.length c3) (.slice A4 l4.length c4) l1 l2 l3 l4 0) first = first by simp only [fitsS, if_pos h11])
   subst h11
   clear hx hg hr hb
   go_enter Tryz.func118, Tryz.ntmps118
   go_wp2_with fail
   go_ret
   exact ⟨ret_b HE.out, HB.out⟩
 have e11 : (k == 11) = false := by rw [beq_eq_false_iff_ne]; exact h11
 by_cases h2 : k = 2
 · have HE := Lib.hid (show fitsS (.st k n ty nm (.slice A1 l1.length c1) (.slice A2 l2.length c2) (.slice A3 l3.length c3) (.slice A4 l4.length c4) l1 l2 l3 l4 0) first = leftK (kindN (hdE l1)) by simp only [fitsS, if_neg h11, if_pos h2])
   have hne := hg (by simp [h2])
   obtain ⟨z, l, rfl⟩ := List.exists_cons_of_ne_nil hne
   obtain ⟨bb, o, z', hA, hz, hzt, hc⟩ := (Rw.keep (Keep.below hb) hr).get0 (show 0 < (z :: l).length by simp)
   simp only [List.getElem?_cons_zero, Option.some.injEq] at hz
   subst hz hA
   cases z <;> first | (simp [Nd.tag] at hzt; done) | skip
   rename_i zk zn ztx znm zty zv zl zo zth
   have d0 := hc 0 _ rfl
   simp only [Tg.sz, Nat.add_zero, Nat.zero_mul] at d0
   have hp : (0 : Int) < ((l.length + 1 : Nat) : Int) := by omega
   have HF := Lib.hid (takesValue_any W1 zk)
   obtain ⟨q, hq⟩ : ∃ q, leftK zk = q := ⟨_, rfl⟩
   rw [hq] at HF
   have HE2 := Lib.hid (show fitsS _ first = q by rw [HE.out, ← hq]; rfl)
   subst h2
   simp only [List.length_cons] at a4 hW1 hx ⊢
   clear hx hg hr hb hne hc hzt hq HE e11
   go_enter Tryz.func118, Tryz.ntmps118
   go_wp2_with fail
   refine HF.out.mono ?_
   clear HF
   rintro e w2 ⟨rfl, rfl⟩
   go_wp2_with fail
   go_ret
   exact ⟨ret_b HE2.out, HB.out⟩
 have e2 : (k == 2) = false := by rw [beq_eq_false_iff_ne]; exact h2
 by_cases h3 : k = 3
 · have HE := Lib.hid (show fitsS (.st k n ty nm (.slice A1 l1.length c1) (.slice A2 l2.length c2) (.slice A3 l3.length c3) (.slice A4 l4.length c4) l1 l2 l3 l4 0) first = doesK (kindN (hdE l1)) by simp only [fitsS, if_neg h11, if_neg h2, if_pos h3])
   have hne := hg (by simp [h3])
   obtain ⟨z, l, rfl⟩ := List.exists_cons_of_ne_nil hne
   obtain ⟨bb, o, z', hA, hz, hzt, hc⟩ := (Rw.keep (Keep.below hb) hr).get0 (show 0 < (z :: l).length by simp)
   simp only [List.getElem?_cons_zero, Option.some.injEq] at hz
   subst hz hA
   cases z <;> first | (simp [Nd.tag] at hzt; done) | skip
   rename_i zk zn ztx znm zty zv zl zo zth
   have d0 := hc 0 _ rfl
   simp only [Tg.sz, Nat.add_zero, Nat.zero_mul] at d0
   have hp : (0 : Int) < ((l.length + 1 : Nat) : Int) := by omega
   have HF := Lib.hid (does_any W1 zk)
   obtain ⟨q, hq⟩ : ∃ q, doesK zk = q := ⟨_, rfl⟩
   rw [hq] at HF
   have HE2 := Lib.hid (show fitsS _ first = q by rw [HE.out, ← hq]; rfl)
   subst h3
   simp only [List.length_cons] at a4 hW1 hx ⊢
   clear hx hg hr hb hne hc hzt hq HE e11
   go_enter Tryz.func118, Tryz.ntmps118
   go_wp2_with fail
   refine HF.out.mono ?_
   clear HF
   rintro e w2 ⟨rfl, rfl⟩
   go_wp2_with fail
   go_ret
   exact ⟨ret_b HE2.out, HB.out⟩
 have e3 : (k == 3) = false := by rw [beq_eq_false_iff_ne]; exact h3
 have HE := Lib.hid (show fitsS (.st k n ty nm (.slice A1 l1.length c1) (.slice A2 l2.length c2) (.slice A3 l3.length c3) (.slice A4 l4.length c4) l1 l2 l3 l4 0) first = true by simp only [fitsS, if_neg h11, if_neg h2, if_neg h3])
 clear hx hg hr hb h11 h2 h3
 go_enter Tryz.func118, Tryz.ntmps118
 go_wp2_with fail
 go_ret
 exact ⟨ret_b HE.out, HB.out⟩
end
section
open Go.RowKit
theorem fk_app {B B2 : Nat} {w w' : World} {v v2 v' : Value} {xs ys : List Nd} (h : OwnE B w v xs) (h2 : OwnE B2 w v2 ys) (hB : B ≤ B2) (ho : w'.ownsRow B 42 8 v' (xs.length + ys.length) (xs.flatMap cellsN ++ ys.flatMap cellsN)) (hg : w.grownBy w' none) : FkL B w' .ex v' (xs ++ ys) := by
 have hk : ∀ k j u, w.cell? ⟨k, j, none⟩ = some u → w'.cell? ⟨k, j, none⟩ = some u := fun k j u hu => hg.cell (a := ⟨k, j, none⟩) hu (by simp)
 have ht : ∀ x ∈ xs ++ ys, x.tag = .ex := fun x hx => by
   rcases List.mem_append.1 hx with hx | hx
   · exact (h.2.1 x hx).tag
   · exact (h2.2.1 x hx).tag
 have hm : (xs ++ ys).length ≤ 4000000 := by have := h.2.2.2; have := h2.2.2.2; rw [List.length_append]; omega
 intro ws hs
 refine ⟨?_, KdL_append (h.2.2.1 ws fun k j u hkB _ hu => hs k j u hkB (hk k j u hu)) (h2.2.2.1 ws fun k j u hkB _ hu => hs k j u (Nat.le_trans hB hkB) (hk k j u hu))⟩
 have ho' : w'.ownsRow B 42 8 v' (xs ++ ys).length ((xs ++ ys).flatMap cellsN) := by simpa using ho
 obtain ⟨A, cap, rfl, hc⟩ := own_form ho'
 refine ⟨A, cap, rfl, ⟨by unfold maxLen; omega, hc⟩, ht, fun hn => ?_⟩
 obtain ⟨g, cap', hv, hg', hl, hat⟩ := own_row ho' hn
 injection hv with h1 h2' h3
 refine ⟨g, 0, h1, fun i x hx j u hu => ?_⟩
 have hj : j < Tg.ex.sz := by rw [← ht x (List.mem_of_getElem? hx), ← cells_len]; exact (List.getElem?_eq_some_iff.1 hu).1
 have := (hat (i * Tg.ex.sz + j) u (by rw [flat_get (xs ++ ys) i j x ht hx hj]; exact hu)).1
 rw [Nat.zero_add]
 exact hs g _ u hg' this
theorem one_of_len {l : List Nd} (h : l.length = 1) : ∃ z, l = [z] := by
 match l, h with
 | [z], _ => exact ⟨z, rfl⟩
theorem plain_0 (HE : ExAny) (W0 w : World) (c : Nat) (s : RS) (hv : Vars W0) (h : Rd W0 c s w) (hel : (ex s).2.sees 0 sEq = false) : Calls Tryz.prog 139 #[.pointer (some ⟨c, 0, none⟩)] w (StC W0 c w (plaS s)) := by
 obtain ⟨q, hq⟩ : ∃ q, ex s = q := ⟨_, rfl⟩
 rw [hq] at hel
 have HRE : Hid (plaS s = (mkS 3 0 E0 E0 [hdE q.1] [] [] [], q.2.need sSemi)) := Lib.hid (by simp only [plaS, hq, hel]; simp)
 obtain ⟨RR, hRR⟩ : ∃ RR, plaS s = RR := ⟨_, rfl⟩
 rw [hRR] at HRE ⊢
 have hlt := h.lt
 have hle0 := h.le
 obtain ⟨W1, hW1⟩ : ∃ W1, w.alloc (.cells #[.int .i64 0, .int .i32 0, .string ⟨#[]⟩, .string ⟨#[]⟩, .slice none 0 0, .slice none 0 0, .slice none 0 0, .slice none 0 0, .int .i64 0] 144) = W1 := ⟨_, rfl⟩
 have hb : Below w.heap.size w W1 := by rw [← hW1]; exact (Below.refl _ w).alloc (Nat.le_refl _) _
 have hx : Bx W1 w.heap.size #[.int .i64 0, .int .i32 0, .string ⟨#[]⟩, .string ⟨#[]⟩, .slice none 0 0, .slice none 0 0, .slice none 0 0, .slice none 0 0, .int .i64 0] 144 := by rw [← hW1]; exact Bx.new _ _ _
 have hz : W1.heap.size = w.heap.size + 1 := by rw [← hW1]; simp
 have HM := Lib.hid (Mv.below hb h)
 have HB := Lib.hid hx
 clear hb hx
 have HX : Hid (∀ w', Rd W0 c (s) w' → Calls Tryz.prog 20 #[.pointer (some ⟨c, 0, none⟩)] w' (ExC W0 c w' q)) := by
   show ∀ w', _
   intro w' h'; have := HE W0 w' c _ hv h'; rw [hq] at this; exact this
 have HN : Hid (∀ w', Rd W0 c (q.2) w' → Calls Tryz.prog 36 #[.pointer (some ⟨c, 0, none⟩), .string sSemi] w' fun e w'' => e = .returned (.tuple #[]) ∧ Mv W0 c (RS.need (q.2) sSemi) w' w'') := by
   show ∀ w', _
   intro w' h'; exact need_any W0 w' c _ sSemi h'
 have HT : Hid (∀ w', Rd W0 c q.2 w' → Calls Tryz.prog 38 #[.pointer (some ⟨c, 0, none⟩), .string sEq] w' fun e w'' => e = .returned (.bool false) ∧ w' = w'') := by
   show ∀ w', _
   intro w' h'; exact take_false W0 w' c _ _ h' hel
 clear hRR hq h hv hel HE
 go_enter Tryz.func139, Tryz.ntmps139
 go_wp2_with fail
 refine (HX.out _ HM.out.2).mono ?_
 clear HX hW1
 rintro e w2 ⟨y, rfl, hk, hm⟩
 replace HM := Lib.hid (HM.out.trans hm)
 replace HB := Lib.hid (Bx.grown HB.out hm.1 (by omega))
 have hs2 := hm.1.size
 have HK := Lib.hid (hk.mono (show w.heap.size + 1 ≤ _ by omega))
 obtain ⟨k, m, tx, nm, ty, A, cap, l, rfl, _, _, _⟩ := hk
 clear hm
 obtain ⟨W3, hW3⟩ : ∃ W, w2.alloc (.cells #[.int .i64 k, .int .i32 m, .string tx, .string nm, .string ty, .slice A l.length cap, .string ⟨#[]⟩, .int .i64 0] 42) = W := ⟨_, rfl⟩
 have hb : Below w2.heap.size w2 W3 := by rw [← hW3]; exact (Below.refl _ _).alloc (Nat.le_refl _) _
 have HL : Hid (Bx W3 w2.heap.size #[.int .i64 k, .int .i32 m, .string tx, .string nm, .string ty, .slice A l.length cap, .string ⟨#[]⟩, .int .i64 0] 42) := Lib.hid (by rw [← hW3]; exact Bx.new _ _ _)
 replace HM := Lib.hid (HM.out.trans (Mv.below hb HM.out.2))
 replace HK := Lib.hid (HK.out.below hb)
 replace HB := Lib.hid (HB.out.next hb)
 have hs3 := hb.size
 clear hb
 subst hW3
 simp only [cellsN]
 go_wp2_with fail
 refine (HT.out _ HM.out.2).mono ?_
 clear HT
 rintro e w4 ⟨rfl, rfl⟩
 go_wp2_with fail
 refine (HN.out _ HM.out.2).mono ?_
 clear HN
 rintro e w5 ⟨rfl, hm⟩
 replace HM := Lib.hid (HM.out.trans hm)
 replace HL := Lib.hid (Bx.grown HL.out hm.1 (by omega))
 replace HB := Lib.hid (Bx.grown HB.out hm.1 (by omega))
 replace HK := Lib.hid (HK.out.grown hm.1 (.inl (by omega)))
 have hs5 := hm.1.size
 clear hm
 obtain ⟨W6, hW6⟩ : ∃ W, w5.alloc (.cells #[.int .i64 k, .int .i32 m, .string tx, .string nm, .string ty, .slice A l.length cap, .string ⟨#[]⟩, .int .i64 0] 42) = W := ⟨_, rfl⟩
 have hb : Below w5.heap.size w5 W6 := by rw [← hW6]; exact (Below.refl _ _).alloc (Nat.le_refl _) _
 have HY : Hid (OwnE (w.heap.size + 1) W6 (.slice (some ⟨w5.heap.size, 0, none⟩) 1 1) [.ex k m tx nm ty (.slice A l.length cap) l ⟨#[]⟩ 0]) := Lib.hid (by have := OwnE.one HK.out (show w.heap.size + 1 ≤ w5.heap.size by omega); simp only [cellsN] at this; rw [hW6] at this; exact this)
 have HQ := Lib.hid (bare_one (ExK.nk HK.out).2.2)
 obtain ⟨a0, a1, a2, a3, a4, a5, a6, a7⟩ := HL.out.all_8
 replace HM := Lib.hid (HM.out.trans (Mv.below hb HM.out.2))
 replace HB := Lib.hid (HB.out.next hb)
 clear hb
 obtain ⟨r0, r1, r2, r3, r4, r5, r6, r7, r8⟩ := HB.out.all_9
 have g0 := HB.out.fro 0; have g1 := HB.out.fro 1; have g2 := HB.out.fro 2; have g3 := HB.out.fro 3; have g4 := HB.out.fro 4; have g5 := HB.out.fro 5; have g6 := HB.out.fro 6; have g7 := HB.out.fro 7; have g8 := HB.out.fro 8
 have HG := Lib.hid (grown_9 W6 w.heap.size (.int .i64 3) (.int .i32 0) (.string ⟨#[]⟩) (.string ⟨#[]⟩) (.slice (some ⟨w5.heap.size, 0, none⟩) 1 1) (.slice none 0 0) (.slice none 0 0) (.slice none 0 0) (.int .i64 0))
 go_wp2_with fail
 obtain ⟨z0, z1, z2, z3, z4, z5, z6, z7, z8⟩ := (HB.out.to_9 (.int .i64 3) (.int .i32 0) (.string ⟨#[]⟩) (.string ⟨#[]⟩) (.slice (some ⟨w5.heap.size, 0, none⟩) 1 1) (.slice none 0 0) (.slice none 0 0) (.slice none 0 0) (.int .i64 0)).all_9
 (try simp only [Exit.inBlock, Exit.then])
 refine bodyPost_ret (v := .agg #[.int .i64 3, .int .i32 0, .string ⟨#[]⟩, .string ⟨#[]⟩, .slice (some ⟨w5.heap.size, 0, none⟩) 1 1, .slice none 0 0, .slice none 0 0, .slice none 0 0, .int .i64 0]) (by simp [results, Tryz.results139, go_sem, z0, z1, z2, z3, z4, z5, z6, z7, z8]) rfl ?_
 rw [HRE.out]
 refine ⟨.st (3) (0) ⟨#[]⟩ ⟨#[]⟩ (.slice (some ⟨w5.heap.size, 0, none⟩) 1 1) (.slice none 0 0) (.slice none 0 0) (.slice none 0 0) [.ex k m tx nm ty (.slice A l.length cap) l ⟨#[]⟩ 0] [] [] [] 0, rfl, ⟨_, _, _, _, _, _, _, _, _, _, _, _, [.ex k m tx nm ty (.slice A l.length cap) l ⟨#[]⟩ 0], [], [], [], rfl⟩, ?_, Mv.over (Below.refl _ _) HM.out HG.out (Nat.le_refl _) hlt⟩
 exact ((st_node (B := w.heap.size + 1) ⟨Nat.zero_le _, Nat.zero_le _⟩ HY.out.own.fk (FkL.nil _ _ _) (FkL.nil _ _ _) (FkL.nil _ _ _) HQ.out rfl rfl rfl).grown HG.out (.inl (by omega))).mono (by omega)
theorem plain_1 (HE : ExAny) (W0 w : World) (c : Nat) (s : RS) (hv : Vars W0) (h : Rd W0 c s w) (hel : (ex s).2.sees 0 sEq = true) : Calls Tryz.prog 139 #[.pointer (some ⟨c, 0, none⟩)] w (StC W0 c w (plaS s)) := by
 obtain ⟨q, hq⟩ : ∃ q, ex s = q := ⟨_, rfl⟩
 rw [hq] at hel
 obtain ⟨d, hd⟩ : ∃ d, finE q.2.skip = d := ⟨_, rfl⟩
 have HRE : Hid (plaS s = (mkS 2 0 E0 E0 (hdE q.1 :: d.1) [] [] [], d.2)) := Lib.hid (by simp only [plaS, hq, hel, hd, if_true])
 obtain ⟨RR, hRR⟩ : ∃ RR, plaS s = RR := ⟨_, rfl⟩
 rw [hRR] at HRE ⊢
 have hd1 : d.1.length = 1 := by rw [← hd]; rfl
 have hlt := h.lt
 have hle0 := h.le
 obtain ⟨W1, hW1⟩ : ∃ W1, w.alloc (.cells #[.int .i64 0, .int .i32 0, .string ⟨#[]⟩, .string ⟨#[]⟩, .slice none 0 0, .slice none 0 0, .slice none 0 0, .slice none 0 0, .int .i64 0] 144) = W1 := ⟨_, rfl⟩
 have hb : Below w.heap.size w W1 := by rw [← hW1]; exact (Below.refl _ w).alloc (Nat.le_refl _) _
 have hx : Bx W1 w.heap.size #[.int .i64 0, .int .i32 0, .string ⟨#[]⟩, .string ⟨#[]⟩, .slice none 0 0, .slice none 0 0, .slice none 0 0, .slice none 0 0, .int .i64 0] 144 := by rw [← hW1]; exact Bx.new _ _ _
 have hz : W1.heap.size = w.heap.size + 1 := by rw [← hW1]; simp
 have HM := Lib.hid (Mv.below hb h)
 have HB := Lib.hid hx
 clear hb hx
 have HX : Hid (∀ w', Rd W0 c (s) w' → Calls Tryz.prog 20 #[.pointer (some ⟨c, 0, none⟩)] w' (ExC W0 c w' q)) := by
   show ∀ w', _
   intro w' h'; have := HE W0 w' c _ hv h'; rw [hq] at this; exact this
 have HC : Hid (∀ w', Rd W0 c (q.2.skip) w' → Calls Tryz.prog 136 #[.pointer (some ⟨c, 0, none⟩)] w' (LsC W0 c w' d)) := by
   show ∀ w', _
   intro w' h'; have := finE_of HE W0 w' c _ hv h'; rw [hd] at this; exact this
 have HT : Hid (∀ w', Rd W0 c q.2 w' → Calls Tryz.prog 38 #[.pointer (some ⟨c, 0, none⟩), .string sEq] w' fun e w'' => e = .returned (.bool true) ∧ Mv W0 c q.2.skip w' w'') := by
   show ∀ w', _
   intro w' h'; exact take_true W0 w' c _ _ h' hel
 clear hRR hq h hv hel HE hd
 go_enter Tryz.func139, Tryz.ntmps139
 go_wp2_with fail
 refine (HX.out _ HM.out.2).mono ?_
 clear HX hW1
 rintro e w2 ⟨y, rfl, hk, hm⟩
 replace HM := Lib.hid (HM.out.trans hm)
 replace HB := Lib.hid (Bx.grown HB.out hm.1 (by omega))
 have hs2 := hm.1.size
 have HK := Lib.hid (hk.mono (show w.heap.size + 1 ≤ _ by omega))
 obtain ⟨k, m, tx, nm, ty, A, cap, l, rfl, _, _, _⟩ := hk
 clear hm
 obtain ⟨W3, hW3⟩ : ∃ W, w2.alloc (.cells #[.int .i64 k, .int .i32 m, .string tx, .string nm, .string ty, .slice A l.length cap, .string ⟨#[]⟩, .int .i64 0] 42) = W := ⟨_, rfl⟩
 have hb : Below w2.heap.size w2 W3 := by rw [← hW3]; exact (Below.refl _ _).alloc (Nat.le_refl _) _
 have HL : Hid (Bx W3 w2.heap.size #[.int .i64 k, .int .i32 m, .string tx, .string nm, .string ty, .slice A l.length cap, .string ⟨#[]⟩, .int .i64 0] 42) := Lib.hid (by rw [← hW3]; exact Bx.new _ _ _)
 replace HM := Lib.hid (HM.out.trans (Mv.below hb HM.out.2))
 replace HK := Lib.hid (HK.out.below hb)
 replace HB := Lib.hid (HB.out.next hb)
 have hs3 := hb.size
 clear hb
 subst hW3
 simp only [cellsN]
 go_wp2_with fail
 refine (HT.out _ HM.out.2).mono ?_
 clear HT
 rintro e w4 ⟨rfl, hm⟩
 replace HM := Lib.hid (HM.out.trans hm)
 replace HL := Lib.hid (Bx.grown HL.out hm.1 (by omega))
 replace HB := Lib.hid (Bx.grown HB.out hm.1 (by omega))
 replace HK := Lib.hid (HK.out.grown hm.1 (.inl (by omega)))
 have hs4 := hm.1.size
 clear hm
 have hsd : w4.drew.heap.size = w4.heap.size := rfl
 have HMD := Lib.hid (HM.out.trans (Mv.below (Below.refl _ w4).drew HM.out.2))
 have HKD := Lib.hid (HK.out.below (Below.refl _ w4).drew)
 have HBD := Lib.hid (HB.out.next (Below.refl _ w4).drew)
 have HLD := Lib.hid (HL.out.next (Below.refl _ w4).drew)
 have HYA := Lib.hid (OwnE.one HKD.out (show w.heap.size + 1 ≤ w4.drew.heap.size by rw [hsd]; omega))
 have hba : Below w4.drew.heap.size w4.drew (w4.drew.alloc (.cells #[.int .i64 k, .int .i32 m, .string tx, .string nm, .string ty, .slice A l.length cap, .string ⟨#[]⟩, .int .i64 0] 42)) := (Below.refl _ _).alloc (Nat.le_refl _) _
 have HMA := Lib.hid (HMD.out.trans (Mv.below hba HMD.out.2))
 have HBA := Lib.hid (HBD.out.next hba)
 have HLA := Lib.hid (HLD.out.next hba)
 simp only [cellsN] at HYA
 obtain ⟨i0, hi, hz0, hzz1, hzz2⟩ := info_parts Tryz.infoEx
 obtain ⟨a0, a1, a2, a3, a4, a5, a6, a7⟩ := HL.out.all_8
 have HQ := Lib.hid (ExK.nk HK.out).2.2
 clear hba HK
 go_wp2_with fail
 go_region_law (first
   | (refine step_append_full rfl (.tmp 9) (.tmp 11) 40 rfl 42 i0 _ 8 112 Tryz.underlying40 hi hz0 hzz1 hzz2 rfl (by decide) (w.heap.size + 1) (some ⟨_, 0, none⟩) 1 _ rfl HV.out.1 _ _ _ _ rfl HR.out.1 (ex_one HR.out.2.1) (by unfold maxLen; simp) (by simp) HC3.out ?_; intro v3 w6 ho6 hg6 hat6; have hfk := fk_app HV.out HR.out (by omega) ho6 hg6; have ho7 : World.ownsRow _ _ _ _ _ 2 _ := ho6; obtain ⟨A3, cap3, rfl, _⟩ := own_form ho7; have HF3 := Lib.hid hfk; have HB6 := Lib.hid (Bx.next HBV.out (below_none hg6)); have HM6 := Lib.hid (HMV.out.trans (Mv.below (below_none hg6) HMV.out.2)); obtain ⟨r0, r1, r2, r3, r4, r5, r6, r7, r8⟩ := HB6.out.all_9; have g0 := HB6.out.fro 0; have g1 := HB6.out.fro 1; have g2 := HB6.out.fro 2; have g3 := HB6.out.fro 3; have g4 := HB6.out.fro 4; have g5 := HB6.out.fro 5; have g6 := HB6.out.fro 6; have g7 := HB6.out.fro 7; have g8 := HB6.out.fro 8; clear ho6 ho7 hg6 hat6 hfk)
   | (go_simp; go_wp2_with (go_loud (go_at_call 136; refine (HC.out _ (by first | exact HMD.out.2 | exact HMA.out.2)).mono ?_; rintro e w5 ⟨v2, zs, rfl, ho2, hbz, hm⟩; obtain ⟨z, rfl⟩ := one_of_len ((len_of_bare hbz).trans hd1); obtain ⟨A2, cap2, rfl⟩ := ho2.form; have HBZ := Lib.hid hbz; have hs5 := hm.1.size; first | (have HV := Lib.hid (HYA.out.grown hm.1 (by omega)); have HR := Lib.hid (ho2.mono (show w.heap.size + 1 ≤ _ by simp only [World.size_alloc, World.size_drew]; omega)); have HMV := Lib.hid (HMA.out.trans hm); have HBV := Lib.hid (Bx.grown HBA.out hm.1 (by omega)); have HC3 := Lib.hid (show w.heap.size + 1 ≤ w5.heap.size from Nat.le_trans (by simp only [World.size_alloc, World.size_drew]; omega) hs5); clear hm ho2 hbz) | (have HK5 := Lib.hid (HKD.out.grown hm.1 (.inl (by omega))); have hb5 : Below w5.heap.size w5 (w5.alloc (.cells #[.int .i64 k, .int .i32 m, .string tx, .string nm, .string ty, .slice A l.length cap, .string ⟨#[]⟩, .int .i64 0] 42)) := (Below.refl _ _).alloc (Nat.le_refl _) _; have hw5 : w.heap.size + 1 ≤ w5.heap.size := (by omega); have HV := Lib.hid (OwnE.one HK5.out hw5); have HR := Lib.hid ((ho2.mono (show w.heap.size + 1 ≤ _ by omega)).below hb5); have HMV := Lib.hid ((HMD.out.trans hm).trans (Mv.below hb5 hm.2)); have HBV := Lib.hid ((Bx.grown HBD.out hm.1 (by omega)).next hb5); have HC3 := Lib.hid (Nat.le_trans hw5 hb5.size); simp only [cellsN] at HV; obtain ⟨b0, b1, b2, b3, b4, b5, b6, b7⟩ := (Bx.grown HLD.out hm.1 (by omega)).all_8; clear hm ho2 hbz hb5)))))
 all_goals
   have HG := Lib.hid (grown_9 w6 w.heap.size (.int .i64 2) (.int .i32 0) (.string ⟨#[]⟩) (.string ⟨#[]⟩) (.slice A3 2 cap3) (.slice none 0 0) (.slice none 0 0) (.slice none 0 0) (.int .i64 0))
   go_wp2_with fail
   obtain ⟨z0, z1, z2, z3, z4, z5, z6, z7, z8⟩ := (HB6.out.to_9 (.int .i64 2) (.int .i32 0) (.string ⟨#[]⟩) (.string ⟨#[]⟩) (.slice A3 2 cap3) (.slice none 0 0) (.slice none 0 0) (.slice none 0 0) (.int .i64 0)).all_9
   (try simp only [Exit.inBlock, Exit.then])
   refine bodyPost_ret (v := .agg #[.int .i64 2, .int .i32 0, .string ⟨#[]⟩, .string ⟨#[]⟩, .slice A3 2 cap3, .slice none 0 0, .slice none 0 0, .slice none 0 0, .int .i64 0]) (by simp [results, Tryz.results139, go_sem, z0, z1, z2, z3, z4, z5, z6, z7, z8]) rfl ?_
   rw [HRE.out]
   refine ⟨.st 2 0 ⟨#[]⟩ ⟨#[]⟩ (.slice A3 2 cap3) (.slice none 0 0) (.slice none 0 0) (.slice none 0 0) [.ex k m tx nm ty (.slice A l.length cap) l ⟨#[]⟩ 0, z] [] [] [] 0, rfl, ⟨_, _, _, _, _, _, _, _, _, _, _, _, [.ex k m tx nm ty (.slice A l.length cap) l ⟨#[]⟩ 0, z], [], [], [], rfl⟩, ?_, Mv.over (Below.refl _ _) HM6.out HG.out (Nat.le_refl _) hlt⟩
   exact ((st_node (B := w.heap.size + 1) ⟨Nat.zero_le _, Nat.zero_le _⟩ HF3.out (FkL.nil _ _ _) (FkL.nil _ _ _) (FkL.nil _ _ _) (by rw [bareL_append, HBZ.out]; simp only [bareL, List.cons_append, List.nil_append]; rw [HQ.out]) rfl rfl rfl).grown HG.out (.inl (by omega))).mono (by omega)
theorem plainS_of (HE : ExAny) (W0 w : World) (c : Nat) (s : RS) (hv : Vars W0) (h : Rd W0 c s w) : Calls Tryz.prog 139 #[.pointer (some ⟨c, 0, none⟩)] w (StC W0 c w (plaS s)) := by
 cases hel : (ex s).2.sees 0 sEq with
 | false => exact plain_0 HE W0 w c s hv h hel
 | true => exact plain_1 HE W0 w c s hv h hel
end
end Go.Proofs.YtipcoglddfgopaaGreatDoor
