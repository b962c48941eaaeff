/- Parts of the proof: Num, At, AtB. -/
import Derived.Test.YtaclhdpjkgoadaaGreatDoorP9
import Derived.Test.YtaclhdpjkgoadaaGreatDoorShelf
import Derived.Lib.ParseIntBTie
import Derived.Lib.AtoiErrMem
import Derived.Test.YtaclhdpjkgoadaaGreatDoorP23
set_option maxHeartbeats 4000000
set_option maxRecDepth 100000
namespace Go.Proofs.YtaclhdpjkgoadaaGreatDoor
set_option linter.unusedSimpArgs false
set_option linter.unusedVariables false
section
open Go.RowKit
def ParSaid (t : ByteArray) (w : World) (e : Ending) (w' : World) : Prop :=
 Below w.heap.size w w' ∧ ((∃ v, numO t = some v ∧ e = .returned (.tuple #[.int .i64 v, .nilIface])) ∨ (numO t = none ∧ ∃ v T p, e = .returned (.tuple #[.int .i64 v, .iface T (.pointer (some p))])))
theorem Vars.keepR {W0 w : World} {c : Nat} {s : RS} (hv : Vars W0) (h : Rd W0 c s w) : Vars w := by
 have key : ∀ g ev, W0.cell? ⟨g, 0, none⟩ = some ev → (ev = .nilIface ∨ ∃ te pe, ev = .iface te pe) → w.cell? ⟨g, 0, none⟩ = some ev := by
   intro g ev hg he
   have hne : g ≠ c := by
     rintro rfl
     rcases he with rfl | ⟨te, pe, rfl⟩
     · exact h.2.1.nonil hg
     · exact h.2.1.no hg
   exact (World.cell?_of_block (a := ⟨g, 0, none⟩) (World.grownBy.block h.1 g (World.block_lt_of_cell? W0 (a := ⟨g, 0, none⟩) hg) (by simpa using hne))).trans hg
 obtain ⟨⟨a, h1, h2⟩, b, h3, h4⟩ := hv
 exact ⟨⟨a, key _ _ h1 h2, h2⟩, b, key _ _ h3 h4, h4⟩
theorem parse_any (w : World) (t : ByteArray) (hv : Vars w) (ht : t.size ≤ 1000000) : Calls Tryz.prog 170 #[.string t, .int .i64 10, .int .i64 32] w (ParSaid t w) := by
 obtain ⟨⟨ev, h1, h2⟩, ev', h3, h4⟩ := hv
 cases hp : Lib.parseIntB 32 t.data.toList with
 | ok v =>
   refine (Tryz.strconv_ParseInt_10_at32_ok t (by omega) v hp w).mono ?_
   rintro e w' ⟨rfl, h⟩
   refine ⟨?_, .inl ⟨v, by simp [numO, hp], rfl⟩⟩
   rcases h with rfl | ⟨u, rfl⟩
   · exact Below.refl _ _
   · exact Lib.bytesWorld_below _ _ _
 | range =>
   refine (Tryz.strconv_ParseInt_10_at32_range t (by omega) hp ev' w h3 h4).mono ?_
   rintro e w' ⟨N, rfl, _, _, hb⟩
   exact ⟨hb, .inr ⟨by simp [numO, hp], _, _, _, rfl⟩⟩
 | _ =>
   refine (Tryz.strconv_ParseInt_10_at32_syntax t (by omega) hp ev w h1 h2).mono ?_
   rintro e w' ⟨N, rfl, _, _, hb⟩
   exact ⟨hb, .inr ⟨by simp [numO, hp], _, _, _, rfl⟩⟩
theorem num_bounds {t : ByteArray} {v : Int} (h : numO t = some v) : -2147483648 ≤ v ∧ v < 2147483648 := by
 unfold numO at h
 split at h
 · rename_i u hu
   injection h with h; subst h
   have := Lib.parseIntB_bounds hu
   simpa using this
 · cases h
theorem ret_i32 {a b : Int} (h : b = a) : Ending.returned (.int .i32 a) = .returned (.int .i32 b) := by rw [h]
theorem number_no (W0 w : World) (c : Nat) (s : RS) (most : Int) (h : Rd W0 c s w) (hp : nuP s.ws[0]? = none) : Calls Tryz.prog 148 #[.pointer (some ⟨c, 0, none⟩), .int .i64 most] w fun e w' => e = .returned (.int .i32 (s.numR most)) ∧ Mv W0 c (s.num most) w w' := by
 have HA := Lib.hid (ahead_any W0 w c 0 s h (by omega))
 have HF := Lib.hid (fail_any W0 w c s 3 h)
 have HE := Lib.hid (show s.num most = s.fail 3 by simp [RS.num, hp])
 have HV := Lib.hid (show s.numR most = 0 by simp [RS.numR, hp])
 cases hx : s.ws[0]? with
 | none =>
   have hv : aheadV s.ws 0 = .nilIface := by simp [aheadV, hx]
   rw [hv] at HA
   clear hx hv h hp
   go_enter Tryz.func148, Tryz.ntmps148
   go_wp2_with (first | (go_at_call 41; refine HA.out.mono ?_; clear HA; rintro e w1 ⟨rfl, rfl⟩) | (go_at_call 29; refine HF.out.mono ?_; clear HF; rintro e w1 ⟨rfl, hm⟩; have HM := Lib.hid hm; clear hm))
   go_ret
   exact ⟨ret_i32 HV.out, by rw [HE.out]; exact HM.out⟩
 | some x =>
   obtain ⟨q, a⟩ := x
   have hv : aheadV s.ws 0 = q.V := by simp [aheadV, hx]
   rw [hv] at HA
   cases q with
   | nu t => rw [hx] at hp; cases hp
   | fx t | nm t | cl t | qu t =>
     simp only [Pr.V] at HA
     clear hx hv h hp
     go_enter Tryz.func148, Tryz.ntmps148
     go_wp2_with (first | (go_at_call 41; refine HA.out.mono ?_; clear HA; rintro e w1 ⟨rfl, rfl⟩) | (go_at_call 29; refine HF.out.mono ?_; clear HF; rintro e w1 ⟨rfl, hm⟩; have HM := Lib.hid hm; clear hm))
     go_ret
     exact ⟨ret_i32 HV.out, by rw [HE.out]; exact HM.out⟩
theorem number_yes (W0 w : World) (c : Nat) (s : RS) (most : Int) (t : ByteArray) (a : Int) (hvars : Vars W0) (h : Rd W0 c s w) (hp : s.ws[0]? = some (.nu t, a)) : Calls Tryz.prog 148 #[.pointer (some ⟨c, 0, none⟩), .int .i64 most] w fun e w' => e = .returned (.int .i32 (s.numR most)) ∧ Mv W0 c (s.num most) w w' := by
 have HA := Lib.hid (ahead_any W0 w c 0 s h (by omega))
 have hv : aheadV s.ws 0 = (Pr.nu t).V := by simp [aheadV, hp]
 rw [hv] at HA
 simp only [Pr.V] at HA
 have HP := Lib.hid (parse_any w t (hvars.keepR h) (h.short hp))
 have HF : Hid (∀ w', Rd W0 c s w' → Calls Tryz.prog 29 #[.pointer (some ⟨c, 0, none⟩), .int .i64 5] w' fun e w'' => e = .returned (.tuple #[]) ∧ Mv W0 c (s.fail 5) w' w'') := by
   show ∀ w', _
   intro w' h'; exact fail_any W0 w' c s 5 h'
 have HS : Hid (∀ w', Rd W0 c s w' → Calls Tryz.prog 43 #[.pointer (some ⟨c, 0, none⟩)] w' fun e w'' => e = .returned (.tuple #[]) ∧ Mv W0 c s.skip w' w'') := by
   show ∀ w', _
   intro w' h'; exact skip_any W0 w' c s h' (ne_of_get hp)
 have hnu : nuP s.ws[0]? = some t := by rw [hp]; rfl
 have HRD := Lib.hid h
 cases ho : numO t with
 | none =>
   have HE := Lib.hid (show s.num most = s.fail 5 by simp [RS.num, hnu, RS.numT, ho])
   have HV := Lib.hid (show s.numR most = 0 by simp [RS.numR, hnu, RS.numV, ho])
   have HP2 : Hid (Calls Tryz.prog 170 #[.string t, .int .i64 10, .int .i64 32] w fun e w' => Below w.heap.size w w' ∧ ∃ v T p, e = .returned (.tuple #[.int .i64 v, .iface T (.pointer (some p))])) := by
     refine HP.out.mono ?_
     rintro e w' ⟨hb, ⟨v, hv', _⟩ | ⟨_, hr⟩⟩
     · rw [ho] at hv'; cases hv'
     · exact ⟨hb, hr⟩
   clear hv h hp hnu ho HP hvars
   go_enter Tryz.func148, Tryz.ntmps148
   go_wp2_with (first | (go_at_call 41; refine HA.out.mono ?_; clear HA; rintro e w1 ⟨rfl, rfl⟩) | (go_at_call 170; refine HP2.out.mono ?_; clear HP2; rintro e w1 ⟨hb, v, T, p, rfl⟩; have HM := Lib.hid (Mv.below hb HRD.out); clear hb) | (go_at_call 29; refine (HF.out _ HM.out.2).mono ?_; clear HF; rintro e w2 ⟨rfl, hm⟩; have HM2 := Lib.hid hm; clear hm))
   go_ret
   exact ⟨ret_i32 HV.out, by rw [HE.out]; exact HM.out.trans HM2.out⟩
 | some v =>
   have hbd := num_bounds ho
   have HP2 : Hid (Calls Tryz.prog 170 #[.string t, .int .i64 10, .int .i64 32] w fun e w' => Below w.heap.size w w' ∧ e = .returned (.tuple #[.int .i64 v, .nilIface])) := by
     refine HP.out.mono ?_
     rintro e w' ⟨hb, ⟨v', hv', hr⟩ | ⟨hn, _⟩⟩
     · rw [ho] at hv'; injection hv' with hv'; subst hv'; exact ⟨hb, hr⟩
     · rw [ho] at hn; cases hn
   by_cases hle : v ≤ most
   · have HE := Lib.hid (show s.num most = s.skip by simp [RS.num, hnu, RS.numT, ho, hle])
     have HV := Lib.hid (show s.numR most = v by simp [RS.numR, hnu, RS.numV, ho, hle])
     have hw : wrap32 v = v := by unfold wrap32; omega
     clear hv h hp hnu ho HP hvars
     go_enter Tryz.func148, Tryz.ntmps148
     go_wp2_with (first | (go_at_call 41; refine HA.out.mono ?_; clear HA; rintro e w1 ⟨rfl, rfl⟩) | (go_at_call 170; refine HP2.out.mono ?_; clear HP2; rintro e w1 ⟨hb, rfl⟩; have HM := Lib.hid (Mv.below hb HRD.out); clear hb) | (go_at_call 43; refine (HS.out _ HM.out.2).mono ?_; clear HS; rintro e w2 ⟨rfl, hm⟩; have HM2 := Lib.hid hm; clear hm))
     go_ret
     exact ⟨ret_i32 (by rw [HV.out]), by rw [HE.out]; exact HM.out.trans HM2.out⟩
   · have HE := Lib.hid (show s.num most = s.fail 5 by simp [RS.num, hnu, RS.numT, ho, hle])
     have HV := Lib.hid (show s.numR most = 0 by simp [RS.numR, hnu, RS.numV, ho, hle])
     have hlt : most < v := by omega
     clear hv h hp hnu ho HP hvars hle
     go_enter Tryz.func148, Tryz.ntmps148
     go_wp2_with (first | (go_at_call 41; refine HA.out.mono ?_; clear HA; rintro e w1 ⟨rfl, rfl⟩) | (go_at_call 170; refine HP2.out.mono ?_; clear HP2; rintro e w1 ⟨hb, rfl⟩; have HM := Lib.hid (Mv.below hb HRD.out); clear hb) | (go_at_call 29; refine (HF.out _ HM.out.2).mono ?_; clear HF; rintro e w2 ⟨rfl, hm⟩; have HM2 := Lib.hid hm; clear hm))
     go_ret
     exact ⟨ret_i32 HV.out, by rw [HE.out]; exact HM.out.trans HM2.out⟩
theorem number_any (W0 w : World) (c : Nat) (s : RS) (most : Int) (hv : Vars W0) (h : Rd W0 c s w) : Calls Tryz.prog 148 #[.pointer (some ⟨c, 0, none⟩), .int .i64 most] w fun e w' => e = .returned (.int .i32 (s.numR most)) ∧ Mv W0 c (s.num most) w w' := by
 cases hp : s.ws[0]? with
 | none => exact number_no W0 w c s most h (by rw [hp]; rfl)
 | some x =>
   obtain ⟨q, a⟩ := x
   cases q with
   | nu t => exact number_yes W0 w c s most t a hv h hp
   | fx t | nm t | cl t | qu t => exact number_no W0 w c s most h (by rw [hp]; rfl)
end
section
open Go.RowKit
theorem take_false (W0 w : World) (c : Nat) (s : RS) (p : ByteArray) (h : Rd W0 c s w) (hr : s.sees 0 p = false) : Calls Tryz.prog 58 #[.pointer (some ⟨c, 0, none⟩), .string p] w fun e w' => e = .returned (.bool false) ∧ w = w' := by
 have HA := Lib.hid (sees_any W0 w c s p h)
 rw [hr] at HA
 clear h hr
 go_enter Tryz.func58, Tryz.ntmps58
 go_wp2_with (go_at_call 70; refine HA.out.mono ?_; clear HA; rintro e w1 ⟨rfl, rfl⟩)
 go_ret
 exact ⟨rfl, rfl⟩
theorem take_true (W0 w : World) (c : Nat) (s : RS) (p : ByteArray) (h : Rd W0 c s w) (hr : s.sees 0 p = true) : Calls Tryz.prog 58 #[.pointer (some ⟨c, 0, none⟩), .string p] w fun e w' => e = .returned (.bool true) ∧ Mv W0 c s.skip w w' := by
 have HA := Lib.hid (sees_any W0 w c s p h)
 rw [hr] at HA
 have HS := Lib.hid (skip_any W0 w c s h (sees_ne hr))
 clear h hr
 go_enter Tryz.func58, Tryz.ntmps58
 go_wp2_with (first | (go_at_call 70; refine HA.out.mono ?_; clear HA; rintro e w1 ⟨rfl, rfl⟩) | (go_at_call 43; refine HS.out.mono ?_; clear HS; rintro e w1 ⟨rfl, hm⟩; have HM := Lib.hid hm; clear hm))
 go_ret
 exact ⟨rfl, HM.out⟩
theorem ofClass_of (n : Nat) (IH : SpecU n) (W0 w : World) (c : Nat) (s : RS) (hv : Vars W0) (h : Rd W0 c s w) (hen : enough n (.used 9 13 s.classV []) (s.class.need sCols)) :
   Calls Tryz.prog 149 #[.pointer (some ⟨c, 0, none⟩)] w (ExC W0 c w (run n (.used 9 13 s.classV []) (s.class.need sCols))) := by
 obtain ⟨r, hr⟩ : ∃ r, run n (.used 9 13 s.classV []) (s.class.need sCols) = r := ⟨_, rfl⟩
 rw [hr]
 have hcl := class_len s
 obtain ⟨cl, hcle⟩ : ∃ cl, s.classV = cl := ⟨_, rfl⟩
 rw [hcle] at hcl hr hen
 have hlt := h.lt
 have hle0 := h.le
 obtain ⟨W1, hW1⟩ : ∃ W1, w.alloc (.cells #[.int .i64 0, .int .i32 0, .string ⟨#[]⟩, .string ⟨#[]⟩, .string ⟨#[]⟩, .slice none 0 0, .string ⟨#[]⟩, .int .i64 0] 26) = W1 := ⟨_, rfl⟩
 have hb : Below w.heap.size w W1 := by rw [← hW1]; exact (Below.refl _ w).alloc (Nat.le_refl _) _
 have hx : Bx W1 w.heap.size #[.int .i64 0, .int .i32 0, .string ⟨#[]⟩, .string ⟨#[]⟩, .string ⟨#[]⟩, .slice none 0 0, .string ⟨#[]⟩, .int .i64 0] 26 := by rw [← hW1]; exact Bx.new _ _ _
 have hz : W1.heap.size = w.heap.size + 1 := by rw [← hW1]; simp
 have HM0 := Lib.hid (Mv.below hb h)
 have HX0 := Lib.hid hx
 clear hb hx
 have HC := Lib.hid (classR_any W0 W1 c s HM0.out.2)
 rw [hcle] at HC
 have HN : Hid (∀ w', Rd W0 c s.class w' → Calls Tryz.prog 56 #[.pointer (some ⟨c, 0, none⟩), .string sCols] w' fun e w'' => e = .returned (.tuple #[]) ∧ Mv W0 c (s.class.need sCols) w' w'') := by
   show ∀ w', _
   intro w' h'; exact need_any W0 w' c _ sCols h'
 have HU : Hid (∀ w', Rd W0 c (s.class.need sCols) w' → w.heap.size < w'.heap.size → Calls Tryz.prog 119 #[.pointer (some ⟨c, 0, none⟩), .agg #[.int .i64 0, .int .i32 0, .string ⟨#[]⟩, .string ⟨#[]⟩, .string cl, .slice none 0 0, .string ⟨#[]⟩, .int .i64 0], .int .i64 9, .int .i64 13] w' (UsC W0 (w.heap.size + 1) none c w' r)) := by
   show ∀ w', _
   intro w' h' hs'
   have := IH W0 w' (w.heap.size + 1) none c _ 9 13 cl (.slice none 0 0) [] [] hv h' hen (OwnR.nil _ _ _) rfl (by omega) hs' ⟨none, rfl⟩ (Nat.zero_le _) hcl (by simp)
   rw [hr] at this; exact this
 clear hr hen h IH hv hcle
 go_enter Tryz.func149, Tryz.ntmps149
 go_wp2_with fail
 refine HC.out.mono ?_
 clear HC hW1
 rintro e w2 ⟨rfl, hm⟩
 have HM1 := Lib.hid (HM0.out.trans hm)
 have HB1 := Lib.hid (Bx.grown HX0.out hm.1 (by omega))
 have hs1 := hm.1.size
 clear hm
 obtain ⟨W3, hW3⟩ : ∃ W3, w2.alloc (.cells #[.int .i64 0, .int .i32 0, .string ⟨#[]⟩, .string ⟨#[]⟩, .string cl, .slice none 0 0, .string ⟨#[]⟩, .int .i64 0] 26) = W3 := ⟨_, rfl⟩
 have hb3 : Below w2.heap.size w2 W3 := by rw [← hW3]; exact (Below.refl _ _).alloc (Nat.le_refl _) _
 have HY := Lib.hid (show Bx W3 w2.heap.size #[.int .i64 0, .int .i32 0, .string ⟨#[]⟩, .string ⟨#[]⟩, .string cl, .slice none 0 0, .string ⟨#[]⟩, .int .i64 0] 26 by rw [← hW3]; exact Bx.new _ _ _)
 have HM3 := Lib.hid (HM1.out.trans (Mv.below hb3 HM1.out.2))
 have HB3 := Lib.hid (Bx.next HB1.out hb3)
 have hs3 := hb3.size
 clear hb3
 subst hW3
 go_wp2_with fail
 refine (HN.out _ HM3.out.2).mono ?_
 clear HN
 rintro e w4 ⟨rfl, hm⟩
 have HM4 := Lib.hid (HM3.out.trans hm)
 have HB4 := Lib.hid (Bx.grown HB3.out hm.1 (by omega))
 obtain ⟨a0, a1, a2, a3, a4, a5, a6, a7⟩ := (Bx.grown HY.out hm.1 (by omega)).all_8
 have hs4 := hm.1.size
 clear hm
 go_wp2_with fail
 refine (HU.out _ HM4.out.2 (by omega)).mono ?_
 clear HU a0 a1 a2 a3 a4 a5 a6 a7
 rintro e w5 ⟨y, rfl, hk, hm⟩
 have HK := Lib.hid hk
 obtain ⟨k, m, tx, nm, ty, A, cap, l, rfl, _, _, _⟩ := hk
 have HM := Lib.hid (HM4.out.trans hm)
 have HBX := Lib.hid (Bx.grown HB4.out hm.1 (by omega))
 clear hm
 have hx2 := HBX.out
 obtain ⟨r0, r1, r2, r3, r4, r5, r6, r7⟩ := hx2.all_8
 have g0 := hx2.fro 0; have g1 := hx2.fro 1; have g2 := hx2.fro 2; have g3 := hx2.fro 3; have g4 := hx2.fro 4; have g5 := hx2.fro 5; have g6 := hx2.fro 6; have g7 := hx2.fro 7
 have HG := Lib.hid (grown_8 w5 w.heap.size (.int .i64 k) (.int .i32 m) (.string tx) (.string nm) (.string ty) (.slice A l.length cap) (.string ⟨#[]⟩) (.int .i64 0))
 clear hx2
 (try simp only [cellsN])
 go_wp2_with fail
 obtain ⟨z0, z1, z2, z3, z4, z5, z6, z7⟩ := (HBX.out.to_8 (.int .i64 k) (.int .i32 m) (.string tx) (.string nm) (.string ty) (.slice A l.length cap) (.string ⟨#[]⟩) (.int .i64 0)).all_8
 (try simp only [Exit.inBlock, Exit.then])
 refine bodyPost_ret (v := .agg #[.int .i64 k, .int .i32 m, .string tx, .string nm, .string ty, .slice A l.length cap, .string ⟨#[]⟩, .int .i64 0]) (by simp [results, Tryz.results149, go_sem, z0, z1, z2, z3, z4, z5, z6, z7]) rfl ?_
 exact ⟨_, rfl, (HK.out.grown HG.out (.inl (by omega))).mono (by omega), Mv.over (Below.refl _ _) HM.out HG.out (Nat.le_refl _) hlt⟩
theorem fixed_0 (n : Nat) (W0 w : World) (c : Nat) (s : RS) (hv : Vars W0) (h : Rd W0 c s w) (hn : enough (n + 1) .fixed s) (h0 : s.sees 0 sTrue = true) : Calls Tryz.prog 150 #[.pointer (some ⟨c, 0, none⟩)] w (ExC W0 c w (run (n + 1) .fixed s)) := by
 have hR : run (n + 1) .fixed s = ([mkE 2 1 E0 E0 E0 []], s.skip) := by simp only [run, h0]; simp
 have hlt := h.lt
 have hle0 := h.le
 obtain ⟨W1, hW1⟩ : ∃ W1, w.alloc (.cells #[.int .i64 0, .int .i32 0, .string ⟨#[]⟩, .string ⟨#[]⟩, .string ⟨#[]⟩, .slice none 0 0, .string ⟨#[]⟩, .int .i64 0] 26) = W1 := ⟨_, rfl⟩
 have hb : Below w.heap.size w W1 := by rw [← hW1]; exact (Below.refl _ w).alloc (Nat.le_refl _) _
 have hx : Bx W1 w.heap.size #[.int .i64 0, .int .i32 0, .string ⟨#[]⟩, .string ⟨#[]⟩, .string ⟨#[]⟩, .slice none 0 0, .string ⟨#[]⟩, .int .i64 0] 26 := by rw [← hW1]; exact Bx.new _ _ _
 have hz : W1.heap.size = w.heap.size + 1 := by rw [← hW1]; simp
 have HM0 := Lib.hid (Mv.below hb h)
 have HX0 := Lib.hid hx
 clear hb hx
 have T0 := Lib.hid (take_true W0 W1 c s sTrue HM0.out.2 h0)
 rw [hR]
 clear hR hn h hv h0
 go_enter Tryz.func150, Tryz.ntmps150
 go_wp2_with fail
 refine T0.out.mono ?_
 clear T0 hW1
 rintro e w2 ⟨rfl, hm⟩
 have HM := Lib.hid (HM0.out.trans hm)
 have HBX := Lib.hid (Bx.grown HX0.out hm.1 (by omega))
 clear hm
 have HK := Lib.hid ((OwnE.nil (w.heap.size + 1) w2).node 2 1 ⟨#[]⟩ ⟨#[]⟩ ⟨#[]⟩ ⟨Nat.zero_le _, Nat.zero_le _, Nat.zero_le _⟩ (mk_bare (xs := []) rfl _ _ _ _ _))
 have hx2 := HBX.out
 obtain ⟨r0, r1, r2, r3, r4, r5, r6, r7⟩ := hx2.all_8
 have g0 := hx2.fro 0; have g1 := hx2.fro 1; have g2 := hx2.fro 2; have g3 := hx2.fro 3; have g4 := hx2.fro 4; have g5 := hx2.fro 5; have g6 := hx2.fro 6; have g7 := hx2.fro 7
 have HG := Lib.hid (grown_8 w2 w.heap.size (.int .i64 2) (.int .i32 1) (.string ⟨#[]⟩) (.string ⟨#[]⟩) (.string ⟨#[]⟩) (.slice none 0 0) (.string ⟨#[]⟩) (.int .i64 0))
 clear hx2
 (try simp only [cellsN])
 go_wp2_with fail
 obtain ⟨z0, z1, z2, z3, z4, z5, z6, z7⟩ := (HBX.out.to_8 (.int .i64 2) (.int .i32 1) (.string ⟨#[]⟩) (.string ⟨#[]⟩) (.string ⟨#[]⟩) (.slice none 0 0) (.string ⟨#[]⟩) (.int .i64 0)).all_8
 (try simp only [Exit.inBlock, Exit.then])
 refine bodyPost_ret (v := .agg #[.int .i64 2, .int .i32 1, .string ⟨#[]⟩, .string ⟨#[]⟩, .string ⟨#[]⟩, .slice none 0 0, .string ⟨#[]⟩, .int .i64 0]) (by simp [results, Tryz.results150, go_sem, z0, z1, z2, z3, z4, z5, z6, z7]) rfl ?_
 exact ⟨.ex 2 1 ⟨#[]⟩ ⟨#[]⟩ ⟨#[]⟩ (.slice none 0 0) [] ⟨#[]⟩ 0, rfl, (HK.out.grown HG.out (.inl (by omega))).mono (by omega), Mv.over (Below.refl _ _) HM.out HG.out (Nat.le_refl _) hlt⟩
theorem fixed_1 (n : Nat) (W0 w : World) (c : Nat) (s : RS) (hv : Vars W0) (h : Rd W0 c s w) (hn : enough (n + 1) .fixed s) (h0 : s.sees 0 sTrue = false) (h1 : s.sees 0 sFalse = true) : Calls Tryz.prog 150 #[.pointer (some ⟨c, 0, none⟩)] w (ExC W0 c w (run (n + 1) .fixed s)) := by
 have hR : run (n + 1) .fixed s = ([mkE 2 0 E0 E0 E0 []], s.skip) := by simp only [run, h0, h1]; simp
 have hlt := h.lt
 have hle0 := h.le
 obtain ⟨W1, hW1⟩ : ∃ W1, w.alloc (.cells #[.int .i64 0, .int .i32 0, .string ⟨#[]⟩, .string ⟨#[]⟩, .string ⟨#[]⟩, .slice none 0 0, .string ⟨#[]⟩, .int .i64 0] 26) = W1 := ⟨_, rfl⟩
 have hb : Below w.heap.size w W1 := by rw [← hW1]; exact (Below.refl _ w).alloc (Nat.le_refl _) _
 have hx : Bx W1 w.heap.size #[.int .i64 0, .int .i32 0, .string ⟨#[]⟩, .string ⟨#[]⟩, .string ⟨#[]⟩, .slice none 0 0, .string ⟨#[]⟩, .int .i64 0] 26 := by rw [← hW1]; exact Bx.new _ _ _
 have hz : W1.heap.size = w.heap.size + 1 := by rw [← hW1]; simp
 have HM0 := Lib.hid (Mv.below hb h)
 have HX0 := Lib.hid hx
 clear hb hx
 have T0 := Lib.hid (take_false W0 W1 c s sTrue HM0.out.2 h0)
 have T1 := Lib.hid (take_true W0 W1 c s sFalse HM0.out.2 h1)
 rw [hR]
 clear hR hn h hv h0 h1
 go_enter Tryz.func150, Tryz.ntmps150
 go_wp2_with fail
 refine T0.out.mono ?_
 clear T0
 rintro e w0 ⟨rfl, rfl⟩
 go_wp2_with fail
 refine T1.out.mono ?_
 clear T1 hW1
 rintro e w2 ⟨rfl, hm⟩
 have HM := Lib.hid (HM0.out.trans hm)
 have HBX := Lib.hid (Bx.grown HX0.out hm.1 (by omega))
 clear hm
 have HK := Lib.hid ((OwnE.nil (w.heap.size + 1) w2).node 2 0 ⟨#[]⟩ ⟨#[]⟩ ⟨#[]⟩ ⟨Nat.zero_le _, Nat.zero_le _, Nat.zero_le _⟩ (mk_bare (xs := []) rfl _ _ _ _ _))
 have hx2 := HBX.out
 obtain ⟨r0, r1, r2, r3, r4, r5, r6, r7⟩ := hx2.all_8
 have g0 := hx2.fro 0; have g1 := hx2.fro 1; have g2 := hx2.fro 2; have g3 := hx2.fro 3; have g4 := hx2.fro 4; have g5 := hx2.fro 5; have g6 := hx2.fro 6; have g7 := hx2.fro 7
 have HG := Lib.hid (grown_8 w2 w.heap.size (.int .i64 2) (.int .i32 0) (.string ⟨#[]⟩) (.string ⟨#[]⟩) (.string ⟨#[]⟩) (.slice none 0 0) (.string ⟨#[]⟩) (.int .i64 0))
 clear hx2
 (try simp only [cellsN])
 go_wp2_with fail
 obtain ⟨z0, z1, z2, z3, z4, z5, z6, z7⟩ := (HBX.out.to_8 (.int .i64 2) (.int .i32 0) (.string ⟨#[]⟩) (.string ⟨#[]⟩) (.string ⟨#[]⟩) (.slice none 0 0) (.string ⟨#[]⟩) (.int .i64 0)).all_8
 (try simp only [Exit.inBlock, Exit.then])
 refine bodyPost_ret (v := .agg #[.int .i64 2, .int .i32 0, .string ⟨#[]⟩, .string ⟨#[]⟩, .string ⟨#[]⟩, .slice none 0 0, .string ⟨#[]⟩, .int .i64 0]) (by simp [results, Tryz.results150, go_sem, z0, z1, z2, z3, z4, z5, z6, z7]) rfl ?_
 exact ⟨.ex 2 0 ⟨#[]⟩ ⟨#[]⟩ ⟨#[]⟩ (.slice none 0 0) [] ⟨#[]⟩ 0, rfl, (HK.out.grown HG.out (.inl (by omega))).mono (by omega), Mv.over (Below.refl _ _) HM.out HG.out (Nat.le_refl _) hlt⟩
theorem fixed_2 (n : Nat) (W0 w : World) (c : Nat) (s : RS) (hv : Vars W0) (h : Rd W0 c s w) (hn : enough (n + 1) .fixed s) (h0 : s.sees 0 sTrue = false) (h1 : s.sees 0 sFalse = false) (h2 : s.sees 0 sNull = true) : Calls Tryz.prog 150 #[.pointer (some ⟨c, 0, none⟩)] w (ExC W0 c w (run (n + 1) .fixed s)) := by
 have hR : run (n + 1) .fixed s = ([mkE 4 0 E0 E0 E0 []], s.skip) := by simp only [run, h0, h1, h2]; simp
 have hlt := h.lt
 have hle0 := h.le
 obtain ⟨W1, hW1⟩ : ∃ W1, w.alloc (.cells #[.int .i64 0, .int .i32 0, .string ⟨#[]⟩, .string ⟨#[]⟩, .string ⟨#[]⟩, .slice none 0 0, .string ⟨#[]⟩, .int .i64 0] 26) = W1 := ⟨_, rfl⟩
 have hb : Below w.heap.size w W1 := by rw [← hW1]; exact (Below.refl _ w).alloc (Nat.le_refl _) _
 have hx : Bx W1 w.heap.size #[.int .i64 0, .int .i32 0, .string ⟨#[]⟩, .string ⟨#[]⟩, .string ⟨#[]⟩, .slice none 0 0, .string ⟨#[]⟩, .int .i64 0] 26 := by rw [← hW1]; exact Bx.new _ _ _
 have hz : W1.heap.size = w.heap.size + 1 := by rw [← hW1]; simp
 have HM0 := Lib.hid (Mv.below hb h)
 have HX0 := Lib.hid hx
 clear hb hx
 have T0 := Lib.hid (take_false W0 W1 c s sTrue HM0.out.2 h0)
 have T1 := Lib.hid (take_false W0 W1 c s sFalse HM0.out.2 h1)
 have T2 := Lib.hid (take_true W0 W1 c s sNull HM0.out.2 h2)
 rw [hR]
 clear hR hn h hv h0 h1 h2
 go_enter Tryz.func150, Tryz.ntmps150
 go_wp2_with fail
 refine T0.out.mono ?_
 clear T0
 rintro e w0 ⟨rfl, rfl⟩
 go_wp2_with fail
 refine T1.out.mono ?_
 clear T1
 rintro e w0 ⟨rfl, rfl⟩
 go_wp2_with fail
 refine T2.out.mono ?_
 clear T2 hW1
 rintro e w2 ⟨rfl, hm⟩
 have HM := Lib.hid (HM0.out.trans hm)
 have HBX := Lib.hid (Bx.grown HX0.out hm.1 (by omega))
 clear hm
 have HK := Lib.hid ((OwnE.nil (w.heap.size + 1) w2).node 4 0 ⟨#[]⟩ ⟨#[]⟩ ⟨#[]⟩ ⟨Nat.zero_le _, Nat.zero_le _, Nat.zero_le _⟩ (mk_bare (xs := []) rfl _ _ _ _ _))
 have hx2 := HBX.out
 obtain ⟨r0, r1, r2, r3, r4, r5, r6, r7⟩ := hx2.all_8
 have g0 := hx2.fro 0; have g1 := hx2.fro 1; have g2 := hx2.fro 2; have g3 := hx2.fro 3; have g4 := hx2.fro 4; have g5 := hx2.fro 5; have g6 := hx2.fro 6; have g7 := hx2.fro 7
 have HG := Lib.hid (grown_8 w2 w.heap.size (.int .i64 4) (.int .i32 0) (.string ⟨#[]⟩) (.string ⟨#[]⟩) (.string ⟨#[]⟩) (.slice none 0 0) (.string ⟨#[]⟩) (.int .i64 0))
 clear hx2
 (try simp only [cellsN])
 go_wp2_with fail
 obtain ⟨z0, z1, z2, z3, z4, z5, z6, z7⟩ := (HBX.out.to_8 (.int .i64 4) (.int .i32 0) (.string ⟨#[]⟩) (.string ⟨#[]⟩) (.string ⟨#[]⟩) (.slice none 0 0) (.string ⟨#[]⟩) (.int .i64 0)).all_8
 (try simp only [Exit.inBlock, Exit.then])
 refine bodyPost_ret (v := .agg #[.int .i64 4, .int .i32 0, .string ⟨#[]⟩, .string ⟨#[]⟩, .string ⟨#[]⟩, .slice none 0 0, .string ⟨#[]⟩, .int .i64 0]) (by simp [results, Tryz.results150, go_sem, z0, z1, z2, z3, z4, z5, z6, z7]) rfl ?_
 exact ⟨.ex 4 0 ⟨#[]⟩ ⟨#[]⟩ ⟨#[]⟩ (.slice none 0 0) [] ⟨#[]⟩ 0, rfl, (HK.out.grown HG.out (.inl (by omega))).mono (by omega), Mv.over (Below.refl _ _) HM.out HG.out (Nat.le_refl _) hlt⟩
theorem fixed_3 (n : Nat) (W0 w : World) (c : Nat) (s : RS) (hv : Vars W0) (h : Rd W0 c s w) (hn : enough (n + 1) .fixed s) (h0 : s.sees 0 sTrue = false) (h1 : s.sees 0 sFalse = false) (h2 : s.sees 0 sNull = false) (h3 : s.sees 0 sThis = true) : Calls Tryz.prog 150 #[.pointer (some ⟨c, 0, none⟩)] w (ExC W0 c w (run (n + 1) .fixed s)) := by
 have hR : run (n + 1) .fixed s = ([mkE 5 0 E0 E0 E0 []], s.skip) := by simp only [run, h0, h1, h2, h3]; simp
 have hlt := h.lt
 have hle0 := h.le
 obtain ⟨W1, hW1⟩ : ∃ W1, w.alloc (.cells #[.int .i64 0, .int .i32 0, .string ⟨#[]⟩, .string ⟨#[]⟩, .string ⟨#[]⟩, .slice none 0 0, .string ⟨#[]⟩, .int .i64 0] 26) = W1 := ⟨_, rfl⟩
 have hb : Below w.heap.size w W1 := by rw [← hW1]; exact (Below.refl _ w).alloc (Nat.le_refl _) _
 have hx : Bx W1 w.heap.size #[.int .i64 0, .int .i32 0, .string ⟨#[]⟩, .string ⟨#[]⟩, .string ⟨#[]⟩, .slice none 0 0, .string ⟨#[]⟩, .int .i64 0] 26 := by rw [← hW1]; exact Bx.new _ _ _
 have hz : W1.heap.size = w.heap.size + 1 := by rw [← hW1]; simp
 have HM0 := Lib.hid (Mv.below hb h)
 have HX0 := Lib.hid hx
 clear hb hx
 have T0 := Lib.hid (take_false W0 W1 c s sTrue HM0.out.2 h0)
 have T1 := Lib.hid (take_false W0 W1 c s sFalse HM0.out.2 h1)
 have T2 := Lib.hid (take_false W0 W1 c s sNull HM0.out.2 h2)
 have T3 := Lib.hid (take_true W0 W1 c s sThis HM0.out.2 h3)
 rw [hR]
 clear hR hn h hv h0 h1 h2 h3
 go_enter Tryz.func150, Tryz.ntmps150
 go_wp2_with fail
 refine T0.out.mono ?_
 clear T0
 rintro e w0 ⟨rfl, rfl⟩
 go_wp2_with fail
 refine T1.out.mono ?_
 clear T1
 rintro e w0 ⟨rfl, rfl⟩
 go_wp2_with fail
 refine T2.out.mono ?_
 clear T2
 rintro e w0 ⟨rfl, rfl⟩
 go_wp2_with fail
 refine T3.out.mono ?_
 clear T3 hW1
 rintro e w2 ⟨rfl, hm⟩
 have HM := Lib.hid (HM0.out.trans hm)
 have HBX := Lib.hid (Bx.grown HX0.out hm.1 (by omega))
 clear hm
 have HK := Lib.hid ((OwnE.nil (w.heap.size + 1) w2).node 5 0 ⟨#[]⟩ ⟨#[]⟩ ⟨#[]⟩ ⟨Nat.zero_le _, Nat.zero_le _, Nat.zero_le _⟩ (mk_bare (xs := []) rfl _ _ _ _ _))
 have hx2 := HBX.out
 obtain ⟨r0, r1, r2, r3, r4, r5, r6, r7⟩ := hx2.all_8
 have g0 := hx2.fro 0; have g1 := hx2.fro 1; have g2 := hx2.fro 2; have g3 := hx2.fro 3; have g4 := hx2.fro 4; have g5 := hx2.fro 5; have g6 := hx2.fro 6; have g7 := hx2.fro 7
 have HG := Lib.hid (grown_8 w2 w.heap.size (.int .i64 5) (.int .i32 0) (.string ⟨#[]⟩) (.string ⟨#[]⟩) (.string ⟨#[]⟩) (.slice none 0 0) (.string ⟨#[]⟩) (.int .i64 0))
 clear hx2
 (try simp only [cellsN])
 go_wp2_with fail
 obtain ⟨z0, z1, z2, z3, z4, z5, z6, z7⟩ := (HBX.out.to_8 (.int .i64 5) (.int .i32 0) (.string ⟨#[]⟩) (.string ⟨#[]⟩) (.string ⟨#[]⟩) (.slice none 0 0) (.string ⟨#[]⟩) (.int .i64 0)).all_8
 (try simp only [Exit.inBlock, Exit.then])
 refine bodyPost_ret (v := .agg #[.int .i64 5, .int .i32 0, .string ⟨#[]⟩, .string ⟨#[]⟩, .string ⟨#[]⟩, .slice none 0 0, .string ⟨#[]⟩, .int .i64 0]) (by simp [results, Tryz.results150, go_sem, z0, z1, z2, z3, z4, z5, z6, z7]) rfl ?_
 exact ⟨.ex 5 0 ⟨#[]⟩ ⟨#[]⟩ ⟨#[]⟩ (.slice none 0 0) [] ⟨#[]⟩ 0, rfl, (HK.out.grown HG.out (.inl (by omega))).mono (by omega), Mv.over (Below.refl _ _) HM.out HG.out (Nat.le_refl _) hlt⟩
theorem fixed_4 (n : Nat) (IH : SpecU n) (W0 w : World) (c : Nat) (s : RS) (hv : Vars W0) (h : Rd W0 c s w) (hn : enough (n + 1) .fixed s) (h0 : s.sees 0 sTrue = false) (h1 : s.sees 0 sFalse = false) (h2 : s.sees 0 sNull = false) (h3 : s.sees 0 sThis = false) (h4 : s.sees 0 sSuper = true) : Calls Tryz.prog 150 #[.pointer (some ⟨c, 0, none⟩)] w (ExC W0 c w (run (n + 1) .fixed s)) := by
 obtain ⟨r, hr⟩ : ∃ r, run n (.used 8 12 E0 []) (s.skip.need sDot) = r := ⟨_, rfl⟩
 have hR : run (n + 1) .fixed s = r := by simp only [run, h0, h1, h2, h3, h4, hr]; simp
 have hle := sees_len h4
 have hen : enough n (.used 8 12 E0 []) (s.skip.need sDot) := by have h7 := len_skip s; have h8 := len_need s.skip sDot; simp only [enough, Md.rank] at hn ⊢; omega
 have hlt := h.lt
 have hle0 := h.le
 obtain ⟨W1, hW1⟩ : ∃ W1, w.alloc (.cells #[.int .i64 0, .int .i32 0, .string ⟨#[]⟩, .string ⟨#[]⟩, .string ⟨#[]⟩, .slice none 0 0, .string ⟨#[]⟩, .int .i64 0] 26) = W1 := ⟨_, rfl⟩
 have hb : Below w.heap.size w W1 := by rw [← hW1]; exact (Below.refl _ w).alloc (Nat.le_refl _) _
 have hx : Bx W1 w.heap.size #[.int .i64 0, .int .i32 0, .string ⟨#[]⟩, .string ⟨#[]⟩, .string ⟨#[]⟩, .slice none 0 0, .string ⟨#[]⟩, .int .i64 0] 26 := by rw [← hW1]; exact Bx.new _ _ _
 have hz : W1.heap.size = w.heap.size + 1 := by rw [← hW1]; simp
 have HM0 := Lib.hid (Mv.below hb h)
 have HX0 := Lib.hid hx
 clear hb hx
 have T0 := Lib.hid (take_false W0 W1 c s sTrue HM0.out.2 h0)
 have T1 := Lib.hid (take_false W0 W1 c s sFalse HM0.out.2 h1)
 have T2 := Lib.hid (take_false W0 W1 c s sNull HM0.out.2 h2)
 have T3 := Lib.hid (take_false W0 W1 c s sThis HM0.out.2 h3)
 have T4 := Lib.hid (take_true W0 W1 c s sSuper HM0.out.2 h4)
 have HN : Hid (∀ w', Rd W0 c s.skip w' → Calls Tryz.prog 56 #[.pointer (some ⟨c, 0, none⟩), .string sDot] w' fun e w'' => e = .returned (.tuple #[]) ∧ Mv W0 c (s.skip.need sDot) w' w'') := by
   show ∀ w', _
   intro w' h'; exact need_any W0 w' c _ sDot h'
 have HU : Hid (∀ w', Rd W0 c (s.skip.need sDot) w' → w.heap.size < w'.heap.size → Calls Tryz.prog 119 #[.pointer (some ⟨c, 0, none⟩), .agg #[.int .i64 0, .int .i32 0, .string ⟨#[]⟩, .string ⟨#[]⟩, .string ⟨#[]⟩, .slice none 0 0, .string ⟨#[]⟩, .int .i64 0], .int .i64 8, .int .i64 12] w' (UsC W0 (w.heap.size + 1) none c w' r)) := by
   show ∀ w', _
   intro w' h' hs'
   have := IH W0 w' (w.heap.size + 1) none c _ 8 12 E0 (.slice none 0 0) [] [] hv h' hen (OwnR.nil _ _ _) rfl (by omega) hs' ⟨none, rfl⟩ (Nat.zero_le _) (Nat.zero_le _) (by simp)
   rw [hr] at this; exact this
 rw [hR]
 clear hR hn h hv h0 h1 h2 h3 h4 hr hen IH hle
 go_enter Tryz.func150, Tryz.ntmps150
 go_wp2_with fail
 refine T0.out.mono ?_
 clear T0
 rintro e w0 ⟨rfl, rfl⟩
 go_wp2_with fail
 refine T1.out.mono ?_
 clear T1
 rintro e w0 ⟨rfl, rfl⟩
 go_wp2_with fail
 refine T2.out.mono ?_
 clear T2
 rintro e w0 ⟨rfl, rfl⟩
 go_wp2_with fail
 refine T3.out.mono ?_
 clear T3
 rintro e w0 ⟨rfl, rfl⟩
 go_wp2_with fail
 refine T4.out.mono ?_
 clear T4 hW1
 rintro e w2 ⟨rfl, hm⟩
 have HM1 := Lib.hid (HM0.out.trans hm)
 have HB1 := Lib.hid (Bx.grown HX0.out hm.1 (by omega))
 have hs2 := hm.1.size
 clear hm
 go_wp2_with fail
 refine (HN.out _ HM1.out.2).mono ?_
 clear HN
 rintro e w3 ⟨rfl, hm⟩
 have HM2 := Lib.hid (HM1.out.trans hm)
 have HB2 := Lib.hid (Bx.grown HB1.out hm.1 (by omega))
 have hs3 := hm.1.size
 clear hm
 go_wp2_with fail
 refine (HU.out _ HM2.out.2 (by omega)).mono ?_
 clear HU
 rintro e w4 ⟨y, rfl, hk, hm⟩
 have HK := Lib.hid hk
 obtain ⟨k, m, tx, nm, ty, A, cap, l, rfl, _, _, _⟩ := hk
 have HM := Lib.hid (HM2.out.trans hm)
 have HBX := Lib.hid (Bx.grown HB2.out hm.1 (by omega))
 clear hm
 have hx2 := HBX.out
 obtain ⟨r0, r1, r2, r3, r4, r5, r6, r7⟩ := hx2.all_8
 have g0 := hx2.fro 0; have g1 := hx2.fro 1; have g2 := hx2.fro 2; have g3 := hx2.fro 3; have g4 := hx2.fro 4; have g5 := hx2.fro 5; have g6 := hx2.fro 6; have g7 := hx2.fro 7
 have HG := Lib.hid (grown_8 w4 w.heap.size (.int .i64 k) (.int .i32 m) (.string tx) (.string nm) (.string ty) (.slice A l.length cap) (.string ⟨#[]⟩) (.int .i64 0))
 clear hx2
 (try simp only [cellsN])
 go_wp2_with fail
 obtain ⟨z0, z1, z2, z3, z4, z5, z6, z7⟩ := (HBX.out.to_8 (.int .i64 k) (.int .i32 m) (.string tx) (.string nm) (.string ty) (.slice A l.length cap) (.string ⟨#[]⟩) (.int .i64 0)).all_8
 (try simp only [Exit.inBlock, Exit.then])
 refine bodyPost_ret (v := .agg #[.int .i64 k, .int .i32 m, .string tx, .string nm, .string ty, .slice A l.length cap, .string ⟨#[]⟩, .int .i64 0]) (by simp [results, Tryz.results150, go_sem, z0, z1, z2, z3, z4, z5, z6, z7]) rfl ?_
 exact ⟨_, rfl, (HK.out.grown HG.out (.inl (by omega))).mono (by omega), Mv.over (Below.refl _ _) HM.out HG.out (Nat.le_refl _) hlt⟩
theorem fixed_5 (n : Nat) (IH : SpecR n) (W0 w : World) (c : Nat) (s : RS) (hv : Vars W0) (h : Rd W0 c s w) (hn : enough (n + 1) .fixed s) (h0 : s.sees 0 sTrue = false) (h1 : s.sees 0 sFalse = false) (h2 : s.sees 0 sNull = false) (h3 : s.sees 0 sThis = false) (h4 : s.sees 0 sSuper = false) (h5 : s.sees 0 sNew = true) : Calls Tryz.prog 150 #[.pointer (some ⟨c, 0, none⟩)] w (ExC W0 c w (run (n + 1) .fixed s)) := by
 obtain ⟨r, hr⟩ : ∃ r, run n .args s.skip.class = r := ⟨_, rfl⟩
 have hR : run (n + 1) .fixed s = ([mkE 14 0 E0 E0 s.skip.classV r.1], r.2) := by simp only [run, h0, h1, h2, h3, h4, h5, hr]; simp
 have hle := sees_len h5
 have hen : enough n .args s.skip.class := by have h7 := len_skip s; have h8 := len_class s.skip; simp only [enough, Md.rank] at hn ⊢; omega
 have hcl := class_len s.skip
 have hlt := h.lt
 have hle0 := h.le
 obtain ⟨W1, hW1⟩ : ∃ W1, w.alloc (.cells #[.int .i64 0, .int .i32 0, .string ⟨#[]⟩, .string ⟨#[]⟩, .string ⟨#[]⟩, .slice none 0 0, .string ⟨#[]⟩, .int .i64 0] 26) = W1 := ⟨_, rfl⟩
 have hb : Below w.heap.size w W1 := by rw [← hW1]; exact (Below.refl _ w).alloc (Nat.le_refl _) _
 have hx : Bx W1 w.heap.size #[.int .i64 0, .int .i32 0, .string ⟨#[]⟩, .string ⟨#[]⟩, .string ⟨#[]⟩, .slice none 0 0, .string ⟨#[]⟩, .int .i64 0] 26 := by rw [← hW1]; exact Bx.new _ _ _
 have hz : W1.heap.size = w.heap.size + 1 := by rw [← hW1]; simp
 have HM0 := Lib.hid (Mv.below hb h)
 have HX0 := Lib.hid hx
 clear hb hx
 have T0 := Lib.hid (take_false W0 W1 c s sTrue HM0.out.2 h0)
 have T1 := Lib.hid (take_false W0 W1 c s sFalse HM0.out.2 h1)
 have T2 := Lib.hid (take_false W0 W1 c s sNull HM0.out.2 h2)
 have T3 := Lib.hid (take_false W0 W1 c s sThis HM0.out.2 h3)
 have T4 := Lib.hid (take_false W0 W1 c s sSuper HM0.out.2 h4)
 have T5 := Lib.hid (take_true W0 W1 c s sNew HM0.out.2 h5)
 have HC : Hid (∀ w', Rd W0 c s.skip w' → Calls Tryz.prog 57 #[.pointer (some ⟨c, 0, none⟩)] w' fun e w'' => e = .returned (.string s.skip.classV) ∧ Mv W0 c s.skip.class w' w'') := by
   show ∀ w', _
   intro w' h'; exact classR_any W0 w' c _ h'
 have HA : Hid (∀ w', Rd W0 c s.skip.class w' → Calls Tryz.prog 151 #[.pointer (some ⟨c, 0, none⟩)] w' (LsC W0 c w' r)) := by
   show ∀ w', _
   intro w' h'; have := IH W0 w' c _ hv h' hen; rw [hr] at this; exact this
 rw [hR]
 obtain ⟨cl, hcle⟩ : ∃ cl, s.skip.classV = cl := ⟨_, rfl⟩
 rw [hcle] at hcl HC ⊢
 clear hcle
 clear hR hn h hv h0 h1 h2 h3 h4 h5 hr hen IH hle
 go_enter Tryz.func150, Tryz.ntmps150
 go_wp2_with fail
 refine T0.out.mono ?_
 clear T0
 rintro e w0 ⟨rfl, rfl⟩
 go_wp2_with fail
 refine T1.out.mono ?_
 clear T1
 rintro e w0 ⟨rfl, rfl⟩
 go_wp2_with fail
 refine T2.out.mono ?_
 clear T2
 rintro e w0 ⟨rfl, rfl⟩
 go_wp2_with fail
 refine T3.out.mono ?_
 clear T3
 rintro e w0 ⟨rfl, rfl⟩
 go_wp2_with fail
 refine T4.out.mono ?_
 clear T4
 rintro e w0 ⟨rfl, rfl⟩
 go_wp2_with fail
 refine T5.out.mono ?_
 clear T5 hW1
 rintro e w2 ⟨rfl, hm⟩
 have HM1 := Lib.hid (HM0.out.trans hm)
 have HB1 := Lib.hid (Bx.grown HX0.out hm.1 (by omega))
 have hs2 := hm.1.size
 clear hm
 go_wp2_with fail
 refine (HC.out _ HM1.out.2).mono ?_
 clear HC
 rintro e w3 ⟨rfl, hm⟩
 have HM2 := Lib.hid (HM1.out.trans hm)
 have HB2 := Lib.hid (Bx.grown HB1.out hm.1 (by omega))
 have hs3 := hm.1.size
 clear hm
 go_wp2_with fail
 refine (HA.out _ HM2.out.2).mono ?_
 clear HA
 rintro e w4 ⟨v, ys, rfl, ho, hbz, hm⟩
 obtain ⟨A, cap, rfl⟩ := ho.form
 have HM := Lib.hid (HM2.out.trans hm)
 have HBX := Lib.hid (Bx.grown HB2.out hm.1 (by omega))
 have HK := Lib.hid (ho.node 14 0 ⟨#[]⟩ ⟨#[]⟩ cl ⟨Nat.zero_le _, Nat.zero_le _, hcl⟩ (mk_bare hbz _ _ _ _ _))
 clear hm ho hbz
 have hx2 := HBX.out
 obtain ⟨r0, r1, r2, r3, r4, r5, r6, r7⟩ := hx2.all_8
 have g0 := hx2.fro 0; have g1 := hx2.fro 1; have g2 := hx2.fro 2; have g3 := hx2.fro 3; have g4 := hx2.fro 4; have g5 := hx2.fro 5; have g6 := hx2.fro 6; have g7 := hx2.fro 7
 have HG := Lib.hid (grown_8 w4 w.heap.size (.int .i64 14) (.int .i32 0) (.string ⟨#[]⟩) (.string ⟨#[]⟩) (.string cl) (.slice A ys.length cap) (.string ⟨#[]⟩) (.int .i64 0))
 clear hx2
 (try simp only [cellsN])
 go_wp2_with fail
 obtain ⟨z0, z1, z2, z3, z4, z5, z6, z7⟩ := (HBX.out.to_8 (.int .i64 14) (.int .i32 0) (.string ⟨#[]⟩) (.string ⟨#[]⟩) (.string cl) (.slice A ys.length cap) (.string ⟨#[]⟩) (.int .i64 0)).all_8
 (try simp only [Exit.inBlock, Exit.then])
 refine bodyPost_ret (v := .agg #[.int .i64 14, .int .i32 0, .string ⟨#[]⟩, .string ⟨#[]⟩, .string cl, .slice A ys.length cap, .string ⟨#[]⟩, .int .i64 0]) (by simp [results, Tryz.results150, go_sem, z0, z1, z2, z3, z4, z5, z6, z7]) rfl ?_
 exact ⟨.ex 14 0 ⟨#[]⟩ ⟨#[]⟩ cl (.slice A ys.length cap) ys ⟨#[]⟩ 0, rfl, (HK.out.grown HG.out (.inl (by omega))).mono (by omega), Mv.over (Below.refl _ _) HM.out HG.out (Nat.le_refl _) hlt⟩
theorem fixed_6 (n : Nat) (IH : SpecE n) (W0 w : World) (c : Nat) (s : RS) (hv : Vars W0) (h : Rd W0 c s w) (hn : enough (n + 1) .fixed s) (h0 : s.sees 0 sTrue = false) (h1 : s.sees 0 sFalse = false) (h2 : s.sees 0 sNull = false) (h3 : s.sees 0 sThis = false) (h4 : s.sees 0 sSuper = false) (h5 : s.sees 0 sNew = false) (h6 : s.sees 0 sOpen = true) : Calls Tryz.prog 150 #[.pointer (some ⟨c, 0, none⟩)] w (ExC W0 c w (run (n + 1) .fixed s)) := by
 have hR : run (n + 1) .fixed s = ([hdE (run n .expr (s.enter sOpen)).1], (run n .expr (s.enter sOpen)).2.leave sShut) := by simp only [run, h0, h1, h2, h3, h4, h5, h6]; simp
 have hle := sees_len h6
 have hen : enough n .expr (s.enter sOpen) := by have h7 := len_enter s sOpen; simp only [enough, Md.rank] at hn ⊢; omega
 have hlt := h.lt
 have hle0 := h.le
 obtain ⟨W1, hW1⟩ : ∃ W1, w.alloc (.cells #[.int .i64 0, .int .i32 0, .string ⟨#[]⟩, .string ⟨#[]⟩, .string ⟨#[]⟩, .slice none 0 0, .string ⟨#[]⟩, .int .i64 0] 26) = W1 := ⟨_, rfl⟩
 have hb : Below w.heap.size w W1 := by rw [← hW1]; exact (Below.refl _ w).alloc (Nat.le_refl _) _
 have hx : Bx W1 w.heap.size #[.int .i64 0, .int .i32 0, .string ⟨#[]⟩, .string ⟨#[]⟩, .string ⟨#[]⟩, .slice none 0 0, .string ⟨#[]⟩, .int .i64 0] 26 := by rw [← hW1]; exact Bx.new _ _ _
 have hz : W1.heap.size = w.heap.size + 1 := by rw [← hW1]; simp
 have HM0 := Lib.hid (Mv.below hb h)
 have HX0 := Lib.hid hx
 clear hb hx
 have T0 := Lib.hid (take_false W0 W1 c s sTrue HM0.out.2 h0)
 have T1 := Lib.hid (take_false W0 W1 c s sFalse HM0.out.2 h1)
 have T2 := Lib.hid (take_false W0 W1 c s sNull HM0.out.2 h2)
 have T3 := Lib.hid (take_false W0 W1 c s sThis HM0.out.2 h3)
 have T4 := Lib.hid (take_false W0 W1 c s sSuper HM0.out.2 h4)
 have T5 := Lib.hid (take_false W0 W1 c s sNew HM0.out.2 h5)
 have T6 := Lib.hid (sees_any W0 W1 c s sOpen HM0.out.2)
 rw [h6] at T6
 have HB := Lib.hid (brackets_of n IH W0 W1 c s hv HM0.out.2 hen)
 rw [hR]
 obtain ⟨r, hr⟩ : ∃ r, ([hdE (run n .expr (s.enter sOpen)).1], (run n .expr (s.enter sOpen)).2.leave sShut) = r := ⟨_, rfl⟩
 rw [hr] at HB ⊢
 clear hr
 clear hR hn h hv h0 h1 h2 h3 h4 h5 h6 hen IH hle
 go_enter Tryz.func150, Tryz.ntmps150
 go_wp2_with fail
 refine T0.out.mono ?_
 clear T0
 rintro e w0 ⟨rfl, rfl⟩
 go_wp2_with fail
 refine T1.out.mono ?_
 clear T1
 rintro e w0 ⟨rfl, rfl⟩
 go_wp2_with fail
 refine T2.out.mono ?_
 clear T2
 rintro e w0 ⟨rfl, rfl⟩
 go_wp2_with fail
 refine T3.out.mono ?_
 clear T3
 rintro e w0 ⟨rfl, rfl⟩
 go_wp2_with fail
 refine T4.out.mono ?_
 clear T4
 rintro e w0 ⟨rfl, rfl⟩
 go_wp2_with fail
 refine T5.out.mono ?_
 clear T5
 rintro e w0 ⟨rfl, rfl⟩
 go_wp2_with fail
 refine T6.out.mono ?_
 clear T6
 rintro e w0 ⟨rfl, rfl⟩
 go_wp2_with fail
 refine HB.out.mono ?_
 clear HB hW1
 rintro e w2 ⟨y, rfl, hk, hm⟩
 have HK := Lib.hid hk
 obtain ⟨k, m, tx, nm, ty, A, cap, l, rfl, _, _, _⟩ := hk
 have HM := Lib.hid (HM0.out.trans hm)
 have HBX := Lib.hid (Bx.grown HX0.out hm.1 (by omega))
 clear hm
 have hx2 := HBX.out
 obtain ⟨r0, r1, r2, r3, r4, r5, r6, r7⟩ := hx2.all_8
 have g0 := hx2.fro 0; have g1 := hx2.fro 1; have g2 := hx2.fro 2; have g3 := hx2.fro 3; have g4 := hx2.fro 4; have g5 := hx2.fro 5; have g6 := hx2.fro 6; have g7 := hx2.fro 7
 have HG := Lib.hid (grown_8 w2 w.heap.size (.int .i64 k) (.int .i32 m) (.string tx) (.string nm) (.string ty) (.slice A l.length cap) (.string ⟨#[]⟩) (.int .i64 0))
 clear hx2
 (try simp only [cellsN])
 go_wp2_with fail
 obtain ⟨z0, z1, z2, z3, z4, z5, z6, z7⟩ := (HBX.out.to_8 (.int .i64 k) (.int .i32 m) (.string tx) (.string nm) (.string ty) (.slice A l.length cap) (.string ⟨#[]⟩) (.int .i64 0)).all_8
 (try simp only [Exit.inBlock, Exit.then])
 refine bodyPost_ret (v := .agg #[.int .i64 k, .int .i32 m, .string tx, .string nm, .string ty, .slice A l.length cap, .string ⟨#[]⟩, .int .i64 0]) (by simp [results, Tryz.results150, go_sem, z0, z1, z2, z3, z4, z5, z6, z7]) rfl ?_
 exact ⟨_, rfl, (HK.out.grown HG.out (.inl (by omega))).mono (by omega), Mv.over (Below.refl _ _) HM.out HG.out (Nat.le_refl _) hlt⟩
theorem fixed_7 (n : Nat) (W0 w : World) (c : Nat) (s : RS) (hv : Vars W0) (h : Rd W0 c s w) (hn : enough (n + 1) .fixed s) (h0 : s.sees 0 sTrue = false) (h1 : s.sees 0 sFalse = false) (h2 : s.sees 0 sNull = false) (h3 : s.sees 0 sThis = false) (h4 : s.sees 0 sSuper = false) (h5 : s.sees 0 sNew = false) (h6 : s.sees 0 sOpen = false) : Calls Tryz.prog 150 #[.pointer (some ⟨c, 0, none⟩)] w (ExC W0 c w (run (n + 1) .fixed s)) := by
 have hR : run (n + 1) .fixed s = ([noE], s.fail 3) := by simp only [run, h0, h1, h2, h3, h4, h5, h6]; simp
 have hlt := h.lt
 have hle0 := h.le
 obtain ⟨W1, hW1⟩ : ∃ W1, w.alloc (.cells #[.int .i64 0, .int .i32 0, .string ⟨#[]⟩, .string ⟨#[]⟩, .string ⟨#[]⟩, .slice none 0 0, .string ⟨#[]⟩, .int .i64 0] 26) = W1 := ⟨_, rfl⟩
 have hb : Below w.heap.size w W1 := by rw [← hW1]; exact (Below.refl _ w).alloc (Nat.le_refl _) _
 have hx : Bx W1 w.heap.size #[.int .i64 0, .int .i32 0, .string ⟨#[]⟩, .string ⟨#[]⟩, .string ⟨#[]⟩, .slice none 0 0, .string ⟨#[]⟩, .int .i64 0] 26 := by rw [← hW1]; exact Bx.new _ _ _
 have hz : W1.heap.size = w.heap.size + 1 := by rw [← hW1]; simp
 have HM0 := Lib.hid (Mv.below hb h)
 have HX0 := Lib.hid hx
 clear hb hx
 have T0 := Lib.hid (take_false W0 W1 c s sTrue HM0.out.2 h0)
 have T1 := Lib.hid (take_false W0 W1 c s sFalse HM0.out.2 h1)
 have T2 := Lib.hid (take_false W0 W1 c s sNull HM0.out.2 h2)
 have T3 := Lib.hid (take_false W0 W1 c s sThis HM0.out.2 h3)
 have T4 := Lib.hid (take_false W0 W1 c s sSuper HM0.out.2 h4)
 have T5 := Lib.hid (take_false W0 W1 c s sNew HM0.out.2 h5)
 have T6 := Lib.hid (sees_any W0 W1 c s sOpen HM0.out.2)
 rw [h6] at T6
 have HF := Lib.hid (fail_any W0 W1 c s 3 HM0.out.2)
 rw [hR]
 clear hR hn h hv h0 h1 h2 h3 h4 h5 h6
 go_enter Tryz.func150, Tryz.ntmps150
 go_wp2_with fail
 refine T0.out.mono ?_
 clear T0
 rintro e w0 ⟨rfl, rfl⟩
 go_wp2_with fail
 refine T1.out.mono ?_
 clear T1
 rintro e w0 ⟨rfl, rfl⟩
 go_wp2_with fail
 refine T2.out.mono ?_
 clear T2
 rintro e w0 ⟨rfl, rfl⟩
 go_wp2_with fail
 refine T3.out.mono ?_
 clear T3
 rintro e w0 ⟨rfl, rfl⟩
 go_wp2_with fail
 refine T4.out.mono ?_
 clear T4
 rintro e w0 ⟨rfl, rfl⟩
 go_wp2_with fail
 refine T5.out.mono ?_
 clear T5
 rintro e w0 ⟨rfl, rfl⟩
 go_wp2_with fail
 refine T6.out.mono ?_
 clear T6
 rintro e w0 ⟨rfl, rfl⟩
 go_wp2_with fail
 refine HF.out.mono ?_
 clear HF hW1
 rintro e w2 ⟨rfl, hm⟩
 have HM := Lib.hid (HM0.out.trans hm)
 have HBX := Lib.hid (Bx.grown HX0.out hm.1 (by omega))
 clear hm
 have HK := Lib.hid ((OwnE.nil (w.heap.size + 1) w2).node 0 0 ⟨#[]⟩ ⟨#[]⟩ ⟨#[]⟩ ⟨Nat.zero_le _, Nat.zero_le _, Nat.zero_le _⟩ (mk_bare (xs := []) rfl _ _ _ _ _))
 have hx2 := HBX.out
 obtain ⟨r0, r1, r2, r3, r4, r5, r6, r7⟩ := hx2.all_8
 have g0 := hx2.fro 0; have g1 := hx2.fro 1; have g2 := hx2.fro 2; have g3 := hx2.fro 3; have g4 := hx2.fro 4; have g5 := hx2.fro 5; have g6 := hx2.fro 6; have g7 := hx2.fro 7
 have HG := Lib.hid (grown_8 w2 w.heap.size (.int .i64 0) (.int .i32 0) (.string ⟨#[]⟩) (.string ⟨#[]⟩) (.string ⟨#[]⟩) (.slice none 0 0) (.string ⟨#[]⟩) (.int .i64 0))
 clear hx2
 (try simp only [cellsN])
 go_wp2_with fail
 obtain ⟨z0, z1, z2, z3, z4, z5, z6, z7⟩ := (HBX.out.to_8 (.int .i64 0) (.int .i32 0) (.string ⟨#[]⟩) (.string ⟨#[]⟩) (.string ⟨#[]⟩) (.slice none 0 0) (.string ⟨#[]⟩) (.int .i64 0)).all_8
 (try simp only [Exit.inBlock, Exit.then])
 refine bodyPost_ret (v := .agg #[.int .i64 0, .int .i32 0, .string ⟨#[]⟩, .string ⟨#[]⟩, .string ⟨#[]⟩, .slice none 0 0, .string ⟨#[]⟩, .int .i64 0]) (by simp [results, Tryz.results150, go_sem, z0, z1, z2, z3, z4, z5, z6, z7]) rfl ?_
 exact ⟨.ex 0 0 ⟨#[]⟩ ⟨#[]⟩ ⟨#[]⟩ (.slice none 0 0) [] ⟨#[]⟩ 0, rfl, (HK.out.grown HG.out (.inl (by omega))).mono (by omega), Mv.over (Below.refl _ _) HM.out HG.out (Nat.le_refl _) hlt⟩
theorem fixed_of (n : Nat) (IHU : SpecU n) (IHR : SpecR n) (IHE : SpecE n) : SpecX (n + 1) := by
 intro W0 w c s hv h hn
 cases h0 : s.sees 0 sTrue with
 | true => exact fixed_0 n W0 w c s hv h hn h0
 | false =>
   cases h1 : s.sees 0 sFalse with
   | true => exact fixed_1 n W0 w c s hv h hn h0 h1
   | false =>
     cases h2 : s.sees 0 sNull with
     | true => exact fixed_2 n W0 w c s hv h hn h0 h1 h2
     | false =>
       cases h3 : s.sees 0 sThis with
       | true => exact fixed_3 n W0 w c s hv h hn h0 h1 h2 h3
       | false =>
         cases h4 : s.sees 0 sSuper with
         | true => exact fixed_4 n IHU W0 w c s hv h hn h0 h1 h2 h3 h4
         | false =>
           cases h5 : s.sees 0 sNew with
           | true => exact fixed_5 n IHR W0 w c s hv h hn h0 h1 h2 h3 h4 h5
           | false =>
             cases h6 : s.sees 0 sOpen with
             | true => exact fixed_6 n IHE W0 w c s hv h hn h0 h1 h2 h3 h4 h5 h6
             | false => exact fixed_7 n W0 w c s hv h hn h0 h1 h2 h3 h4 h5 h6
end
section
open Go.RowKit
theorem atom_nu (n : Nat) (W0 w : World) (c : Nat) (s : RS) (t : ByteArray) (a : Int) (hv : Vars W0) (h : Rd W0 c s w) (hn : enough (n + 1) .atom s) (hp : s.ws[0]? = some (.nu t, a)) : Calls Tryz.prog 118 #[.pointer (some ⟨c, 0, none⟩)] w (ExC W0 c w (run (n + 1) .atom s)) := by
 have hR : run (n + 1) .atom s = ([mkE 1 (s.numR 2147483647) E0 E0 E0 []], s.num 2147483647) := by simp only [run, hp]
 have hlt := h.lt
 have hle0 := h.le
 obtain ⟨W1, hW1⟩ : ∃ W1, w.alloc (.cells #[.int .i64 0, .int .i32 0, .string ⟨#[]⟩, .string ⟨#[]⟩, .string ⟨#[]⟩, .slice none 0 0, .string ⟨#[]⟩, .int .i64 0] 26) = W1 := ⟨_, rfl⟩
 have hb : Below w.heap.size w W1 := by rw [← hW1]; exact (Below.refl _ w).alloc (Nat.le_refl _) _
 have hx : Bx W1 w.heap.size #[.int .i64 0, .int .i32 0, .string ⟨#[]⟩, .string ⟨#[]⟩, .string ⟨#[]⟩, .slice none 0 0, .string ⟨#[]⟩, .int .i64 0] 26 := by rw [← hW1]; exact Bx.new _ _ _
 have hz : W1.heap.size = w.heap.size + 1 := by rw [← hW1]; simp
 have HM0 := Lib.hid (Mv.below hb h)
 have HX0 := Lib.hid hx
 clear hb hx
 have HA := Lib.hid (ahead_any W0 W1 c 0 s HM0.out.2 (by omega))
 have hav : aheadV s.ws 0 = (Pr.nu t).V := by simp [aheadV, hp]
 rw [hav] at HA
 simp only [Pr.V] at HA
 have HX := Lib.hid (number_any W0 W1 c s 2147483647 hv HM0.out.2)
 rw [hR]
 obtain ⟨nv, hnv⟩ : ∃ nv, s.numR 2147483647 = nv := ⟨_, rfl⟩
 rw [hnv] at HX ⊢
 clear hnv
 clear hR hn h hv hp hav
 go_enter Tryz.func118, Tryz.ntmps118
 go_wp2_with (go_at_call 41; refine HA.out.mono ?_; rintro e w0 ⟨rfl, rfl⟩)
 refine HX.out.mono ?_
 clear HX HA hW1
 rintro e w2 ⟨rfl, hm⟩
 have HM := Lib.hid (HM0.out.trans hm)
 have HBX := Lib.hid (Bx.grown HX0.out hm.1 (by omega))
 clear hm
 have HK := Lib.hid ((OwnE.nil (w.heap.size + 1) w2).node 1 nv ⟨#[]⟩ ⟨#[]⟩ ⟨#[]⟩ ⟨Nat.zero_le _, Nat.zero_le _, Nat.zero_le _⟩ (mk_bare (xs := []) rfl _ _ _ _ _))
 have hx2 := HBX.out
 obtain ⟨r0, r1, r2, r3, r4, r5, r6, r7⟩ := hx2.all_8
 have g0 := hx2.fro 0; have g1 := hx2.fro 1; have g2 := hx2.fro 2; have g3 := hx2.fro 3; have g4 := hx2.fro 4; have g5 := hx2.fro 5; have g6 := hx2.fro 6; have g7 := hx2.fro 7
 have HG := Lib.hid (grown_8 w2 w.heap.size (.int .i64 1) (.int .i32 nv) (.string ⟨#[]⟩) (.string ⟨#[]⟩) (.string ⟨#[]⟩) (.slice none 0 0) (.string ⟨#[]⟩) (.int .i64 0))
 clear hx2
 (try simp only [cellsN])
 go_wp2_with fail
 obtain ⟨z0, z1, z2, z3, z4, z5, z6, z7⟩ := (HBX.out.to_8 (.int .i64 1) (.int .i32 nv) (.string ⟨#[]⟩) (.string ⟨#[]⟩) (.string ⟨#[]⟩) (.slice none 0 0) (.string ⟨#[]⟩) (.int .i64 0)).all_8
 (try simp only [Exit.inBlock, Exit.then])
 refine bodyPost_ret (v := .agg #[.int .i64 1, .int .i32 nv, .string ⟨#[]⟩, .string ⟨#[]⟩, .string ⟨#[]⟩, .slice none 0 0, .string ⟨#[]⟩, .int .i64 0]) (by simp [results, Tryz.results118, go_sem, z0, z1, z2, z3, z4, z5, z6, z7]) rfl ?_
 exact ⟨.ex 1 nv ⟨#[]⟩ ⟨#[]⟩ ⟨#[]⟩ (.slice none 0 0) [] ⟨#[]⟩ 0, rfl, (HK.out.grown HG.out (.inl (by omega))).mono (by omega), Mv.over (Below.refl _ _) HM.out HG.out (Nat.le_refl _) hlt⟩
theorem atom_qu (n : Nat) (W0 w : World) (c : Nat) (s : RS) (t : ByteArray) (a : Int) (hv : Vars W0) (h : Rd W0 c s w) (hn : enough (n + 1) .atom s) (hp : s.ws[0]? = some (.qu t, a)) : Calls Tryz.prog 118 #[.pointer (some ⟨c, 0, none⟩)] w (ExC W0 c w (run (n + 1) .atom s)) := by
 have hR : run (n + 1) .atom s = ([mkE 3 0 t E0 E0 []], s.skip) := by simp only [run, hp]
 have htx := h.text hp
 simp only [Pr.text] at htx
 have hlt := h.lt
 have hle0 := h.le
 obtain ⟨W1, hW1⟩ : ∃ W1, w.alloc (.cells #[.int .i64 0, .int .i32 0, .string ⟨#[]⟩, .string ⟨#[]⟩, .string ⟨#[]⟩, .slice none 0 0, .string ⟨#[]⟩, .int .i64 0] 26) = W1 := ⟨_, rfl⟩
 have hb : Below w.heap.size w W1 := by rw [← hW1]; exact (Below.refl _ w).alloc (Nat.le_refl _) _
 have hx : Bx W1 w.heap.size #[.int .i64 0, .int .i32 0, .string ⟨#[]⟩, .string ⟨#[]⟩, .string ⟨#[]⟩, .slice none 0 0, .string ⟨#[]⟩, .int .i64 0] 26 := by rw [← hW1]; exact Bx.new _ _ _
 have hz : W1.heap.size = w.heap.size + 1 := by rw [← hW1]; simp
 have HM0 := Lib.hid (Mv.below hb h)
 have HX0 := Lib.hid hx
 clear hb hx
 have HA := Lib.hid (ahead_any W0 W1 c 0 s HM0.out.2 (by omega))
 have hav : aheadV s.ws 0 = (Pr.qu t).V := by simp [aheadV, hp]
 rw [hav] at HA
 simp only [Pr.V] at HA
 have HX := Lib.hid (skip_any W0 W1 c s HM0.out.2 (ne_of_get hp))
 rw [hR]
 clear hR hn h hv hp hav
 go_enter Tryz.func118, Tryz.ntmps118
 go_wp2_with (go_at_call 41; refine HA.out.mono ?_; rintro e w0 ⟨rfl, rfl⟩)
 refine HX.out.mono ?_
 clear HX HA hW1
 rintro e w2 ⟨rfl, hm⟩
 have HM := Lib.hid (HM0.out.trans hm)
 have HBX := Lib.hid (Bx.grown HX0.out hm.1 (by omega))
 clear hm
 have HK := Lib.hid ((OwnE.nil (w.heap.size + 1) w2).node 3 0 t ⟨#[]⟩ ⟨#[]⟩ ⟨htx, Nat.zero_le _, Nat.zero_le _⟩ (mk_bare (xs := []) rfl _ _ _ _ _))
 have hx2 := HBX.out
 obtain ⟨r0, r1, r2, r3, r4, r5, r6, r7⟩ := hx2.all_8
 have g0 := hx2.fro 0; have g1 := hx2.fro 1; have g2 := hx2.fro 2; have g3 := hx2.fro 3; have g4 := hx2.fro 4; have g5 := hx2.fro 5; have g6 := hx2.fro 6; have g7 := hx2.fro 7
 have HG := Lib.hid (grown_8 w2 w.heap.size (.int .i64 3) (.int .i32 0) (.string t) (.string ⟨#[]⟩) (.string ⟨#[]⟩) (.slice none 0 0) (.string ⟨#[]⟩) (.int .i64 0))
 clear hx2
 (try simp only [cellsN])
 go_wp2_with fail
 obtain ⟨z0, z1, z2, z3, z4, z5, z6, z7⟩ := (HBX.out.to_8 (.int .i64 3) (.int .i32 0) (.string t) (.string ⟨#[]⟩) (.string ⟨#[]⟩) (.slice none 0 0) (.string ⟨#[]⟩) (.int .i64 0)).all_8
 (try simp only [Exit.inBlock, Exit.then])
 refine bodyPost_ret (v := .agg #[.int .i64 3, .int .i32 0, .string t, .string ⟨#[]⟩, .string ⟨#[]⟩, .slice none 0 0, .string ⟨#[]⟩, .int .i64 0]) (by simp [results, Tryz.results118, go_sem, z0, z1, z2, z3, z4, z5, z6, z7]) rfl ?_
 exact ⟨.ex 3 0 t ⟨#[]⟩ ⟨#[]⟩ (.slice none 0 0) [] ⟨#[]⟩ 0, rfl, (HK.out.grown HG.out (.inl (by omega))).mono (by omega), Mv.over (Below.refl _ _) HM.out HG.out (Nat.le_refl _) hlt⟩
theorem atom_nm (n : Nat) (IH : SpecU n) (W0 w : World) (c : Nat) (s : RS) (t : ByteArray) (a : Int) (hv : Vars W0) (h : Rd W0 c s w) (hn : enough (n + 1) .atom s) (hp : s.ws[0]? = some (.nm t, a)) : Calls Tryz.prog 118 #[.pointer (some ⟨c, 0, none⟩)] w (ExC W0 c w (run (n + 1) .atom s)) := by
 have hR : run (n + 1) .atom s = run n (.used 6 11 E0 []) s := by simp only [run, hp]
 have hen : enough n (.used 6 11 E0 []) s := by simp only [enough, Md.rank] at hn ⊢; omega
 have hlt := h.lt
 have hle0 := h.le
 obtain ⟨W1, hW1⟩ : ∃ W1, w.alloc (.cells #[.int .i64 0, .int .i32 0, .string ⟨#[]⟩, .string ⟨#[]⟩, .string ⟨#[]⟩, .slice none 0 0, .string ⟨#[]⟩, .int .i64 0] 26) = W1 := ⟨_, rfl⟩
 have hb : Below w.heap.size w W1 := by rw [← hW1]; exact (Below.refl _ w).alloc (Nat.le_refl _) _
 have hx : Bx W1 w.heap.size #[.int .i64 0, .int .i32 0, .string ⟨#[]⟩, .string ⟨#[]⟩, .string ⟨#[]⟩, .slice none 0 0, .string ⟨#[]⟩, .int .i64 0] 26 := by rw [← hW1]; exact Bx.new _ _ _
 have hz : W1.heap.size = w.heap.size + 1 := by rw [← hW1]; simp
 have HM0 := Lib.hid (Mv.below hb h)
 have HX0 := Lib.hid hx
 clear hb hx
 have HA := Lib.hid (ahead_any W0 W1 c 0 s HM0.out.2 (by omega))
 have hav : aheadV s.ws 0 = (Pr.nm t).V := by simp [aheadV, hp]
 rw [hav] at HA
 simp only [Pr.V] at HA
 have HX := Lib.hid (IH W0 W1 (w.heap.size + 1) none c s 6 11 E0 (.slice none 0 0) [] [] hv HM0.out.2 hen (OwnR.nil _ _ _) rfl (by omega) (by omega) ⟨none, rfl⟩ (Nat.zero_le _) (Nat.zero_le _) (by simp))
 rw [hR]
 obtain ⟨r, hr⟩ : ∃ r, run n (.used 6 11 E0 []) s = r := ⟨_, rfl⟩
 rw [hr] at HX ⊢
 clear hr hen IH
 clear hR hn h hv hp hav
 go_enter Tryz.func118, Tryz.ntmps118
 go_wp2_with (go_at_call 41; refine HA.out.mono ?_; rintro e w0 ⟨rfl, rfl⟩)
 refine HX.out.mono ?_
 clear HX HA hW1
 rintro e w2 ⟨y, rfl, hk, hm⟩
 have HK := Lib.hid hk
 obtain ⟨k, m, tx, nm, ty, A, cap, l, rfl, _, _, _⟩ := hk
 have HM := Lib.hid (HM0.out.trans hm)
 have HBX := Lib.hid (Bx.grown HX0.out hm.1 (by omega))
 clear hm
 have hx2 := HBX.out
 obtain ⟨r0, r1, r2, r3, r4, r5, r6, r7⟩ := hx2.all_8
 have g0 := hx2.fro 0; have g1 := hx2.fro 1; have g2 := hx2.fro 2; have g3 := hx2.fro 3; have g4 := hx2.fro 4; have g5 := hx2.fro 5; have g6 := hx2.fro 6; have g7 := hx2.fro 7
 have HG := Lib.hid (grown_8 w2 w.heap.size (.int .i64 k) (.int .i32 m) (.string tx) (.string nm) (.string ty) (.slice A l.length cap) (.string ⟨#[]⟩) (.int .i64 0))
 clear hx2
 (try simp only [cellsN])
 go_wp2_with fail
 obtain ⟨z0, z1, z2, z3, z4, z5, z6, z7⟩ := (HBX.out.to_8 (.int .i64 k) (.int .i32 m) (.string tx) (.string nm) (.string ty) (.slice A l.length cap) (.string ⟨#[]⟩) (.int .i64 0)).all_8
 (try simp only [Exit.inBlock, Exit.then])
 refine bodyPost_ret (v := .agg #[.int .i64 k, .int .i32 m, .string tx, .string nm, .string ty, .slice A l.length cap, .string ⟨#[]⟩, .int .i64 0]) (by simp [results, Tryz.results118, go_sem, z0, z1, z2, z3, z4, z5, z6, z7]) rfl ?_
 exact ⟨_, rfl, (HK.out.grown HG.out (.inl (by omega))).mono (by omega), Mv.over (Below.refl _ _) HM.out HG.out (Nat.le_refl _) hlt⟩
theorem atom_cl (n : Nat) (IH : SpecU n) (W0 w : World) (c : Nat) (s : RS) (t : ByteArray) (a : Int) (hv : Vars W0) (h : Rd W0 c s w) (hn : enough (n + 1) .atom s) (hp : s.ws[0]? = some (.cl t, a)) : Calls Tryz.prog 118 #[.pointer (some ⟨c, 0, none⟩)] w (ExC W0 c w (run (n + 1) .atom s)) := by
 have hR : run (n + 1) .atom s = run n (.used 9 13 s.classV []) (s.class.need sCols) := by simp only [run, hp]
 have hen : enough n (.used 9 13 s.classV []) (s.class.need sCols) := by have h7 := len_class s; have h8 := len_need s.class sCols; simp only [enough, Md.rank] at hn ⊢; omega
 have hlt := h.lt
 have hle0 := h.le
 obtain ⟨W1, hW1⟩ : ∃ W1, w.alloc (.cells #[.int .i64 0, .int .i32 0, .string ⟨#[]⟩, .string ⟨#[]⟩, .string ⟨#[]⟩, .slice none 0 0, .string ⟨#[]⟩, .int .i64 0] 26) = W1 := ⟨_, rfl⟩
 have hb : Below w.heap.size w W1 := by rw [← hW1]; exact (Below.refl _ w).alloc (Nat.le_refl _) _
 have hx : Bx W1 w.heap.size #[.int .i64 0, .int .i32 0, .string ⟨#[]⟩, .string ⟨#[]⟩, .string ⟨#[]⟩, .slice none 0 0, .string ⟨#[]⟩, .int .i64 0] 26 := by rw [← hW1]; exact Bx.new _ _ _
 have hz : W1.heap.size = w.heap.size + 1 := by rw [← hW1]; simp
 have HM0 := Lib.hid (Mv.below hb h)
 have HX0 := Lib.hid hx
 clear hb hx
 have HA := Lib.hid (ahead_any W0 W1 c 0 s HM0.out.2 (by omega))
 have hav : aheadV s.ws 0 = (Pr.cl t).V := by simp [aheadV, hp]
 rw [hav] at HA
 simp only [Pr.V] at HA
 have HX := Lib.hid (ofClass_of n IH W0 W1 c s hv HM0.out.2 hen)
 rw [hR]
 obtain ⟨r, hr⟩ : ∃ r, run n (.used 9 13 s.classV []) (s.class.need sCols) = r := ⟨_, rfl⟩
 rw [hr] at HX ⊢
 clear hr hen IH
 clear hR hn h hv hp hav
 go_enter Tryz.func118, Tryz.ntmps118
 go_wp2_with (go_at_call 41; refine HA.out.mono ?_; rintro e w0 ⟨rfl, rfl⟩)
 refine HX.out.mono ?_
 clear HX HA hW1
 rintro e w2 ⟨y, rfl, hk, hm⟩
 have HK := Lib.hid hk
 obtain ⟨k, m, tx, nm, ty, A, cap, l, rfl, _, _, _⟩ := hk
 have HM := Lib.hid (HM0.out.trans hm)
 have HBX := Lib.hid (Bx.grown HX0.out hm.1 (by omega))
 clear hm
 have hx2 := HBX.out
 obtain ⟨r0, r1, r2, r3, r4, r5, r6, r7⟩ := hx2.all_8
 have g0 := hx2.fro 0; have g1 := hx2.fro 1; have g2 := hx2.fro 2; have g3 := hx2.fro 3; have g4 := hx2.fro 4; have g5 := hx2.fro 5; have g6 := hx2.fro 6; have g7 := hx2.fro 7
 have HG := Lib.hid (grown_8 w2 w.heap.size (.int .i64 k) (.int .i32 m) (.string tx) (.string nm) (.string ty) (.slice A l.length cap) (.string ⟨#[]⟩) (.int .i64 0))
 clear hx2
 (try simp only [cellsN])
 go_wp2_with fail
 obtain ⟨z0, z1, z2, z3, z4, z5, z6, z7⟩ := (HBX.out.to_8 (.int .i64 k) (.int .i32 m) (.string tx) (.string nm) (.string ty) (.slice A l.length cap) (.string ⟨#[]⟩) (.int .i64 0)).all_8
 (try simp only [Exit.inBlock, Exit.then])
 refine bodyPost_ret (v := .agg #[.int .i64 k, .int .i32 m, .string tx, .string nm, .string ty, .slice A l.length cap, .string ⟨#[]⟩, .int .i64 0]) (by simp [results, Tryz.results118, go_sem, z0, z1, z2, z3, z4, z5, z6, z7]) rfl ?_
 exact ⟨_, rfl, (HK.out.grown HG.out (.inl (by omega))).mono (by omega), Mv.over (Below.refl _ _) HM.out HG.out (Nat.le_refl _) hlt⟩
theorem atom_fx (n : Nat) (IH : SpecX n) (W0 w : World) (c : Nat) (s : RS) (t : ByteArray) (a : Int) (hv : Vars W0) (h : Rd W0 c s w) (hn : enough (n + 1) .atom s) (hp : s.ws[0]? = some (.fx t, a)) : Calls Tryz.prog 118 #[.pointer (some ⟨c, 0, none⟩)] w (ExC W0 c w (run (n + 1) .atom s)) := by
 have hR : run (n + 1) .atom s = run n .fixed s := by simp only [run, hp]
 have hen : enough n .fixed s := by simp only [enough, Md.rank] at hn ⊢; omega
 have hlt := h.lt
 have hle0 := h.le
 obtain ⟨W1, hW1⟩ : ∃ W1, w.alloc (.cells #[.int .i64 0, .int .i32 0, .string ⟨#[]⟩, .string ⟨#[]⟩, .string ⟨#[]⟩, .slice none 0 0, .string ⟨#[]⟩, .int .i64 0] 26) = W1 := ⟨_, rfl⟩
 have hb : Below w.heap.size w W1 := by rw [← hW1]; exact (Below.refl _ w).alloc (Nat.le_refl _) _
 have hx : Bx W1 w.heap.size #[.int .i64 0, .int .i32 0, .string ⟨#[]⟩, .string ⟨#[]⟩, .string ⟨#[]⟩, .slice none 0 0, .string ⟨#[]⟩, .int .i64 0] 26 := by rw [← hW1]; exact Bx.new _ _ _
 have hz : W1.heap.size = w.heap.size + 1 := by rw [← hW1]; simp
 have HM0 := Lib.hid (Mv.below hb h)
 have HX0 := Lib.hid hx
 clear hb hx
 have HA := Lib.hid (ahead_any W0 W1 c 0 s HM0.out.2 (by omega))
 have hav : aheadV s.ws 0 = (Pr.fx t).V := by simp [aheadV, hp]
 rw [hav] at HA
 simp only [Pr.V] at HA
 have HX := Lib.hid (IH W0 W1 c s hv HM0.out.2 hen)
 rw [hR]
 obtain ⟨r, hr⟩ : ∃ r, run n .fixed s = r := ⟨_, rfl⟩
 rw [hr] at HX ⊢
 clear hr hen IH
 clear hR hn h hv hp hav
 go_enter Tryz.func118, Tryz.ntmps118
 go_wp2_with (go_at_call 41; refine HA.out.mono ?_; rintro e w0 ⟨rfl, rfl⟩)
 refine HX.out.mono ?_
 clear HX HA hW1
 rintro e w2 ⟨y, rfl, hk, hm⟩
 have HK := Lib.hid hk
 obtain ⟨k, m, tx, nm, ty, A, cap, l, rfl, _, _, _⟩ := hk
 have HM := Lib.hid (HM0.out.trans hm)
 have HBX := Lib.hid (Bx.grown HX0.out hm.1 (by omega))
 clear hm
 have hx2 := HBX.out
 obtain ⟨r0, r1, r2, r3, r4, r5, r6, r7⟩ := hx2.all_8
 have g0 := hx2.fro 0; have g1 := hx2.fro 1; have g2 := hx2.fro 2; have g3 := hx2.fro 3; have g4 := hx2.fro 4; have g5 := hx2.fro 5; have g6 := hx2.fro 6; have g7 := hx2.fro 7
 have HG := Lib.hid (grown_8 w2 w.heap.size (.int .i64 k) (.int .i32 m) (.string tx) (.string nm) (.string ty) (.slice A l.length cap) (.string ⟨#[]⟩) (.int .i64 0))
 clear hx2
 (try simp only [cellsN])
 go_wp2_with fail
 obtain ⟨z0, z1, z2, z3, z4, z5, z6, z7⟩ := (HBX.out.to_8 (.int .i64 k) (.int .i32 m) (.string tx) (.string nm) (.string ty) (.slice A l.length cap) (.string ⟨#[]⟩) (.int .i64 0)).all_8
 (try simp only [Exit.inBlock, Exit.then])
 refine bodyPost_ret (v := .agg #[.int .i64 k, .int .i32 m, .string tx, .string nm, .string ty, .slice A l.length cap, .string ⟨#[]⟩, .int .i64 0]) (by simp [results, Tryz.results118, go_sem, z0, z1, z2, z3, z4, z5, z6, z7]) rfl ?_
 exact ⟨_, rfl, (HK.out.grown HG.out (.inl (by omega))).mono (by omega), Mv.over (Below.refl _ _) HM.out HG.out (Nat.le_refl _) hlt⟩
theorem atom_no (n : Nat) (IH : SpecX n) (W0 w : World) (c : Nat) (s : RS) (hv : Vars W0) (h : Rd W0 c s w) (hn : enough (n + 1) .atom s) (hp : s.ws[0]? = none) : Calls Tryz.prog 118 #[.pointer (some ⟨c, 0, none⟩)] w (ExC W0 c w (run (n + 1) .atom s)) := by
 have hR : run (n + 1) .atom s = run n .fixed s := by simp only [run, hp]
 have hen : enough n .fixed s := by simp only [enough, Md.rank] at hn ⊢; omega
 have hlt := h.lt
 have hle0 := h.le
 obtain ⟨W1, hW1⟩ : ∃ W1, w.alloc (.cells #[.int .i64 0, .int .i32 0, .string ⟨#[]⟩, .string ⟨#[]⟩, .string ⟨#[]⟩, .slice none 0 0, .string ⟨#[]⟩, .int .i64 0] 26) = W1 := ⟨_, rfl⟩
 have hb : Below w.heap.size w W1 := by rw [← hW1]; exact (Below.refl _ w).alloc (Nat.le_refl _) _
 have hx : Bx W1 w.heap.size #[.int .i64 0, .int .i32 0, .string ⟨#[]⟩, .string ⟨#[]⟩, .string ⟨#[]⟩, .slice none 0 0, .string ⟨#[]⟩, .int .i64 0] 26 := by rw [← hW1]; exact Bx.new _ _ _
 have hz : W1.heap.size = w.heap.size + 1 := by rw [← hW1]; simp
 have HM0 := Lib.hid (Mv.below hb h)
 have HX0 := Lib.hid hx
 clear hb hx
 have HA := Lib.hid (ahead_any W0 W1 c 0 s HM0.out.2 (by omega))
 have hav : aheadV s.ws 0 = .nilIface := by simp [aheadV, hp]
 rw [hav] at HA
 have HX := Lib.hid (IH W0 W1 c s hv HM0.out.2 hen)
 rw [hR]
 obtain ⟨r, hr⟩ : ∃ r, run n .fixed s = r := ⟨_, rfl⟩
 rw [hr] at HX ⊢
 clear hr hen IH
 clear hR hn h hv hp hav
 go_enter Tryz.func118, Tryz.ntmps118
 go_wp2_with (go_at_call 41; refine HA.out.mono ?_; rintro e w0 ⟨rfl, rfl⟩)
 refine HX.out.mono ?_
 clear HX HA hW1
 rintro e w2 ⟨y, rfl, hk, hm⟩
 have HK := Lib.hid hk
 obtain ⟨k, m, tx, nm, ty, A, cap, l, rfl, _, _, _⟩ := hk
 have HM := Lib.hid (HM0.out.trans hm)
 have HBX := Lib.hid (Bx.grown HX0.out hm.1 (by omega))
 clear hm
 have hx2 := HBX.out
 obtain ⟨r0, r1, r2, r3, r4, r5, r6, r7⟩ := hx2.all_8
 have g0 := hx2.fro 0; have g1 := hx2.fro 1; have g2 := hx2.fro 2; have g3 := hx2.fro 3; have g4 := hx2.fro 4; have g5 := hx2.fro 5; have g6 := hx2.fro 6; have g7 := hx2.fro 7
 have HG := Lib.hid (grown_8 w2 w.heap.size (.int .i64 k) (.int .i32 m) (.string tx) (.string nm) (.string ty) (.slice A l.length cap) (.string ⟨#[]⟩) (.int .i64 0))
 clear hx2
 (try simp only [cellsN])
 go_wp2_with fail
 obtain ⟨z0, z1, z2, z3, z4, z5, z6, z7⟩ := (HBX.out.to_8 (.int .i64 k) (.int .i32 m) (.string tx) (.string nm) (.string ty) (.slice A l.length cap) (.string ⟨#[]⟩) (.int .i64 0)).all_8
 (try simp only [Exit.inBlock, Exit.then])
 refine bodyPost_ret (v := .agg #[.int .i64 k, .int .i32 m, .string tx, .string nm, .string ty, .slice A l.length cap, .string ⟨#[]⟩, .int .i64 0]) (by simp [results, Tryz.results118, go_sem, z0, z1, z2, z3, z4, z5, z6, z7]) rfl ?_
 exact ⟨_, rfl, (HK.out.grown HG.out (.inl (by omega))).mono (by omega), Mv.over (Below.refl _ _) HM.out HG.out (Nat.le_refl _) hlt⟩
theorem atom_of (n : Nat) (IHU : SpecU n) (IHX : SpecX n) : SpecA (n + 1) := by
 intro W0 w c s hv h hn
 cases hp : s.ws[0]? with
 | none => exact atom_no n IHX W0 w c s hv h hn hp
 | some x =>
   obtain ⟨q, a⟩ := x
   cases q with
   | nu t => exact atom_nu n W0 w c s t a hv h hn hp
   | qu t => exact atom_qu n W0 w c s t a hv h hn hp
   | nm t => exact atom_nm n IHU W0 w c s t a hv h hn hp
   | cl t => exact atom_cl n IHU W0 w c s t a hv h hn hp
   | fx t => exact atom_fx n IHX W0 w c s t a hv h hn hp
end
end Go.Proofs.YtaclhdpjkgoadaaGreatDoor
