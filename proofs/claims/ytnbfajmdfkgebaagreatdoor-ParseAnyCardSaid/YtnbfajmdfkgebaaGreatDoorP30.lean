/- Parts of the proof: Num, StE, AtB. -/
import Derived.Test.YtnbfajmdfkgebaaGreatDoorP9
import Derived.Test.YtnbfajmdfkgebaaGreatDoorShelf
import Derived.Lib.ParseIntBTie
import Derived.Lib.AtoiErrMem
import Derived.Test.YtnbfajmdfkgebaaGreatDoorP33
import Derived.Test.YtnbfajmdfkgebaaGreatDoorP31
set_option maxHeartbeats 4000000
set_option maxRecDepth 100000
namespace Go.Proofs.YtnbfajmdfkgebaaGreatDoor
set_option linter.unusedSimpArgs false
set_option linter.unusedVariables false
section
open Go.RowKit
def ParSaid (t : ByteArray) (w : World) (e : Ending) (w' : World) : Prop :=
 Below w.heap.size w w' ∧ ((∃ v, numO t = some v ∧ e = .returned (.tuple #[.int .i64 v, .nilIface])) ∨ (numO t = none ∧ ∃ v T p, e = .returned (.tuple #[.int .i64 v, .iface T (.pointer (some p))])))
theorem Vars.keepR {W0 w : World} {c : Nat} {s : RS} (hv : Vars W0) (h : Rd W0 c s w) : Vars w := by
 have key : ∀ g ev, W0.cell? ⟨g, 0, none⟩ = some ev → (ev = .nilIface ∨ ∃ te pe, ev = .iface te pe) → w.cell? ⟨g, 0, none⟩ = some ev := by
   intro g ev hg he
   have hne : g ≠ c := by
     rintro rfl
     rcases he with rfl | ⟨te, pe, rfl⟩
     · exact h.2.1.nonil hg
     · exact h.2.1.no hg
   exact (World.cell?_of_block (a := ⟨g, 0, none⟩) (World.grownBy.block h.1 g (World.block_lt_of_cell? W0 (a := ⟨g, 0, none⟩) hg) (by simpa using hne))).trans hg
 obtain ⟨⟨a, h1, h2⟩, b, h3, h4⟩ := hv
 exact ⟨⟨a, key _ _ h1 h2, h2⟩, b, key _ _ h3 h4, h4⟩
theorem parse_any (w : World) (t : ByteArray) (hv : Vars w) (ht : t.size ≤ 1000000) : Calls Tryz.prog 165 #[.string t, .int .i64 10, .int .i64 32] w (ParSaid t w) := by
 obtain ⟨⟨ev, h1, h2⟩, ev', h3, h4⟩ := hv
 cases hp : Lib.parseIntB 32 t.data.toList with
 | ok v =>
   refine (Tryz.strconv_ParseInt_10_at32_ok t (by omega) v hp w).mono ?_
   rintro e w' ⟨rfl, h⟩
   refine ⟨?_, .inl ⟨v, by simp [numO, hp], rfl⟩⟩
   rcases h with rfl | ⟨u, rfl⟩
   · exact Below.refl _ _
   · exact Lib.bytesWorld_below _ _ _
 | range =>
   refine (Tryz.strconv_ParseInt_10_at32_range t (by omega) hp ev' w h3 h4).mono ?_
   rintro e w' ⟨N, rfl, _, _, hb⟩
   exact ⟨hb, .inr ⟨by simp [numO, hp], _, _, _, rfl⟩⟩
 | _ =>
   refine (Tryz.strconv_ParseInt_10_at32_syntax t (by omega) hp ev w h1 h2).mono ?_
   rintro e w' ⟨N, rfl, _, _, hb⟩
   exact ⟨hb, .inr ⟨by simp [numO, hp], _, _, _, rfl⟩⟩
theorem num_bounds {t : ByteArray} {v : Int} (h : numO t = some v) : -2147483648 ≤ v ∧ v < 2147483648 := by
 unfold numO at h
 split at h
 · rename_i u hu
   injection h with h; subst h
   have := Lib.parseIntB_bounds hu
   simpa using this
 · cases h
theorem ret_i32 {a b : Int} (h : b = a) : Ending.returned (.int .i32 a) = .returned (.int .i32 b) := by rw [h]
theorem number_no (W0 w : World) (c : Nat) (s : RS) (most : Int) (h : Rd W0 c s w) (hp : nuP s.ws[0]? = none) : Calls Tryz.prog 147 #[.pointer (some ⟨c, 0, none⟩), .int .i64 most] w fun e w' => e = .returned (.int .i32 (s.numR most)) ∧ Mv W0 c (s.num most) w w' := by
 have HA := Lib.hid (ahead_any W0 w c 0 s h (by omega))
 have HF := Lib.hid (fail_any W0 w c s 3 h)
 have HE := Lib.hid (show s.num most = s.fail 3 by simp [RS.num, hp])
 have HV := Lib.hid (show s.numR most = 0 by simp [RS.numR, hp])
 cases hx : s.ws[0]? with
 | none =>
   have hv : aheadV s.ws 0 = .nilIface := by simp [aheadV, hx]
   rw [hv] at HA
   clear hx hv h hp
   go_enter Tryz.func147, Tryz.ntmps147
   go_wp2_with (first | (go_at_call 70; refine HA.out.mono ?_; clear HA; rintro e w1 ⟨rfl, rfl⟩) | (go_at_call 50; refine HF.out.mono ?_; clear HF; rintro e w1 ⟨rfl, hm⟩; have HM := Lib.hid hm; clear hm))
   go_ret
   exact ⟨ret_i32 HV.out, by rw [HE.out]; exact HM.out⟩
 | some x =>
   obtain ⟨q, a⟩ := x
   have hv : aheadV s.ws 0 = q.V := by simp [aheadV, hx]
   rw [hv] at HA
   cases q with
   | nu t => rw [hx] at hp; cases hp
   | fx t | nm t | cl t | qu t =>
     simp only [Pr.V] at HA
     clear hx hv h hp
     go_enter Tryz.func147, Tryz.ntmps147
     go_wp2_with (first | (go_at_call 70; refine HA.out.mono ?_; clear HA; rintro e w1 ⟨rfl, rfl⟩) | (go_at_call 50; refine HF.out.mono ?_; clear HF; rintro e w1 ⟨rfl, hm⟩; have HM := Lib.hid hm; clear hm))
     go_ret
     exact ⟨ret_i32 HV.out, by rw [HE.out]; exact HM.out⟩
theorem number_yes (W0 w : World) (c : Nat) (s : RS) (most : Int) (t : ByteArray) (a : Int) (hvars : Vars W0) (h : Rd W0 c s w) (hp : s.ws[0]? = some (.nu t, a)) : Calls Tryz.prog 147 #[.pointer (some ⟨c, 0, none⟩), .int .i64 most] w fun e w' => e = .returned (.int .i32 (s.numR most)) ∧ Mv W0 c (s.num most) w w' := by
 have HA := Lib.hid (ahead_any W0 w c 0 s h (by omega))
 have hv : aheadV s.ws 0 = (Pr.nu t).V := by simp [aheadV, hp]
 rw [hv] at HA
 simp only [Pr.V] at HA
 have HP := Lib.hid (parse_any w t (hvars.keepR h) (h.short hp))
 have HF : Hid (∀ w', Rd W0 c s w' → Calls Tryz.prog 50 #[.pointer (some ⟨c, 0, none⟩), .int .i64 5] w' fun e w'' => e = .returned (.tuple #[]) ∧ Mv W0 c (s.fail 5) w' w'') := by
   show ∀ w', _
   intro w' h'; exact fail_any W0 w' c s 5 h'
 have HS : Hid (∀ w', Rd W0 c s w' → Calls Tryz.prog 72 #[.pointer (some ⟨c, 0, none⟩)] w' fun e w'' => e = .returned (.tuple #[]) ∧ Mv W0 c s.skip w' w'') := by
   show ∀ w', _
   intro w' h'; exact skip_any W0 w' c s h' (ne_of_get hp)
 have hnu : nuP s.ws[0]? = some t := by rw [hp]; rfl
 have HRD := Lib.hid h
 cases ho : numO t with
 | none =>
   have HE := Lib.hid (show s.num most = s.fail 5 by simp [RS.num, hnu, RS.numT, ho])
   have HV := Lib.hid (show s.numR most = 0 by simp [RS.numR, hnu, RS.numV, ho])
   have HP2 : Hid (Calls Tryz.prog 165 #[.string t, .int .i64 10, .int .i64 32] w fun e w' => Below w.heap.size w w' ∧ ∃ v T p, e = .returned (.tuple #[.int .i64 v, .iface T (.pointer (some p))])) := by
     refine HP.out.mono ?_
     rintro e w' ⟨hb, ⟨v, hv', _⟩ | ⟨_, hr⟩⟩
     · rw [ho] at hv'; cases hv'
     · exact ⟨hb, hr⟩
   clear hv h hp hnu ho HP hvars
   go_enter Tryz.func147, Tryz.ntmps147
   go_wp2_with (first | (go_at_call 70; refine HA.out.mono ?_; clear HA; rintro e w1 ⟨rfl, rfl⟩) | (go_at_call 165; refine HP2.out.mono ?_; clear HP2; rintro e w1 ⟨hb, v, T, p, rfl⟩; have HM := Lib.hid (Mv.below hb HRD.out); clear hb) | (go_at_call 50; refine (HF.out _ HM.out.2).mono ?_; clear HF; rintro e w2 ⟨rfl, hm⟩; have HM2 := Lib.hid hm; clear hm))
   go_ret
   exact ⟨ret_i32 HV.out, by rw [HE.out]; exact HM.out.trans HM2.out⟩
 | some v =>
   have hbd := num_bounds ho
   have HP2 : Hid (Calls Tryz.prog 165 #[.string t, .int .i64 10, .int .i64 32] w fun e w' => Below w.heap.size w w' ∧ e = .returned (.tuple #[.int .i64 v, .nilIface])) := by
     refine HP.out.mono ?_
     rintro e w' ⟨hb, ⟨v', hv', hr⟩ | ⟨hn, _⟩⟩
     · rw [ho] at hv'; injection hv' with hv'; subst hv'; exact ⟨hb, hr⟩
     · rw [ho] at hn; cases hn
   by_cases hle : v ≤ most
   · have HE := Lib.hid (show s.num most = s.skip by simp [RS.num, hnu, RS.numT, ho, hle])
     have HV := Lib.hid (show s.numR most = v by simp [RS.numR, hnu, RS.numV, ho, hle])
     have hw : wrap32 v = v := by unfold wrap32; omega
     clear hv h hp hnu ho HP hvars
     go_enter Tryz.func147, Tryz.ntmps147
     go_wp2_with (first | (go_at_call 70; refine HA.out.mono ?_; clear HA; rintro e w1 ⟨rfl, rfl⟩) | (go_at_call 165; refine HP2.out.mono ?_; clear HP2; rintro e w1 ⟨hb, rfl⟩; have HM := Lib.hid (Mv.below hb HRD.out); clear hb) | (go_at_call 72; refine (HS.out _ HM.out.2).mono ?_; clear HS; rintro e w2 ⟨rfl, hm⟩; have HM2 := Lib.hid hm; clear hm))
     go_ret
     exact ⟨ret_i32 (by rw [HV.out]), by rw [HE.out]; exact HM.out.trans HM2.out⟩
   · have HE := Lib.hid (show s.num most = s.fail 5 by simp [RS.num, hnu, RS.numT, ho, hle])
     have HV := Lib.hid (show s.numR most = 0 by simp [RS.numR, hnu, RS.numV, ho, hle])
     have hlt : most < v := by omega
     clear hv h hp hnu ho HP hvars hle
     go_enter Tryz.func147, Tryz.ntmps147
     go_wp2_with (first | (go_at_call 70; refine HA.out.mono ?_; clear HA; rintro e w1 ⟨rfl, rfl⟩) | (go_at_call 165; refine HP2.out.mono ?_; clear HP2; rintro e w1 ⟨hb, rfl⟩; have HM := Lib.hid (Mv.below hb HRD.out); clear hb) | (go_at_call 50; refine (HF.out _ HM.out.2).mono ?_; clear HF; rintro e w2 ⟨rfl, hm⟩; have HM2 := Lib.hid hm; clear hm))
     go_ret
     exact ⟨ret_i32 HV.out, by rw [HE.out]; exact HM.out.trans HM2.out⟩
theorem number_any (W0 w : World) (c : Nat) (s : RS) (most : Int) (hv : Vars W0) (h : Rd W0 c s w) : Calls Tryz.prog 147 #[.pointer (some ⟨c, 0, none⟩), .int .i64 most] w fun e w' => e = .returned (.int .i32 (s.numR most)) ∧ Mv W0 c (s.num most) w w' := by
 cases hp : s.ws[0]? with
 | none => exact number_no W0 w c s most h (by rw [hp]; rfl)
 | some x =>
   obtain ⟨q, a⟩ := x
   cases q with
   | nu t => exact number_yes W0 w c s most t a hv h hp
   | fx t | nm t | cl t | qu t => exact number_no W0 w c s most h (by rw [hp]; rfl)
end
section
open Go.RowKit
theorem StC.open {W0 w w' : World} {c : Nat} {r : Nd × RS} {e : Ending} (h : StC W0 c w r e w') : ∃ (k n : Int) (ty nm : ByteArray) (A1 A2 A3 A4 : Option Addr) (c1 c2 c3 c4 : Nat) (l1 l2 l3 l4 : List Nd), e = .returned (.agg #[.int .i64 k, .int .i32 n, .string ty, .string nm, .slice A1 l1.length c1, .slice A2 l2.length c2, .slice A3 l3.length c3, .slice A4 l4.length c4, .int .i64 0]) ∧ NK .st w.heap.size none w' r.1 (.st k n ty nm (.slice A1 l1.length c1) (.slice A2 l2.length c2) (.slice A3 l3.length c3) (.slice A4 l4.length c4) l1 l2 l3 l4 0) ∧ Mv W0 c r.2 w w' := by
 obtain ⟨y, rfl, ⟨k, n, ty, nm, A1, A2, A3, A4, c1, c2, c3, c4, l1, l2, l3, l4, rfl⟩, hk, hm⟩ := h
 exact ⟨k, n, ty, nm, A1, A2, A3, A4, c1, c2, c3, c4, l1, l2, l3, l4, rfl, hk, hm⟩
theorem typ_len (s : RS) : s.typV.size ≤ maxLen := by
 have := class_len s
 unfold RS.typV
 repeat' split
 · unfold tInt maxLen; decide
 · unfold tBool maxLen; decide
 · unfold tStr maxLen; decide
 · exact this
theorem stmt_var (HE : ExAny) (HAR : ArAny) (n : Nat) (b : Rb) (HBL : SpecK n b) (hbl : ∀ s, (b s).2.len ≤ s.len) (W0 w : World) (c : Nat) (s : RS) (hv : Vars W0) (h : Rd W0 c s w) (hn : 4 * s.len ≤ n) (hv0 : s.varB = true) : Calls Tryz.prog 140 #[.pointer (some ⟨c, 0, none⟩)] w (StC W0 c w (stS b s)) := by
 obtain ⟨q, hq⟩ : ∃ q, valE s.typ.name = q := ⟨_, rfl⟩
 have hnm := name_len s.typ
 have hty := typ_len s
 have HRE : Hid (stS b s = (mkS 1 0 s.typV s.typ.nameV q.1 [] [] [], q.2)) := Lib.hid (by simp only [stS, hv0, varS, hq]; simp)
 obtain ⟨RR, hRR⟩ : ∃ RR, stS b s = RR := ⟨_, rfl⟩
 rw [hRR] at HRE ⊢
 have hlt := h.lt
 have hle0 := h.le
 obtain ⟨W1, hW1⟩ : ∃ W1, w.alloc (.cells #[.int .i64 0, .int .i32 0, .string ⟨#[]⟩, .string ⟨#[]⟩, .slice none 0 0, .slice none 0 0, .slice none 0 0, .slice none 0 0, .int .i64 0] 118) = W1 := ⟨_, rfl⟩
 have hb : Below w.heap.size w W1 := by rw [← hW1]; exact (Below.refl _ w).alloc (Nat.le_refl _) _
 have hx : Bx W1 w.heap.size #[.int .i64 0, .int .i32 0, .string ⟨#[]⟩, .string ⟨#[]⟩, .slice none 0 0, .slice none 0 0, .slice none 0 0, .slice none 0 0, .int .i64 0] 118 := by rw [← hW1]; exact Bx.new _ _ _
 have hz : W1.heap.size = w.heap.size + 1 := by rw [← hW1]; simp
 have HM := Lib.hid (Mv.below hb h)
 have HB := Lib.hid hx
 clear hb hx
 have V := Lib.hid (show Calls Tryz.prog 154 #[.pointer (some ⟨c, 0, none⟩)] W1 (fun e w' => e = .returned (.bool true) ∧ W1 = w') from by have := var_any W0 W1 c s HM.out.2; rw [hv0] at this; exact this)
 have HT : Hid (∀ w', Rd W0 c (s) w' → Calls Tryz.prog 88 #[.pointer (some ⟨c, 0, none⟩)] w' fun e w'' => e = .returned (.string s.typV) ∧ Mv W0 c (s.typ) w' w'') := by
   show ∀ w', _
   intro w' h'; exact type_any W0 w' c _ h'
 have HNM : Hid (∀ w', Rd W0 c (s.typ) w' → Calls Tryz.prog 87 #[.pointer (some ⟨c, 0, none⟩)] w' fun e w'' => e = .returned (.string s.typ.nameV) ∧ Mv W0 c (s.typ.name) w' w'') := by
   show ∀ w', _
   intro w' h'; exact nameR_any W0 w' c _ h'
 have HC : Hid (∀ w', Rd W0 c (s.typ.name) w' → Calls Tryz.prog 155 #[.pointer (some ⟨c, 0, none⟩)] w' (LsC W0 c w' q)) := by
   show ∀ w', _
   intro w' h'; have := valE_of HE W0 w' c _ hv h'; rw [hq] at this; exact this
 obtain ⟨tyv, htye⟩ : ∃ tyv, s.typV = tyv := ⟨_, rfl⟩
 obtain ⟨nmv, hnme⟩ : ∃ nmv, s.typ.nameV = nmv := ⟨_, rfl⟩
 rw [htye] at hty HRE HT
 rw [hnme] at hnm HRE HNM
 clear hRR hq h hv hn HE HAR HBL hbl hv0 htye hnme
 go_enter Tryz.func140, Tryz.ntmps140
 go_wp2_with fail
 refine V.out.mono ?_
 clear V
 rintro e w2 ⟨rfl, rfl⟩
 go_wp2_with fail
 refine (HT.out _ HM.out.2).mono ?_
 clear HT hW1
 rintro e w2 ⟨rfl, hm⟩
 replace HM := Lib.hid (HM.out.trans hm)
 replace HB := Lib.hid (Bx.grown HB.out hm.1 (by omega))
 have hs2 := hm.1.size
 clear hm
 go_wp2_with fail
 refine (HNM.out _ HM.out.2).mono ?_
 clear HNM
 rintro e w3 ⟨rfl, hm⟩
 replace HM := Lib.hid (HM.out.trans hm)
 replace HB := Lib.hid (Bx.grown HB.out hm.1 (by omega))
 have hs3 := hm.1.size
 clear hm
 go_wp2_with fail
 refine (HC.out _ HM.out.2).mono ?_
 clear HC
 rintro e w4 ⟨v1, ys1, rfl, ho, hq1, hm⟩
 obtain ⟨A1, c1, rfl⟩ := ho.form
 have hf1 := (FkL.x ho.own.fk).mono (show w.heap.size + 1 ≤ _ by omega)
 have HQ1 := Lib.hid hq1
 clear ho hq1
 replace HM := Lib.hid (HM.out.trans hm)
 replace HB := Lib.hid (Bx.grown HB.out hm.1 (by omega))
 have hs4 := hm.1.size
 clear hm
 have HF1 := Lib.hid hf1
 clear hf1
 obtain ⟨r0, r1, r2, r3, r4, r5, r6, r7, r8⟩ := HB.out.all_9
 have g0 := HB.out.fro 0; have g1 := HB.out.fro 1; have g2 := HB.out.fro 2; have g3 := HB.out.fro 3; have g4 := HB.out.fro 4; have g5 := HB.out.fro 5; have g6 := HB.out.fro 6; have g7 := HB.out.fro 7; have g8 := HB.out.fro 8
 have HG := Lib.hid (grown_9 w4 w.heap.size (.int .i64 1) (.int .i32 0) (.string tyv) (.string nmv) (.slice A1 ys1.length c1) (.slice none 0 0) (.slice none 0 0) (.slice none 0 0) (.int .i64 0))
 go_wp2_with fail
 obtain ⟨z0, z1, z2, z3, z4, z5, z6, z7, z8⟩ := (HB.out.to_9 (.int .i64 1) (.int .i32 0) (.string tyv) (.string nmv) (.slice A1 ys1.length c1) (.slice none 0 0) (.slice none 0 0) (.slice none 0 0) (.int .i64 0)).all_9
 (try simp only [Exit.inBlock, Exit.then])
 refine bodyPost_ret (v := .agg #[.int .i64 1, .int .i32 0, .string tyv, .string nmv, .slice A1 ys1.length c1, .slice none 0 0, .slice none 0 0, .slice none 0 0, .int .i64 0]) (by simp [results, Tryz.results140, go_sem, z0, z1, z2, z3, z4, z5, z6, z7, z8]) rfl ?_
 rw [HRE.out]
 refine ⟨.st (1) (0) tyv nmv (.slice A1 ys1.length c1) (.slice none 0 0) (.slice none 0 0) (.slice none 0 0) ys1 [] [] [] 0, rfl, ⟨_, _, _, _, A1, none, none, none, c1, 0, 0, 0, ys1, [], [], [], rfl⟩, ?_, Mv.over (Below.refl _ _) HM.out HG.out (Nat.le_refl _) hlt⟩
 exact ((st_node (B := w.heap.size + 1) ⟨hty, hnm⟩ HF1.out.fk (FkL.nil _ _ _) (FkL.nil _ _ _) (FkL.nil _ _ _) HQ1.out rfl rfl rfl).grown HG.out (.inl (by omega))).mono (by omega)
theorem stmt_if (HE : ExAny) (HAR : ArAny) (n : Nat) (b : Rb) (HBL : SpecK n b) (hbl : ∀ s, (b s).2.len ≤ s.len) (W0 w : World) (c : Nat) (s : RS) (hv : Vars W0) (h : Rd W0 c s w) (hn : 4 * s.len ≤ n) (hv0 : s.varB = false) (h0 : s.sees 0 kIf = true) : Calls Tryz.prog 140 #[.pointer (some ⟨c, 0, none⟩)] w (StC W0 c w (stS b s)) := by
 have hle := sees_len h0
 have hls := len_skip s
 have HRE : Hid (stS b s = choS b s.skip) := Lib.hid (by simp only [stS, hv0, h0]; simp)
 obtain ⟨RR, hRR⟩ : ∃ RR, stS b s = RR := ⟨_, rfl⟩
 rw [hRR] at HRE ⊢
 have hlt := h.lt
 have hle0 := h.le
 obtain ⟨W1, hW1⟩ : ∃ W1, w.alloc (.cells #[.int .i64 0, .int .i32 0, .string ⟨#[]⟩, .string ⟨#[]⟩, .slice none 0 0, .slice none 0 0, .slice none 0 0, .slice none 0 0, .int .i64 0] 118) = W1 := ⟨_, rfl⟩
 have hb : Below w.heap.size w W1 := by rw [← hW1]; exact (Below.refl _ w).alloc (Nat.le_refl _) _
 have hx : Bx W1 w.heap.size #[.int .i64 0, .int .i32 0, .string ⟨#[]⟩, .string ⟨#[]⟩, .slice none 0 0, .slice none 0 0, .slice none 0 0, .slice none 0 0, .int .i64 0] 118 := by rw [← hW1]; exact Bx.new _ _ _
 have hz : W1.heap.size = w.heap.size + 1 := by rw [← hW1]; simp
 have HM := Lib.hid (Mv.below hb h)
 have HB := Lib.hid hx
 clear hb hx
 have V := Lib.hid (show Calls Tryz.prog 154 #[.pointer (some ⟨c, 0, none⟩)] W1 (fun e w' => e = .returned (.bool false) ∧ W1 = w') from by have := var_any W0 W1 c s HM.out.2; rw [hv0] at this; exact this)
 have T0 := Lib.hid (take_true W0 W1 c s kIf HM.out.2 h0)
 have HS : Hid (∀ w', Rd W0 c (s.skip) w' → Calls Tryz.prog 156 #[.pointer (some ⟨c, 0, none⟩)] w' (StC W0 c w' RR)) := by
   show ∀ w', _
   intro w' h'; have := choice_of HE n b HBL hbl W0 w' c _ hv h' (by omega); rw [HRE.out]; exact this
 clear hRR h hv hn HE HAR HBL hbl hv0 h0 hle hls
 go_enter Tryz.func140, Tryz.ntmps140
 go_wp2_with fail
 refine V.out.mono ?_
 clear V
 rintro e w2 ⟨rfl, rfl⟩
 go_wp2_with fail
 refine T0.out.mono ?_
 clear T0 hW1
 rintro e w2 ⟨rfl, hm⟩
 replace HM := Lib.hid (HM.out.trans hm)
 replace HB := Lib.hid (Bx.grown HB.out hm.1 (by omega))
 have hs2 := hm.1.size
 clear hm
 go_wp2_with fail
 refine (HS.out _ HM.out.2).mono ?_
 clear HS
 intro e w3 hst
 obtain ⟨k, m, ty, nm, A1, A2, A3, A4, c1, c2, c3, c4, l1, l2, l3, l4, rfl, hk, hm⟩ := hst.open
 clear hst
 have HK := Lib.hid (hk.mono (show w.heap.size + 1 ≤ _ by omega))
 replace HB := Lib.hid (Bx.grown HB.out hm.1 (by omega))
 replace HM := Lib.hid (HM.out.trans hm)
 clear hk hm
 obtain ⟨r0, r1, r2, r3, r4, r5, r6, r7, r8⟩ := HB.out.all_9
 have g0 := HB.out.fro 0; have g1 := HB.out.fro 1; have g2 := HB.out.fro 2; have g3 := HB.out.fro 3; have g4 := HB.out.fro 4; have g5 := HB.out.fro 5; have g6 := HB.out.fro 6; have g7 := HB.out.fro 7; have g8 := HB.out.fro 8
 have HG := Lib.hid (grown_9 w3 w.heap.size (.int .i64 k) (.int .i32 m) (.string ty) (.string nm) (.slice A1 l1.length c1) (.slice A2 l2.length c2) (.slice A3 l3.length c3) (.slice A4 l4.length c4) (.int .i64 0))
 go_wp2_with fail
 obtain ⟨z0, z1, z2, z3, z4, z5, z6, z7, z8⟩ := (HB.out.to_9 (.int .i64 k) (.int .i32 m) (.string ty) (.string nm) (.slice A1 l1.length c1) (.slice A2 l2.length c2) (.slice A3 l3.length c3) (.slice A4 l4.length c4) (.int .i64 0)).all_9
 (try simp only [Exit.inBlock, Exit.then])
 refine bodyPost_ret (v := .agg #[.int .i64 k, .int .i32 m, .string ty, .string nm, .slice A1 l1.length c1, .slice A2 l2.length c2, .slice A3 l3.length c3, .slice A4 l4.length c4, .int .i64 0]) (by simp [results, Tryz.results140, go_sem, z0, z1, z2, z3, z4, z5, z6, z7, z8]) rfl ?_
 exact ⟨_, rfl, ⟨_, _, _, _, _, _, _, _, _, _, _, _, _, _, _, _, rfl⟩, (HK.out.grown HG.out (.inl (by omega))).mono (by omega), Mv.over (Below.refl _ _) HM.out HG.out (Nat.le_refl _) hlt⟩
theorem stmt_return (HE : ExAny) (HAR : ArAny) (n : Nat) (b : Rb) (HBL : SpecK n b) (hbl : ∀ s, (b s).2.len ≤ s.len) (W0 w : World) (c : Nat) (s : RS) (hv : Vars W0) (h : Rd W0 c s w) (hn : 4 * s.len ≤ n) (hv0 : s.varB = false) (h0 : s.sees 0 kIf = false) (h1 : s.sees 0 kWhile = false) (h2 : s.sees 0 kReturn = true) : Calls Tryz.prog 140 #[.pointer (some ⟨c, 0, none⟩)] w (StC W0 c w (stS b s)) := by
 have hle := sees_len h2
 have hls := len_skip s
 have HRE : Hid (stS b s = resS s.skip) := Lib.hid (by simp only [stS, hv0, h0, h1, h2]; simp)
 obtain ⟨RR, hRR⟩ : ∃ RR, stS b s = RR := ⟨_, rfl⟩
 rw [hRR] at HRE ⊢
 have hlt := h.lt
 have hle0 := h.le
 obtain ⟨W1, hW1⟩ : ∃ W1, w.alloc (.cells #[.int .i64 0, .int .i32 0, .string ⟨#[]⟩, .string ⟨#[]⟩, .slice none 0 0, .slice none 0 0, .slice none 0 0, .slice none 0 0, .int .i64 0] 118) = W1 := ⟨_, rfl⟩
 have hb : Below w.heap.size w W1 := by rw [← hW1]; exact (Below.refl _ w).alloc (Nat.le_refl _) _
 have hx : Bx W1 w.heap.size #[.int .i64 0, .int .i32 0, .string ⟨#[]⟩, .string ⟨#[]⟩, .slice none 0 0, .slice none 0 0, .slice none 0 0, .slice none 0 0, .int .i64 0] 118 := by rw [← hW1]; exact Bx.new _ _ _
 have hz : W1.heap.size = w.heap.size + 1 := by rw [← hW1]; simp
 have HM := Lib.hid (Mv.below hb h)
 have HB := Lib.hid hx
 clear hb hx
 have V := Lib.hid (show Calls Tryz.prog 154 #[.pointer (some ⟨c, 0, none⟩)] W1 (fun e w' => e = .returned (.bool false) ∧ W1 = w') from by have := var_any W0 W1 c s HM.out.2; rw [hv0] at this; exact this)
 have T0 := Lib.hid (take_false W0 W1 c s kIf HM.out.2 h0)
 have T1 := Lib.hid (take_false W0 W1 c s kWhile HM.out.2 h1)
 have T2 := Lib.hid (take_true W0 W1 c s kReturn HM.out.2 h2)
 have HS : Hid (∀ w', Rd W0 c (s.skip) w' → Calls Tryz.prog 158 #[.pointer (some ⟨c, 0, none⟩)] w' (StC W0 c w' RR)) := by
   show ∀ w', _
   intro w' h'; have := result_of HE W0 w' c _ hv h'; rw [HRE.out]; exact this
 clear hRR h hv hn HE HAR HBL hbl hv0 h0 h1 h2 hle hls
 go_enter Tryz.func140, Tryz.ntmps140
 go_wp2_with fail
 refine V.out.mono ?_
 clear V
 rintro e w2 ⟨rfl, rfl⟩
 go_wp2_with fail
 refine T0.out.mono ?_
 clear T0
 rintro e w2 ⟨rfl, rfl⟩
 go_wp2_with fail
 refine T1.out.mono ?_
 clear T1
 rintro e w2 ⟨rfl, rfl⟩
 go_wp2_with fail
 refine T2.out.mono ?_
 clear T2 hW1
 rintro e w2 ⟨rfl, hm⟩
 replace HM := Lib.hid (HM.out.trans hm)
 replace HB := Lib.hid (Bx.grown HB.out hm.1 (by omega))
 have hs2 := hm.1.size
 clear hm
 go_wp2_with fail
 refine (HS.out _ HM.out.2).mono ?_
 clear HS
 intro e w3 hst
 obtain ⟨k, m, ty, nm, A1, A2, A3, A4, c1, c2, c3, c4, l1, l2, l3, l4, rfl, hk, hm⟩ := hst.open
 clear hst
 have HK := Lib.hid (hk.mono (show w.heap.size + 1 ≤ _ by omega))
 replace HB := Lib.hid (Bx.grown HB.out hm.1 (by omega))
 replace HM := Lib.hid (HM.out.trans hm)
 clear hk hm
 obtain ⟨r0, r1, r2, r3, r4, r5, r6, r7, r8⟩ := HB.out.all_9
 have g0 := HB.out.fro 0; have g1 := HB.out.fro 1; have g2 := HB.out.fro 2; have g3 := HB.out.fro 3; have g4 := HB.out.fro 4; have g5 := HB.out.fro 5; have g6 := HB.out.fro 6; have g7 := HB.out.fro 7; have g8 := HB.out.fro 8
 have HG := Lib.hid (grown_9 w3 w.heap.size (.int .i64 k) (.int .i32 m) (.string ty) (.string nm) (.slice A1 l1.length c1) (.slice A2 l2.length c2) (.slice A3 l3.length c3) (.slice A4 l4.length c4) (.int .i64 0))
 go_wp2_with fail
 obtain ⟨z0, z1, z2, z3, z4, z5, z6, z7, z8⟩ := (HB.out.to_9 (.int .i64 k) (.int .i32 m) (.string ty) (.string nm) (.slice A1 l1.length c1) (.slice A2 l2.length c2) (.slice A3 l3.length c3) (.slice A4 l4.length c4) (.int .i64 0)).all_9
 (try simp only [Exit.inBlock, Exit.then])
 refine bodyPost_ret (v := .agg #[.int .i64 k, .int .i32 m, .string ty, .string nm, .slice A1 l1.length c1, .slice A2 l2.length c2, .slice A3 l3.length c3, .slice A4 l4.length c4, .int .i64 0]) (by simp [results, Tryz.results140, go_sem, z0, z1, z2, z3, z4, z5, z6, z7, z8]) rfl ?_
 exact ⟨_, rfl, ⟨_, _, _, _, _, _, _, _, _, _, _, _, _, _, _, _, rfl⟩, (HK.out.grown HG.out (.inl (by omega))).mono (by omega), Mv.over (Below.refl _ _) HM.out HG.out (Nat.le_refl _) hlt⟩
theorem stmt_try (HE : ExAny) (HAR : ArAny) (n : Nat) (b : Rb) (HBL : SpecK n b) (hbl : ∀ s, (b s).2.len ≤ s.len) (W0 w : World) (c : Nat) (s : RS) (hv : Vars W0) (h : Rd W0 c s w) (hn : 4 * s.len ≤ n) (hv0 : s.varB = false) (h0 : s.sees 0 kIf = false) (h1 : s.sees 0 kWhile = false) (h2 : s.sees 0 kReturn = false) (h3 : s.sees 0 kPrint = false) (h4 : s.sees 0 kAssert = false) (h5 : s.sees 0 kThrow = false) (h6 : s.sees 0 kTry = true) : Calls Tryz.prog 140 #[.pointer (some ⟨c, 0, none⟩)] w (StC W0 c w (stS b s)) := by
 have hle := sees_len h6
 have hls := len_skip s
 have HRE : Hid (stS b s = attS b s.skip) := Lib.hid (by simp only [stS, hv0, h0, h1, h2, h3, h4, h5, h6]; simp)
 obtain ⟨RR, hRR⟩ : ∃ RR, stS b s = RR := ⟨_, rfl⟩
 rw [hRR] at HRE ⊢
 have hlt := h.lt
 have hle0 := h.le
 obtain ⟨W1, hW1⟩ : ∃ W1, w.alloc (.cells #[.int .i64 0, .int .i32 0, .string ⟨#[]⟩, .string ⟨#[]⟩, .slice none 0 0, .slice none 0 0, .slice none 0 0, .slice none 0 0, .int .i64 0] 118) = W1 := ⟨_, rfl⟩
 have hb : Below w.heap.size w W1 := by rw [← hW1]; exact (Below.refl _ w).alloc (Nat.le_refl _) _
 have hx : Bx W1 w.heap.size #[.int .i64 0, .int .i32 0, .string ⟨#[]⟩, .string ⟨#[]⟩, .slice none 0 0, .slice none 0 0, .slice none 0 0, .slice none 0 0, .int .i64 0] 118 := by rw [← hW1]; exact Bx.new _ _ _
 have hz : W1.heap.size = w.heap.size + 1 := by rw [← hW1]; simp
 have HM := Lib.hid (Mv.below hb h)
 have HB := Lib.hid hx
 clear hb hx
 have V := Lib.hid (show Calls Tryz.prog 154 #[.pointer (some ⟨c, 0, none⟩)] W1 (fun e w' => e = .returned (.bool false) ∧ W1 = w') from by have := var_any W0 W1 c s HM.out.2; rw [hv0] at this; exact this)
 have T0 := Lib.hid (take_false W0 W1 c s kIf HM.out.2 h0)
 have T1 := Lib.hid (take_false W0 W1 c s kWhile HM.out.2 h1)
 have T2 := Lib.hid (take_false W0 W1 c s kReturn HM.out.2 h2)
 have T3 := Lib.hid (take_false W0 W1 c s kPrint HM.out.2 h3)
 have T4 := Lib.hid (take_false W0 W1 c s kAssert HM.out.2 h4)
 have T5 := Lib.hid (take_false W0 W1 c s kThrow HM.out.2 h5)
 have T6 := Lib.hid (take_true W0 W1 c s kTry HM.out.2 h6)
 have HS : Hid (∀ w', Rd W0 c (s.skip) w' → Calls Tryz.prog 160 #[.pointer (some ⟨c, 0, none⟩)] w' (StC W0 c w' RR)) := by
   show ∀ w', _
   intro w' h'; have := attempt_of HE n b HBL hbl W0 w' c _ hv h' (by omega); rw [HRE.out]; exact this
 clear hRR h hv hn HE HAR HBL hbl hv0 h0 h1 h2 h3 h4 h5 h6 hle hls
 go_enter Tryz.func140, Tryz.ntmps140
 go_wp2_with fail
 refine V.out.mono ?_
 clear V
 rintro e w2 ⟨rfl, rfl⟩
 go_wp2_with fail
 refine T0.out.mono ?_
 clear T0
 rintro e w2 ⟨rfl, rfl⟩
 go_wp2_with fail
 refine T1.out.mono ?_
 clear T1
 rintro e w2 ⟨rfl, rfl⟩
 go_wp2_with fail
 refine T2.out.mono ?_
 clear T2
 rintro e w2 ⟨rfl, rfl⟩
 go_wp2_with fail
 refine T3.out.mono ?_
 clear T3
 rintro e w2 ⟨rfl, rfl⟩
 go_wp2_with fail
 refine T4.out.mono ?_
 clear T4
 rintro e w2 ⟨rfl, rfl⟩
 go_wp2_with fail
 refine T5.out.mono ?_
 clear T5
 rintro e w2 ⟨rfl, rfl⟩
 go_wp2_with fail
 refine T6.out.mono ?_
 clear T6 hW1
 rintro e w2 ⟨rfl, hm⟩
 replace HM := Lib.hid (HM.out.trans hm)
 replace HB := Lib.hid (Bx.grown HB.out hm.1 (by omega))
 have hs2 := hm.1.size
 clear hm
 go_wp2_with fail
 refine (HS.out _ HM.out.2).mono ?_
 clear HS
 intro e w3 hst
 obtain ⟨k, m, ty, nm, A1, A2, A3, A4, c1, c2, c3, c4, l1, l2, l3, l4, rfl, hk, hm⟩ := hst.open
 clear hst
 have HK := Lib.hid (hk.mono (show w.heap.size + 1 ≤ _ by omega))
 replace HB := Lib.hid (Bx.grown HB.out hm.1 (by omega))
 replace HM := Lib.hid (HM.out.trans hm)
 clear hk hm
 obtain ⟨r0, r1, r2, r3, r4, r5, r6, r7, r8⟩ := HB.out.all_9
 have g0 := HB.out.fro 0; have g1 := HB.out.fro 1; have g2 := HB.out.fro 2; have g3 := HB.out.fro 3; have g4 := HB.out.fro 4; have g5 := HB.out.fro 5; have g6 := HB.out.fro 6; have g7 := HB.out.fro 7; have g8 := HB.out.fro 8
 have HG := Lib.hid (grown_9 w3 w.heap.size (.int .i64 k) (.int .i32 m) (.string ty) (.string nm) (.slice A1 l1.length c1) (.slice A2 l2.length c2) (.slice A3 l3.length c3) (.slice A4 l4.length c4) (.int .i64 0))
 go_wp2_with fail
 obtain ⟨z0, z1, z2, z3, z4, z5, z6, z7, z8⟩ := (HB.out.to_9 (.int .i64 k) (.int .i32 m) (.string ty) (.string nm) (.slice A1 l1.length c1) (.slice A2 l2.length c2) (.slice A3 l3.length c3) (.slice A4 l4.length c4) (.int .i64 0)).all_9
 (try simp only [Exit.inBlock, Exit.then])
 refine bodyPost_ret (v := .agg #[.int .i64 k, .int .i32 m, .string ty, .string nm, .slice A1 l1.length c1, .slice A2 l2.length c2, .slice A3 l3.length c3, .slice A4 l4.length c4, .int .i64 0]) (by simp [results, Tryz.results140, go_sem, z0, z1, z2, z3, z4, z5, z6, z7, z8]) rfl ?_
 exact ⟨_, rfl, ⟨_, _, _, _, _, _, _, _, _, _, _, _, _, _, _, _, rfl⟩, (HK.out.grown HG.out (.inl (by omega))).mono (by omega), Mv.over (Below.refl _ _) HM.out HG.out (Nat.le_refl _) hlt⟩
theorem stmt_while (HE : ExAny) (HAR : ArAny) (n : Nat) (b : Rb) (HBL : SpecK n b) (hbl : ∀ s, (b s).2.len ≤ s.len) (W0 w : World) (c : Nat) (s : RS) (hv : Vars W0) (h : Rd W0 c s w) (hn : 4 * s.len ≤ n) (hv0 : s.varB = false) (h0 : s.sees 0 kIf = false) (h1 : s.sees 0 kWhile = true) : Calls Tryz.prog 140 #[.pointer (some ⟨c, 0, none⟩)] w (StC W0 c w (stS b s)) := by
 have hle := sees_len h1
 have hls := len_skip s
 obtain ⟨q, hq⟩ : ∃ q, cond s.skip = q := ⟨_, rfl⟩
 obtain ⟨a, ha⟩ : ∃ a, b q.2 = a := ⟨_, rfl⟩
 have hl1 : q.2.len ≤ s.skip.len - 1 := by rw [← hq]; exact len_cond _
 have HRE : Hid (stS b s = (mkS 5 0 E0 E0 q.1 a.1 [] [], a.2)) := Lib.hid (by simp only [stS, hv0, h0, h1, whlS, hq, ha]; simp)
 obtain ⟨RR, hRR⟩ : ∃ RR, stS b s = RR := ⟨_, rfl⟩
 rw [hRR] at HRE ⊢
 have hlt := h.lt
 have hle0 := h.le
 obtain ⟨W1, hW1⟩ : ∃ W1, w.alloc (.cells #[.int .i64 0, .int .i32 0, .string ⟨#[]⟩, .string ⟨#[]⟩, .slice none 0 0, .slice none 0 0, .slice none 0 0, .slice none 0 0, .int .i64 0] 118) = W1 := ⟨_, rfl⟩
 have hb : Below w.heap.size w W1 := by rw [← hW1]; exact (Below.refl _ w).alloc (Nat.le_refl _) _
 have hx : Bx W1 w.heap.size #[.int .i64 0, .int .i32 0, .string ⟨#[]⟩, .string ⟨#[]⟩, .slice none 0 0, .slice none 0 0, .slice none 0 0, .slice none 0 0, .int .i64 0] 118 := by rw [← hW1]; exact Bx.new _ _ _
 have hz : W1.heap.size = w.heap.size + 1 := by rw [← hW1]; simp
 have HM := Lib.hid (Mv.below hb h)
 have HB := Lib.hid hx
 clear hb hx
 have V := Lib.hid (show Calls Tryz.prog 154 #[.pointer (some ⟨c, 0, none⟩)] W1 (fun e w' => e = .returned (.bool false) ∧ W1 = w') from by have := var_any W0 W1 c s HM.out.2; rw [hv0] at this; exact this)
 have T0 := Lib.hid (take_false W0 W1 c s kIf HM.out.2 h0)
 have T1 := Lib.hid (take_true W0 W1 c s kWhile HM.out.2 h1)
 have HC : Hid (∀ w', Rd W0 c (s.skip) w' → Calls Tryz.prog 157 #[.pointer (some ⟨c, 0, none⟩)] w' (LsC W0 c w' q)) := by
   show ∀ w', _
   intro w' h'; have := cond_of HE W0 w' c _ hv h'; rw [hq] at this; exact this
 have HA : Hid (∀ w', Rd W0 c (q.2) w' → Calls Tryz.prog 119 #[.pointer (some ⟨c, 0, none⟩)] w' (BlC W0 c w' a)) := by
   show ∀ w', _
   intro w' h'; have := HBL W0 w' c _ hv h' (by omega); rw [ha] at this; exact this
 clear hRR hq ha hl1 h hv hn HE HAR HBL hbl hv0 h0 h1 hle hls
 go_enter Tryz.func140, Tryz.ntmps140
 go_wp2_with fail
 refine V.out.mono ?_
 clear V
 rintro e w2 ⟨rfl, rfl⟩
 go_wp2_with fail
 refine T0.out.mono ?_
 clear T0
 rintro e w2 ⟨rfl, rfl⟩
 go_wp2_with fail
 refine T1.out.mono ?_
 clear T1 hW1
 rintro e w2 ⟨rfl, hm⟩
 replace HM := Lib.hid (HM.out.trans hm)
 replace HB := Lib.hid (Bx.grown HB.out hm.1 (by omega))
 have hs2 := hm.1.size
 clear hm
 go_wp2_with fail
 refine (HC.out _ HM.out.2).mono ?_
 clear HC
 rintro e w3 ⟨v1, ys1, rfl, ho, hq1, hm⟩
 obtain ⟨A1, c1, rfl⟩ := ho.form
 have hf1 := (FkL.x ho.own.fk).mono (show w.heap.size + 1 ≤ _ by omega)
 have HQ1 := Lib.hid hq1
 clear ho hq1
 replace HM := Lib.hid (HM.out.trans hm)
 replace HB := Lib.hid (Bx.grown HB.out hm.1 (by omega))
 have hs3 := hm.1.size
 clear hm
 have HF1 := Lib.hid hf1
 clear hf1
 go_wp2_with fail
 refine (HA.out _ HM.out.2).mono ?_
 clear HA
 rintro e w4 ⟨v2, ys2, rfl, ho, hq2, hm⟩
 obtain ⟨A2, c2, rfl⟩ := fk_len ho
 have hf2 := (FkL.x ho).mono (show w.heap.size + 1 ≤ _ by omega)
 have HQ2 := Lib.hid hq2
 clear ho hq2
 replace HM := Lib.hid (HM.out.trans hm)
 replace HB := Lib.hid (Bx.grown HB.out hm.1 (by omega))
 replace HF1 := Lib.hid (HF1.out.grown hm.1 (.inl (by omega)))
 have hs4 := hm.1.size
 clear hm
 have HF2 := Lib.hid hf2
 clear hf2
 obtain ⟨r0, r1, r2, r3, r4, r5, r6, r7, r8⟩ := HB.out.all_9
 have g0 := HB.out.fro 0; have g1 := HB.out.fro 1; have g2 := HB.out.fro 2; have g3 := HB.out.fro 3; have g4 := HB.out.fro 4; have g5 := HB.out.fro 5; have g6 := HB.out.fro 6; have g7 := HB.out.fro 7; have g8 := HB.out.fro 8
 have HG := Lib.hid (grown_9 w4 w.heap.size (.int .i64 5) (.int .i32 0) (.string ⟨#[]⟩) (.string ⟨#[]⟩) (.slice A1 ys1.length c1) (.slice A2 ys2.length c2) (.slice none 0 0) (.slice none 0 0) (.int .i64 0))
 go_wp2_with fail
 obtain ⟨z0, z1, z2, z3, z4, z5, z6, z7, z8⟩ := (HB.out.to_9 (.int .i64 5) (.int .i32 0) (.string ⟨#[]⟩) (.string ⟨#[]⟩) (.slice A1 ys1.length c1) (.slice A2 ys2.length c2) (.slice none 0 0) (.slice none 0 0) (.int .i64 0)).all_9
 (try simp only [Exit.inBlock, Exit.then])
 refine bodyPost_ret (v := .agg #[.int .i64 5, .int .i32 0, .string ⟨#[]⟩, .string ⟨#[]⟩, .slice A1 ys1.length c1, .slice A2 ys2.length c2, .slice none 0 0, .slice none 0 0, .int .i64 0]) (by simp [results, Tryz.results140, go_sem, z0, z1, z2, z3, z4, z5, z6, z7, z8]) rfl ?_
 rw [HRE.out]
 refine ⟨.st (5) (0) ⟨#[]⟩ ⟨#[]⟩ (.slice A1 ys1.length c1) (.slice A2 ys2.length c2) (.slice none 0 0) (.slice none 0 0) ys1 ys2 [] [] 0, rfl, ⟨_, _, _, _, A1, A2, none, none, c1, c2, 0, 0, ys1, ys2, [], [], rfl⟩, ?_, Mv.over (Below.refl _ _) HM.out HG.out (Nat.le_refl _) hlt⟩
 exact ((st_node (B := w.heap.size + 1) ⟨Nat.zero_le _, Nat.zero_le _⟩ HF1.out.fk HF2.out.fk (FkL.nil _ _ _) (FkL.nil _ _ _) HQ1.out HQ2.out rfl rfl).grown HG.out (.inl (by omega))).mono (by omega)
theorem stmt_print (HE : ExAny) (HAR : ArAny) (n : Nat) (b : Rb) (HBL : SpecK n b) (hbl : ∀ s, (b s).2.len ≤ s.len) (W0 w : World) (c : Nat) (s : RS) (hv : Vars W0) (h : Rd W0 c s w) (hn : 4 * s.len ≤ n) (hv0 : s.varB = false) (h0 : s.sees 0 kIf = false) (h1 : s.sees 0 kWhile = false) (h2 : s.sees 0 kReturn = false) (h3 : s.sees 0 kPrint = true) : Calls Tryz.prog 140 #[.pointer (some ⟨c, 0, none⟩)] w (StC W0 c w (stS b s)) := by
 obtain ⟨q, hq⟩ : ∃ q, finE s.skip = q := ⟨_, rfl⟩
 have HRE : Hid (stS b s = (mkS 7 0 E0 E0 q.1 [] [] [], q.2)) := Lib.hid (by simp only [stS, hv0, h0, h1, h2, h3, hq]; simp)
 obtain ⟨RR, hRR⟩ : ∃ RR, stS b s = RR := ⟨_, rfl⟩
 rw [hRR] at HRE ⊢
 have hlt := h.lt
 have hle0 := h.le
 obtain ⟨W1, hW1⟩ : ∃ W1, w.alloc (.cells #[.int .i64 0, .int .i32 0, .string ⟨#[]⟩, .string ⟨#[]⟩, .slice none 0 0, .slice none 0 0, .slice none 0 0, .slice none 0 0, .int .i64 0] 118) = W1 := ⟨_, rfl⟩
 have hb : Below w.heap.size w W1 := by rw [← hW1]; exact (Below.refl _ w).alloc (Nat.le_refl _) _
 have hx : Bx W1 w.heap.size #[.int .i64 0, .int .i32 0, .string ⟨#[]⟩, .string ⟨#[]⟩, .slice none 0 0, .slice none 0 0, .slice none 0 0, .slice none 0 0, .int .i64 0] 118 := by rw [← hW1]; exact Bx.new _ _ _
 have hz : W1.heap.size = w.heap.size + 1 := by rw [← hW1]; simp
 have HM := Lib.hid (Mv.below hb h)
 have HB := Lib.hid hx
 clear hb hx
 have V := Lib.hid (show Calls Tryz.prog 154 #[.pointer (some ⟨c, 0, none⟩)] W1 (fun e w' => e = .returned (.bool false) ∧ W1 = w') from by have := var_any W0 W1 c s HM.out.2; rw [hv0] at this; exact this)
 have T0 := Lib.hid (take_false W0 W1 c s kIf HM.out.2 h0)
 have T1 := Lib.hid (take_false W0 W1 c s kWhile HM.out.2 h1)
 have T2 := Lib.hid (take_false W0 W1 c s kReturn HM.out.2 h2)
 have T3 := Lib.hid (take_true W0 W1 c s kPrint HM.out.2 h3)
 have HC : Hid (∀ w', Rd W0 c (s.skip) w' → Calls Tryz.prog 159 #[.pointer (some ⟨c, 0, none⟩)] w' (LsC W0 c w' q)) := by
   show ∀ w', _
   intro w' h'; have := finE_of HE W0 w' c _ hv h'; rw [hq] at this; exact this
 clear hRR hq h hv hn HE HAR HBL hbl hv0 h0 h1 h2 h3
 go_enter Tryz.func140, Tryz.ntmps140
 go_wp2_with fail
 refine V.out.mono ?_
 clear V
 rintro e w2 ⟨rfl, rfl⟩
 go_wp2_with fail
 refine T0.out.mono ?_
 clear T0
 rintro e w2 ⟨rfl, rfl⟩
 go_wp2_with fail
 refine T1.out.mono ?_
 clear T1
 rintro e w2 ⟨rfl, rfl⟩
 go_wp2_with fail
 refine T2.out.mono ?_
 clear T2
 rintro e w2 ⟨rfl, rfl⟩
 go_wp2_with fail
 refine T3.out.mono ?_
 clear T3 hW1
 rintro e w2 ⟨rfl, hm⟩
 replace HM := Lib.hid (HM.out.trans hm)
 replace HB := Lib.hid (Bx.grown HB.out hm.1 (by omega))
 have hs2 := hm.1.size
 clear hm
 go_wp2_with fail
 refine (HC.out _ HM.out.2).mono ?_
 clear HC
 rintro e w3 ⟨v1, ys1, rfl, ho, hq1, hm⟩
 obtain ⟨A1, c1, rfl⟩ := ho.form
 have hf1 := (FkL.x ho.own.fk).mono (show w.heap.size + 1 ≤ _ by omega)
 have HQ1 := Lib.hid hq1
 clear ho hq1
 replace HM := Lib.hid (HM.out.trans hm)
 replace HB := Lib.hid (Bx.grown HB.out hm.1 (by omega))
 have hs3 := hm.1.size
 clear hm
 have HF1 := Lib.hid hf1
 clear hf1
 obtain ⟨r0, r1, r2, r3, r4, r5, r6, r7, r8⟩ := HB.out.all_9
 have g0 := HB.out.fro 0; have g1 := HB.out.fro 1; have g2 := HB.out.fro 2; have g3 := HB.out.fro 3; have g4 := HB.out.fro 4; have g5 := HB.out.fro 5; have g6 := HB.out.fro 6; have g7 := HB.out.fro 7; have g8 := HB.out.fro 8
 have HG := Lib.hid (grown_9 w3 w.heap.size (.int .i64 7) (.int .i32 0) (.string ⟨#[]⟩) (.string ⟨#[]⟩) (.slice A1 ys1.length c1) (.slice none 0 0) (.slice none 0 0) (.slice none 0 0) (.int .i64 0))
 go_wp2_with fail
 obtain ⟨z0, z1, z2, z3, z4, z5, z6, z7, z8⟩ := (HB.out.to_9 (.int .i64 7) (.int .i32 0) (.string ⟨#[]⟩) (.string ⟨#[]⟩) (.slice A1 ys1.length c1) (.slice none 0 0) (.slice none 0 0) (.slice none 0 0) (.int .i64 0)).all_9
 (try simp only [Exit.inBlock, Exit.then])
 refine bodyPost_ret (v := .agg #[.int .i64 7, .int .i32 0, .string ⟨#[]⟩, .string ⟨#[]⟩, .slice A1 ys1.length c1, .slice none 0 0, .slice none 0 0, .slice none 0 0, .int .i64 0]) (by simp [results, Tryz.results140, go_sem, z0, z1, z2, z3, z4, z5, z6, z7, z8]) rfl ?_
 rw [HRE.out]
 refine ⟨.st (7) (0) ⟨#[]⟩ ⟨#[]⟩ (.slice A1 ys1.length c1) (.slice none 0 0) (.slice none 0 0) (.slice none 0 0) ys1 [] [] [] 0, rfl, ⟨_, _, _, _, A1, none, none, none, c1, 0, 0, 0, ys1, [], [], [], rfl⟩, ?_, Mv.over (Below.refl _ _) HM.out HG.out (Nat.le_refl _) hlt⟩
 exact ((st_node (B := w.heap.size + 1) ⟨Nat.zero_le _, Nat.zero_le _⟩ HF1.out.fk (FkL.nil _ _ _) (FkL.nil _ _ _) (FkL.nil _ _ _) HQ1.out rfl rfl rfl).grown HG.out (.inl (by omega))).mono (by omega)
theorem stmt_throw (HE : ExAny) (HAR : ArAny) (n : Nat) (b : Rb) (HBL : SpecK n b) (hbl : ∀ s, (b s).2.len ≤ s.len) (W0 w : World) (c : Nat) (s : RS) (hv : Vars W0) (h : Rd W0 c s w) (hn : 4 * s.len ≤ n) (hv0 : s.varB = false) (h0 : s.sees 0 kIf = false) (h1 : s.sees 0 kWhile = false) (h2 : s.sees 0 kReturn = false) (h3 : s.sees 0 kPrint = false) (h4 : s.sees 0 kAssert = false) (h5 : s.sees 0 kThrow = true) : Calls Tryz.prog 140 #[.pointer (some ⟨c, 0, none⟩)] w (StC W0 c w (stS b s)) := by
 obtain ⟨q, hq⟩ : ∃ q, finE s.skip = q := ⟨_, rfl⟩
 have HRE : Hid (stS b s = (mkS 9 0 E0 E0 q.1 [] [] [], q.2)) := Lib.hid (by simp only [stS, hv0, h0, h1, h2, h3, h4, h5, hq]; simp)
 obtain ⟨RR, hRR⟩ : ∃ RR, stS b s = RR := ⟨_, rfl⟩
 rw [hRR] at HRE ⊢
 have hlt := h.lt
 have hle0 := h.le
 obtain ⟨W1, hW1⟩ : ∃ W1, w.alloc (.cells #[.int .i64 0, .int .i32 0, .string ⟨#[]⟩, .string ⟨#[]⟩, .slice none 0 0, .slice none 0 0, .slice none 0 0, .slice none 0 0, .int .i64 0] 118) = W1 := ⟨_, rfl⟩
 have hb : Below w.heap.size w W1 := by rw [← hW1]; exact (Below.refl _ w).alloc (Nat.le_refl _) _
 have hx : Bx W1 w.heap.size #[.int .i64 0, .int .i32 0, .string ⟨#[]⟩, .string ⟨#[]⟩, .slice none 0 0, .slice none 0 0, .slice none 0 0, .slice none 0 0, .int .i64 0] 118 := by rw [← hW1]; exact Bx.new _ _ _
 have hz : W1.heap.size = w.heap.size + 1 := by rw [← hW1]; simp
 have HM := Lib.hid (Mv.below hb h)
 have HB := Lib.hid hx
 clear hb hx
 have V := Lib.hid (show Calls Tryz.prog 154 #[.pointer (some ⟨c, 0, none⟩)] W1 (fun e w' => e = .returned (.bool false) ∧ W1 = w') from by have := var_any W0 W1 c s HM.out.2; rw [hv0] at this; exact this)
 have T0 := Lib.hid (take_false W0 W1 c s kIf HM.out.2 h0)
 have T1 := Lib.hid (take_false W0 W1 c s kWhile HM.out.2 h1)
 have T2 := Lib.hid (take_false W0 W1 c s kReturn HM.out.2 h2)
 have T3 := Lib.hid (take_false W0 W1 c s kPrint HM.out.2 h3)
 have T4 := Lib.hid (take_false W0 W1 c s kAssert HM.out.2 h4)
 have T5 := Lib.hid (take_true W0 W1 c s kThrow HM.out.2 h5)
 have HC : Hid (∀ w', Rd W0 c (s.skip) w' → Calls Tryz.prog 159 #[.pointer (some ⟨c, 0, none⟩)] w' (LsC W0 c w' q)) := by
   show ∀ w', _
   intro w' h'; have := finE_of HE W0 w' c _ hv h'; rw [hq] at this; exact this
 clear hRR hq h hv hn HE HAR HBL hbl hv0 h0 h1 h2 h3 h4 h5
 go_enter Tryz.func140, Tryz.ntmps140
 go_wp2_with fail
 refine V.out.mono ?_
 clear V
 rintro e w2 ⟨rfl, rfl⟩
 go_wp2_with fail
 refine T0.out.mono ?_
 clear T0
 rintro e w2 ⟨rfl, rfl⟩
 go_wp2_with fail
 refine T1.out.mono ?_
 clear T1
 rintro e w2 ⟨rfl, rfl⟩
 go_wp2_with fail
 refine T2.out.mono ?_
 clear T2
 rintro e w2 ⟨rfl, rfl⟩
 go_wp2_with fail
 refine T3.out.mono ?_
 clear T3
 rintro e w2 ⟨rfl, rfl⟩
 go_wp2_with fail
 refine T4.out.mono ?_
 clear T4
 rintro e w2 ⟨rfl, rfl⟩
 go_wp2_with fail
 refine T5.out.mono ?_
 clear T5 hW1
 rintro e w2 ⟨rfl, hm⟩
 replace HM := Lib.hid (HM.out.trans hm)
 replace HB := Lib.hid (Bx.grown HB.out hm.1 (by omega))
 have hs2 := hm.1.size
 clear hm
 go_wp2_with fail
 refine (HC.out _ HM.out.2).mono ?_
 clear HC
 rintro e w3 ⟨v1, ys1, rfl, ho, hq1, hm⟩
 obtain ⟨A1, c1, rfl⟩ := ho.form
 have hf1 := (FkL.x ho.own.fk).mono (show w.heap.size + 1 ≤ _ by omega)
 have HQ1 := Lib.hid hq1
 clear ho hq1
 replace HM := Lib.hid (HM.out.trans hm)
 replace HB := Lib.hid (Bx.grown HB.out hm.1 (by omega))
 have hs3 := hm.1.size
 clear hm
 have HF1 := Lib.hid hf1
 clear hf1
 obtain ⟨r0, r1, r2, r3, r4, r5, r6, r7, r8⟩ := HB.out.all_9
 have g0 := HB.out.fro 0; have g1 := HB.out.fro 1; have g2 := HB.out.fro 2; have g3 := HB.out.fro 3; have g4 := HB.out.fro 4; have g5 := HB.out.fro 5; have g6 := HB.out.fro 6; have g7 := HB.out.fro 7; have g8 := HB.out.fro 8
 have HG := Lib.hid (grown_9 w3 w.heap.size (.int .i64 9) (.int .i32 0) (.string ⟨#[]⟩) (.string ⟨#[]⟩) (.slice A1 ys1.length c1) (.slice none 0 0) (.slice none 0 0) (.slice none 0 0) (.int .i64 0))
 go_wp2_with fail
 obtain ⟨z0, z1, z2, z3, z4, z5, z6, z7, z8⟩ := (HB.out.to_9 (.int .i64 9) (.int .i32 0) (.string ⟨#[]⟩) (.string ⟨#[]⟩) (.slice A1 ys1.length c1) (.slice none 0 0) (.slice none 0 0) (.slice none 0 0) (.int .i64 0)).all_9
 (try simp only [Exit.inBlock, Exit.then])
 refine bodyPost_ret (v := .agg #[.int .i64 9, .int .i32 0, .string ⟨#[]⟩, .string ⟨#[]⟩, .slice A1 ys1.length c1, .slice none 0 0, .slice none 0 0, .slice none 0 0, .int .i64 0]) (by simp [results, Tryz.results140, go_sem, z0, z1, z2, z3, z4, z5, z6, z7, z8]) rfl ?_
 rw [HRE.out]
 refine ⟨.st (9) (0) ⟨#[]⟩ ⟨#[]⟩ (.slice A1 ys1.length c1) (.slice none 0 0) (.slice none 0 0) (.slice none 0 0) ys1 [] [] [] 0, rfl, ⟨_, _, _, _, A1, none, none, none, c1, 0, 0, 0, ys1, [], [], [], rfl⟩, ?_, Mv.over (Below.refl _ _) HM.out HG.out (Nat.le_refl _) hlt⟩
 exact ((st_node (B := w.heap.size + 1) ⟨Nat.zero_le _, Nat.zero_le _⟩ HF1.out.fk (FkL.nil _ _ _) (FkL.nil _ _ _) (FkL.nil _ _ _) HQ1.out rfl rfl rfl).grown HG.out (.inl (by omega))).mono (by omega)
theorem stmt_assert (HE : ExAny) (HAR : ArAny) (n : Nat) (b : Rb) (HBL : SpecK n b) (hbl : ∀ s, (b s).2.len ≤ s.len) (W0 w : World) (c : Nat) (s : RS) (hv : Vars W0) (h : Rd W0 c s w) (hn : 4 * s.len ≤ n) (hv0 : s.varB = false) (h0 : s.sees 0 kIf = false) (h1 : s.sees 0 kWhile = false) (h2 : s.sees 0 kReturn = false) (h3 : s.sees 0 kPrint = false) (h4 : s.sees 0 kAssert = true) : Calls Tryz.prog 140 #[.pointer (some ⟨c, 0, none⟩)] w (StC W0 c w (stS b s)) := by
 obtain ⟨q, hq⟩ : ∃ q, finE (s.skip.num 9999) = q := ⟨_, rfl⟩
 have HRE : Hid (stS b s = (mkS 8 (s.skip.numR 9999) E0 E0 q.1 [] [] [], q.2)) := Lib.hid (by simp only [stS, hv0, h0, h1, h2, h3, h4, hq]; simp)
 obtain ⟨RR, hRR⟩ : ∃ RR, stS b s = RR := ⟨_, rfl⟩
 rw [hRR] at HRE ⊢
 have hlt := h.lt
 have hle0 := h.le
 obtain ⟨W1, hW1⟩ : ∃ W1, w.alloc (.cells #[.int .i64 0, .int .i32 0, .string ⟨#[]⟩, .string ⟨#[]⟩, .slice none 0 0, .slice none 0 0, .slice none 0 0, .slice none 0 0, .int .i64 0] 118) = W1 := ⟨_, rfl⟩
 have hb : Below w.heap.size w W1 := by rw [← hW1]; exact (Below.refl _ w).alloc (Nat.le_refl _) _
 have hx : Bx W1 w.heap.size #[.int .i64 0, .int .i32 0, .string ⟨#[]⟩, .string ⟨#[]⟩, .slice none 0 0, .slice none 0 0, .slice none 0 0, .slice none 0 0, .int .i64 0] 118 := by rw [← hW1]; exact Bx.new _ _ _
 have hz : W1.heap.size = w.heap.size + 1 := by rw [← hW1]; simp
 have HM := Lib.hid (Mv.below hb h)
 have HB := Lib.hid hx
 clear hb hx
 have V := Lib.hid (show Calls Tryz.prog 154 #[.pointer (some ⟨c, 0, none⟩)] W1 (fun e w' => e = .returned (.bool false) ∧ W1 = w') from by have := var_any W0 W1 c s HM.out.2; rw [hv0] at this; exact this)
 have T0 := Lib.hid (take_false W0 W1 c s kIf HM.out.2 h0)
 have T1 := Lib.hid (take_false W0 W1 c s kWhile HM.out.2 h1)
 have T2 := Lib.hid (take_false W0 W1 c s kReturn HM.out.2 h2)
 have T3 := Lib.hid (take_false W0 W1 c s kPrint HM.out.2 h3)
 have T4 := Lib.hid (take_true W0 W1 c s kAssert HM.out.2 h4)
 have HNU : Hid (∀ w', Rd W0 c s.skip w' → Calls Tryz.prog 147 #[.pointer (some ⟨c, 0, none⟩), .int .i64 9999] w' fun e w'' => e = .returned (.int .i32 (s.skip.numR 9999)) ∧ Mv W0 c (s.skip.num 9999) w' w'') := by
   show ∀ w', _
   intro w' h'; exact number_any W0 w' c _ 9999 hv h'
 have HC : Hid (∀ w', Rd W0 c (s.skip.num 9999) w' → Calls Tryz.prog 159 #[.pointer (some ⟨c, 0, none⟩)] w' (LsC W0 c w' q)) := by
   show ∀ w', _
   intro w' h'; have := finE_of HE W0 w' c _ hv h'; rw [hq] at this; exact this
 obtain ⟨nv, hnv⟩ : ∃ nv, s.skip.numR 9999 = nv := ⟨_, rfl⟩
 rw [hnv] at HRE HNU
 clear hRR hq hnv h hv hn HE HAR HBL hbl hv0 h0 h1 h2 h3 h4
 go_enter Tryz.func140, Tryz.ntmps140
 go_wp2_with fail
 refine V.out.mono ?_
 clear V
 rintro e w2 ⟨rfl, rfl⟩
 go_wp2_with fail
 refine T0.out.mono ?_
 clear T0
 rintro e w2 ⟨rfl, rfl⟩
 go_wp2_with fail
 refine T1.out.mono ?_
 clear T1
 rintro e w2 ⟨rfl, rfl⟩
 go_wp2_with fail
 refine T2.out.mono ?_
 clear T2
 rintro e w2 ⟨rfl, rfl⟩
 go_wp2_with fail
 refine T3.out.mono ?_
 clear T3
 rintro e w2 ⟨rfl, rfl⟩
 go_wp2_with fail
 refine T4.out.mono ?_
 clear T4 hW1
 rintro e w2 ⟨rfl, hm⟩
 replace HM := Lib.hid (HM.out.trans hm)
 replace HB := Lib.hid (Bx.grown HB.out hm.1 (by omega))
 have hs2 := hm.1.size
 clear hm
 go_wp2_with fail
 refine (HNU.out _ HM.out.2).mono ?_
 clear HNU
 rintro e w3 ⟨rfl, hm⟩
 replace HM := Lib.hid (HM.out.trans hm)
 replace HB := Lib.hid (Bx.grown HB.out hm.1 (by omega))
 have hs3 := hm.1.size
 clear hm
 go_wp2_with fail
 refine (HC.out _ HM.out.2).mono ?_
 clear HC
 rintro e w4 ⟨v1, ys1, rfl, ho, hq1, hm⟩
 obtain ⟨A1, c1, rfl⟩ := ho.form
 have hf1 := (FkL.x ho.own.fk).mono (show w.heap.size + 1 ≤ _ by omega)
 have HQ1 := Lib.hid hq1
 clear ho hq1
 replace HM := Lib.hid (HM.out.trans hm)
 replace HB := Lib.hid (Bx.grown HB.out hm.1 (by omega))
 have hs4 := hm.1.size
 clear hm
 have HF1 := Lib.hid hf1
 clear hf1
 obtain ⟨r0, r1, r2, r3, r4, r5, r6, r7, r8⟩ := HB.out.all_9
 have g0 := HB.out.fro 0; have g1 := HB.out.fro 1; have g2 := HB.out.fro 2; have g3 := HB.out.fro 3; have g4 := HB.out.fro 4; have g5 := HB.out.fro 5; have g6 := HB.out.fro 6; have g7 := HB.out.fro 7; have g8 := HB.out.fro 8
 have HG := Lib.hid (grown_9 w4 w.heap.size (.int .i64 8) (.int .i32 nv) (.string ⟨#[]⟩) (.string ⟨#[]⟩) (.slice A1 ys1.length c1) (.slice none 0 0) (.slice none 0 0) (.slice none 0 0) (.int .i64 0))
 go_wp2_with fail
 obtain ⟨z0, z1, z2, z3, z4, z5, z6, z7, z8⟩ := (HB.out.to_9 (.int .i64 8) (.int .i32 nv) (.string ⟨#[]⟩) (.string ⟨#[]⟩) (.slice A1 ys1.length c1) (.slice none 0 0) (.slice none 0 0) (.slice none 0 0) (.int .i64 0)).all_9
 (try simp only [Exit.inBlock, Exit.then])
 refine bodyPost_ret (v := .agg #[.int .i64 8, .int .i32 nv, .string ⟨#[]⟩, .string ⟨#[]⟩, .slice A1 ys1.length c1, .slice none 0 0, .slice none 0 0, .slice none 0 0, .int .i64 0]) (by simp [results, Tryz.results140, go_sem, z0, z1, z2, z3, z4, z5, z6, z7, z8]) rfl ?_
 rw [HRE.out]
 refine ⟨.st (8) (nv) ⟨#[]⟩ ⟨#[]⟩ (.slice A1 ys1.length c1) (.slice none 0 0) (.slice none 0 0) (.slice none 0 0) ys1 [] [] [] 0, rfl, ⟨_, _, _, _, A1, none, none, none, c1, 0, 0, 0, ys1, [], [], [], rfl⟩, ?_, Mv.over (Below.refl _ _) HM.out HG.out (Nat.le_refl _) hlt⟩
 exact ((st_node (B := w.heap.size + 1) ⟨Nat.zero_le _, Nat.zero_le _⟩ HF1.out.fk (FkL.nil _ _ _) (FkL.nil _ _ _) (FkL.nil _ _ _) HQ1.out rfl rfl rfl).grown HG.out (.inl (by omega))).mono (by omega)
theorem stmt_super (HE : ExAny) (HAR : ArAny) (n : Nat) (b : Rb) (HBL : SpecK n b) (hbl : ∀ s, (b s).2.len ≤ s.len) (W0 w : World) (c : Nat) (s : RS) (hv : Vars W0) (h : Rd W0 c s w) (hn : 4 * s.len ≤ n) (hv0 : s.varB = false) (h0 : s.sees 0 kIf = false) (h1 : s.sees 0 kWhile = false) (h2 : s.sees 0 kReturn = false) (h3 : s.sees 0 kPrint = false) (h4 : s.sees 0 kAssert = false) (h5 : s.sees 0 kThrow = false) (h6 : s.sees 0 kTry = false) (h7 : s.sees 0 sSuper = true) (h8 : s.sees 1 sOpen = true) : Calls Tryz.prog 140 #[.pointer (some ⟨c, 0, none⟩)] w (StC W0 c w (stS b s)) := by
 have HRE : Hid (stS b s = supS s) := Lib.hid (by simp only [stS, hv0, h0, h1, h2, h3, h4, h5, h6, h7, h8]; simp)
 obtain ⟨RR, hRR⟩ : ∃ RR, stS b s = RR := ⟨_, rfl⟩
 rw [hRR] at HRE ⊢
 have hlt := h.lt
 have hle0 := h.le
 obtain ⟨W1, hW1⟩ : ∃ W1, w.alloc (.cells #[.int .i64 0, .int .i32 0, .string ⟨#[]⟩, .string ⟨#[]⟩, .slice none 0 0, .slice none 0 0, .slice none 0 0, .slice none 0 0, .int .i64 0] 118) = W1 := ⟨_, rfl⟩
 have hb : Below w.heap.size w W1 := by rw [← hW1]; exact (Below.refl _ w).alloc (Nat.le_refl _) _
 have hx : Bx W1 w.heap.size #[.int .i64 0, .int .i32 0, .string ⟨#[]⟩, .string ⟨#[]⟩, .slice none 0 0, .slice none 0 0, .slice none 0 0, .slice none 0 0, .int .i64 0] 118 := by rw [← hW1]; exact Bx.new _ _ _
 have hz : W1.heap.size = w.heap.size + 1 := by rw [← hW1]; simp
 have HM := Lib.hid (Mv.below hb h)
 have HB := Lib.hid hx
 clear hb hx
 have V := Lib.hid (show Calls Tryz.prog 154 #[.pointer (some ⟨c, 0, none⟩)] W1 (fun e w' => e = .returned (.bool false) ∧ W1 = w') from by have := var_any W0 W1 c s HM.out.2; rw [hv0] at this; exact this)
 have T0 := Lib.hid (take_false W0 W1 c s kIf HM.out.2 h0)
 have T1 := Lib.hid (take_false W0 W1 c s kWhile HM.out.2 h1)
 have T2 := Lib.hid (take_false W0 W1 c s kReturn HM.out.2 h2)
 have T3 := Lib.hid (take_false W0 W1 c s kPrint HM.out.2 h3)
 have T4 := Lib.hid (take_false W0 W1 c s kAssert HM.out.2 h4)
 have T5 := Lib.hid (take_false W0 W1 c s kThrow HM.out.2 h5)
 have T6 := Lib.hid (take_false W0 W1 c s kTry HM.out.2 h6)
 have T7 := Lib.hid (sees_is W0 W1 c s sSuper _ HM.out.2 h7)
 have T8 := Lib.hid (show Calls Tryz.prog 116 #[.pointer (some ⟨c, 0, none⟩), .int .i64 1, .string sOpen] W1 (fun e w' => e = .returned (.bool true) ∧ W1 = w') from by have := seesAt_any W0 W1 c 1 s sOpen HM.out.2 (by omega); rw [h8] at this; exact this)
 have HS : Hid (∀ w', Rd W0 c (s) w' → Calls Tryz.prog 161 #[.pointer (some ⟨c, 0, none⟩)] w' (StC W0 c w' RR)) := by
   show ∀ w', _
   intro w' h'; have := super_of HAR W0 w' c _ hv h' (sees_ne h7); rw [HRE.out]; exact this
 clear hRR h hv hn HE HAR HBL hbl hv0 h0 h1 h2 h3 h4 h5 h6 h7 h8
 go_enter Tryz.func140, Tryz.ntmps140
 go_wp2_with fail
 refine V.out.mono ?_
 clear V
 rintro e w2 ⟨rfl, rfl⟩
 go_wp2_with fail
 refine T0.out.mono ?_
 clear T0
 rintro e w2 ⟨rfl, rfl⟩
 go_wp2_with fail
 refine T1.out.mono ?_
 clear T1
 rintro e w2 ⟨rfl, rfl⟩
 go_wp2_with fail
 refine T2.out.mono ?_
 clear T2
 rintro e w2 ⟨rfl, rfl⟩
 go_wp2_with fail
 refine T3.out.mono ?_
 clear T3
 rintro e w2 ⟨rfl, rfl⟩
 go_wp2_with fail
 refine T4.out.mono ?_
 clear T4
 rintro e w2 ⟨rfl, rfl⟩
 go_wp2_with fail
 refine T5.out.mono ?_
 clear T5
 rintro e w2 ⟨rfl, rfl⟩
 go_wp2_with fail
 refine T6.out.mono ?_
 clear T6
 rintro e w2 ⟨rfl, rfl⟩
 go_wp2_with fail
 refine T7.out.mono ?_
 clear T7
 rintro e w2 ⟨rfl, rfl⟩
 go_wp2_with fail
 refine T8.out.mono ?_
 clear T8
 rintro e w2 ⟨rfl, rfl⟩
 go_wp2_with fail
 refine (HS.out _ HM.out.2).mono ?_
 clear HS hW1
 intro e w3 hst
 obtain ⟨k, m, ty, nm, A1, A2, A3, A4, c1, c2, c3, c4, l1, l2, l3, l4, rfl, hk, hm⟩ := hst.open
 clear hst
 have HK := Lib.hid (hk.mono (show w.heap.size + 1 ≤ _ by omega))
 replace HB := Lib.hid (Bx.grown HB.out hm.1 (by omega))
 replace HM := Lib.hid (HM.out.trans hm)
 clear hk hm
 obtain ⟨r0, r1, r2, r3, r4, r5, r6, r7, r8⟩ := HB.out.all_9
 have g0 := HB.out.fro 0; have g1 := HB.out.fro 1; have g2 := HB.out.fro 2; have g3 := HB.out.fro 3; have g4 := HB.out.fro 4; have g5 := HB.out.fro 5; have g6 := HB.out.fro 6; have g7 := HB.out.fro 7; have g8 := HB.out.fro 8
 have HG := Lib.hid (grown_9 w3 w.heap.size (.int .i64 k) (.int .i32 m) (.string ty) (.string nm) (.slice A1 l1.length c1) (.slice A2 l2.length c2) (.slice A3 l3.length c3) (.slice A4 l4.length c4) (.int .i64 0))
 go_wp2_with fail
 obtain ⟨z0, z1, z2, z3, z4, z5, z6, z7, z8⟩ := (HB.out.to_9 (.int .i64 k) (.int .i32 m) (.string ty) (.string nm) (.slice A1 l1.length c1) (.slice A2 l2.length c2) (.slice A3 l3.length c3) (.slice A4 l4.length c4) (.int .i64 0)).all_9
 (try simp only [Exit.inBlock, Exit.then])
 refine bodyPost_ret (v := .agg #[.int .i64 k, .int .i32 m, .string ty, .string nm, .slice A1 l1.length c1, .slice A2 l2.length c2, .slice A3 l3.length c3, .slice A4 l4.length c4, .int .i64 0]) (by simp [results, Tryz.results140, go_sem, z0, z1, z2, z3, z4, z5, z6, z7, z8]) rfl ?_
 exact ⟨_, rfl, ⟨_, _, _, _, _, _, _, _, _, _, _, _, _, _, _, _, rfl⟩, (HK.out.grown HG.out (.inl (by omega))).mono (by omega), Mv.over (Below.refl _ _) HM.out HG.out (Nat.le_refl _) hlt⟩
theorem stmt_plainS (HE : ExAny) (HAR : ArAny) (n : Nat) (b : Rb) (HBL : SpecK n b) (hbl : ∀ s, (b s).2.len ≤ s.len) (W0 w : World) (c : Nat) (s : RS) (hv : Vars W0) (h : Rd W0 c s w) (hn : 4 * s.len ≤ n) (hv0 : s.varB = false) (h0 : s.sees 0 kIf = false) (h1 : s.sees 0 kWhile = false) (h2 : s.sees 0 kReturn = false) (h3 : s.sees 0 kPrint = false) (h4 : s.sees 0 kAssert = false) (h5 : s.sees 0 kThrow = false) (h6 : s.sees 0 kTry = false) (h7 : s.sees 0 sSuper = true) (h8 : s.sees 1 sOpen = false) : Calls Tryz.prog 140 #[.pointer (some ⟨c, 0, none⟩)] w (StC W0 c w (stS b s)) := by
 have HRE : Hid (stS b s = plaS s) := Lib.hid (by simp only [stS, hv0, h0, h1, h2, h3, h4, h5, h6, h7, h8]; simp)
 obtain ⟨RR, hRR⟩ : ∃ RR, stS b s = RR := ⟨_, rfl⟩
 rw [hRR] at HRE ⊢
 have hlt := h.lt
 have hle0 := h.le
 obtain ⟨W1, hW1⟩ : ∃ W1, w.alloc (.cells #[.int .i64 0, .int .i32 0, .string ⟨#[]⟩, .string ⟨#[]⟩, .slice none 0 0, .slice none 0 0, .slice none 0 0, .slice none 0 0, .int .i64 0] 118) = W1 := ⟨_, rfl⟩
 have hb : Below w.heap.size w W1 := by rw [← hW1]; exact (Below.refl _ w).alloc (Nat.le_refl _) _
 have hx : Bx W1 w.heap.size #[.int .i64 0, .int .i32 0, .string ⟨#[]⟩, .string ⟨#[]⟩, .slice none 0 0, .slice none 0 0, .slice none 0 0, .slice none 0 0, .int .i64 0] 118 := by rw [← hW1]; exact Bx.new _ _ _
 have hz : W1.heap.size = w.heap.size + 1 := by rw [← hW1]; simp
 have HM := Lib.hid (Mv.below hb h)
 have HB := Lib.hid hx
 clear hb hx
 have V := Lib.hid (show Calls Tryz.prog 154 #[.pointer (some ⟨c, 0, none⟩)] W1 (fun e w' => e = .returned (.bool false) ∧ W1 = w') from by have := var_any W0 W1 c s HM.out.2; rw [hv0] at this; exact this)
 have T0 := Lib.hid (take_false W0 W1 c s kIf HM.out.2 h0)
 have T1 := Lib.hid (take_false W0 W1 c s kWhile HM.out.2 h1)
 have T2 := Lib.hid (take_false W0 W1 c s kReturn HM.out.2 h2)
 have T3 := Lib.hid (take_false W0 W1 c s kPrint HM.out.2 h3)
 have T4 := Lib.hid (take_false W0 W1 c s kAssert HM.out.2 h4)
 have T5 := Lib.hid (take_false W0 W1 c s kThrow HM.out.2 h5)
 have T6 := Lib.hid (take_false W0 W1 c s kTry HM.out.2 h6)
 have T7 := Lib.hid (sees_is W0 W1 c s sSuper _ HM.out.2 h7)
 have T8 := Lib.hid (show Calls Tryz.prog 116 #[.pointer (some ⟨c, 0, none⟩), .int .i64 1, .string sOpen] W1 (fun e w' => e = .returned (.bool false) ∧ W1 = w') from by have := seesAt_any W0 W1 c 1 s sOpen HM.out.2 (by omega); rw [h8] at this; exact this)
 have HS : Hid (∀ w', Rd W0 c (s) w' → Calls Tryz.prog 162 #[.pointer (some ⟨c, 0, none⟩)] w' (StC W0 c w' RR)) := by
   show ∀ w', _
   intro w' h'; have := plainS_of HE W0 w' c _ hv h'; rw [HRE.out]; exact this
 clear hRR h hv hn HE HAR HBL hbl hv0 h0 h1 h2 h3 h4 h5 h6 h7 h8
 go_enter Tryz.func140, Tryz.ntmps140
 go_wp2_with fail
 refine V.out.mono ?_
 clear V
 rintro e w2 ⟨rfl, rfl⟩
 go_wp2_with fail
 refine T0.out.mono ?_
 clear T0
 rintro e w2 ⟨rfl, rfl⟩
 go_wp2_with fail
 refine T1.out.mono ?_
 clear T1
 rintro e w2 ⟨rfl, rfl⟩
 go_wp2_with fail
 refine T2.out.mono ?_
 clear T2
 rintro e w2 ⟨rfl, rfl⟩
 go_wp2_with fail
 refine T3.out.mono ?_
 clear T3
 rintro e w2 ⟨rfl, rfl⟩
 go_wp2_with fail
 refine T4.out.mono ?_
 clear T4
 rintro e w2 ⟨rfl, rfl⟩
 go_wp2_with fail
 refine T5.out.mono ?_
 clear T5
 rintro e w2 ⟨rfl, rfl⟩
 go_wp2_with fail
 refine T6.out.mono ?_
 clear T6
 rintro e w2 ⟨rfl, rfl⟩
 go_wp2_with fail
 refine T7.out.mono ?_
 clear T7
 rintro e w2 ⟨rfl, rfl⟩
 go_wp2_with fail
 refine T8.out.mono ?_
 clear T8
 rintro e w2 ⟨rfl, rfl⟩
 go_wp2_with fail
 refine (HS.out _ HM.out.2).mono ?_
 clear HS hW1
 intro e w3 hst
 obtain ⟨k, m, ty, nm, A1, A2, A3, A4, c1, c2, c3, c4, l1, l2, l3, l4, rfl, hk, hm⟩ := hst.open
 clear hst
 have HK := Lib.hid (hk.mono (show w.heap.size + 1 ≤ _ by omega))
 replace HB := Lib.hid (Bx.grown HB.out hm.1 (by omega))
 replace HM := Lib.hid (HM.out.trans hm)
 clear hk hm
 obtain ⟨r0, r1, r2, r3, r4, r5, r6, r7, r8⟩ := HB.out.all_9
 have g0 := HB.out.fro 0; have g1 := HB.out.fro 1; have g2 := HB.out.fro 2; have g3 := HB.out.fro 3; have g4 := HB.out.fro 4; have g5 := HB.out.fro 5; have g6 := HB.out.fro 6; have g7 := HB.out.fro 7; have g8 := HB.out.fro 8
 have HG := Lib.hid (grown_9 w3 w.heap.size (.int .i64 k) (.int .i32 m) (.string ty) (.string nm) (.slice A1 l1.length c1) (.slice A2 l2.length c2) (.slice A3 l3.length c3) (.slice A4 l4.length c4) (.int .i64 0))
 go_wp2_with fail
 obtain ⟨z0, z1, z2, z3, z4, z5, z6, z7, z8⟩ := (HB.out.to_9 (.int .i64 k) (.int .i32 m) (.string ty) (.string nm) (.slice A1 l1.length c1) (.slice A2 l2.length c2) (.slice A3 l3.length c3) (.slice A4 l4.length c4) (.int .i64 0)).all_9
 (try simp only [Exit.inBlock, Exit.then])
 refine bodyPost_ret (v := .agg #[.int .i64 k, .int .i32 m, .string ty, .string nm, .slice A1 l1.length c1, .slice A2 l2.length c2, .slice A3 l3.length c3, .slice A4 l4.length c4, .int .i64 0]) (by simp [results, Tryz.results140, go_sem, z0, z1, z2, z3, z4, z5, z6, z7, z8]) rfl ?_
 exact ⟨_, rfl, ⟨_, _, _, _, _, _, _, _, _, _, _, _, _, _, _, _, rfl⟩, (HK.out.grown HG.out (.inl (by omega))).mono (by omega), Mv.over (Below.refl _ _) HM.out HG.out (Nat.le_refl _) hlt⟩
theorem stmt_plain (HE : ExAny) (HAR : ArAny) (n : Nat) (b : Rb) (HBL : SpecK n b) (hbl : ∀ s, (b s).2.len ≤ s.len) (W0 w : World) (c : Nat) (s : RS) (hv : Vars W0) (h : Rd W0 c s w) (hn : 4 * s.len ≤ n) (hv0 : s.varB = false) (h0 : s.sees 0 kIf = false) (h1 : s.sees 0 kWhile = false) (h2 : s.sees 0 kReturn = false) (h3 : s.sees 0 kPrint = false) (h4 : s.sees 0 kAssert = false) (h5 : s.sees 0 kThrow = false) (h6 : s.sees 0 kTry = false) (h7 : s.sees 0 sSuper = false) : Calls Tryz.prog 140 #[.pointer (some ⟨c, 0, none⟩)] w (StC W0 c w (stS b s)) := by
 have HRE : Hid (stS b s = plaS s) := Lib.hid (by simp only [stS, hv0, h0, h1, h2, h3, h4, h5, h6, h7]; simp)
 obtain ⟨RR, hRR⟩ : ∃ RR, stS b s = RR := ⟨_, rfl⟩
 rw [hRR] at HRE ⊢
 have hlt := h.lt
 have hle0 := h.le
 obtain ⟨W1, hW1⟩ : ∃ W1, w.alloc (.cells #[.int .i64 0, .int .i32 0, .string ⟨#[]⟩, .string ⟨#[]⟩, .slice none 0 0, .slice none 0 0, .slice none 0 0, .slice none 0 0, .int .i64 0] 118) = W1 := ⟨_, rfl⟩
 have hb : Below w.heap.size w W1 := by rw [← hW1]; exact (Below.refl _ w).alloc (Nat.le_refl _) _
 have hx : Bx W1 w.heap.size #[.int .i64 0, .int .i32 0, .string ⟨#[]⟩, .string ⟨#[]⟩, .slice none 0 0, .slice none 0 0, .slice none 0 0, .slice none 0 0, .int .i64 0] 118 := by rw [← hW1]; exact Bx.new _ _ _
 have hz : W1.heap.size = w.heap.size + 1 := by rw [← hW1]; simp
 have HM := Lib.hid (Mv.below hb h)
 have HB := Lib.hid hx
 clear hb hx
 have V := Lib.hid (show Calls Tryz.prog 154 #[.pointer (some ⟨c, 0, none⟩)] W1 (fun e w' => e = .returned (.bool false) ∧ W1 = w') from by have := var_any W0 W1 c s HM.out.2; rw [hv0] at this; exact this)
 have T0 := Lib.hid (take_false W0 W1 c s kIf HM.out.2 h0)
 have T1 := Lib.hid (take_false W0 W1 c s kWhile HM.out.2 h1)
 have T2 := Lib.hid (take_false W0 W1 c s kReturn HM.out.2 h2)
 have T3 := Lib.hid (take_false W0 W1 c s kPrint HM.out.2 h3)
 have T4 := Lib.hid (take_false W0 W1 c s kAssert HM.out.2 h4)
 have T5 := Lib.hid (take_false W0 W1 c s kThrow HM.out.2 h5)
 have T6 := Lib.hid (take_false W0 W1 c s kTry HM.out.2 h6)
 have T7 := Lib.hid (sees_is W0 W1 c s sSuper _ HM.out.2 h7)
 have HS : Hid (∀ w', Rd W0 c (s) w' → Calls Tryz.prog 162 #[.pointer (some ⟨c, 0, none⟩)] w' (StC W0 c w' RR)) := by
   show ∀ w', _
   intro w' h'; have := plainS_of HE W0 w' c _ hv h'; rw [HRE.out]; exact this
 clear hRR h hv hn HE HAR HBL hbl hv0 h0 h1 h2 h3 h4 h5 h6 h7
 go_enter Tryz.func140, Tryz.ntmps140
 go_wp2_with fail
 refine V.out.mono ?_
 clear V
 rintro e w2 ⟨rfl, rfl⟩
 go_wp2_with fail
 refine T0.out.mono ?_
 clear T0
 rintro e w2 ⟨rfl, rfl⟩
 go_wp2_with fail
 refine T1.out.mono ?_
 clear T1
 rintro e w2 ⟨rfl, rfl⟩
 go_wp2_with fail
 refine T2.out.mono ?_
 clear T2
 rintro e w2 ⟨rfl, rfl⟩
 go_wp2_with fail
 refine T3.out.mono ?_
 clear T3
 rintro e w2 ⟨rfl, rfl⟩
 go_wp2_with fail
 refine T4.out.mono ?_
 clear T4
 rintro e w2 ⟨rfl, rfl⟩
 go_wp2_with fail
 refine T5.out.mono ?_
 clear T5
 rintro e w2 ⟨rfl, rfl⟩
 go_wp2_with fail
 refine T6.out.mono ?_
 clear T6
 rintro e w2 ⟨rfl, rfl⟩
 go_wp2_with fail
 refine T7.out.mono ?_
 clear T7
 rintro e w2 ⟨rfl, rfl⟩
 go_wp2_with fail
 refine (HS.out _ HM.out.2).mono ?_
 clear HS hW1
 intro e w3 hst
 obtain ⟨k, m, ty, nm, A1, A2, A3, A4, c1, c2, c3, c4, l1, l2, l3, l4, rfl, hk, hm⟩ := hst.open
 clear hst
 have HK := Lib.hid (hk.mono (show w.heap.size + 1 ≤ _ by omega))
 replace HB := Lib.hid (Bx.grown HB.out hm.1 (by omega))
 replace HM := Lib.hid (HM.out.trans hm)
 clear hk hm
 obtain ⟨r0, r1, r2, r3, r4, r5, r6, r7, r8⟩ := HB.out.all_9
 have g0 := HB.out.fro 0; have g1 := HB.out.fro 1; have g2 := HB.out.fro 2; have g3 := HB.out.fro 3; have g4 := HB.out.fro 4; have g5 := HB.out.fro 5; have g6 := HB.out.fro 6; have g7 := HB.out.fro 7; have g8 := HB.out.fro 8
 have HG := Lib.hid (grown_9 w3 w.heap.size (.int .i64 k) (.int .i32 m) (.string ty) (.string nm) (.slice A1 l1.length c1) (.slice A2 l2.length c2) (.slice A3 l3.length c3) (.slice A4 l4.length c4) (.int .i64 0))
 go_wp2_with fail
 obtain ⟨z0, z1, z2, z3, z4, z5, z6, z7, z8⟩ := (HB.out.to_9 (.int .i64 k) (.int .i32 m) (.string ty) (.string nm) (.slice A1 l1.length c1) (.slice A2 l2.length c2) (.slice A3 l3.length c3) (.slice A4 l4.length c4) (.int .i64 0)).all_9
 (try simp only [Exit.inBlock, Exit.then])
 refine bodyPost_ret (v := .agg #[.int .i64 k, .int .i32 m, .string ty, .string nm, .slice A1 l1.length c1, .slice A2 l2.length c2, .slice A3 l3.length c3, .slice A4 l4.length c4, .int .i64 0]) (by simp [results, Tryz.results140, go_sem, z0, z1, z2, z3, z4, z5, z6, z7, z8]) rfl ?_
 exact ⟨_, rfl, ⟨_, _, _, _, _, _, _, _, _, _, _, _, _, _, _, _, rfl⟩, (HK.out.grown HG.out (.inl (by omega))).mono (by omega), Mv.over (Below.refl _ _) HM.out HG.out (Nat.le_refl _) hlt⟩
theorem stmt_of (HE : ExAny) (HAR : ArAny) (n : Nat) (b : Rb) (HBL : SpecK n b) (hbl : ∀ s, (b s).2.len ≤ s.len) (W0 w : World) (c : Nat) (s : RS) (hv : Vars W0) (h : Rd W0 c s w) (hn : 4 * s.len ≤ n) : Calls Tryz.prog 140 #[.pointer (some ⟨c, 0, none⟩)] w (StC W0 c w (stS b s)) := by
 cases hv0 : s.varB with
 | true => exact stmt_var HE HAR n b HBL hbl W0 w c s hv h hn hv0
 | false =>
   cases h0 : s.sees 0 kIf with
   | true => exact stmt_if HE HAR n b HBL hbl W0 w c s hv h hn hv0 h0
   | false =>
     cases h1 : s.sees 0 kWhile with
     | true => exact stmt_while HE HAR n b HBL hbl W0 w c s hv h hn hv0 h0 h1
     | false =>
       cases h2 : s.sees 0 kReturn with
       | true => exact stmt_return HE HAR n b HBL hbl W0 w c s hv h hn hv0 h0 h1 h2
       | false =>
         cases h3 : s.sees 0 kPrint with
         | true => exact stmt_print HE HAR n b HBL hbl W0 w c s hv h hn hv0 h0 h1 h2 h3
         | false =>
           cases h4 : s.sees 0 kAssert with
           | true => exact stmt_assert HE HAR n b HBL hbl W0 w c s hv h hn hv0 h0 h1 h2 h3 h4
           | false =>
             cases h5 : s.sees 0 kThrow with
             | true => exact stmt_throw HE HAR n b HBL hbl W0 w c s hv h hn hv0 h0 h1 h2 h3 h4 h5
             | false =>
               cases h6 : s.sees 0 kTry with
               | true => exact stmt_try HE HAR n b HBL hbl W0 w c s hv h hn hv0 h0 h1 h2 h3 h4 h5 h6
               | false =>
                 cases h7 : s.sees 0 sSuper with
                 | false => exact stmt_plain HE HAR n b HBL hbl W0 w c s hv h hn hv0 h0 h1 h2 h3 h4 h5 h6 h7
                 | true =>
                   cases h8 : s.sees 1 sOpen with
                   | true => exact stmt_super HE HAR n b HBL hbl W0 w c s hv h hn hv0 h0 h1 h2 h3 h4 h5 h6 h7 h8
                   | false => exact stmt_plainS HE HAR n b HBL hbl W0 w c s hv h hn hv0 h0 h1 h2 h3 h4 h5 h6 h7 h8
end
section
open Go.RowKit
theorem atom_nu (n : Nat) (W0 w : World) (c : Nat) (s : RS) (t : ByteArray) (a : Int) (hv : Vars W0) (h : Rd W0 c s w) (hn : enough (n + 1) .atom s) (hp : s.ws[0]? = some (.nu t, a)) : Calls Tryz.prog 132 #[.pointer (some ⟨c, 0, none⟩)] w (ExC W0 c w (run (n + 1) .atom s)) := by
 have hR : run (n + 1) .atom s = ([mkE 1 (s.numR 2147483647) E0 E0 E0 []], s.num 2147483647) := by simp only [run, hp]
 have hlt := h.lt
 have hle0 := h.le
 obtain ⟨W1, hW1⟩ : ∃ W1, w.alloc (.cells #[.int .i64 0, .int .i32 0, .string ⟨#[]⟩, .string ⟨#[]⟩, .string ⟨#[]⟩, .slice none 0 0, .string ⟨#[]⟩, .int .i64 0] 36) = W1 := ⟨_, rfl⟩
 have hb : Below w.heap.size w W1 := by rw [← hW1]; exact (Below.refl _ w).alloc (Nat.le_refl _) _
 have hx : Bx W1 w.heap.size #[.int .i64 0, .int .i32 0, .string ⟨#[]⟩, .string ⟨#[]⟩, .string ⟨#[]⟩, .slice none 0 0, .string ⟨#[]⟩, .int .i64 0] 36 := by rw [← hW1]; exact Bx.new _ _ _
 have hz : W1.heap.size = w.heap.size + 1 := by rw [← hW1]; simp
 have HM0 := Lib.hid (Mv.below hb h)
 have HX0 := Lib.hid hx
 clear hb hx
 have HA := Lib.hid (ahead_any W0 W1 c 0 s HM0.out.2 (by omega))
 have hav : aheadV s.ws 0 = (Pr.nu t).V := by simp [aheadV, hp]
 rw [hav] at HA
 simp only [Pr.V] at HA
 have HX := Lib.hid (number_any W0 W1 c s 2147483647 hv HM0.out.2)
 rw [hR]
 obtain ⟨nv, hnv⟩ : ∃ nv, s.numR 2147483647 = nv := ⟨_, rfl⟩
 rw [hnv] at HX ⊢
 clear hnv
 clear hR hn h hv hp hav
 go_enter Tryz.func132, Tryz.ntmps132
 go_wp2_with (go_at_call 70; refine HA.out.mono ?_; rintro e w0 ⟨rfl, rfl⟩)
 refine HX.out.mono ?_
 clear HX HA hW1
 rintro e w2 ⟨rfl, hm⟩
 have HM := Lib.hid (HM0.out.trans hm)
 have HBX := Lib.hid (Bx.grown HX0.out hm.1 (by omega))
 clear hm
 have HK := Lib.hid ((OwnE.nil (w.heap.size + 1) w2).node 1 nv ⟨#[]⟩ ⟨#[]⟩ ⟨#[]⟩ ⟨Nat.zero_le _, Nat.zero_le _, Nat.zero_le _⟩ (mk_bare (xs := []) rfl _ _ _ _ _))
 have hx2 := HBX.out
 obtain ⟨r0, r1, r2, r3, r4, r5, r6, r7⟩ := hx2.all_8
 have g0 := hx2.fro 0; have g1 := hx2.fro 1; have g2 := hx2.fro 2; have g3 := hx2.fro 3; have g4 := hx2.fro 4; have g5 := hx2.fro 5; have g6 := hx2.fro 6; have g7 := hx2.fro 7
 have HG := Lib.hid (grown_8 w2 w.heap.size (.int .i64 1) (.int .i32 nv) (.string ⟨#[]⟩) (.string ⟨#[]⟩) (.string ⟨#[]⟩) (.slice none 0 0) (.string ⟨#[]⟩) (.int .i64 0))
 clear hx2
 (try simp only [cellsN])
 go_wp2_with fail
 obtain ⟨z0, z1, z2, z3, z4, z5, z6, z7⟩ := (HBX.out.to_8 (.int .i64 1) (.int .i32 nv) (.string ⟨#[]⟩) (.string ⟨#[]⟩) (.string ⟨#[]⟩) (.slice none 0 0) (.string ⟨#[]⟩) (.int .i64 0)).all_8
 (try simp only [Exit.inBlock, Exit.then])
 refine bodyPost_ret (v := .agg #[.int .i64 1, .int .i32 nv, .string ⟨#[]⟩, .string ⟨#[]⟩, .string ⟨#[]⟩, .slice none 0 0, .string ⟨#[]⟩, .int .i64 0]) (by simp [results, Tryz.results132, go_sem, z0, z1, z2, z3, z4, z5, z6, z7]) rfl ?_
 exact ⟨.ex 1 nv ⟨#[]⟩ ⟨#[]⟩ ⟨#[]⟩ (.slice none 0 0) [] ⟨#[]⟩ 0, rfl, (HK.out.grown HG.out (.inl (by omega))).mono (by omega), Mv.over (Below.refl _ _) HM.out HG.out (Nat.le_refl _) hlt⟩
theorem atom_qu (n : Nat) (W0 w : World) (c : Nat) (s : RS) (t : ByteArray) (a : Int) (hv : Vars W0) (h : Rd W0 c s w) (hn : enough (n + 1) .atom s) (hp : s.ws[0]? = some (.qu t, a)) : Calls Tryz.prog 132 #[.pointer (some ⟨c, 0, none⟩)] w (ExC W0 c w (run (n + 1) .atom s)) := by
 have hR : run (n + 1) .atom s = ([mkE 3 0 t E0 E0 []], s.skip) := by simp only [run, hp]
 have htx := h.text hp
 simp only [Pr.text] at htx
 have hlt := h.lt
 have hle0 := h.le
 obtain ⟨W1, hW1⟩ : ∃ W1, w.alloc (.cells #[.int .i64 0, .int .i32 0, .string ⟨#[]⟩, .string ⟨#[]⟩, .string ⟨#[]⟩, .slice none 0 0, .string ⟨#[]⟩, .int .i64 0] 36) = W1 := ⟨_, rfl⟩
 have hb : Below w.heap.size w W1 := by rw [← hW1]; exact (Below.refl _ w).alloc (Nat.le_refl _) _
 have hx : Bx W1 w.heap.size #[.int .i64 0, .int .i32 0, .string ⟨#[]⟩, .string ⟨#[]⟩, .string ⟨#[]⟩, .slice none 0 0, .string ⟨#[]⟩, .int .i64 0] 36 := by rw [← hW1]; exact Bx.new _ _ _
 have hz : W1.heap.size = w.heap.size + 1 := by rw [← hW1]; simp
 have HM0 := Lib.hid (Mv.below hb h)
 have HX0 := Lib.hid hx
 clear hb hx
 have HA := Lib.hid (ahead_any W0 W1 c 0 s HM0.out.2 (by omega))
 have hav : aheadV s.ws 0 = (Pr.qu t).V := by simp [aheadV, hp]
 rw [hav] at HA
 simp only [Pr.V] at HA
 have HX := Lib.hid (skip_any W0 W1 c s HM0.out.2 (ne_of_get hp))
 rw [hR]
 clear hR hn h hv hp hav
 go_enter Tryz.func132, Tryz.ntmps132
 go_wp2_with (go_at_call 70; refine HA.out.mono ?_; rintro e w0 ⟨rfl, rfl⟩)
 refine HX.out.mono ?_
 clear HX HA hW1
 rintro e w2 ⟨rfl, hm⟩
 have HM := Lib.hid (HM0.out.trans hm)
 have HBX := Lib.hid (Bx.grown HX0.out hm.1 (by omega))
 clear hm
 have HK := Lib.hid ((OwnE.nil (w.heap.size + 1) w2).node 3 0 t ⟨#[]⟩ ⟨#[]⟩ ⟨htx, Nat.zero_le _, Nat.zero_le _⟩ (mk_bare (xs := []) rfl _ _ _ _ _))
 have hx2 := HBX.out
 obtain ⟨r0, r1, r2, r3, r4, r5, r6, r7⟩ := hx2.all_8
 have g0 := hx2.fro 0; have g1 := hx2.fro 1; have g2 := hx2.fro 2; have g3 := hx2.fro 3; have g4 := hx2.fro 4; have g5 := hx2.fro 5; have g6 := hx2.fro 6; have g7 := hx2.fro 7
 have HG := Lib.hid (grown_8 w2 w.heap.size (.int .i64 3) (.int .i32 0) (.string t) (.string ⟨#[]⟩) (.string ⟨#[]⟩) (.slice none 0 0) (.string ⟨#[]⟩) (.int .i64 0))
 clear hx2
 (try simp only [cellsN])
 go_wp2_with fail
 obtain ⟨z0, z1, z2, z3, z4, z5, z6, z7⟩ := (HBX.out.to_8 (.int .i64 3) (.int .i32 0) (.string t) (.string ⟨#[]⟩) (.string ⟨#[]⟩) (.slice none 0 0) (.string ⟨#[]⟩) (.int .i64 0)).all_8
 (try simp only [Exit.inBlock, Exit.then])
 refine bodyPost_ret (v := .agg #[.int .i64 3, .int .i32 0, .string t, .string ⟨#[]⟩, .string ⟨#[]⟩, .slice none 0 0, .string ⟨#[]⟩, .int .i64 0]) (by simp [results, Tryz.results132, go_sem, z0, z1, z2, z3, z4, z5, z6, z7]) rfl ?_
 exact ⟨.ex 3 0 t ⟨#[]⟩ ⟨#[]⟩ (.slice none 0 0) [] ⟨#[]⟩ 0, rfl, (HK.out.grown HG.out (.inl (by omega))).mono (by omega), Mv.over (Below.refl _ _) HM.out HG.out (Nat.le_refl _) hlt⟩
theorem atom_nm (n : Nat) (IH : SpecU n) (W0 w : World) (c : Nat) (s : RS) (t : ByteArray) (a : Int) (hv : Vars W0) (h : Rd W0 c s w) (hn : enough (n + 1) .atom s) (hp : s.ws[0]? = some (.nm t, a)) : Calls Tryz.prog 132 #[.pointer (some ⟨c, 0, none⟩)] w (ExC W0 c w (run (n + 1) .atom s)) := by
 have hR : run (n + 1) .atom s = run n (.used 6 11 E0 []) s := by simp only [run, hp]
 have hen : enough n (.used 6 11 E0 []) s := by simp only [enough, Md.rank] at hn ⊢; omega
 have hlt := h.lt
 have hle0 := h.le
 obtain ⟨W1, hW1⟩ : ∃ W1, w.alloc (.cells #[.int .i64 0, .int .i32 0, .string ⟨#[]⟩, .string ⟨#[]⟩, .string ⟨#[]⟩, .slice none 0 0, .string ⟨#[]⟩, .int .i64 0] 36) = W1 := ⟨_, rfl⟩
 have hb : Below w.heap.size w W1 := by rw [← hW1]; exact (Below.refl _ w).alloc (Nat.le_refl _) _
 have hx : Bx W1 w.heap.size #[.int .i64 0, .int .i32 0, .string ⟨#[]⟩, .string ⟨#[]⟩, .string ⟨#[]⟩, .slice none 0 0, .string ⟨#[]⟩, .int .i64 0] 36 := by rw [← hW1]; exact Bx.new _ _ _
 have hz : W1.heap.size = w.heap.size + 1 := by rw [← hW1]; simp
 have HM0 := Lib.hid (Mv.below hb h)
 have HX0 := Lib.hid hx
 clear hb hx
 have HA := Lib.hid (ahead_any W0 W1 c 0 s HM0.out.2 (by omega))
 have hav : aheadV s.ws 0 = (Pr.nm t).V := by simp [aheadV, hp]
 rw [hav] at HA
 simp only [Pr.V] at HA
 have HX := Lib.hid (IH W0 W1 (w.heap.size + 1) none c s 6 11 E0 (.slice none 0 0) [] [] hv HM0.out.2 hen (OwnR.nil _ _ _) rfl (by omega) (by omega) ⟨none, rfl⟩ (Nat.zero_le _) (Nat.zero_le _) (by simp))
 rw [hR]
 obtain ⟨r, hr⟩ : ∃ r, run n (.used 6 11 E0 []) s = r := ⟨_, rfl⟩
 rw [hr] at HX ⊢
 clear hr hen IH
 clear hR hn h hv hp hav
 go_enter Tryz.func132, Tryz.ntmps132
 go_wp2_with (go_at_call 70; refine HA.out.mono ?_; rintro e w0 ⟨rfl, rfl⟩)
 refine HX.out.mono ?_
 clear HX HA hW1
 rintro e w2 ⟨y, rfl, hk, hm⟩
 have HK := Lib.hid hk
 obtain ⟨k, m, tx, nm, ty, A, cap, l, rfl, _, _, _⟩ := hk
 have HM := Lib.hid (HM0.out.trans hm)
 have HBX := Lib.hid (Bx.grown HX0.out hm.1 (by omega))
 clear hm
 have hx2 := HBX.out
 obtain ⟨r0, r1, r2, r3, r4, r5, r6, r7⟩ := hx2.all_8
 have g0 := hx2.fro 0; have g1 := hx2.fro 1; have g2 := hx2.fro 2; have g3 := hx2.fro 3; have g4 := hx2.fro 4; have g5 := hx2.fro 5; have g6 := hx2.fro 6; have g7 := hx2.fro 7
 have HG := Lib.hid (grown_8 w2 w.heap.size (.int .i64 k) (.int .i32 m) (.string tx) (.string nm) (.string ty) (.slice A l.length cap) (.string ⟨#[]⟩) (.int .i64 0))
 clear hx2
 (try simp only [cellsN])
 go_wp2_with fail
 obtain ⟨z0, z1, z2, z3, z4, z5, z6, z7⟩ := (HBX.out.to_8 (.int .i64 k) (.int .i32 m) (.string tx) (.string nm) (.string ty) (.slice A l.length cap) (.string ⟨#[]⟩) (.int .i64 0)).all_8
 (try simp only [Exit.inBlock, Exit.then])
 refine bodyPost_ret (v := .agg #[.int .i64 k, .int .i32 m, .string tx, .string nm, .string ty, .slice A l.length cap, .string ⟨#[]⟩, .int .i64 0]) (by simp [results, Tryz.results132, go_sem, z0, z1, z2, z3, z4, z5, z6, z7]) rfl ?_
 exact ⟨_, rfl, (HK.out.grown HG.out (.inl (by omega))).mono (by omega), Mv.over (Below.refl _ _) HM.out HG.out (Nat.le_refl _) hlt⟩
theorem atom_cl (n : Nat) (IH : SpecU n) (W0 w : World) (c : Nat) (s : RS) (t : ByteArray) (a : Int) (hv : Vars W0) (h : Rd W0 c s w) (hn : enough (n + 1) .atom s) (hp : s.ws[0]? = some (.cl t, a)) : Calls Tryz.prog 132 #[.pointer (some ⟨c, 0, none⟩)] w (ExC W0 c w (run (n + 1) .atom s)) := by
 have hR : run (n + 1) .atom s = run n (.used 9 13 s.classV []) (s.class.need sCols) := by simp only [run, hp]
 have hen : enough n (.used 9 13 s.classV []) (s.class.need sCols) := by have h7 := len_class s; have h8 := len_need s.class sCols; simp only [enough, Md.rank] at hn ⊢; omega
 have hlt := h.lt
 have hle0 := h.le
 obtain ⟨W1, hW1⟩ : ∃ W1, w.alloc (.cells #[.int .i64 0, .int .i32 0, .string ⟨#[]⟩, .string ⟨#[]⟩, .string ⟨#[]⟩, .slice none 0 0, .string ⟨#[]⟩, .int .i64 0] 36) = W1 := ⟨_, rfl⟩
 have hb : Below w.heap.size w W1 := by rw [← hW1]; exact (Below.refl _ w).alloc (Nat.le_refl _) _
 have hx : Bx W1 w.heap.size #[.int .i64 0, .int .i32 0, .string ⟨#[]⟩, .string ⟨#[]⟩, .string ⟨#[]⟩, .slice none 0 0, .string ⟨#[]⟩, .int .i64 0] 36 := by rw [← hW1]; exact Bx.new _ _ _
 have hz : W1.heap.size = w.heap.size + 1 := by rw [← hW1]; simp
 have HM0 := Lib.hid (Mv.below hb h)
 have HX0 := Lib.hid hx
 clear hb hx
 have HA := Lib.hid (ahead_any W0 W1 c 0 s HM0.out.2 (by omega))
 have hav : aheadV s.ws 0 = (Pr.cl t).V := by simp [aheadV, hp]
 rw [hav] at HA
 simp only [Pr.V] at HA
 have HX := Lib.hid (ofClass_of n IH W0 W1 c s hv HM0.out.2 hen)
 rw [hR]
 obtain ⟨r, hr⟩ : ∃ r, run n (.used 9 13 s.classV []) (s.class.need sCols) = r := ⟨_, rfl⟩
 rw [hr] at HX ⊢
 clear hr hen IH
 clear hR hn h hv hp hav
 go_enter Tryz.func132, Tryz.ntmps132
 go_wp2_with (go_at_call 70; refine HA.out.mono ?_; rintro e w0 ⟨rfl, rfl⟩)
 refine HX.out.mono ?_
 clear HX HA hW1
 rintro e w2 ⟨y, rfl, hk, hm⟩
 have HK := Lib.hid hk
 obtain ⟨k, m, tx, nm, ty, A, cap, l, rfl, _, _, _⟩ := hk
 have HM := Lib.hid (HM0.out.trans hm)
 have HBX := Lib.hid (Bx.grown HX0.out hm.1 (by omega))
 clear hm
 have hx2 := HBX.out
 obtain ⟨r0, r1, r2, r3, r4, r5, r6, r7⟩ := hx2.all_8
 have g0 := hx2.fro 0; have g1 := hx2.fro 1; have g2 := hx2.fro 2; have g3 := hx2.fro 3; have g4 := hx2.fro 4; have g5 := hx2.fro 5; have g6 := hx2.fro 6; have g7 := hx2.fro 7
 have HG := Lib.hid (grown_8 w2 w.heap.size (.int .i64 k) (.int .i32 m) (.string tx) (.string nm) (.string ty) (.slice A l.length cap) (.string ⟨#[]⟩) (.int .i64 0))
 clear hx2
 (try simp only [cellsN])
 go_wp2_with fail
 obtain ⟨z0, z1, z2, z3, z4, z5, z6, z7⟩ := (HBX.out.to_8 (.int .i64 k) (.int .i32 m) (.string tx) (.string nm) (.string ty) (.slice A l.length cap) (.string ⟨#[]⟩) (.int .i64 0)).all_8
 (try simp only [Exit.inBlock, Exit.then])
 refine bodyPost_ret (v := .agg #[.int .i64 k, .int .i32 m, .string tx, .string nm, .string ty, .slice A l.length cap, .string ⟨#[]⟩, .int .i64 0]) (by simp [results, Tryz.results132, go_sem, z0, z1, z2, z3, z4, z5, z6, z7]) rfl ?_
 exact ⟨_, rfl, (HK.out.grown HG.out (.inl (by omega))).mono (by omega), Mv.over (Below.refl _ _) HM.out HG.out (Nat.le_refl _) hlt⟩
theorem atom_fx (n : Nat) (IH : SpecX n) (W0 w : World) (c : Nat) (s : RS) (t : ByteArray) (a : Int) (hv : Vars W0) (h : Rd W0 c s w) (hn : enough (n + 1) .atom s) (hp : s.ws[0]? = some (.fx t, a)) : Calls Tryz.prog 132 #[.pointer (some ⟨c, 0, none⟩)] w (ExC W0 c w (run (n + 1) .atom s)) := by
 have hR : run (n + 1) .atom s = run n .fixed s := by simp only [run, hp]
 have hen : enough n .fixed s := by simp only [enough, Md.rank] at hn ⊢; omega
 have hlt := h.lt
 have hle0 := h.le
 obtain ⟨W1, hW1⟩ : ∃ W1, w.alloc (.cells #[.int .i64 0, .int .i32 0, .string ⟨#[]⟩, .string ⟨#[]⟩, .string ⟨#[]⟩, .slice none 0 0, .string ⟨#[]⟩, .int .i64 0] 36) = W1 := ⟨_, rfl⟩
 have hb : Below w.heap.size w W1 := by rw [← hW1]; exact (Below.refl _ w).alloc (Nat.le_refl _) _
 have hx : Bx W1 w.heap.size #[.int .i64 0, .int .i32 0, .string ⟨#[]⟩, .string ⟨#[]⟩, .string ⟨#[]⟩, .slice none 0 0, .string ⟨#[]⟩, .int .i64 0] 36 := by rw [← hW1]; exact Bx.new _ _ _
 have hz : W1.heap.size = w.heap.size + 1 := by rw [← hW1]; simp
 have HM0 := Lib.hid (Mv.below hb h)
 have HX0 := Lib.hid hx
 clear hb hx
 have HA := Lib.hid (ahead_any W0 W1 c 0 s HM0.out.2 (by omega))
 have hav : aheadV s.ws 0 = (Pr.fx t).V := by simp [aheadV, hp]
 rw [hav] at HA
 simp only [Pr.V] at HA
 have HX := Lib.hid (IH W0 W1 c s hv HM0.out.2 hen)
 rw [hR]
 obtain ⟨r, hr⟩ : ∃ r, run n .fixed s = r := ⟨_, rfl⟩
 rw [hr] at HX ⊢
 clear hr hen IH
 clear hR hn h hv hp hav
 go_enter Tryz.func132, Tryz.ntmps132
 go_wp2_with (go_at_call 70; refine HA.out.mono ?_; rintro e w0 ⟨rfl, rfl⟩)
 refine HX.out.mono ?_
 clear HX HA hW1
 rintro e w2 ⟨y, rfl, hk, hm⟩
 have HK := Lib.hid hk
 obtain ⟨k, m, tx, nm, ty, A, cap, l, rfl, _, _, _⟩ := hk
 have HM := Lib.hid (HM0.out.trans hm)
 have HBX := Lib.hid (Bx.grown HX0.out hm.1 (by omega))
 clear hm
 have hx2 := HBX.out
 obtain ⟨r0, r1, r2, r3, r4, r5, r6, r7⟩ := hx2.all_8
 have g0 := hx2.fro 0; have g1 := hx2.fro 1; have g2 := hx2.fro 2; have g3 := hx2.fro 3; have g4 := hx2.fro 4; have g5 := hx2.fro 5; have g6 := hx2.fro 6; have g7 := hx2.fro 7
 have HG := Lib.hid (grown_8 w2 w.heap.size (.int .i64 k) (.int .i32 m) (.string tx) (.string nm) (.string ty) (.slice A l.length cap) (.string ⟨#[]⟩) (.int .i64 0))
 clear hx2
 (try simp only [cellsN])
 go_wp2_with fail
 obtain ⟨z0, z1, z2, z3, z4, z5, z6, z7⟩ := (HBX.out.to_8 (.int .i64 k) (.int .i32 m) (.string tx) (.string nm) (.string ty) (.slice A l.length cap) (.string ⟨#[]⟩) (.int .i64 0)).all_8
 (try simp only [Exit.inBlock, Exit.then])
 refine bodyPost_ret (v := .agg #[.int .i64 k, .int .i32 m, .string tx, .string nm, .string ty, .slice A l.length cap, .string ⟨#[]⟩, .int .i64 0]) (by simp [results, Tryz.results132, go_sem, z0, z1, z2, z3, z4, z5, z6, z7]) rfl ?_
 exact ⟨_, rfl, (HK.out.grown HG.out (.inl (by omega))).mono (by omega), Mv.over (Below.refl _ _) HM.out HG.out (Nat.le_refl _) hlt⟩
theorem atom_no (n : Nat) (IH : SpecX n) (W0 w : World) (c : Nat) (s : RS) (hv : Vars W0) (h : Rd W0 c s w) (hn : enough (n + 1) .atom s) (hp : s.ws[0]? = none) : Calls Tryz.prog 132 #[.pointer (some ⟨c, 0, none⟩)] w (ExC W0 c w (run (n + 1) .atom s)) := by
 have hR : run (n + 1) .atom s = run n .fixed s := by simp only [run, hp]
 have hen : enough n .fixed s := by simp only [enough, Md.rank] at hn ⊢; omega
 have hlt := h.lt
 have hle0 := h.le
 obtain ⟨W1, hW1⟩ : ∃ W1, w.alloc (.cells #[.int .i64 0, .int .i32 0, .string ⟨#[]⟩, .string ⟨#[]⟩, .string ⟨#[]⟩, .slice none 0 0, .string ⟨#[]⟩, .int .i64 0] 36) = W1 := ⟨_, rfl⟩
 have hb : Below w.heap.size w W1 := by rw [← hW1]; exact (Below.refl _ w).alloc (Nat.le_refl _) _
 have hx : Bx W1 w.heap.size #[.int .i64 0, .int .i32 0, .string ⟨#[]⟩, .string ⟨#[]⟩, .string ⟨#[]⟩, .slice none 0 0, .string ⟨#[]⟩, .int .i64 0] 36 := by rw [← hW1]; exact Bx.new _ _ _
 have hz : W1.heap.size = w.heap.size + 1 := by rw [← hW1]; simp
 have HM0 := Lib.hid (Mv.below hb h)
 have HX0 := Lib.hid hx
 clear hb hx
 have HA := Lib.hid (ahead_any W0 W1 c 0 s HM0.out.2 (by omega))
 have hav : aheadV s.ws 0 = .nilIface := by simp [aheadV, hp]
 rw [hav] at HA
 have HX := Lib.hid (IH W0 W1 c s hv HM0.out.2 hen)
 rw [hR]
 obtain ⟨r, hr⟩ : ∃ r, run n .fixed s = r := ⟨_, rfl⟩
 rw [hr] at HX ⊢
 clear hr hen IH
 clear hR hn h hv hp hav
 go_enter Tryz.func132, Tryz.ntmps132
 go_wp2_with (go_at_call 70; refine HA.out.mono ?_; rintro e w0 ⟨rfl, rfl⟩)
 refine HX.out.mono ?_
 clear HX HA hW1
 rintro e w2 ⟨y, rfl, hk, hm⟩
 have HK := Lib.hid hk
 obtain ⟨k, m, tx, nm, ty, A, cap, l, rfl, _, _, _⟩ := hk
 have HM := Lib.hid (HM0.out.trans hm)
 have HBX := Lib.hid (Bx.grown HX0.out hm.1 (by omega))
 clear hm
 have hx2 := HBX.out
 obtain ⟨r0, r1, r2, r3, r4, r5, r6, r7⟩ := hx2.all_8
 have g0 := hx2.fro 0; have g1 := hx2.fro 1; have g2 := hx2.fro 2; have g3 := hx2.fro 3; have g4 := hx2.fro 4; have g5 := hx2.fro 5; have g6 := hx2.fro 6; have g7 := hx2.fro 7
 have HG := Lib.hid (grown_8 w2 w.heap.size (.int .i64 k) (.int .i32 m) (.string tx) (.string nm) (.string ty) (.slice A l.length cap) (.string ⟨#[]⟩) (.int .i64 0))
 clear hx2
 (try simp only [cellsN])
 go_wp2_with fail
 obtain ⟨z0, z1, z2, z3, z4, z5, z6, z7⟩ := (HBX.out.to_8 (.int .i64 k) (.int .i32 m) (.string tx) (.string nm) (.string ty) (.slice A l.length cap) (.string ⟨#[]⟩) (.int .i64 0)).all_8
 (try simp only [Exit.inBlock, Exit.then])
 refine bodyPost_ret (v := .agg #[.int .i64 k, .int .i32 m, .string tx, .string nm, .string ty, .slice A l.length cap, .string ⟨#[]⟩, .int .i64 0]) (by simp [results, Tryz.results132, go_sem, z0, z1, z2, z3, z4, z5, z6, z7]) rfl ?_
 exact ⟨_, rfl, (HK.out.grown HG.out (.inl (by omega))).mono (by omega), Mv.over (Below.refl _ _) HM.out HG.out (Nat.le_refl _) hlt⟩
theorem atom_of (n : Nat) (IHU : SpecU n) (IHX : SpecX n) : SpecA (n + 1) := by
 intro W0 w c s hv h hn
 cases hp : s.ws[0]? with
 | none => exact atom_no n IHX W0 w c s hv h hn hp
 | some x =>
   obtain ⟨q, a⟩ := x
   cases q with
   | nu t => exact atom_nu n W0 w c s t a hv h hn hp
   | qu t => exact atom_qu n W0 w c s t a hv h hn hp
   | nm t => exact atom_nm n IHU W0 w c s t a hv h hn hp
   | cl t => exact atom_cl n IHU W0 w c s t a hv h hn hp
   | fx t => exact atom_fx n IHX W0 w c s t a hv h hn hp
end
end Go.Proofs.YtnbfajmdfkgebaaGreatDoor
