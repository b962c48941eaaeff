/- Parts of the proof: Num. -/
import Derived.Test.YtipcoglddfgopaaGreatDoorP6
import Derived.Test.YtipcoglddfgopaaGreatDoorShelf
import Derived.Lib.ParseIntBTie
import Derived.Lib.AtoiErrMem
set_option maxHeartbeats 2000000
set_option maxRecDepth 100000
set_option linter.unusedSimpArgs false
set_option linter.unusedVariables false
namespace Go.Proofs.YtipcoglddfgopaaGreatDoor
open Go.RowKit
def ParSaid (t : ByteArray) (w : World) (e : Ending) (w' : World) : Prop :=
 Below w.heap.size w w' ∧ ((∃ v, numO t = some v ∧ e = .returned (.tuple #[.int .i64 v, .nilIface])) ∨ (numO t = none ∧ ∃ v T p, e = .returned (.tuple #[.int .i64 v, .iface T (.pointer (some p))])))
theorem Vars.keepR {W0 w : World} {c : Nat} {s : RS} (hv : Vars W0) (h : Rd W0 c s w) : Vars w := by
 have key : ∀ g ev, W0.cell? ⟨g, 0, none⟩ = some ev → (ev = .nilIface ∨ ∃ te pe, ev = .iface te pe) → w.cell? ⟨g, 0, none⟩ = some ev := by
   intro g ev hg he
   have hne : g ≠ c := by
     rintro rfl
     rcases he with rfl | ⟨te, pe, rfl⟩
     · exact h.2.1.nonil hg
     · exact h.2.1.no hg
   exact (World.cell?_of_block (a := ⟨g, 0, none⟩) (World.grownBy.block h.1 g (World.block_lt_of_cell? W0 (a := ⟨g, 0, none⟩) hg) (by simpa using hne))).trans hg
 obtain ⟨⟨a, h1, h2⟩, b, h3, h4⟩ := hv
 exact ⟨⟨a, key _ _ h1 h2, h2⟩, b, key _ _ h3 h4, h4⟩
theorem parse_any (w : World) (t : ByteArray) (hv : Vars w) (ht : t.size ≤ 1000000) : Calls Tryz.prog 142 #[.string t, .int .i64 10, .int .i64 32] w (ParSaid t w) := by
 obtain ⟨⟨ev, h1, h2⟩, ev', h3, h4⟩ := hv
 cases hp : Lib.parseIntB 32 t.data.toList with
 | ok v =>
   refine (Tryz.strconv_ParseInt_10_at32_ok t (by omega) v hp w).mono ?_
   rintro e w' ⟨rfl, h⟩
   refine ⟨?_, .inl ⟨v, by simp [numO, hp], rfl⟩⟩
   rcases h with rfl | ⟨u, rfl⟩
   · exact Below.refl _ _
   · exact Lib.bytesWorld_below _ _ _
 | range =>
   refine (Tryz.strconv_ParseInt_10_at32_range t (by omega) hp ev' w h3 h4).mono ?_
   rintro e w' ⟨N, rfl, _, _, hb⟩
   exact ⟨hb, .inr ⟨by simp [numO, hp], _, _, _, rfl⟩⟩
 | _ =>
   refine (Tryz.strconv_ParseInt_10_at32_syntax t (by omega) hp ev w h1 h2).mono ?_
   rintro e w' ⟨N, rfl, _, _, hb⟩
   exact ⟨hb, .inr ⟨by simp [numO, hp], _, _, _, rfl⟩⟩
theorem num_bounds {t : ByteArray} {v : Int} (h : numO t = some v) : -2147483648 ≤ v ∧ v < 2147483648 := by
 unfold numO at h
 split at h
 · rename_i u hu
   injection h with h; subst h
   have := Lib.parseIntB_bounds hu
   simpa using this
 · cases h
theorem ret_i32 {a b : Int} (h : b = a) : Ending.returned (.int .i32 a) = .returned (.int .i32 b) := by rw [h]
theorem number_no (W0 w : World) (c : Nat) (s : RS) (most : Int) (h : Rd W0 c s w) (hp : nuP s.ws[0]? = none) : Calls Tryz.prog 124 #[.pointer (some ⟨c, 0, none⟩), .int .i64 most] w fun e w' => e = .returned (.int .i32 (s.numR most)) ∧ Mv W0 c (s.num most) w w' := by
 have HA := Lib.hid (ahead_any W0 w c 0 s h (by omega))
 have HF := Lib.hid (fail_any W0 w c s 3 h)
 have HE := Lib.hid (show s.num most = s.fail 3 by simp [RS.num, hp])
 have HV := Lib.hid (show s.numR most = 0 by simp [RS.numR, hp])
 cases hx : s.ws[0]? with
 | none =>
   have hv : aheadV s.ws 0 = .nilIface := by simp [aheadV, hx]
   rw [hv] at HA
   clear hx hv h hp
   go_enter Tryz.func124, Tryz.ntmps124
   go_wp2_with (first | (go_at_call 48; refine HA.out.mono ?_; clear HA; rintro e w1 ⟨rfl, rfl⟩) | (go_at_call 31; refine HF.out.mono ?_; clear HF; rintro e w1 ⟨rfl, hm⟩; have HM := Lib.hid hm; clear hm))
   go_ret
   exact ⟨ret_i32 HV.out, by rw [HE.out]; exact HM.out⟩
 | some x =>
   obtain ⟨q, a⟩ := x
   have hv : aheadV s.ws 0 = q.V := by simp [aheadV, hx]
   rw [hv] at HA
   cases q with
   | nu t => rw [hx] at hp; cases hp
   | fx t | nm t | cl t | qu t =>
     simp only [Pr.V] at HA
     clear hx hv h hp
     go_enter Tryz.func124, Tryz.ntmps124
     go_wp2_with (first | (go_at_call 48; refine HA.out.mono ?_; clear HA; rintro e w1 ⟨rfl, rfl⟩) | (go_at_call 31; refine HF.out.mono ?_; clear HF; rintro e w1 ⟨rfl, hm⟩; have HM := Lib.hid hm; clear hm))
     go_ret
     exact ⟨ret_i32 HV.out, by rw [HE.out]; exact HM.out⟩
theorem number_yes (W0 w : World) (c : Nat) (s : RS) (most : Int) (t : ByteArray) (a : Int) (hvars : Vars W0) (h : Rd W0 c s w) (hp : s.ws[0]? = some (.nu t, a)) : Calls Tryz.prog 124 #[.pointer (some ⟨c, 0, none⟩), .int .i64 most] w fun e w' => e = .returned (.int .i32 (s.numR most)) ∧ Mv W0 c (s.num most) w w' := by
 have HA := Lib.hid (ahead_any W0 w c 0 s h (by omega))
 have hv : aheadV s.ws 0 = (Pr.nu t).V := by simp [aheadV, hp]
 rw [hv] at HA
 simp only [Pr.V] at HA
 have HP := Lib.hid (parse_any w t (hvars.keepR h) (h.short hp))
 have HF : Hid (∀ w', Rd W0 c s w' → Calls Tryz.prog 31 #[.pointer (some ⟨c, 0, none⟩), .int .i64 5] w' fun e w'' => e = .returned (.tuple #[]) ∧ Mv W0 c (s.fail 5) w' w'') := by
   show ∀ w', _
   intro w' h'; exact fail_any W0 w' c s 5 h'
 have HS : Hid (∀ w', Rd W0 c s w' → Calls Tryz.prog 50 #[.pointer (some ⟨c, 0, none⟩)] w' fun e w'' => e = .returned (.tuple #[]) ∧ Mv W0 c s.skip w' w'') := by
   show ∀ w', _
   intro w' h'; exact skip_any W0 w' c s h' (ne_of_get hp)
 have hnu : nuP s.ws[0]? = some t := by rw [hp]; rfl
 have HRD := Lib.hid h
 cases ho : numO t with
 | none =>
   have HE := Lib.hid (show s.num most = s.fail 5 by simp [RS.num, hnu, RS.numT, ho])
   have HV := Lib.hid (show s.numR most = 0 by simp [RS.numR, hnu, RS.numV, ho])
   have HP2 : Hid (Calls Tryz.prog 142 #[.string t, .int .i64 10, .int .i64 32] w fun e w' => Below w.heap.size w w' ∧ ∃ v T p, e = .returned (.tuple #[.int .i64 v, .iface T (.pointer (some p))])) := by
     refine HP.out.mono ?_
     rintro e w' ⟨hb, ⟨v, hv', _⟩ | ⟨_, hr⟩⟩
     · rw [ho] at hv'; cases hv'
     · exact ⟨hb, hr⟩
   clear hv h hp hnu ho HP hvars
   go_enter Tryz.func124, Tryz.ntmps124
   go_wp2_with (first | (go_at_call 48; refine HA.out.mono ?_; clear HA; rintro e w1 ⟨rfl, rfl⟩) | (go_at_call 142; refine HP2.out.mono ?_; clear HP2; rintro e w1 ⟨hb, v, T, p, rfl⟩; have HM := Lib.hid (Mv.below hb HRD.out); clear hb) | (go_at_call 31; refine (HF.out _ HM.out.2).mono ?_; clear HF; rintro e w2 ⟨rfl, hm⟩; have HM2 := Lib.hid hm; clear hm))
   go_ret
   exact ⟨ret_i32 HV.out, by rw [HE.out]; exact HM.out.trans HM2.out⟩
 | some v =>
   have hbd := num_bounds ho
   have HP2 : Hid (Calls Tryz.prog 142 #[.string t, .int .i64 10, .int .i64 32] w fun e w' => Below w.heap.size w w' ∧ e = .returned (.tuple #[.int .i64 v, .nilIface])) := by
     refine HP.out.mono ?_
     rintro e w' ⟨hb, ⟨v', hv', hr⟩ | ⟨hn, _⟩⟩
     · rw [ho] at hv'; injection hv' with hv'; subst hv'; exact ⟨hb, hr⟩
     · rw [ho] at hn; cases hn
   by_cases hle : v ≤ most
   · have HE := Lib.hid (show s.num most = s.skip by simp [RS.num, hnu, RS.numT, ho, hle])
     have HV := Lib.hid (show s.numR most = v by simp [RS.numR, hnu, RS.numV, ho, hle])
     have hw : wrap32 v = v := by unfold wrap32; omega
     clear hv h hp hnu ho HP hvars
     go_enter Tryz.func124, Tryz.ntmps124
     go_wp2_with (first | (go_at_call 48; refine HA.out.mono ?_; clear HA; rintro e w1 ⟨rfl, rfl⟩) | (go_at_call 142; refine HP2.out.mono ?_; clear HP2; rintro e w1 ⟨hb, rfl⟩; have HM := Lib.hid (Mv.below hb HRD.out); clear hb) | (go_at_call 50; refine (HS.out _ HM.out.2).mono ?_; clear HS; rintro e w2 ⟨rfl, hm⟩; have HM2 := Lib.hid hm; clear hm))
     go_ret
     exact ⟨ret_i32 (by rw [HV.out]), by rw [HE.out]; exact HM.out.trans HM2.out⟩
   · have HE := Lib.hid (show s.num most = s.fail 5 by simp [RS.num, hnu, RS.numT, ho, hle])
     have HV := Lib.hid (show s.numR most = 0 by simp [RS.numR, hnu, RS.numV, ho, hle])
     have hlt : most < v := by omega
     clear hv h hp hnu ho HP hvars hle
     go_enter Tryz.func124, Tryz.ntmps124
     go_wp2_with (first | (go_at_call 48; refine HA.out.mono ?_; clear HA; rintro e w1 ⟨rfl, rfl⟩) | (go_at_call 142; refine HP2.out.mono ?_; clear HP2; rintro e w1 ⟨hb, rfl⟩; have HM := Lib.hid (Mv.below hb HRD.out); clear hb) | (go_at_call 31; refine (HF.out _ HM.out.2).mono ?_; clear HF; rintro e w2 ⟨rfl, hm⟩; have HM2 := Lib.hid hm; clear hm))
     go_ret
     exact ⟨ret_i32 HV.out, by rw [HE.out]; exact HM.out.trans HM2.out⟩
theorem number_any (W0 w : World) (c : Nat) (s : RS) (most : Int) (hv : Vars W0) (h : Rd W0 c s w) : Calls Tryz.prog 124 #[.pointer (some ⟨c, 0, none⟩), .int .i64 most] w fun e w' => e = .returned (.int .i32 (s.numR most)) ∧ Mv W0 c (s.num most) w w' := by
 cases hp : s.ws[0]? with
 | none => exact number_no W0 w c s most h (by rw [hp]; rfl)
 | some x =>
   obtain ⟨q, a⟩ := x
   cases q with
   | nu t => exact number_yes W0 w c s most t a hv h hp
   | fx t | nm t | cl t | qu t => exact number_no W0 w c s most h (by rw [hp]; rfl)
end Go.Proofs.YtipcoglddfgopaaGreatDoor
