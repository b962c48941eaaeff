/- Statements of layer 13: Word32Texts as a walk. -/
import Derived.Test.YtggabclclghmbaaNwG
set_option linter.unusedSimpArgs false
set_option linter.unusedVariables false
namespace Go.Proofs.Ytggabclclghmbaa
open Go.RowKit

set_option maxRecDepth 100000 in
set_option maxHeartbeats 4000000 in
theorem texts_any (a b : Int) (hA : (Lit.int .i32 a).wf = true) (hB : (Lit.int .i32 b).wf = true) (w : World) : Calls Try.prog 5 #[.int .i32 a, .int .i32 b] w fun e w' => e = .returned (.bool true) ∧ Below w.heap.size w w' := by
  have ha := i32_of hA
  have hb := i32_of hB
  obtain ⟨k, ds, hF⟩ := decF a ha
  have t1 : TextS a (decT a) := textS ha rfl
  have t2 : TextS b (decT b) := textS hb rfl
  have hst := texts_eq ha hb
  obtain ⟨s, hs⟩ : ∃ s, decT a = s := ⟨_, rfl⟩
  obtain ⟨t, ht⟩ : ∃ t, decT b = t := ⟨_, rfl⟩
  rw [hs] at hF t1 hst
  rw [ht] at t2 hst
  have hsz := hF.size
  have hl1 := hF.len1
  have hl2 := hF.len2
  have hk : k ≤ 1 := by rcases hF.val with ⟨r, _⟩ | ⟨r, _⟩ <;> omega
  have hvb : valL 0 ds ≤ 2147483648 := by unfold i32 at ha; rcases hF.val with ⟨_, r⟩ | ⟨_, r, _⟩ <;> omega
  have hsi : (s.size : Int) ≤ 12 := by omega
  have hs1 : (1 : Int) ≤ s.size := by omega
  have HF := Lib.hid hF
  have HST := Lib.hid hst
  have HSZ := Lib.hid hsz
  have HVB := Lib.hid hvb
  have hc : Below w.heap.size w w := Below.refl _ _
  clear hs ht hA hB hF hst hsz hvb
  obtain ⟨ha1, ha2⟩ := ha
  go_enter Try.func5, Try.ntmps5
  go_wp2_with fail
  refine (t1.out _).mono ?_
  rintro e w1 ⟨rfl, hb1⟩
  replace hc := hc.trans (hb1.mono hc.size); clear hb1
  go_wp2_with fail
  refine (t2.out _).mono ?_
  rintro e w2 ⟨rfl, hb1⟩
  replace hc := hc.trans (hb1.mono hc.size); clear hb1
  go_wp2_with fail
  go_loopw [7] (fun v7 wr => ∃ (p : Nat), v7 = .int .i64 (valL 0 (ds.take (p - k)) : Nat) ∧ wr = w2.iter s p ∧ p ≤ s.size) (fun v7 wr => s.size - wr.iterPos w2.heap.size)
  case atStart => exact ⟨0, by simp [valL], rfl, Nat.zero_le _⟩
  case round =>
    obtain ⟨p, rfl, rfl, hp⟩ := hrel
    by_cases hlt : p < s.size
    · by_cases hsk : p = 0 ∧ k = 1
      · obtain ⟨rfl, rfl⟩ := hsk
        have h45 : (s[0]'hlt).toNat = 45 := by
          rcases HF.out.val with ⟨r, _⟩ | ⟨_, _, _, r⟩
          · omega
          · exact r hlt
        have hnx := fun ty => run_next_ascii (P := Try.prog) w2 s 0 ty hlt (by omega)
        rw [h45] at hnx
        go_wp2
        go_roundw
        case rel => exact ⟨1, by simp, rfl, by omega⟩
        case measure => simp; omega
      · have hpk : k ≤ p := by omega
        have hz := HSZ.out
        obtain ⟨d, hd⟩ : ∃ d, ds[p - k]? = some d := ⟨ds[p - k]'(by omega), List.getElem?_eq_getElem _⟩
        obtain ⟨hd10, hdb⟩ := HF.out.dig (p - k) d hd
        have hb48 : (s[p]'hlt).toNat = 48 + d := by
          have e : k + (p - k) = p := by omega
          have := hdb (by omega)
          simp only [e] at this
          exact this
        have hnx := fun ty => run_next_ascii (P := Try.prog) w2 s p ty hlt (by omega)
        rw [hb48] at hnx
        have HV := Lib.hid (valL_take ds (p - k) d hd)
        have hpre := valL_pre ds (p - k)
        have hvb := HVB.out
        have hm : ((valL 0 (ds.take (p - k)) : Nat) : Int) ≤ 2147483648 := by omega
        have hd1 : (d : Int) ≤ 9 := by omega
        have hnp : p + 1 - k = p - k + 1 := by omega
        obtain ⟨m, hme⟩ : ∃ m, valL 0 (ds.take (p - k)) = m := ⟨_, rfl⟩
        rw [hme] at hm HV ⊢
        have HV2 : Hid (valL 0 (ds.take (p + 1 - k)) = m * 10 + d) := Lib.hid (by rw [hnp]; exact HV.out)
        clear hd hdb hb48 hpre hvb hnp hme HV
        have e48 : ((48 + d : Nat) : Int) = 48 + (d : Int) := by omega
        by_cases hp0 : p = 0
        · subst hp0
          go_wp2
          go_roundw
          case rel => exact ⟨1, by rw [HV2.out]; go_num, rfl, by omega⟩
          case measure => simp; omega
        · have hp1 : ((p : Int) == 0) = false := by rw [beq_eq_false_iff_ne]; omega
          go_wp2
          go_roundw
          case rel => exact ⟨p + 1, by rw [HV2.out]; go_num, rfl, by omega⟩
          case measure => simp; omega
    · have hz := HSZ.out
      have HT : Hid (ds.take (p - k) = ds) := Lib.hid (List.take_of_length_le (by omega))
      have hnx := fun ty => run_next_end (P := Try.prog) w2 s p ty hlt
      have hc2 : Below w.heap.size w (w2.iter s p) := hc.alloc hc.size _
      rw [HT.out]
      have hvb := HVB.out
      have hm : ((valL 0 ds : Nat) : Int) ≤ 2147483648 := by omega
      have h0 : 0 < s.size := by omega
      have hsne : ((s.size : Int) == 0) = false := by rw [beq_eq_false_iff_ne]; omega
      have hst := HST.out
      rcases HF.out.val with ⟨hk0, hv⟩ | ⟨hk1, hv, hneg, h45⟩
      · obtain ⟨d, hd⟩ : ∃ d, ds[0]? = some d := ⟨ds[0]'(by omega), List.getElem?_eq_getElem _⟩
        obtain ⟨hd10, hdb⟩ := HF.out.dig 0 d hd
        have hb0 : (s[0]'h0).toNat = 48 + d := by
          have := hdb (by omega)
          simp only [hk0] at this
          exact this
        have hq : (((s[0]'h0).toNat : Int) == 45) = false := by rw [beq_eq_false_iff_ne]; omega
        have HV := Lib.hid hv
        obtain ⟨m, hme⟩ : ∃ m, valL 0 ds = m := ⟨_, rfl⟩
        rw [hme] at hm HV ⊢
        have hma : ((m : Int) == a) = true := by rw [beq_iff_eq]; exact HV.out.symm
        clear hv hvb hdb hd hb0 hme
        have HS2 := Lib.hid hst
        clear hst
        go_wp2_with fail
        refine (told_any _).mono ?_
        rintro e w3 ⟨rfl, hb1⟩
        replace hc2 := hc2.trans (hb1.mono hc2.size); clear hb1
        have hst := HS2.out
        obtain ⟨z, hz⟩ : ∃ z, (a == b) = z := ⟨_, rfl⟩
        rw [hz] at hst
        cases z
        all_goals go_wp2_with fail
        all_goals (go_ret; exact ⟨rfl, hc2⟩)
      · have h450 := h45 h0
        have hq : (((s[0]'h0).toNat : Int) == 45) = true := by rw [beq_iff_eq]; omega
        have HV := Lib.hid hv
        obtain ⟨m, hme⟩ : ∃ m, valL 0 ds = m := ⟨_, rfl⟩
        rw [hme] at hm HV ⊢
        have hma : (-(m : Int) == a) = true := by rw [beq_iff_eq]; exact HV.out.symm
        clear hv hvb hme h45 hneg
        have HS2 := Lib.hid hst
        clear hst
        go_wp2_with fail
        refine (told_any _).mono ?_
        rintro e w3 ⟨rfl, hb1⟩
        replace hc2 := hc2.trans (hb1.mono hc2.size); clear hb1
        have hst := HS2.out
        obtain ⟨z, hz⟩ : ∃ z, (a == b) = z := ⟨_, rfl⟩
        rw [hz] at hst
        cases z
        all_goals go_wp2_with fail
        all_goals (go_ret; exact ⟨rfl, hc2⟩)
end Go.Proofs.Ytggabclclghmbaa
