/- The statements of layer 1 as walks over the contracts. -/
import Derived.Test.YthimniopmeihgaaTold
set_option linter.unusedSimpArgs false
set_option linter.unusedVariables false
namespace Go.Proofs.Ythimniopmeihgaa
open Go.RowKit

theorem sub_len (s : ByteArray) (p k : Nat) (h : p + k ≤ s.size) : (sub s p k).length = k := by
  have : s.data.toList.length = s.size := by simp
  rw [sub, List.length_take, List.length_drop]; omega
theorem fffd_wid (s : ByteArray) (p : Nat) (h : p < s.size) (hB : badAt s p = false) (hr : (Utf8.decode s p).1 = 65533) : p + 3 ≤ s.size ∧ (s.extract p (p + 3)).toList = [239, 191, 189] := by
  have e := enc_ok s p h hB
  rw [hr] at e
  have e2 : Lib.encodeRune ((65533 : Nat) : Int) = [239, 191, 189] := by decide
  rw [e2] at e
  have hl := sub_len s p _ (wid_le s p h)
  rw [← e] at hl
  have hw := wid_le s p h
  have h3 : (Utf8.decode s p).2 = 3 := by rw [← hl]; rfl
  rw [h3] at e hw
  exact ⟨hw, by rw [Lib.toList_data, extract_sub, show p + 3 - p = 3 from by omega]; exact e.symm⟩
set_option maxRecDepth 100000 in
set_option maxHeartbeats 1000000 in
theorem lawSignBad (s : ByteArray) (hs : s.size ≤ maxLen) (w : World) : Calls Try.prog 5 #[.string s] w fun e w' => e = .returned (.bool true) ∧ Below w.heap.size w w' := by
  by_cases h2 : 200 < s.size
  · have h2' : (200 : Int) < s.size := by omega
    go_enter Try.func5, Try.ntmps5
    go_wp2_with (go_at_call 8; refine (told_any _).mono ?_; rintro e w1 ⟨rfl, hb⟩)
    go_ret
    exact ⟨rfl, hb⟩
  · have h2' : (s.size : Int) ≤ 200 := by omega
    go_enter Try.func5, Try.ntmps5
    go_wp2_with (go_at_call 23; refine (bad_any _ _ hs).mono ?_; rintro e w1 ⟨rfl, hb⟩)
    have hi : ∀ p, Below w.heap.size w (w1.iter s p) := fun p => hb.trans ((iter_below w1 s p).mono hb.size)
    have HI := Lib.hid hi; clear hi
    have fin : ∀ (p : Nat) (w2 : World), Below (w1.iter s p).heap.size (w1.iter s p) w2 → Below w.heap.size w w2 := fun p w2 h => (HI.out p).trans (h.mono (HI.out p).size)
    have FIN := Lib.hid fin; clear fin
    go_loopw [] (fun wr => ∃ p : Nat, wr = w1.iter s p ∧ p ≤ s.size ∧ badFrom s p = bad s) (fun wr => s.size - wr.iterPos w1.heap.size)
    case atStart => exact ⟨0, rfl, Nat.zero_le _, rfl⟩
    case round =>
      obtain ⟨p, rfl, hp, hB⟩ := hrel
      by_cases hlt : p < s.size
      · have hnx := fun ty => run_next_any (P := Try.prog) w1 s p ty hlt
        have hw := wid_pos s p
        have hwl := wid_le s p hlt
        cases hbad : badAt s p
        · have hst := (badFrom_step s p hlt hbad).symm.trans hB
          have hrg := badFrom_range s (p + (Utf8.decode s p).2)
          rw [hst] at hrg
          have k1 : ((p : Int) == bad s) = false := by rw [beq_eq_false_iff_ne]; omega
          have HB := Lib.hid hst; clear hst hB
          by_cases hF : (Utf8.decode s p).1 = 65533
          · obtain ⟨f1, f2⟩ := fffd_wid s p hlt hbad hF
            have b1 : ((((Utf8.decode s p).1 : Nat) : Int) == 65533) = true := by rw [beq_iff_eq]; omega
            have f3 : (p : Int) + 3 ≤ s.size := by omega
            have f4 : ((p : Int) + 3).toNat = p + 3 := by omega
            have f5 : (p : Int) ≤ (p : Int) + 3 := by omega
            have f6 : 0 ≤ (p : Int) + 3 := by omega
            clear hF
            rcases hrg with hrg | ⟨hrg, hr2⟩
            · have k2 : ¬ 0 ≤ bad s := by omega
              clear hrg
              go_wp2
              go_roundw
              case rel => exact ⟨p + (Utf8.decode s p).2, rfl, hwl, HB.out⟩
              case measure => simp; omega
            · have k2 : 0 ≤ bad s := by omega
              have k3 : (p : Int) ≤ bad s := by omega
              go_wp2
              go_roundw
              case rel => exact ⟨p + (Utf8.decode s p).2, rfl, hwl, HB.out⟩
              case measure => simp; omega
          · have b1 : ((((Utf8.decode s p).1 : Nat) : Int) == 65533) = false := by rw [beq_eq_false_iff_ne]; omega
            clear hF
            rcases hrg with hrg | ⟨hrg, hr2⟩
            · have k2 : ¬ 0 ≤ bad s := by omega
              clear hrg
              go_wp2
              go_roundw
              case rel => exact ⟨p + (Utf8.decode s p).2, rfl, hwl, HB.out⟩
              case measure => simp; omega
            · have k2 : 0 ≤ bad s := by omega
              have k3 : (p : Int) ≤ bad s := by omega
              go_wp2
              go_roundw
              case rel => exact ⟨p + (Utf8.decode s p).2, rfl, hwl, HB.out⟩
              case measure => simp; omega
        · have hk := (badFrom_at s p hlt hbad).symm.trans hB
          have k1 : ((p : Int) == bad s) = true := by rw [beq_iff_eq]; exact hk
          have hF : ((((Utf8.decode s p).1 : Nat) : Int) == 65533) = true := by rw [badAt_eq hbad]; rfl
          clear hk hB
          go_wp2_with (go_at_call 8; refine (told_any _).mono ?_; rintro e w2 ⟨rfl, hb2⟩)
          go_ret
          exact ⟨rfl, FIN.out _ _ hb2⟩
      · have hnx := fun ty => run_next_end (P := Try.prog) w1 s p ty hlt
        have hk := hB.symm.trans (badFrom_end s p hlt)
        have k1 : (bad s == -1) = true := by rw [beq_iff_eq]; exact hk
        clear hk hB
        go_wp2_with (go_at_call 8; refine (told_any _).mono ?_; rintro e w2 ⟨rfl, hb2⟩)
        go_ret
        exact ⟨rfl, FIN.out _ _ hb2⟩
end Go.Proofs.Ythimniopmeihgaa
