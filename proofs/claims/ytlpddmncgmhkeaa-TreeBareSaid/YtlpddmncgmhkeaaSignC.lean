/- Contracts of the functions of package sign that tell names. -/
import Derived.Test.YtlpddmncgmhkeaaSignB
import Derived.Test.YtlpddmncgmhkeaaText
import Derived.Lib.Hide
import Derived.WalkKit
import Derived.BigCall
import Derived.Deep.QuietTactic
import Derived.BigQuiet
set_option linter.unusedSimpArgs false
set_option linter.unusedVariables false
namespace Go.Proofs.Ytlpddmncgmhkeaa
open Go.RowKit

theorem reserved_any (s : ByteArray) (w : World) : Calls Try.prog 84 #[.string s] w fun e w' => e = .returned (.bool (kept s.data.toList)) ∧ w = w' := by
  go_enter Try.func84, Try.ntmps84
  rw [← Lib.toList_data]
  go_wp2
  all_goals (go_ret; refine ⟨?_, rfl⟩)
  all_goals first | (simp_all only [kept, keptWords, List.contains_cons]; done) | (simp_all [kept, keptWords, List.contains_cons]; done)
set_option maxHeartbeats 2000000 in
theorem shaped_small (s : ByteArray) (w : World) (hs : s.size ≤ maxLen) : Calls Try.prog 82 #[.string s, .func (.func 83) #[] #[]] w fun e w' => e = .returned (.bool (shape small s)) ∧ Below w.heap.size w w' := by
  unfold maxLen at hs
  by_cases h0 : s.size = 0
  · obtain rfl := size0 s h0
    go_enter Try.func82, Try.ntmps82
    go_wp2
    go_ret
    exact ⟨by have e : (⟨#[]⟩ : ByteArray).size = 0 := rfl; simp [shape, e], Below.refl _ _⟩
  · have hne := ne_nil s h0
    by_cases h20 : 20 < s.size
    · go_enter Try.func82, Try.ntmps82
      go_wp2
      go_ret
      exact ⟨by simp [shape]; omega, Below.refl _ _⟩
    · have h20' : (s.size : Int) ≤ 20 := by omega
      go_enter Try.func82, Try.ntmps82
      go_wp2
      go_loopw [] (fun wr => ∃ p : Nat, wr = w.iter s p ∧ p ≤ s.size ∧ allAl s p = allAl s 0 ∧ (0 < p → small (bt s 0) = true)) (fun wr => s.size - wr.iterPos w.heap.size)
      case atStart => exact ⟨0, rfl, Nat.zero_le _, rfl, fun h => by omega⟩
      case round =>
        obtain ⟨p, rfl, hp, hb, hf⟩ := hrel
        have Hb := Lib.hid hb; clear hb
        have Hf := Lib.hid hf; clear hf
        by_cases hlt : p < s.size
        · have hnx := fun ty => run_next_any (P := Try.prog) w s p ty hlt
          have hw := wid_pos s p
          have hwl := wid_le s p hlt
          cases hal : alnum ((Utf8.decode s p).1 : Nat)
          · have HR := Lib.hid (shape_no_al small s p hlt Hb.out hal)
            obtain ⟨a1, a2, a3⟩ := al0 hal
            rcases Nat.eq_zero_or_pos p with rfl | hpos
            · go_wp2_with (first | (go_at_call 83; refine (small_any _ _).mono ?_; rintro e w' ⟨rfl, rfl⟩) | (go_at_call 90; refine (big_any _ _).mono ?_; rintro e w' ⟨rfl, rfl⟩) | (go_at_call 91; refine (digit_any _ _).mono ?_; rintro e w' ⟨rfl, rfl⟩))
              go_ret
              exact ⟨by rw [HR.out]; rfl, iter_below w s _⟩
            · have hpb : ((p : Int) == 0) = false := by rw [beq_eq_false_iff_ne]; omega
              go_wp2_with (first | (go_at_call 83; refine (small_any _ _).mono ?_; rintro e w' ⟨rfl, rfl⟩) | (go_at_call 90; refine (big_any _ _).mono ?_; rintro e w' ⟨rfl, rfl⟩) | (go_at_call 91; refine (digit_any _ _).mono ?_; rintro e w' ⟨rfl, rfl⟩))
              go_ret
              exact ⟨by rw [HR.out]; rfl, iter_below w s _⟩
          · have HS := Lib.hid (al_next s p hlt Hb.out hal)
            rcases Nat.eq_zero_or_pos p with rfl | hpos
            · cases hf : small ((Utf8.decode s 0).1 : Nat)
              · have HR := Lib.hid (shape_no_first small s hal hf)
                clear hal
                go_wp2_with (first | (go_at_call 83; refine (small_any _ _).mono ?_; rintro e w' ⟨rfl, rfl⟩) | (go_at_call 90; refine (big_any _ _).mono ?_; rintro e w' ⟨rfl, rfl⟩) | (go_at_call 91; refine (digit_any _ _).mono ?_; rintro e w' ⟨rfl, rfl⟩))
                go_ret
                exact ⟨by rw [HR.out]; rfl, iter_below w s _⟩
              · have HF := Lib.hid (first_next small s hal hf)
                rcases al3 hal with a1 | ⟨a1, a2⟩ | ⟨a1, a2, a3⟩
                all_goals clear hal
                all_goals go_wp2_with (first | (go_at_call 83; refine (small_any _ _).mono ?_; rintro e w' ⟨rfl, rfl⟩) | (go_at_call 90; refine (big_any _ _).mono ?_; rintro e w' ⟨rfl, rfl⟩) | (go_at_call 91; refine (digit_any _ _).mono ?_; rintro e w' ⟨rfl, rfl⟩))
                all_goals go_roundw
                all_goals first | exact ⟨_, rfl, by first | exact hwl | simpa using hwl, by first | exact HS.out | simpa using HS.out, fun _ => HF.out⟩ | (simp; omega)
            · have hpb : ((p : Int) == 0) = false := by rw [beq_eq_false_iff_ne]; omega
              have HF := Lib.hid (Hf.out hpos)
              rcases al3 hal with a1 | ⟨a1, a2⟩ | ⟨a1, a2, a3⟩
              all_goals clear hal
              all_goals go_wp2_with (first | (go_at_call 83; refine (small_any _ _).mono ?_; rintro e w' ⟨rfl, rfl⟩) | (go_at_call 90; refine (big_any _ _).mono ?_; rintro e w' ⟨rfl, rfl⟩) | (go_at_call 91; refine (digit_any _ _).mono ?_; rintro e w' ⟨rfl, rfl⟩))
              all_goals go_roundw
              all_goals first | exact ⟨p + (Utf8.decode s p).2, rfl, hwl, HS.out, fun _ => HF.out⟩ | (simp; omega)
        · have hnx := fun ty => run_next_end (P := Try.prog) w s p ty hlt
          have he := allAl_end s p hlt
          have HR : Hid (shape small s = true) := by
            show shape small s = true
            rw [shape, ← Hb.out, he, Hf.out (by omega)]; simp; omega
          clear he
          go_wp2
          go_ret
          exact ⟨by rw [HR.out]; rfl, iter_below w s p⟩
end Go.Proofs.Ytlpddmncgmhkeaa
