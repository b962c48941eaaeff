/- Contracts of the functions of package sign that go over a text. -/
import Derived.Test.YtlpddmncgmhkeaaSign
import Derived.Test.YtlpddmncgmhkeaaText
import Derived.Lib.Hide
import Derived.WalkKit
import Derived.BigCall
import Derived.Deep.QuietTactic
import Derived.BigQuiet
set_option linter.unusedSimpArgs false
set_option linter.unusedVariables false
namespace Go.Proofs.Ytlpddmncgmhkeaa
open Go.RowKit

theorem size0 (s : ByteArray) (h : s.size = 0) : s = ⟨#[]⟩ := by
  cases s with | mk d => congr 1; exact Array.eq_empty_of_size_eq_zero h
theorem ne_nil (s : ByteArray) (h : ¬ s.size = 0) : s.toList.isEmpty = false := by
  rw [Lib.toList_data, List.isEmpty_eq_false_iff]; intro e; apply h; have := congrArg List.length e; simpa using this
theorem iter_below (w : World) (s : ByteArray) (p : Nat) : Below w.heap.size w (w.iter s p) := (Below.refl _ w).alloc (Nat.le_refl _) _
theorem hasPrefix_any (s t : ByteArray) (b : Bool) (w : World) (h : Lib.hasPrefix s.data.toList t.data.toList = b) : Calls Try.prog 92 #[.string s, .string t] w fun e w' => e = .returned (.bool b) ∧ w = w' := by
  refine (Try.strings_HasPrefix s t w).mono ?_
  rintro e w' ⟨rfl, rfl⟩
  exact ⟨by rw [h], rfl⟩
theorem bad_any (s : ByteArray) (w : World) (hs : s.size ≤ maxLen) : Calls Try.prog 85 #[.string s] w fun e w' => e = .returned (.int .i64 (bad s)) ∧ Below w.heap.size w w' := by
  unfold maxLen at hs
  go_enter Try.func85, Try.ntmps85
  go_wp2
  go_loopw [] (fun wr => ∃ p : Nat, wr = w.iter s p ∧ p ≤ s.size ∧ badFrom s p = bad s) (fun wr => s.size - wr.iterPos w.heap.size)
  case atStart => exact ⟨0, rfl, Nat.zero_le _, rfl⟩
  case round =>
    obtain ⟨p, rfl, hp, hb⟩ := hrel
    by_cases hlt : p < s.size
    · have hnx := fun ty => run_next_any (P := Try.prog) w s p ty hlt
      have hw := wid_pos s p
      have hwl := wid_le s p hlt
      by_cases hF : (Utf8.decode s p).1 = 65533
      · have hFb : ((((Utf8.decode s p).1 : Nat) : Int) == 65533) = true := by rw [beq_iff_eq]; omega
        by_cases hB : badAt s p = true
        · have hst := badFrom_at s p hlt hB
          have hpf := fffd_bad s p hB
          have Hb := Lib.hid (hst.symm.trans hb); clear hb hst
          have Hpf := Lib.hid hpf; clear hpf
          clear hF hB
          go_wp2_with (go_at_call 92; refine (hasPrefix_any _ _ _ _ Hpf.out).mono ?_; rintro e w' ⟨rfl, rfl⟩)
          go_ret
          exact ⟨by rw [← Hb.out]; rfl, iter_below w s _⟩
        · have hB' : badAt s p = false := by simpa using hB
          have hst := badFrom_step s p hlt hB'
          have hpf := fffd_good s p hlt hF hB'
          have Hb := Lib.hid (hst.symm.trans hb); clear hb hst
          have Hpf := Lib.hid hpf; clear hpf
          clear hF hB hB'
          go_wp2_with (go_at_call 92; refine (hasPrefix_any _ _ _ _ Hpf.out).mono ?_; rintro e w' ⟨rfl, rfl⟩)
          go_roundw
          case rel => exact ⟨p + (Utf8.decode s p).2, rfl, hwl, Hb.out⟩
          case measure => simp; omega
      · have hFb : ((((Utf8.decode s p).1 : Nat) : Int) == 65533) = false := by rw [beq_eq_false_iff_ne]; omega
        have hst := badFrom_step s p hlt (badAt_not (fun e => hF (by rw [e])))
        have Hb := Lib.hid (hst.symm.trans hb); clear hb hst
        clear hF
        go_wp2
        go_roundw
        case rel => exact ⟨p + (Utf8.decode s p).2, rfl, hwl, Hb.out⟩
        case measure => simp; omega
    · have hnx := fun ty => run_next_end (P := Try.prog) w s p ty hlt
      have he := badFrom_end s p hlt
      have Hb := Lib.hid (hb.symm.trans he); clear hb he
      go_wp2
      go_ret
      exact ⟨by rw [Hb.out]; rfl, iter_below w s p⟩
end Go.Proofs.Ytlpddmncgmhkeaa
