/- Contracts of the functions of package word that go over what stands ahead of a word, and over texts and signs. -/
import Derived.Test.YtolhanngkackcaaWordA
set_option linter.unusedSimpArgs false
set_option linter.unusedVariables false
namespace Go.Proofs.Ytolhanngkackcaa
open Go.RowKit

set_option maxHeartbeats 2000000 in
theorem gap_any (s : ByteArray) (w : World) (hs : s.size ≤ maxLen) : Calls Try.prog 20 #[.string s] w fun e w' => e = .returned (.int .i64 (gapL false s.data.toList : Nat)) ∧ Below w.heap.size w w' := by
  unfold maxLen at hs
  obtain ⟨n, hn⟩ : ∃ n, n = gapL false s.data.toList := ⟨_, rfl⟩
  rw [← hn]
  have hn0 : n = 0 + gapL false (s.data.toList.drop 0) := by rw [List.drop_zero]; omega
  clear hn
  have HN := Lib.hid hn0; clear hn0
  go_enter Try.func20, Try.ntmps20
  go_wp2
  go_loopw [3] (fun v wr => ∃ (p : Nat) (c : Bool), v = .bool c ∧ wr = w.iter s p ∧ p ≤ s.size ∧ n = p + gapL c (s.data.toList.drop p)) (fun v wr => s.size - wr.iterPos w.heap.size)
  case atStart => exact ⟨0, false, rfl, rfl, Nat.zero_le _, HN.out⟩
  case round =>
    obtain ⟨p, c, rfl, rfl, hp, hb⟩ := hrel
    by_cases hlt : p < s.size
    · have hnx := fun ty => run_next_any (P := Try.prog) w s p ty hlt
      have hw := wid_pos s p
      have hwl := wid_le s p hlt
      by_cases h10 : bt s p = 10
      · have e : (Utf8.decode s p).2 = 1 := by rw [low_of s p (by omega)]
        have hF : ((((Utf8.decode s p).1 : Nat) : Int) == 10) = true := by rw [beq_iff_eq, (rune_is s p 10 (by omega)).2 h10]; rfl
        rw [gap_line s c p hlt h10] at hb
        have HB := Lib.hid (show n = p + (Utf8.decode s p).2 + gapL false (s.data.toList.drop (p + (Utf8.decode s p).2)) by rw [e]; omega); clear hb e h10
        go_wp2
        go_roundw
        case rel => exact ⟨p + (Utf8.decode s p).2, false, rfl, rfl, hwl, HB.out⟩
        case measure => simp; omega
      · have hF : ((((Utf8.decode s p).1 : Nat) : Int) == 10) = false := by
          rw [beq_eq_false_iff_ne]; intro e; exact h10 ((rune_is s p 10 (by omega)).1 (by omega))
        cases c
        · cases hk : blankI ((Utf8.decode s p).1 : Nat)
          · rw [blank_at] at hk
            have hpf := pre_slash s p
            by_cases hsl : bt s p = 47 ∧ p + 1 < s.size ∧ bt s (p + 1) = 47
            · rw [decide_eq_true hsl] at hpf
              have Hpf := Lib.hid hpf; clear hpf
              rw [gap_slash s p hlt hsl.1 hsl.2.1 hsl.2.2] at hb
              have e : (Utf8.decode s p).2 = 1 := by rw [low_of s p (by omega)]
              have HB := Lib.hid (show n = p + (Utf8.decode s p).2 + gapL true (s.data.toList.drop (p + (Utf8.decode s p).2)) by rw [e]; omega); clear hb e h10 hsl
              rw [← blank_at] at hk
              go_wp2_with (first | (go_at_call 22; refine (hasPrefix_any _ _ _ _ Hpf.out).mono ?_; rintro e w' ⟨rfl, rfl⟩) | (go_at_call 28; refine (blank_any _ _).mono ?_; rintro e w' ⟨rfl, rfl⟩))
              go_roundw
              case rel => exact ⟨p + (Utf8.decode s p).2, true, rfl, rfl, hwl, HB.out⟩
              case measure => simp; omega
            · rw [decide_eq_false hsl] at hpf
              have Hpf := Lib.hid hpf; clear hpf
              rw [gap_stop s p hlt h10 hk hsl] at hb
              have HB := Lib.hid (show n = p by omega); clear hb h10 hsl
              rw [← blank_at] at hk
              go_wp2_with (first | (go_at_call 22; refine (hasPrefix_any _ _ _ _ Hpf.out).mono ?_; rintro e w' ⟨rfl, rfl⟩) | (go_at_call 28; refine (blank_any _ _).mono ?_; rintro e w' ⟨rfl, rfl⟩))
              go_ret
              exact ⟨by rw [HB.out]; rfl, iter_below w s _⟩
          · rw [blank_at] at hk
            have e : (Utf8.decode s p).2 = 1 := by rw [low_of s p (blank_low s p hk)]
            rw [gap_blank s p hlt h10 hk] at hb
            have HB := Lib.hid (show n = p + (Utf8.decode s p).2 + gapL false (s.data.toList.drop (p + (Utf8.decode s p).2)) by rw [e]; omega); clear hb e h10
            rw [← blank_at] at hk
            go_wp2_with (first | (go_at_call 28; refine (blank_any _ _).mono ?_; rintro e w' ⟨rfl, rfl⟩))
            go_roundw
            case rel => exact ⟨p + (Utf8.decode s p).2, false, rfl, rfl, hwl, HB.out⟩
            case measure => simp; omega
        · rw [gap_note s p hlt h10] at hb
          have HB := Lib.hid (show n = p + (Utf8.decode s p).2 + gapL true (s.data.toList.drop (p + (Utf8.decode s p).2)) by omega); clear hb h10
          go_wp2
          go_roundw
          case rel => exact ⟨p + (Utf8.decode s p).2, true, rfl, rfl, hwl, HB.out⟩
          case measure => simp; omega
    · have hnx := fun ty => run_next_end (P := Try.prog) w s p ty hlt
      rw [gap_end s c p hlt] at hb
      have HB := Lib.hid (show n = s.size by omega); clear hb
      go_wp2
      go_ret
      exact ⟨by rw [HB.out]; rfl, iter_below w s p⟩
end Go.Proofs.Ytolhanngkackcaa
