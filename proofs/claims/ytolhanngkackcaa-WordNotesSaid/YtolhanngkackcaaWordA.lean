/- Contracts of the functions of package word: gaps, runs, texts, signs. -/
import Derived.Test.YtolhanngkackcaaSignF
import Derived.Test.YtolhanngkackcaaWord
set_option linter.unusedSimpArgs false
set_option linter.unusedVariables false
namespace Go.Proofs.Ytolhanngkackcaa
open Go.RowKit

theorem blank_any (r : Int) (w : World) : Calls Try.prog 28 #[.int .i32 r] w fun e w' => e = .returned (.bool (blankI r)) ∧ w = w' := by
  go_enter Try.func28, Try.ntmps28
  go_wp2
  all_goals (go_ret; refine ⟨?_, rfl⟩)
  all_goals simp_all [blankI, Bool.or_assoc]
theorem inName_any (r : Int) (w : World) : Calls Try.prog 32 #[.int .i32 r] w fun e w' => e = .returned (.bool (alnum r)) ∧ w = w' := by
  have e : alnum r = (small r || (big r || digit r)) := rfl
  go_enter Try.func32, Try.ntmps32
  rw [e]; clear e
  cases h1 : small r
  · cases h2 : big r
    · go_wp2_with (first | (go_at_call 40; refine (small_any _ _).mono ?_; rintro e w' ⟨rfl, rfl⟩) | (go_at_call 41; refine (big_any _ _).mono ?_; rintro e w' ⟨rfl, rfl⟩) | (go_at_call 30; refine (digit_any _ _).mono ?_; rintro e w' ⟨rfl, rfl⟩))
      go_ret
      exact ⟨by simp, rfl⟩
    · go_wp2_with (first | (go_at_call 40; refine (small_any _ _).mono ?_; rintro e w' ⟨rfl, rfl⟩) | (go_at_call 41; refine (big_any _ _).mono ?_; rintro e w' ⟨rfl, rfl⟩) | (go_at_call 30; refine (digit_any _ _).mono ?_; rintro e w' ⟨rfl, rfl⟩))
      go_ret
      exact ⟨by simp, rfl⟩
  · go_wp2_with (first | (go_at_call 40; refine (small_any _ _).mono ?_; rintro e w' ⟨rfl, rfl⟩) | (go_at_call 41; refine (big_any _ _).mono ?_; rintro e w' ⟨rfl, rfl⟩) | (go_at_call 30; refine (digit_any _ _).mono ?_; rintro e w' ⟨rfl, rfl⟩))
    go_ret
    exact ⟨by simp, rfl⟩

set_option maxHeartbeats 1000000 in
theorem reach_digit (s : ByteArray) (w : World) (hs : s.size ≤ maxLen) : Calls Try.prog 29 #[.string s, .func (.func 30) #[] #[]] w fun e w' => e = .returned (.int .i64 (spanL digit s.data.toList : Nat)) ∧ Below w.heap.size w w' := by
  unfold maxLen at hs
  obtain ⟨n, hn⟩ : ∃ n, n = spanL digit s.data.toList := ⟨_, rfl⟩
  rw [← hn]
  have hn0 : n = 0 + spanL digit (s.data.toList.drop 0) := by rw [List.drop_zero]; omega
  clear hn
  have HN := Lib.hid hn0; clear hn0
  go_enter Try.func29, Try.ntmps29
  go_wp2
  go_loopw [] (fun wr => ∃ p : Nat, wr = w.iter s p ∧ p ≤ s.size ∧ n = p + spanL digit (s.data.toList.drop p)) (fun wr => s.size - wr.iterPos w.heap.size)
  case atStart => exact ⟨0, rfl, Nat.zero_le _, HN.out⟩
  case round =>
    obtain ⟨p, rfl, hp, hb⟩ := hrel
    by_cases hlt : p < s.size
    · have hnx := fun ty => run_next_any (P := Try.prog) w s p ty hlt
      have hw := wid_pos s p
      have hwl := wid_le s p hlt
      have hst := span_step digit s p hlt
      cases hd : digit ((Utf8.decode s p).1 : Nat)
      · rw [← digit_at, hd] at hst
        have HB := Lib.hid (show n = p by simp at hst; omega); clear hb hst
        go_wp2_with (go_at_call 30; refine (digit_any _ _).mono ?_; rintro e w' ⟨rfl, rfl⟩)
        go_ret
        exact ⟨by rw [HB.out]; rfl, iter_below w s _⟩
      · have h1 := digit_wid s p hd
        rw [← digit_at, hd] at hst
        have HB := Lib.hid (show n = p + (Utf8.decode s p).2 + spanL digit (s.data.toList.drop (p + (Utf8.decode s p).2)) by rw [h1]; simp at hst; omega); clear hb hst h1
        go_wp2_with (go_at_call 30; refine (digit_any _ _).mono ?_; rintro e w' ⟨rfl, rfl⟩)
        go_roundw
        case rel => exact ⟨p + (Utf8.decode s p).2, rfl, hwl, HB.out⟩
        case measure => simp; omega
    · have hnx := fun ty => run_next_end (P := Try.prog) w s p ty hlt
      rw [span_end digit s p hlt] at hb
      have HB := Lib.hid (show n = s.size by omega); clear hb
      go_wp2
      go_ret
      exact ⟨by rw [HB.out]; rfl, iter_below w s p⟩
set_option maxHeartbeats 1000000 in
theorem reach_alnum (s : ByteArray) (w : World) (hs : s.size ≤ maxLen) : Calls Try.prog 29 #[.string s, .func (.func 32) #[] #[]] w fun e w' => e = .returned (.int .i64 (spanL alnum s.data.toList : Nat)) ∧ Below w.heap.size w w' := by
  unfold maxLen at hs
  obtain ⟨n, hn⟩ : ∃ n, n = spanL alnum s.data.toList := ⟨_, rfl⟩
  rw [← hn]
  have hn0 : n = 0 + spanL alnum (s.data.toList.drop 0) := by rw [List.drop_zero]; omega
  clear hn
  have HN := Lib.hid hn0; clear hn0
  go_enter Try.func29, Try.ntmps29
  go_wp2
  go_loopw [] (fun wr => ∃ p : Nat, wr = w.iter s p ∧ p ≤ s.size ∧ n = p + spanL alnum (s.data.toList.drop p)) (fun wr => s.size - wr.iterPos w.heap.size)
  case atStart => exact ⟨0, rfl, Nat.zero_le _, HN.out⟩
  case round =>
    obtain ⟨p, rfl, hp, hb⟩ := hrel
    by_cases hlt : p < s.size
    · have hnx := fun ty => run_next_any (P := Try.prog) w s p ty hlt
      have hw := wid_pos s p
      have hwl := wid_le s p hlt
      have hst := span_step alnum s p hlt
      cases hd : alnum ((Utf8.decode s p).1 : Nat)
      · rw [← alnum_at, hd] at hst
        have HB := Lib.hid (show n = p by simp at hst; omega); clear hb hst
        go_wp2_with (go_at_call 32; refine (inName_any _ _).mono ?_; rintro e w' ⟨rfl, rfl⟩)
        go_ret
        exact ⟨by rw [HB.out]; rfl, iter_below w s _⟩
      · have h1 := (alnum_wid s p hd).1
        rw [← alnum_at, hd] at hst
        have HB := Lib.hid (show n = p + (Utf8.decode s p).2 + spanL alnum (s.data.toList.drop (p + (Utf8.decode s p).2)) by rw [h1]; simp at hst; omega); clear hb hst h1
        go_wp2_with (go_at_call 32; refine (inName_any _ _).mono ?_; rintro e w' ⟨rfl, rfl⟩)
        go_roundw
        case rel => exact ⟨p + (Utf8.decode s p).2, rfl, hwl, HB.out⟩
        case measure => simp; omega
    · have hnx := fun ty => run_next_end (P := Try.prog) w s p ty hlt
      rw [span_end alnum s p hlt] at hb
      have HB := Lib.hid (show n = s.size by omega); clear hb
      go_wp2
      go_ret
      exact ⟨by rw [HB.out]; rfl, iter_below w s p⟩
theorem clone_any (s : ByteArray) (w : World) (hs : s.size ≤ 16777216) : Calls Try.prog 31 #[.string s] w fun e w' => e = .returned (.string s) ∧ Below w.heap.size w w' := by
  go_enter Try.func31, Try.ntmps31
  go_wp2_with (go_at_call 39; refine (Try.stringslite_Clone _ _ (by omega)).mono ?_; rintro e w1 ⟨rfl, hb⟩)
  go_ret
  exact ⟨rfl, hb⟩
end Go.Proofs.Ytolhanngkackcaa
