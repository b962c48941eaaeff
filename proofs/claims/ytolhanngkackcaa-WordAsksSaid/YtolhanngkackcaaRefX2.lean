/- Contract of the document's own answer for one word: numbers, names. -/
import Derived.Test.YtolhanngkackcaaRefX
set_option linter.unusedSimpArgs false
set_option linter.unusedVariables false
namespace Go.Proofs.Ytolhanngkackcaa
open Go.RowKit

theorem span_at (f : Int → Bool) (s : ByteArray) (p n N : Nat) (h : N = n + spanL f (s.data.toList.drop (p + n))) (hlt : p + n < s.size) (hf : f (bt s (p + n)) = true) : N = n + 1 + spanL f (s.data.toList.drop (p + (n + 1))) := by
  rw [h, span_step _ s (p + n) hlt, if_pos hf, show p + n + 1 = p + (n + 1) from by omega]; omega
theorem span_stop (f : Int → Bool) (s : ByteArray) (p n N : Nat) (h : N = n + spanL f (s.data.toList.drop (p + n))) (hlt : ¬ (p + n < s.size ∧ f (bt s (p + n)) = true)) : N = n := by
  rw [h]
  by_cases g : p + n < s.size
  · rw [span_step _ s (p + n) g, if_neg (fun e => hlt ⟨g, e⟩)]; rfl
  · rw [span_end _ s (p + n) g]; rfl
theorem ex_take (s : ByteArray) (p n : Nat) : (s.extract p (p + n)).data.toList = (s.data.toList.drop p).take n := by
  rw [extract_list, show p + n - p = n from by omega]
set_option maxRecDepth 100000 in
set_option maxHeartbeats 4000000 in
theorem w_digits (s : ByteArray) (p : Nat) (w : World) (hs : s.size ≤ 1048576) (hp : p < s.size) (hd : digit (bt s p : Nat) = true) : OneWSaid s p w := by
  obtain ⟨N, hN⟩ : ∃ N, N = spanL digit (s.data.toList.drop p) := ⟨_, rfl⟩
  have hrg : 48 ≤ bt s p ∧ bt s p ≤ 57 := by
    simp [digit] at hd; omega
  have hst : N = 1 + spanL digit (s.data.toList.drop (p + 1)) := by rw [hN, span_step digit s p hp, if_pos hd]; omega
  have hf : firstL (s.data.toList.drop p) = (2, (s.data.toList.drop p).take N, N) := by
    unfold firstL
    rw [← hN, if_pos (by omega)]
  have h1 := one_word s p hp (by omega) (by omega) _ _ _ hf (by omega)
  have H1 := Lib.hid h1
  have HA := Lib.hid (oneA_pos _ p _ _ _ h1 (by decide)); clear h1
  have HST := Lib.hid hst
  unfold OneWSaid
  have hbt := bt_eq s p hp
  have h256 := bt_lt s p
  have z1 : (((bt s p : Nat) : Int) == 32) = false := by rw [beq_eq_false_iff_ne]; omega
  have z2 : (((bt s p : Nat) : Int) == 9) = false := by rw [beq_eq_false_iff_ne]; omega
  have z3 : (((bt s p : Nat) : Int) == 10) = false := by rw [beq_eq_false_iff_ne]; omega
  have z4 : (((bt s p : Nat) : Int) == 13) = false := by rw [beq_eq_false_iff_ne]; omega
  have z5 : (((bt s p : Nat) : Int) == 47) = false := by rw [beq_eq_false_iff_ne]; omega
  clear hrg hf hst hN
  go_enter Try.func17, Try.ntmps17
  go_wp2_with (first | (go_at_call 23; refine (rdigit_any _ _).mono ?_; rintro e w1 ⟨rfl, rfl⟩) | (go_at_call 24; refine (rletter_any _ (by assumption) _).mono ?_; rintro e w1 ⟨rfl, rfl⟩))
  go_loop [7] (fun v => ∃ n : Nat, v = .int .i64 n ∧ 1 ≤ n ∧ p + n ≤ s.size ∧ N = n + spanL digit (s.data.toList.drop (p + n))) (fun v => s.size - (intOf v).toNat)
  case atStart => exact ⟨1, rfl, by omega, by omega, HST.out⟩
  case round =>
    obtain ⟨n, rfl, hn1, hn2, hn⟩ := hrel
    clear HST hbt hd z1 z2 z3 z4 z5
    have j2 : ((p : Int) + (n : Int)).toNat = p + n := by omega
    have j3 : 0 ≤ (p : Int) + (n : Int) := by omega
    have j4 : (p : Int) + (n : Int) ≤ s.size := by omega
    have j5 : (p : Int) ≤ (p : Int) + (n : Int) := by omega
    by_cases hlt : p + n < s.size
    · have hbt := bt_eq s (p + n) hlt
      have h256' := bt_lt s (p + n)
      have j1 : (p : Int) + (n : Int) < s.size := by omega
      cases hd : digit (bt s (p + n) : Nat)
      · obtain rfl := span_stop digit s p n N hn (by rw [hd]; simp)
        clear hn
        go_wp2_with (first | (go_at_call 23; refine (rdigit_any _ _).mono ?_; rintro e w1 ⟨rfl, rfl⟩) | (go_at_call 24; refine (rletter_any _ (by assumption) _).mono ?_; rintro e w1 ⟨rfl, rfl⟩))
        refine bodyPost_ret (v := .tuple #[.agg #[.int .i64 2, .string (s.extract p (p + N)), .int .i64 (p : Nat)], .int .i64 (N : Nat)]) (by simp [results, Try.results17, go_sem]) rfl ⟨one_said (k := 2) (t := s.extract p (p + N)) (by rw [ex_take]; exact H1.out) HA.out, box_below _ _ _⟩
      · have HN := Lib.hid (span_at digit s p n N hn hlt hd); clear hn
        go_wp2_with (first | (go_at_call 23; refine (rdigit_any _ _).mono ?_; rintro e w1 ⟨rfl, rfl⟩) | (go_at_call 24; refine (rletter_any _ (by assumption) _).mono ?_; rintro e w1 ⟨rfl, rfl⟩))
        go_round
        case rel => exact ⟨n + 1, by go_num, by omega, by omega, HN.out⟩
        case measure => simp [intOf]; omega
    · obtain rfl := span_stop digit s p n N hn (fun h => hlt h.1)
      clear hn
      have j1 : (s.size : Int) ≤ (p : Int) + (N : Int) := by omega
      go_wp2_with (first | (go_at_call 23; refine (rdigit_any _ _).mono ?_; rintro e w1 ⟨rfl, rfl⟩) | (go_at_call 24; refine (rletter_any _ (by assumption) _).mono ?_; rintro e w1 ⟨rfl, rfl⟩))
      refine bodyPost_ret (v := .tuple #[.agg #[.int .i64 2, .string (s.extract p (p + N)), .int .i64 (p : Nat)], .int .i64 (N : Nat)]) (by simp [results, Try.results17, go_sem]) rfl ⟨one_said (k := 2) (t := s.extract p (p + N)) (by rw [ex_take]; exact H1.out) HA.out, box_below _ _ _⟩
set_option maxRecDepth 100000 in
set_option maxHeartbeats 4000000 in
theorem w_name (s : ByteArray) (p : Nat) (w : World) (hs : s.size ≤ 1048576) (hp : p < s.size) (hd : digit (bt s p : Nat) = false) (ha : alnum (bt s p : Nat) = true) : OneWSaid s p w := by
  obtain ⟨N, hN⟩ : ∃ N, N = spanL alnum (s.data.toList.drop p) := ⟨_, rfl⟩
  have hrg : 58 ≤ bt s p ∧ bt s p ≤ 122 := by
    simp [alnum, small, big, digit] at ha hd; omega
  have hst : N = 1 + spanL alnum (s.data.toList.drop (p + 1)) := by rw [hN, span_step alnum s p hp, if_pos ha]; omega
  have hf : firstL (s.data.toList.drop p) = (1, (s.data.toList.drop p).take N, N) := by
    unfold firstL
    have e0 : spanL digit (s.data.toList.drop p) = 0 := by rw [span_step digit s p hp, if_neg (by rw [hd]; simp)]
    rw [e0, if_neg (by omega), ← hN, if_pos (by omega)]
  have h1 := one_word s p hp (by omega) (by omega) _ _ _ hf (by omega)
  have H1 := Lib.hid h1
  have HA := Lib.hid (oneA_pos _ p _ _ _ h1 (by decide)); clear h1
  have HST := Lib.hid hst
  unfold OneWSaid
  have hbt := bt_eq s p hp
  have h256 := bt_lt s p
  have z1 : (((bt s p : Nat) : Int) == 32) = false := by rw [beq_eq_false_iff_ne]; omega
  have z2 : (((bt s p : Nat) : Int) == 9) = false := by rw [beq_eq_false_iff_ne]; omega
  have z3 : (((bt s p : Nat) : Int) == 10) = false := by rw [beq_eq_false_iff_ne]; omega
  have z4 : (((bt s p : Nat) : Int) == 13) = false := by rw [beq_eq_false_iff_ne]; omega
  have z5 : (((bt s p : Nat) : Int) == 47) = false := by rw [beq_eq_false_iff_ne]; omega
  clear hrg hf hst hN
  go_enter Try.func17, Try.ntmps17
  go_wp2_with (first | (go_at_call 23; refine (rdigit_any _ _).mono ?_; rintro e w1 ⟨rfl, rfl⟩) | (go_at_call 24; refine (rletter_any _ (by assumption) _).mono ?_; rintro e w1 ⟨rfl, rfl⟩))
  go_loop [7] (fun v => ∃ n : Nat, v = .int .i64 n ∧ 1 ≤ n ∧ p + n ≤ s.size ∧ N = n + spanL alnum (s.data.toList.drop (p + n))) (fun v => s.size - (intOf v).toNat)
  case atStart => exact ⟨1, rfl, by omega, by omega, HST.out⟩
  case round =>
    obtain ⟨n, rfl, hn1, hn2, hn⟩ := hrel
    clear HST hbt hd z1 z2 z3 z4 z5 ha
    have j2 : ((p : Int) + (n : Int)).toNat = p + n := by omega
    have j3 : 0 ≤ (p : Int) + (n : Int) := by omega
    have j4 : (p : Int) + (n : Int) ≤ s.size := by omega
    have j5 : (p : Int) ≤ (p : Int) + (n : Int) := by omega
    by_cases hlt : p + n < s.size
    · have hbt := bt_eq s (p + n) hlt
      have h256' := bt_lt s (p + n)
      have j1 : (p : Int) + (n : Int) < s.size := by omega
      cases hd : alnum (bt s (p + n) : Nat)
      · obtain rfl := span_stop alnum s p n N hn (by rw [hd]; simp)
        clear hn
        go_wp2_with (first | (go_at_call 23; refine (rdigit_any _ _).mono ?_; rintro e w1 ⟨rfl, rfl⟩) | (go_at_call 24; refine (rletter_any _ (by assumption) _).mono ?_; rintro e w1 ⟨rfl, rfl⟩))
        refine bodyPost_ret (v := .tuple #[.agg #[.int .i64 1, .string (s.extract p (p + N)), .int .i64 (p : Nat)], .int .i64 (N : Nat)]) (by simp [results, Try.results17, go_sem]) rfl ⟨one_said (k := 1) (t := s.extract p (p + N)) (by rw [ex_take]; exact H1.out) HA.out, box_below _ _ _⟩
      · have HN := Lib.hid (span_at alnum s p n N hn hlt hd); clear hn
        go_wp2_with (first | (go_at_call 23; refine (rdigit_any _ _).mono ?_; rintro e w1 ⟨rfl, rfl⟩) | (go_at_call 24; refine (rletter_any _ (by assumption) _).mono ?_; rintro e w1 ⟨rfl, rfl⟩))
        go_round
        case rel => exact ⟨n + 1, by go_num, by omega, by omega, HN.out⟩
        case measure => simp [intOf]; omega
    · obtain rfl := span_stop alnum s p n N hn (fun h => hlt h.1)
      clear hn
      have j1 : (s.size : Int) ≤ (p : Int) + (N : Int) := by omega
      go_wp2_with (first | (go_at_call 23; refine (rdigit_any _ _).mono ?_; rintro e w1 ⟨rfl, rfl⟩) | (go_at_call 24; refine (rletter_any _ (by assumption) _).mono ?_; rintro e w1 ⟨rfl, rfl⟩))
      refine bodyPost_ret (v := .tuple #[.agg #[.int .i64 1, .string (s.extract p (p + N)), .int .i64 (p : Nat)], .int .i64 (N : Nat)]) (by simp [results, Try.results17, go_sem]) rfl ⟨one_said (k := 1) (t := s.extract p (p + N)) (by rw [ex_take]; exact H1.out) HA.out, box_below _ _ _⟩
end Go.Proofs.Ytolhanngkackcaa
