/- Contract of the document's own answer for one word: signs. -/
import Derived.Test.YtolhanngkackcaaRefX3
set_option linter.unusedSimpArgs false
set_option linter.unusedVariables false
namespace Go.Proofs.Ytolhanngkackcaa
open Go.RowKit

set_option maxRecDepth 100000 in
set_option maxHeartbeats 4000000 in
theorem sg_two_B0 (s : ByteArray) (p : Nat) (w : World) (hs : s.size ≤ 1048576) (hp : p < s.size) (ha : alnum (bt s p : Nat) = false) (hbl : ¬ (bt s p = 32 ∨ bt s p = 9 ∨ bt s p = 10 ∨ bt s p = 13)) (h34 : bt s p ≠ 34) (h1 : oneL (s.data.toList.drop p) = (4, (s.extract p (p + 2)).data.toList, 2)) (hA : oneA (s.data.toList.drop p) p = p) (hp2 : (p : Int) + 2 ≤ s.size) (hm2T : in2 (s.extract p (p + 2)) = true) (z5 : (((bt s p : Nat) : Int) == 47) = false) : OneWSaid s p w := by
  unfold OneWSaid
  have hd : digit (bt s p : Nat) = false := (al0 ha).2.2
  have hbt := bt_eq s p hp
  have h256 := bt_lt s p
  have z1 : (((bt s p : Nat) : Int) == 32) = false := by rw [beq_eq_false_iff_ne]; omega
  have z2 : (((bt s p : Nat) : Int) == 9) = false := by rw [beq_eq_false_iff_ne]; omega
  have z3 : (((bt s p : Nat) : Int) == 10) = false := by rw [beq_eq_false_iff_ne]; omega
  have z4 : (((bt s p : Nat) : Int) == 13) = false := by rw [beq_eq_false_iff_ne]; omega
  have z34 : (((bt s p : Nat) : Int) == 34) = false := by rw [beq_eq_false_iff_ne]; omega
  have i1 : ((p : Int) + 1).toNat = p + 1 := by omega
  have i2 : 0 ≤ (p : Int) + 1 := by omega
  have i3 : (p : Int) + 1 ≤ s.size := by omega
  have i4 : (p : Int) ≤ (p : Int) + 1 := by omega
  have k1 : ((p : Int) + 2).toNat = p + 2 := by omega
  have k2 : 0 ≤ (p : Int) + 2 := by omega
  have k4 : (p : Int) ≤ (p : Int) + 2 := by omega
  have HTWO := Lib.hid in_twos
  have H1 := Lib.hid h1; clear h1
  have HA := Lib.hid hA; clear hA
  clear hbl h34
  go_enter Try.func17, Try.ntmps17
  go_wp2_with (first | (go_at_call 23; refine (rdigit_any _ _).mono ?_; rintro e w1 ⟨rfl, rfl⟩) | (go_at_call 24; refine (rletter_any _ (by assumption) _).mono ?_; rintro e w1 ⟨rfl, rfl⟩) | (go_at_call 27; refine (HTWO.out _ _ _ ?_).mono ?_; rotate_left; clear HTWO; rintro e w1 ⟨rfl, rfl⟩; rotate_left; simp))
  exact bodyPost_ret (v := .tuple #[.agg #[.int .i64 4, .string (s.extract p (p + 2)), .int .i64 (p : Nat)], .int .i64 2]) (by simp [results, Try.results17, go_sem]) rfl ⟨one_said (k := 4) (n := 2) (t := (s.extract p (p + 2))) H1.out HA.out, (box_below _ _ _).alloc (by simp <;> omega) _⟩
set_option maxRecDepth 100000 in
set_option maxHeartbeats 4000000 in
theorem sg_two_B2 (s : ByteArray) (p : Nat) (w : World) (hs : s.size ≤ 1048576) (hp : p < s.size) (ha : alnum (bt s p : Nat) = false) (hbl : ¬ (bt s p = 32 ∨ bt s p = 9 ∨ bt s p = 10 ∨ bt s p = 13)) (h34 : bt s p ≠ 34) (h1 : oneL (s.data.toList.drop p) = (4, (s.extract p (p + 2)).data.toList, 2)) (hA : oneA (s.data.toList.drop p) p = p) (hp2 : (p : Int) + 2 ≤ s.size) (hm2T : in2 (s.extract p (p + 2)) = true) (z5 : (((bt s p : Nat) : Int) == 47) = true) (j1 : (p : Int) + 1 < s.size) (j2 : bt s (p + 1) ≠ 47) (j3 : p + 1 < s.size) : OneWSaid s p w := by
  unfold OneWSaid
  have hd : digit (bt s p : Nat) = false := (al0 ha).2.2
  have hbt := bt_eq s p hp
  have h256 := bt_lt s p
  have z1 : (((bt s p : Nat) : Int) == 32) = false := by rw [beq_eq_false_iff_ne]; omega
  have z2 : (((bt s p : Nat) : Int) == 9) = false := by rw [beq_eq_false_iff_ne]; omega
  have z3 : (((bt s p : Nat) : Int) == 10) = false := by rw [beq_eq_false_iff_ne]; omega
  have z4 : (((bt s p : Nat) : Int) == 13) = false := by rw [beq_eq_false_iff_ne]; omega
  have z34 : (((bt s p : Nat) : Int) == 34) = false := by rw [beq_eq_false_iff_ne]; omega
  have i1 : ((p : Int) + 1).toNat = p + 1 := by omega
  have i2 : 0 ≤ (p : Int) + 1 := by omega
  have i3 : (p : Int) + 1 ≤ s.size := by omega
  have i4 : (p : Int) ≤ (p : Int) + 1 := by omega
  have k1 : ((p : Int) + 2).toNat = p + 2 := by omega
  have k2 : 0 ≤ (p : Int) + 2 := by omega
  have k4 : (p : Int) ≤ (p : Int) + 2 := by omega
  have HTWO := Lib.hid in_twos
  have hbt2 := bt_eq s (p + 1) j3
  have z6 : (((bt s (p + 1) : Nat) : Int) == 47) = false := by rw [beq_eq_false_iff_ne]; omega
  clear j2
  have H1 := Lib.hid h1; clear h1
  have HA := Lib.hid hA; clear hA
  clear hbl h34
  go_enter Try.func17, Try.ntmps17
  go_wp2_with (first | (go_at_call 23; refine (rdigit_any _ _).mono ?_; rintro e w1 ⟨rfl, rfl⟩) | (go_at_call 24; refine (rletter_any _ (by assumption) _).mono ?_; rintro e w1 ⟨rfl, rfl⟩) | (go_at_call 27; refine (HTWO.out _ _ _ ?_).mono ?_; rotate_left; clear HTWO; rintro e w1 ⟨rfl, rfl⟩; rotate_left; simp))
  exact bodyPost_ret (v := .tuple #[.agg #[.int .i64 4, .string (s.extract p (p + 2)), .int .i64 (p : Nat)], .int .i64 2]) (by simp [results, Try.results17, go_sem]) rfl ⟨one_said (k := 4) (n := 2) (t := (s.extract p (p + 2))) H1.out HA.out, (box_below _ _ _).alloc (by simp <;> omega) _⟩
end Go.Proofs.Ytolhanngkackcaa
