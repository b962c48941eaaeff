/- Contract of the document's own answer for one word: any. -/
import Derived.Test.YtolhanngkackcaaRefX4
import Derived.Test.YtolhanngkackcaaRefX5
import Derived.Test.YtolhanngkackcaaRefX6
set_option linter.unusedSimpArgs false
set_option linter.unusedVariables false
namespace Go.Proofs.Ytolhanngkackcaa
open Go.RowKit

theorem w_sign (s : ByteArray) (p : Nat) (w : World) (hs : s.size ≤ 1048576) (hp : p < s.size) (hbl : ¬ (bt s p = 32 ∨ bt s p = 9 ∨ bt s p = 10 ∨ bt s p = 13)) (hnt : ¬ (bt s p = 47 ∧ p + 1 < s.size ∧ bt s (p + 1) = 47)) (ha : alnum (bt s p : Nat) = false) (h34 : bt s p ≠ 34) : OneWSaid s p w := by
  have hf := first_sign s p hp ha h34
  have h1 := fun k n t => one_word s p hp hbl hnt k n t
  have h0 := one_none_w s p hp hbl hnt
  have hz5 : ((((bt s p : Nat) : Int) == 47) = false) ∨ ((((bt s p : Nat) : Int) == 47) = true ∧ (s.size : Int) ≤ (p : Int) + 1) ∨ ((((bt s p : Nat) : Int) == 47) = true ∧ (p : Int) + 1 < s.size ∧ bt s (p + 1) ≠ 47 ∧ p + 1 < s.size) := by
    by_cases h47 : bt s p = 47
    · right
      by_cases h1 : p + 1 < s.size
      · right; exact ⟨by rw [beq_iff_eq]; omega, by omega, fun e => hnt ⟨h47, h1, e⟩, h1⟩
      · left; exact ⟨by rw [beq_iff_eq]; omega, by omega⟩
    · left; rw [beq_eq_false_iff_ne]; omega
  cases m2 : twos.contains ((s.data.toList.drop p).take 2)
  · have hm := mark1 s p hp m2
    have hm1T := onesT_is (s.extract p (p + 1)) _ (ex_one s p hp)
    have hp2 : (s.size : Int) < (p : Int) + 2 ∨ ((p : Int) + 2 ≤ s.size ∧ in2 (s.extract p (p + 2)) = false) := by
      by_cases h : p + 2 ≤ s.size
      · right; exact ⟨by omega, by rw [in2, ex_take]; exact m2⟩
      · left; omega
    cases m1 : ones.contains (s.get! p)
    · rw [m1] at hm hm1T
      have hno := h0 (by rw [hf]; simp only []; rw [hm]; rfl)
      rcases hp2 with hp2 | ⟨hp2, hm2T⟩
      · rcases hz5 with z5 | ⟨z5, j1⟩ | ⟨z5, j1, j2, j3⟩
        · exact sg_none_A0 s p w hs hp ha hbl h34 hno hp2 hm1T z5
        · exact sg_none_A1 s p w hs hp ha hbl h34 hno hp2 hm1T z5 j1
        · omega
      · rcases hz5 with z5 | ⟨z5, j1⟩ | ⟨z5, j1, j2, j3⟩
        · exact sg_none_B0 s p w hs hp ha hbl h34 hno hp2 hm2T hm1T z5
        · omega
        · exact sg_none_B2 s p w hs hp ha hbl h34 hno hp2 hm2T hm1T z5 j1 j2 j3
    · rw [m1] at hm hm1T
      rw [if_pos rfl] at hm
      rw [hm] at hf
      have hyes := h1 _ _ _ hf (by decide)
      have hA := oneA_pos _ p _ _ _ hyes (by decide)
      rw [← ex_take] at hyes
      rcases hp2 with hp2 | ⟨hp2, hm2T⟩
      · rcases hz5 with z5 | ⟨z5, j1⟩ | ⟨z5, j1, j2, j3⟩
        · exact sg_one_A0 s p w hs hp ha hbl h34 hyes hA hp2 hm1T z5
        · exact sg_one_A1 s p w hs hp ha hbl h34 hyes hA hp2 hm1T z5 j1
        · omega
      · rcases hz5 with z5 | ⟨z5, j1⟩ | ⟨z5, j1, j2, j3⟩
        · exact sg_one_B0 s p w hs hp ha hbl h34 hyes hA hp2 hm2T hm1T z5
        · omega
        · exact sg_one_B2 s p w hs hp ha hbl h34 hyes hA hp2 hm2T hm1T z5 j1 j2 j3
  · have hp2 : (p : Int) + 2 ≤ s.size := by
      apply Classical.byContradiction
      intro h
      rw [short_no s p (by omega)] at m2
      cases m2
    have hm2T : in2 (s.extract p (p + 2)) = true := by rw [in2, ex_take]; exact m2
    have hm := mark2 _ m2
    rw [hm] at hf
    have hyes := h1 _ _ _ hf (by decide)
    have hA := oneA_pos _ p _ _ _ hyes (by decide)
    rw [← ex_take] at hyes
    rcases hz5 with z5 | ⟨z5, j1⟩ | ⟨z5, j1, j2, j3⟩
    · exact sg_two_B0 s p w hs hp ha hbl h34 hyes hA hp2 hm2T z5
    · omega
    · exact sg_two_B2 s p w hs hp ha hbl h34 hyes hA hp2 hm2T z5 j1 j2 j3
theorem onew_any (s : ByteArray) (p : Nat) (w : World) (hs : s.size ≤ 1048576) (hp : p < s.size) : OneWSaid s p w := by
  by_cases hbl : bt s p = 32 ∨ bt s p = 9 ∨ bt s p = 10 ∨ bt s p = 13
  · exact w_blank s p w hs hp hbl
  by_cases hnt : bt s p = 47 ∧ p + 1 < s.size ∧ bt s (p + 1) = 47
  · exact w_note s p w hs hp hnt.1 hnt.2.1 hnt.2.2
  by_cases h34 : bt s p = 34
  · exact w_text s p w hs hp h34
  cases hd : digit (bt s p : Nat)
  · cases ha : alnum (bt s p : Nat)
    · exact w_sign s p w hs hp hbl hnt ha h34
    · exact w_name s p w hs hp hd ha
  · exact w_digits s p w hs hp hd
end Go.Proofs.Ytolhanngkackcaa
