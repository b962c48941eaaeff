/- Contracts of the document's own answers for names. -/
import Derived.Test.YtnphimechniplaaGreatRef
set_option linter.unusedSimpArgs false
set_option linter.unusedVariables false
namespace Go.Proofs.YtnphimechniplaaGreat
open Go.RowKit

def keptTexts : List ByteArray := keptWords.map fun l => ⟨l.toArray⟩
theorem rkept_any (s : ByteArray) (w : World) : Calls Tryz.prog 43 #[.string s] w fun e w' => e = .returned (.bool (kept s.data.toList)) ∧ Below w.heap.size w w' := by
  go_enter Tryz.func43, Tryz.ntmps43
  go_wp2_with (go_at_call 70; refine (in_any _ _ _ _ keptTexts _ _ rfl (by decide) (cells_lit _ _ _ _ rfl)).mono ?_; rintro e w' ⟨rfl, rfl⟩)
  go_ret
  exact ⟨rfl, (Below.refl _ w).alloc (Nat.le_refl _) _⟩
def lettersOk (s : ByteArray) (m : Int) : Bool := allAl s 0 && (decide (1 ≤ s.size) && decide ((s.size : Int) ≤ m))
theorem letters_no (s : ByteArray) (m : Int) (p : Nat) (h : p < s.size) (hb : allAl s p = allAl s 0) (ha : alnum (bt s p) = false) : lettersOk s m = false := by
  have := allAl_step s p h
  rw [ha, Bool.false_and, hb] at this
  simp [lettersOk, this]
theorem al_next' (s : ByteArray) (p : Nat) (h : p < s.size) (hb : allAl s p = allAl s 0) (ha : alnum (bt s p) = true) : allAl s (p + 1) = allAl s 0 := by
  have := allAl_step s p h
  rw [ha, Bool.true_and, hb] at this
  exact this.symm
set_option maxHeartbeats 1000000 in
theorem letters_any (s : ByteArray) (m : Int) (w : World) (hs : s.size ≤ maxLen) (hm0 : 0 ≤ m) (hm1 : m ≤ 1000) : Calls Tryz.prog 40 #[.string s, .int .i64 m] w fun e w' => e = .returned (.bool (lettersOk s m)) ∧ w = w' := by
  unfold maxLen at hs
  go_enter Tryz.func40, Tryz.ntmps40
  go_wp2
  go_loop [5] (fun i => ∃ k : Nat, k ≤ s.size ∧ i = .int .i64 k ∧ allAl s k = allAl s 0) (fun i => s.size - (intOf i).toNat)
  case atStart => exact ⟨0, Nat.zero_le _, rfl, rfl⟩
  case round =>
    obtain ⟨k, hk, rfl, hh⟩ := hrel
    have HH := Lib.hid hh; clear hh
    by_cases hlt : k < s.size
    · have hbt := bt_eq s k hlt
      have hb256 := bt_lt s k
      cases hal : alnum (bt s k)
      · have HR := Lib.hid (letters_no s m k hlt HH.out hal)
        obtain ⟨a1, a2, a3⟩ := al0 hal
        go_wp2_with (first | (go_at_call 42; refine (rsmall_any _ _).mono ?_; rintro e w' ⟨rfl, rfl⟩) | (go_at_call 41; refine (rbig_any _ _).mono ?_; rintro e w' ⟨rfl, rfl⟩) | (go_at_call 69; refine (rdigit_any _ _).mono ?_; rintro e w' ⟨rfl, rfl⟩))
        go_ret
        exact ⟨by rw [HR.out]; rfl, rfl⟩
      · have HR := Lib.hid (al_next' s k hlt HH.out hal)
        rcases al3 hal with a1 | ⟨a1, a2⟩ | ⟨a1, a2, a3⟩
        all_goals clear hal
        all_goals go_wp2_with (first | (go_at_call 42; refine (rsmall_any _ _).mono ?_; rintro e w' ⟨rfl, rfl⟩) | (go_at_call 41; refine (rbig_any _ _).mono ?_; rintro e w' ⟨rfl, rfl⟩) | (go_at_call 69; refine (rdigit_any _ _).mono ?_; rintro e w' ⟨rfl, rfl⟩))
        all_goals go_round
        all_goals first | exact ⟨k + 1, by omega, by go_num, HR.out⟩ | (simp [intOf]; omega)
    · have he := allAl_end s k hlt
      rw [HH.out] at he
      have HE := Lib.hid he; clear he
      go_wp2
      all_goals (go_ret; refine ⟨?_, rfl⟩)
      · have g1 : (1 : Int) ≤ s.size := by assumption
        have g2 : 1 ≤ s.size := by omega
        rw [show lettersOk s m = decide ((s.size : Int) ≤ m) from by simp only [lettersOk, HE.out, Bool.true_and, decide_eq_true g2]]; rfl
      · have g1 : (s.size : Int) < 1 := by assumption
        have g2 : ¬ 1 ≤ s.size := by omega
        rw [show lettersOk s m = false from by simp only [lettersOk, HE.out, Bool.true_and, decide_eq_false g2, Bool.false_and]]; rfl
theorem shape_letters (first : Int → Bool) (s : ByteArray) : shape first s = (lettersOk s 20 && first (bt s 0)) := by
  have e : decide ((s.size : Int) ≤ 20) = decide (s.size ≤ 20) := by rw [decide_eq_decide]; omega
  unfold shape lettersOk
  rw [e]
  cases allAl s 0 <;> cases decide (1 ≤ s.size) <;> cases decide (s.size ≤ 20) <;> cases first (bt s 0) <;> rfl
theorem letters_pos (s : ByteArray) (m : Int) (h : lettersOk s m = true) : 0 < s.size := by
  simp only [lettersOk, Bool.and_eq_true, decide_eq_true_eq] at h; omega
theorem rname_any (s : ByteArray) (w : World) (hs : s.size ≤ maxLen) : Calls Tryz.prog 26 #[.string s] w fun e w' => e = .returned (.bool (nameOk s)) ∧ Below w.heap.size w w' := by
  have hsh := shape_letters small s
  go_enter Tryz.func26, Tryz.ntmps26
  cases h1 : lettersOk s 20
  · have HR : Hid (nameOk s = false) := by show nameOk s = false; rw [nameOk, hsh, h1]; rfl
    clear hsh
    go_wp2_with (first | (go_at_call 40; refine (letters_any _ 20 _ hs (by omega) (by omega)).mono ?_; rintro e w1 ⟨rfl, rfl⟩))
    go_ret
    exact ⟨by rw [HR.out]; rfl, Below.refl _ _⟩
  · have hpos := letters_pos s 20 h1
    have hbt := bt_eq s 0 hpos
    have hb256 := bt_lt s 0
    cases h2 : small (bt s 0)
    · have HR : Hid (nameOk s = false) := by show nameOk s = false; rw [nameOk, hsh, h1, h2]; rfl
      clear hsh
      go_wp2_with (first | (go_at_call 40; refine (letters_any _ 20 _ hs (by omega) (by omega)).mono ?_; rintro e w1 ⟨rfl, rfl⟩) | (go_at_call 42; refine (rsmall_any _ _).mono ?_; rintro e w' ⟨rfl, rfl⟩))
      go_ret
      exact ⟨by rw [HR.out]; rfl, Below.refl _ _⟩
    · have HR : Hid (nameOk s = !kept s.data.toList) := by show nameOk s = !kept s.data.toList; rw [nameOk, hsh, h1, h2]; rfl
      clear hsh
      go_wp2_with (first | (go_at_call 40; refine (letters_any _ 20 _ hs (by omega) (by omega)).mono ?_; rintro e w1 ⟨rfl, rfl⟩) | (go_at_call 42; refine (rsmall_any _ _).mono ?_; rintro e w' ⟨rfl, rfl⟩) | (go_at_call 43; refine (rkept_any _ _).mono ?_; rintro e w1 ⟨rfl, hb⟩))
      go_ret
      exact ⟨by rw [HR.out]; rfl, hb⟩
theorem rclass_any (s : ByteArray) (w : World) (hs : s.size ≤ maxLen) : Calls Tryz.prog 24 #[.string s] w fun e w' => e = .returned (.bool (classOk s)) ∧ w = w' := by
  have hsh := shape_letters big s
  go_enter Tryz.func24, Tryz.ntmps24
  cases h1 : lettersOk s 20
  · have HR : Hid (classOk s = false) := by show classOk s = false; rw [classOk, hsh, h1]; rfl
    clear hsh
    go_wp2_with (first | (go_at_call 40; refine (letters_any _ 20 _ hs (by omega) (by omega)).mono ?_; rintro e w1 ⟨rfl, rfl⟩))
    go_ret
    exact ⟨by rw [HR.out]; rfl, rfl⟩
  · have hpos := letters_pos s 20 h1
    have hbt := bt_eq s 0 hpos
    have hb256 := bt_lt s 0
    cases h2 : big (bt s 0)
    · have HR : Hid (classOk s = false) := by show classOk s = false; rw [classOk, hsh, h1, h2]; rfl
      clear hsh
      go_wp2_with (first | (go_at_call 40; refine (letters_any _ 20 _ hs (by omega) (by omega)).mono ?_; rintro e w1 ⟨rfl, rfl⟩) | (go_at_call 41; refine (rbig_any _ _).mono ?_; rintro e w' ⟨rfl, rfl⟩))
      go_ret
      exact ⟨by rw [HR.out]; rfl, rfl⟩
    · have HR : Hid (classOk s = !(s.toList == [83, 116, 114, 105, 110, 103])) := by show classOk s = !(s.toList == [83, 116, 114, 105, 110, 103]); rw [classOk, hsh, h1, h2, Lib.toList_data]; rfl
      clear hsh
      go_wp2_with (first | (go_at_call 40; refine (letters_any _ 20 _ hs (by omega) (by omega)).mono ?_; rintro e w1 ⟨rfl, rfl⟩) | (go_at_call 41; refine (rbig_any _ _).mono ?_; rintro e w' ⟨rfl, rfl⟩))
      go_ret
      exact ⟨by rw [HR.out]; rfl, rfl⟩
end Go.Proofs.YtnphimechniplaaGreat
