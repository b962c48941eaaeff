/- Plain facts on a program's words: where they stand, what they are. No Go program in this text. -/
import Derived.Test.YtolhanngkackcaaWord
set_option linter.unusedSimpArgs false
set_option linter.unusedVariables false
namespace Go.Proofs.Ytolhanngkackcaa

/-- Along the words of a text: what holds of the first one, and of the rest behind it. -/
theorem words_ind (Q : List UInt8 → Nat → List Wd × Int → Prop)
    (h0 : ∀ a, Q [] a ([], -1))
    (h1 : ∀ l a, l ≠ [] → (firstL l).2.2 = 0 → Q l a ([], (a : Int)))
    (h2 : ∀ l a, l ≠ [] → (firstL l).2.2 ≠ 0 → Q ((l.drop (firstL l).2.2).drop (gapL false (l.drop (firstL l).2.2))) (a + (firstL l).2.2 + gapL false (l.drop (firstL l).2.2)) (cutL (l.drop (firstL l).2.2) (a + (firstL l).2.2)) →
      Q l a (⟨(firstL l).1, (firstL l).2.1, a⟩ :: (cutL (l.drop (firstL l).2.2) (a + (firstL l).2.2)).1, (cutL (l.drop (firstL l).2.2) (a + (firstL l).2.2)).2)) :
    ∀ (n : Nat) (l : List UInt8) (a : Nat), l.length ≤ n → Q l a (wordsL l a)
  | 0, l, a, h => by
    have : l = [] := List.eq_nil_of_length_eq_zero (by omega)
    subst this
    rw [words_nil]; exact h0 a
  | n + 1, l, a, h => by
    by_cases hl : l = []
    · subst hl; rw [words_nil]; exact h0 a
    · by_cases hn : (firstL l).2.2 = 0
      · rw [words_none l a hl hn]; exact h1 l a hl hn
      · rw [words_step l a hl hn]
        have hp : 0 < l.length := List.length_pos_iff.2 hl
        exact h2 l a hl hn (words_ind Q h0 h1 h2 n _ _ (by simp only [List.length_drop]; omega))

/-- Where a text is wrong: nowhere, or in it. -/
theorem words_wrong (l : List UInt8) (a : Nat) : (wordsL l a).2 = -1 ∨ ((a : Int) ≤ (wordsL l a).2 ∧ (wordsL l a).2 < (a + l.length : Nat)) := by
  refine words_ind (fun l a r => r.2 = -1 ∨ ((a : Int) ≤ r.2 ∧ r.2 < (a + l.length : Nat))) (fun a => .inl rfl) ?_ ?_ l.length l a (Nat.le_refl _)
  · intro l a hl _
    have hp : 0 < l.length := List.length_pos_iff.2 hl
    right; constructor
    · exact Int.le_refl _
    · show (a : Int) < _; omega
  · intro l a hl hn h
    have h1 := first_le l
    have h2 := gap_le (l.drop (firstL l).2.2) false
    simp only [List.length_drop] at h h2
    simp only []
    rcases h with h | h
    · exact .inl h
    · right; omega
theorem cut_wrong (l : List UInt8) (a : Nat) : (cutL l a).2 = -1 ∨ ((a + gapL false l : Nat) ≤ (cutL l a).2 ∧ (cutL l a).2 < (a + l.length : Nat)) := by
  have := words_wrong (l.drop (gapL false l)) (a + gapL false l)
  have h := gap_le l false
  simp only [List.length_drop] at this
  unfold cutL
  rcases this with e | e
  · exact .inl e
  · right; omega
theorem bad_range (s : ByteArray) : bad s = -1 ∨ (0 ≤ bad s ∧ bad s < s.size) := badFrom_range s 0
theorem wrong_range (s : ByteArray) : wrongAt s = -1 ∨ (0 ≤ wrongAt s ∧ wrongAt s < s.size) := by
  have h1 := cut_wrong s.data.toList 0
  have h2 := bad_range s
  have hl : s.data.toList.length = s.size := by simp
  unfold wrongAt
  split <;> omega

/-! ### Words one behind the other -/
def chain (s : ByteArray) : Nat → List Wd → Prop
  | _, [] => True
  | e, x :: t => e ≤ x.a ∧ x.a < s.size ∧ 1 ≤ x.k ∧ x.k ≤ 4 ∧ ((x.k = 3 ∧ bt s x.a = 34 ∧ chain s (x.a + 1) t) ∨ (x.k ≠ 3 ∧ x.t ≠ [] ∧ x.a + x.t.length ≤ s.size ∧ sub s x.a x.t.length = x.t ∧ chain s (x.a + x.t.length) t))
theorem chain_less (s : ByteArray) (e f : Nat) (h : e ≤ f) : ∀ l, chain s f l → chain s e l
  | [], _ => trivial
  | x :: t, ⟨h1, h2⟩ => ⟨Nat.le_trans h h1, h2⟩
theorem text_quote (l : List UInt8) (h : 0 < textLen l) : l.head? = some 34 := by
  cases l with
  | nil => simp [textLen] at h
  | cons b t =>
    rw [textLen] at h
    split at h
    · rename_i hb
      rw [List.head?_cons, Option.some_inj]; exact UInt8.toNat_inj.1 hb
    · omega
/-- The word at the head: its kind; a text stands in quotes; any other is what stands there. -/
theorem first_kind (l : List UInt8) (h : (firstL l).2.2 ≠ 0) :
    1 ≤ (firstL l).1 ∧ (firstL l).1 ≤ 4 ∧ (((firstL l).1 = 3 ∧ l.head? = some 34 ∧ 2 ≤ (firstL l).2.2) ∨ ((firstL l).1 ≠ 3 ∧ (firstL l).2.1 = l.take (firstL l).2.2)) := by
  unfold firstL at *
  have h3 := text_le l
  by_cases a1 : 0 < spanL digit l
  · rw [if_pos a1]; exact ⟨by simp, by simp, .inr ⟨by simp, rfl⟩⟩
  · rw [if_neg a1] at h ⊢
    by_cases a2 : 0 < spanL alnum l
    · rw [if_pos a2]; exact ⟨by simp, by simp, .inr ⟨by simp, rfl⟩⟩
    · rw [if_neg a2] at h ⊢
      by_cases a3 : 0 < textLen l
      · rw [if_pos a3] at h ⊢
        split at h
        · rename_i hp
          rw [if_pos hp]; exact ⟨by simp, by simp, .inl ⟨rfl, text_quote l a3, by simp only []; omega⟩⟩
        · simp at h
      · rw [if_neg a3]; exact ⟨by simp, by simp, .inr ⟨by simp, rfl⟩⟩
theorem words_chain (s : ByteArray) (p : Nat) : chain s p (wordsL (s.data.toList.drop p) p).1 := by
  refine words_ind (fun l a r => l = s.data.toList.drop a → chain s a r.1) (fun a _ => trivial) (fun l a _ _ _ => trivial) ?_ _ (s.data.toList.drop p) p (Nat.le_refl _) rfl
  intro l a hl hn ih hd
  have hs : s.data.toList.length = s.size := by simp
  have hle := first_le l
  have hp : 0 < l.length := List.length_pos_iff.2 hl
  have hll : l.length = s.size - a := by rw [hd, List.length_drop, hs]
  obtain ⟨k1, k2, k3⟩ := first_kind l hn
  have ih2 := ih (by rw [hd]; simp only [List.drop_drop])
  refine ⟨Nat.le_refl _, by simp only []; omega, k1, k2, ?_⟩
  rcases k3 with ⟨e, hh, hb⟩ | ⟨e, ht⟩
  · left
    refine ⟨e, ?_, chain_less s _ _ ?_ _ ih2⟩
    · rw [hd, head_at] at hh; exact hh.2
    · simp only []; omega
  · right
    have htl : (firstL l).2.1.length = (firstL l).2.2 := by rw [ht, List.length_take]; omega
    simp only []
    refine ⟨e, ?_, by omega, ?_, chain_less s _ _ (by rw [htl]; omega) _ ih2⟩
    · intro e0; rw [e0] at htl; simp at htl; omega
    · rw [htl]; rw [ht, hd]; rfl
theorem all_chain (s : ByteArray) : chain s 0 (allW s) := by
  unfold allW
  split
  · trivial
  · exact chain_less s 0 _ (Nat.zero_le _) _ (by rw [cutL, Nat.zero_add]; exact words_chain s _)
theorem all_len (s : ByteArray) : (allW s).length ≤ s.size := by
  have key : ∀ (l : List Wd) (e : Nat), e ≤ s.size → chain s e l → l.length + e ≤ s.size := by
    intro l
    induction l with
    | nil => intro e he _; simpa using he
    | cons x t ih =>
      intro e he h
      obtain ⟨h1, h2, _, _, h3⟩ := h
      rcases h3 with ⟨_, _, h4⟩ | ⟨_, h0, h5, _, h4⟩
      · have := ih _ (by omega) h4
        simp only [List.length_cons]; omega
      · have := ih _ (by omega) h4
        have : 0 < x.t.length := List.length_pos_iff.2 h0
        simp only [List.length_cons]; omega
  have := key _ 0 (Nat.zero_le _) (all_chain s)
  omega
/-- Wrong: nothing else is told. -/
theorem all_bad (s : ByteArray) (h : ¬ 8000 < s.size) (h0 : allE s ≠ 0) : allW s = [] ∧ allE s = 2 ∧ 0 ≤ allA s ∧ allA s < s.size := by
  have hr := wrong_range s
  unfold allE at h0
  rw [if_neg h] at h0
  split at h0
  · rename_i hw
    refine ⟨?_, ?_, ?_, ?_⟩
    · unfold allW; rw [if_pos (.inr hw)]
    · unfold allE; rw [if_neg h, if_pos hw]
    · unfold allA; rw [if_neg h, if_pos hw]; exact hw
    · unfold allA; rw [if_neg h, if_pos hw]; omega
  · exact absurd rfl h0
end Go.Proofs.Ytolhanngkackcaa
