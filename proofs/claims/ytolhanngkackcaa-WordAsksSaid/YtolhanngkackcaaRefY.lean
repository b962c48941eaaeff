/- Contract of the document's own answer for all words of a text. -/
import Derived.Test.YtolhanngkackcaaRefX7
import Derived.Test.YtolhanngkackcaaWordF
set_option linter.unusedSimpArgs false
set_option linter.unusedVariables false
namespace Go.Proofs.Ytolhanngkackcaa
open Go.RowKit

/-! ### One step along a text -/
theorem gap_over10 : ∀ l : List UInt8, gapL true l = spanL (fun r => !(r == 10)) l + gapL false (l.drop (spanL (fun r => !(r == 10)) l))
  | [] => rfl
  | b :: t => by
    rw [span_cons]
    by_cases h : b.toNat = 10
    · rw [if_neg (by rw [h]; decide), List.drop_zero, gapL, if_pos h, gapL, if_pos h]; omega
    · have ih := gap_over10 t
      have hb : (!(((b.toNat : Nat) : Int) == 10)) = true := by simp; omega
      rw [if_pos hb, List.drop_succ_cons, gapL, if_neg h, if_pos rfl, ih]; omega
theorem gap_blank1 (l : List UInt8) (h : isBlank l = true) : gapL false l = 1 + gapL false (l.drop 1) := by
  cases l with
  | nil => simp [isBlank] at h
  | cons b t =>
    simp only [isBlank, Bool.or_eq_true, beq_iff_eq] at h
    rw [gapL, List.drop_succ_cons, List.drop_zero]
    by_cases h10 : b.toNat = 10
    · rw [if_pos h10]; omega
    · rw [if_neg h10, if_neg (by simp), if_pos]
      · omega
      · simp only [blankI, Bool.or_eq_true, beq_iff_eq]; omega
theorem gap_note1 (l : List UInt8) (h : isNote l = true) : gapL false l = noteL l + gapL false (l.drop (noteL l)) := by
  unfold isNote at h
  rw [Bool.and_eq_true, beq_iff_eq, beq_iff_eq] at h
  obtain ⟨h1, h2⟩ := h
  cases l with
  | nil => simp at h1
  | cons b t =>
    rw [List.head?_cons, Option.some_inj] at h1
    subst h1
    rw [List.drop_succ_cons, List.drop_zero] at h2
    have e : noteL (47 :: t) = 1 + spanL (fun r => !(r == 10)) t := by unfold noteL; rw [List.drop_succ_cons, List.drop_zero]
    rw [e, gapL, if_neg (by decide), if_neg (by simp), if_neg (by decide), if_pos ⟨by decide, h2⟩, gap_over10 t, show 1 + spanL (fun r => !(r == 10)) t = spanL (fun r => !(r == 10)) t + 1 from by omega, List.drop_succ_cons]; omega
theorem gap_none (l : List UInt8) (h1 : ¬ (isBlank l = true)) (h2 : ¬ (isNote l = true)) : gapL false l = 0 := by
  cases l with
  | nil => rfl
  | cons b t =>
    simp only [isBlank, Bool.or_eq_true, beq_iff_eq] at h1
    unfold isNote at h2
    rw [Bool.and_eq_true, beq_iff_eq, beq_iff_eq, List.head?_cons, List.drop_succ_cons, List.drop_zero, Option.some_inj] at h2
    rw [gapL, if_neg (by omega), if_neg (by simp), if_neg, if_neg]
    · rintro ⟨a, b⟩
      exact h2 ⟨UInt8.toNat_inj.1 a, b⟩
    · simp only [blankI, Bool.or_eq_true, beq_iff_eq]; omega
theorem cut_skip (l : List UInt8) (a n : Nat) (h : gapL false l = n + gapL false (l.drop n)) : cutL l a = cutL (l.drop n) (a + n) := by
  unfold cutL
  rw [h, List.drop_drop, Nat.add_assoc]
theorem note_le (l : List UInt8) (h : l ≠ []) : noteL l ≤ l.length := by
  have := span_le (fun r => !(r == 10)) (l.drop 1)
  have hp : 0 < l.length := List.length_pos_iff.2 h
  unfold noteL
  rw [List.length_drop] at this; omega
theorem one_len (l : List UInt8) (h : l ≠ []) : (oneL l).2.2 ≤ l.length := by
  have hp : 0 < l.length := List.length_pos_iff.2 h
  have h1 := note_le l h
  have h2 := first_le l
  unfold oneL
  split
  · simp only []; omega
  · split
    · exact h1
    · split
      · simp only []; omega
      · exact h2
/-- What one step does to all that follows. -/
theorem one_step (l : List UInt8) (a : Nat) (h : l ≠ []) :
    ((oneL l).2.2 = 0 ∧ cutL l a = ([], (a : Int))) ∨
    ((oneL l).2.2 ≠ 0 ∧ (oneL l).1 = 0 ∧ cutL l a = cutL (l.drop (oneL l).2.2) (a + (oneL l).2.2)) ∨
    ((oneL l).2.2 ≠ 0 ∧ (oneL l).1 ≠ 0 ∧ cutL l a = (⟨(oneL l).1, (oneL l).2.1, a⟩ :: (cutL (l.drop (oneL l).2.2) (a + (oneL l).2.2)).1, (cutL (l.drop (oneL l).2.2) (a + (oneL l).2.2)).2)) := by
  by_cases h1 : isBlank l = true
  · have e : oneL l = (0, [], 1) := by unfold oneL; rw [if_pos h1]
    rw [e]
    exact .inr (.inl ⟨by decide, rfl, cut_skip l a 1 (gap_blank1 l h1)⟩)
  · by_cases h2 : isNote l = true
    · have e : oneL l = (0, [], noteL l) := by unfold oneL; rw [if_neg h1, if_pos h2]
      rw [e]
      refine .inr (.inl ⟨?_, rfl, cut_skip l a _ (gap_note1 l h2)⟩)
      simp only [noteL]; omega
    · have hg := gap_none l h1 h2
      have hc : cutL l a = wordsL l a := by unfold cutL; rw [hg]; rfl
      by_cases h3 : (firstL l).2.2 = 0
      · have e : oneL l = (0, [], 0) := by unfold oneL; rw [if_neg h1, if_neg h2, if_pos h3]
        rw [e, hc]
        exact .inl ⟨rfl, words_none l a h h3⟩
      · have e : oneL l = firstL l := by unfold oneL; rw [if_neg h1, if_neg h2, if_neg h3]
        rw [e, hc]
        have hk := first_kind l h3
        exact .inr (.inr ⟨h3, by omega, words_step l a h h3⟩)

/-! ### The answer, from what is known at a place -/
theorem rest_wrong (s : ByteArray) (p : Nat) : (cutL (s.data.toList.drop p) p).2 = -1 ∨ (p : Int) ≤ (cutL (s.data.toList.drop p) p).2 := by
  rcases cut_wrong (s.data.toList.drop p) p with h | h
  · exact .inl h
  · right; omega
theorem wrong_bad (s : ByteArray) (c : Int) (hc : (cutL s.data.toList 0).2 = c) (h0 : 0 ≤ bad s) (h : c = -1 ∨ bad s ≤ c) : wrongAt s = bad s := by
  unfold wrongAt
  rw [hc]
  split
  · rfl
  · rename_i g
    apply Classical.byContradiction
    intro e
    apply g
    refine ⟨h0, ?_⟩
    rcases h with h | h
    · left; omega
    · right; omega
theorem wrong_cut (s : ByteArray) (c : Int) (hc : (cutL s.data.toList 0).2 = c) (h : bad s < 0 ∨ (0 ≤ c ∧ c < bad s)) : wrongAt s = c := by
  unfold wrongAt
  rw [hc, if_neg]
  rintro ⟨a, b⟩
  omega
theorem Try.infoRWord : (Try.prog.info? 41).map (fun i => (i.zero, i.size, i.bytes)) = some (some (.agg #[.int .i64 0, .string ⟨#[]⟩, .int .i64 0]), 3, 32) := by kernel_rfl
def RAllSaid (s : ByteArray) (w : World) (e : Ending) (w' : World) : Prop := ∃ v : Value, e = .returned (.tuple #[v, .int .i64 (allE s), .int .i64 (allA s)]) ∧ w'.ownsRow w.heap.size 41 3 v (allW s).length (cellsW (allW s)) ∧ Below w.heap.size w w'
theorem rall_said {s : ByteArray} {w W : World} {v : Value} {ws : List Wd} {x a : Int} (h1 : allW s = ws) (h2 : allE s = x) (h3 : allA s = a) (ho : W.ownsRow w.heap.size 41 3 v ws.length (cellsW ws)) (hb : Below w.heap.size w W) :
    RAllSaid s w (.returned (.tuple #[v, .int .i64 x, .int .i64 a])) W := ⟨v, by rw [h2, h3], by rw [h1]; exact ho, hb⟩
end Go.Proofs.Ytolhanngkackcaa
