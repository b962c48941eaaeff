/- Contract of the document's own answer for one word. -/
import Derived.Test.YtolhanngkackcaaRefW
set_option linter.unusedSimpArgs false
set_option linter.unusedVariables false
namespace Go.Proofs.Ytolhanngkackcaa
open Go.RowKit

/-! ### What stands at a place: a blank, a note, a word, or none -/
def noteL (l : List UInt8) : Nat := 1 + spanL (fun r => !(r == 10)) (l.drop 1)
def isNote (l : List UInt8) : Bool := l.head? == some 47 && (l.drop 1).head? == some 47
def isBlank (l : List UInt8) : Bool := match l with | [] => false | b :: _ => b.toNat == 32 || (b.toNat == 9 || (b.toNat == 10 || b.toNat == 13))
/-- kind (0: nothing), text, how many bytes. -/
def oneL (l : List UInt8) : Nat × List UInt8 × Nat :=
  if isBlank l = true then (0, [], 1) else if isNote l = true then (0, [], noteL l) else if (firstL l).2.2 = 0 then (0, [], 0) else firstL l
def oneA (l : List UInt8) (p : Nat) : Nat := if (oneL l).1 = 0 then 0 else p
def OneWSaid (s : ByteArray) (p : Nat) (w : World) : Prop := Calls Try.prog 17 #[.string s, .int .i64 (p : Nat)] w fun e w' => e = .returned (.tuple #[.agg #[.int .i64 ((oneL (s.data.toList.drop p)).1 : Nat), .string ⟨(oneL (s.data.toList.drop p)).2.1.toArray⟩, .int .i64 (oneA (s.data.toList.drop p) p : Nat)], .int .i64 ((oneL (s.data.toList.drop p)).2.2 : Nat)]) ∧ Below w.heap.size w w'
theorem one_said {s : ByteArray} {p : Nat} {k n : Nat} {t : ByteArray} {a : Nat} (h : oneL (s.data.toList.drop p) = (k, t.data.toList, n)) (ha : oneA (s.data.toList.drop p) p = a) :
    Ending.returned (.tuple #[.agg #[.int .i64 (k : Nat), .string t, .int .i64 (a : Nat)], .int .i64 (n : Nat)]) = .returned (.tuple #[.agg #[.int .i64 ((oneL (s.data.toList.drop p)).1 : Nat), .string ⟨(oneL (s.data.toList.drop p)).2.1.toArray⟩, .int .i64 (oneA (s.data.toList.drop p) p : Nat)], .int .i64 ((oneL (s.data.toList.drop p)).2.2 : Nat)]) := by
  rw [h, ha]
theorem oneA_zero (l : List UInt8) (p k n : Nat) (t : List UInt8) (h : oneL l = (k, t, n)) (hk : k = 0) : oneA l p = 0 := by unfold oneA; rw [h, if_pos hk]
theorem oneA_pos (l : List UInt8) (p k n : Nat) (t : List UInt8) (h : oneL l = (k, t, n)) (hk : k ≠ 0) : oneA l p = p := by unfold oneA; rw [h, if_neg hk]
theorem head_of (s : ByteArray) (p : Nat) (h : p < s.size) : ∃ b t, s.data.toList.drop p = b :: t ∧ t = s.data.toList.drop (p + 1) ∧ b.toNat = bt s p := by
  obtain ⟨b, e, h1, _⟩ := dropc s p h
  exact ⟨b, _, e, rfl, h1⟩
theorem isBlank_at (s : ByteArray) (p : Nat) (h : p < s.size) : isBlank (s.data.toList.drop p) = (bt s p == 32 || (bt s p == 9 || (bt s p == 10 || bt s p == 13))) := by
  obtain ⟨b, t, e, _, h1⟩ := head_of s p h
  rw [e, isBlank, h1]
theorem isNote_at (s : ByteArray) (p : Nat) : isNote (s.data.toList.drop p) = decide (p < s.size ∧ bt s p = 47 ∧ p + 1 < s.size ∧ bt s (p + 1) = 47) := by
  unfold isNote
  rw [Bool.eq_iff_iff, Bool.and_eq_true, beq_iff_eq, beq_iff_eq, List.drop_drop, head_at, head_at, decide_eq_true_iff]
  constructor
  · rintro ⟨⟨a, b⟩, c, d⟩; exact ⟨a, b, c, d⟩
  · rintro ⟨a, b, c, d⟩; exact ⟨⟨a, b⟩, c, d⟩
theorem one_blank (s : ByteArray) (p : Nat) (h : p < s.size) (hb : bt s p = 32 ∨ bt s p = 9 ∨ bt s p = 10 ∨ bt s p = 13) : oneL (s.data.toList.drop p) = (0, [], 1) := by
  unfold oneL
  rw [if_pos]
  rw [isBlank_at s p h]
  rcases hb with e | e | e | e <;> rw [e] <;> rfl
theorem blank_no (s : ByteArray) (p : Nat) (h : p < s.size) (hb : ¬ (bt s p = 32 ∨ bt s p = 9 ∨ bt s p = 10 ∨ bt s p = 13)) : ¬ (isBlank (s.data.toList.drop p) = true) := by
  rw [isBlank_at s p h]
  simp only [Bool.or_eq_true, beq_iff_eq]; exact hb
theorem one_note (s : ByteArray) (p : Nat) (h : p < s.size) (hb : bt s p = 47) (h2 : p + 1 < s.size) (hb2 : bt s (p + 1) = 47) : oneL (s.data.toList.drop p) = (0, [], noteL (s.data.toList.drop p)) := by
  unfold oneL
  rw [if_neg (blank_no s p h (by omega)), if_pos]
  rw [isNote_at, decide_eq_true_iff]; exact ⟨h, hb, h2, hb2⟩
theorem one_word (s : ByteArray) (p : Nat) (h : p < s.size) (hb : ¬ (bt s p = 32 ∨ bt s p = 9 ∨ bt s p = 10 ∨ bt s p = 13)) (hn : ¬ (bt s p = 47 ∧ p + 1 < s.size ∧ bt s (p + 1) = 47)) (k n : Nat) (t : List UInt8) (hf : firstL (s.data.toList.drop p) = (k, t, n)) (h0 : n ≠ 0) : oneL (s.data.toList.drop p) = (k, t, n) := by
  unfold oneL
  rw [if_neg (blank_no s p h hb), if_neg, if_neg (by rw [hf]; exact h0), hf]
  rw [isNote_at, decide_eq_true_iff]; rintro ⟨_, a, b, c⟩; exact hn ⟨a, b, c⟩
theorem one_none_w (s : ByteArray) (p : Nat) (h : p < s.size) (hb : ¬ (bt s p = 32 ∨ bt s p = 9 ∨ bt s p = 10 ∨ bt s p = 13)) (hn : ¬ (bt s p = 47 ∧ p + 1 < s.size ∧ bt s (p + 1) = 47)) (h0 : (firstL (s.data.toList.drop p)).2.2 = 0) : oneL (s.data.toList.drop p) = (0, [], 0) := by
  unfold oneL
  rw [if_neg (blank_no s p h hb), if_neg, if_pos h0]
  rw [isNote_at, decide_eq_true_iff]; rintro ⟨_, a, b, c⟩; exact hn ⟨a, b, c⟩
theorem note_at (s : ByteArray) (p n : Nat) (h : p < s.size) (hn : noteL (s.data.toList.drop p) = n + spanL (fun r => !(r == 10)) (s.data.toList.drop (p + n))) (hlt : p + n < s.size) (hb : bt s (p + n) ≠ 10) : noteL (s.data.toList.drop p) = n + 1 + spanL (fun r => !(r == 10)) (s.data.toList.drop (p + (n + 1))) := by
  rw [hn, span_step _ s (p + n) hlt, if_pos (by simp; omega), show p + n + 1 = p + (n + 1) from by omega]; omega
theorem note_stop (s : ByteArray) (p n : Nat) (hn : noteL (s.data.toList.drop p) = n + spanL (fun r => !(r == 10)) (s.data.toList.drop (p + n))) (hlt : ¬ (p + n < s.size ∧ bt s (p + n) ≠ 10)) : noteL (s.data.toList.drop p) = n := by
  rw [hn]
  by_cases h : p + n < s.size
  · rw [span_step _ s (p + n) h, if_neg]
    · rfl
    · have : bt s (p + n) = 10 := by
        apply Classical.byContradiction; intro g; exact hlt ⟨h, g⟩
      rw [this]; decide
  · rw [span_end _ s (p + n) h]; rfl
theorem bx_get (w : World) (T : TypeId) : (w.alloc (.cells #[.int .i64 0, .string ⟨#[]⟩, .int .i64 0] T)).cell? ⟨w.heap.size, 0, none⟩ = some (.int .i64 0) ∧ (w.alloc (.cells #[.int .i64 0, .string ⟨#[]⟩, .int .i64 0] T)).cell? ⟨w.heap.size, 1, none⟩ = some (.string ⟨#[]⟩) ∧ (w.alloc (.cells #[.int .i64 0, .string ⟨#[]⟩, .int .i64 0] T)).cell? ⟨w.heap.size, 2, none⟩ = some (.int .i64 0) :=
  ⟨(Bx.new w _ T).get3.1, (Bx.new w _ T).get3.2.1, (Bx.new w _ T).get3.2.2.1⟩
set_option maxRecDepth 100000 in
set_option maxHeartbeats 4000000 in
theorem w_blank (s : ByteArray) (p : Nat) (w : World) (hs : s.size ≤ 1048576) (hp : p < s.size) (h : bt s p = 32 ∨ bt s p = 9 ∨ bt s p = 10 ∨ bt s p = 13) : OneWSaid s p w := by
  have h1 := one_blank s p hp h
  have H1 := Lib.hid h1; clear h1
  unfold OneWSaid
  have hbt := bt_eq s p hp
  rcases h with h | h | h | h
  all_goals
    rw [h] at hbt; clear h
    go_enter Try.func17, Try.ntmps17
    go_wp2
    refine bodyPost_ret (v := .tuple #[.agg #[.int .i64 0, .string ⟨#[]⟩, .int .i64 0], .int .i64 1]) (by simp [results, Try.results17, go_sem]) rfl ⟨one_said (t := ⟨#[]⟩) (k := 0) (n := 1) H1.out (oneA_zero _ _ _ _ _ H1.out rfl), box_below _ _ _⟩
set_option maxRecDepth 100000 in
set_option maxHeartbeats 4000000 in
theorem w_note (s : ByteArray) (p : Nat) (w : World) (hs : s.size ≤ 1048576) (hp : p < s.size) (h : bt s p = 47) (h2 : p + 1 < s.size) (hb2 : bt s (p + 1) = 47) : OneWSaid s p w := by
  have h1 := one_note s p hp h h2 hb2
  obtain ⟨m, hm⟩ : ∃ m, noteL (s.data.toList.drop p) = m := ⟨_, rfl⟩
  have hm1 : noteL (s.data.toList.drop p) = 1 + spanL (fun r => !(r == 10)) (s.data.toList.drop (p + 1)) := by unfold noteL; rw [List.drop_drop]
  rw [hm] at h1
  have H1 := Lib.hid h1; clear h1
  have HM1 := Lib.hid hm1; clear hm1
  have HM := Lib.hid hm; clear hm
  unfold OneWSaid
  have hbt := bt_eq s p hp
  rw [h] at hbt; clear h
  have hbt2 := bt_eq s (p + 1) h2
  rw [hb2] at hbt2; clear hb2
  have i1 : (p : Int) + 1 < s.size := by omega
  have i2 : ((p : Int) + 1).toNat = p + 1 := by omega
  have i3 : 0 ≤ (p : Int) + 1 := by omega
  go_enter Try.func17, Try.ntmps17
  go_wp2
  go_loop [7] (fun v => ∃ n : Nat, v = .int .i64 n ∧ 1 ≤ n ∧ p + n ≤ s.size ∧ noteL (s.data.toList.drop p) = n + spanL (fun r => !(r == 10)) (s.data.toList.drop (p + n))) (fun v => s.size - (intOf v).toNat)
  case atStart => exact ⟨1, rfl, by omega, by omega, HM1.out⟩
  case round =>
    obtain ⟨n, rfl, hn1, hn2, hn⟩ := hrel
    clear HM1 i1 i2 i3 hbt hbt2
    by_cases hlt : p + n < s.size
    · have hbt := bt_eq s (p + n) hlt
      have h256 := bt_lt s (p + n)
      have j1 : (p : Int) + (n : Int) < s.size := by omega
      have j2 : ((p : Int) + (n : Int)).toNat = p + n := by omega
      have j3 : 0 ≤ (p : Int) + (n : Int) := by omega
      by_cases h10 : bt s (p + n) = 10
      · have b1 : (((bt s (p + n) : Nat) : Int) != 10) = false := by rw [bne_eq_false_iff_eq]; omega
        have hnm := note_stop s p n hn (fun h => h.2 h10)
        rw [HM.out] at hnm
        have HNM := Lib.hid hnm; clear hnm hn h10
        go_wp2
        refine bodyPost_ret (v := .tuple #[.agg #[.int .i64 0, .string ⟨#[]⟩, .int .i64 0], .int .i64 (n : Nat)]) (by simp [results, Try.results17, go_sem]) rfl ⟨one_said (t := ⟨#[]⟩) (k := 0) (by rw [← HNM.out]; exact H1.out) (oneA_zero _ _ _ _ _ H1.out rfl), box_below _ _ _⟩
      · have b1 : (((bt s (p + n) : Nat) : Int) != 10) = true := by rw [bne_iff_ne]; omega
        have HN := Lib.hid (note_at s p n hp hn hlt h10); clear hn h10
        go_wp2
        go_round
        case rel => exact ⟨n + 1, by go_num, by omega, by omega, HN.out⟩
        case measure => simp [intOf]; omega
    · have hnm := note_stop s p n hn (fun h => hlt h.1)
      rw [HM.out] at hnm
      have HNM := Lib.hid hnm; clear hnm hn
      have j1 : (s.size : Int) ≤ (p : Int) + (n : Int) := by omega
      go_wp2
      refine bodyPost_ret (v := .tuple #[.agg #[.int .i64 0, .string ⟨#[]⟩, .int .i64 0], .int .i64 (n : Nat)]) (by simp [results, Try.results17, go_sem]) rfl ⟨one_said (t := ⟨#[]⟩) (k := 0) (by rw [← HNM.out]; exact H1.out) (oneA_zero _ _ _ _ _ H1.out rfl), box_below _ _ _⟩
end Go.Proofs.Ytolhanngkackcaa
