/- Statements of layer 1 as walks: what is quoted comes back. -/
import Derived.Test.YthimniopmeihgaaTold
set_option linter.unusedSimpArgs false
set_option linter.unusedVariables false
namespace Go.Proofs.Ythimniopmeihgaa
open Go.RowKit

theorem runesF_len (s : ByteArray) : ∀ f p, (runesF s f p).length ≤ f
  | 0, p => Nat.le_refl _
  | f + 1, p => by
    simp only [runesF]
    split
    · have := runesF_len s f (p + (Utf8.decode s p).2); simp only [List.length_cons]; omega
    · simp
theorem runes_len (s : ByteArray) : (runes s 0).length ≤ s.size := runesF_len s _ 0
theorem encs_len : ∀ l : List Nat, (encs l).length ≤ 4 * l.length
  | [] => by simp [encs]
  | r :: l => by
    have := encs_len l
    have h := enc_len (r : Int)
    rw [encs_cons, List.length_append, List.length_cons]; omega
theorem qrs_len : ∀ l : List Nat, (l.flatMap qr).length ≤ 2 * l.length
  | [] => by simp
  | r :: l => by
    have := qrs_len l
    have h : (qr r).length ≤ 2 := by unfold qr; split <;> simp
    rw [List.flatMap_cons, List.length_append, List.length_cons]; omega
theorem quoteFrom_len (s : ByteArray) : (quoteFrom s 0).length ≤ 8 * s.size := by
  have a := runes_len s
  have b := qrs_len (runes s 0)
  have c := encs_len ((runes s 0).flatMap qr)
  unfold quoteFrom; omega
/-- The quote, as a text. -/
theorem quote_facts (s : ByteArray) (q : ByteArray) (hq : q = ⟨(quote s).toArray⟩) :
    2 ≤ q.size ∧ q.size ≤ 2 + 8 * s.size ∧ bt q 0 = 34 ∧ bt q (q.size - 1) = 34 ∧ q.extract 1 (q.size - 1) = ⟨(quoteFrom s 0).toArray⟩ := by
  have hl := quoteFrom_len s
  have hz : q.size = (quoteFrom s 0).length + 2 := by rw [hq, size_list, quote]; simp
  refine ⟨by omega, by omega, ?_, ?_, ?_⟩
  · rw [hq]; exact get_list _ 0 34 (by rw [quote]; rfl)
  · rw [hz, hq, show (quoteFrom s 0).length + 2 - 1 = (quoteFrom s 0).length + 1 from by omega]
    apply get_list _ _ 34
    rw [quote, List.getElem?_append_right (by simp), List.getElem?_append_right (by simp)]
    simp
  · apply ba_of
    rw [extract_list, hz, hq]
    show (([34] ++ (quoteFrom s 0 ++ [34])).drop 1).take ((quoteFrom s 0).length + 2 - 1 - 1) = _
    rw [show (quoteFrom s 0).length + 2 - 1 - 1 = (quoteFrom s 0).length from by omega]
    simp
theorem plain_quoted (s : ByteArray) : plainText ⟨(quoteFrom s 0).toArray⟩ = encs (runes s 0) ∧ plainOk ⟨(quoteFrom s 0).toArray⟩ = true := by
  simp [plainText, plainOk, plain_inner]
set_option maxRecDepth 100000 in
set_option maxHeartbeats 4000000 in
theorem lawSignBack (s : ByteArray) (hs : s.size ≤ maxLen) (w : World) : Calls Try.prog 4 #[.string s] w fun e w' => e = .returned (.bool true) ∧ Below w.heap.size w w' := by
  by_cases h2 : 200 < s.size
  · have h2' : (200 : Int) < s.size := by omega
    go_enter Try.func4, Try.ntmps4
    go_wp2_with (go_at_call 8; refine (told_any _).mono ?_; rintro e w1 ⟨rfl, hb⟩)
    go_ret
    exact ⟨rfl, hb⟩
  · have h2' : (s.size : Int) ≤ 200 := by omega
    have hc : Below w.heap.size w w := Below.refl _ _
    obtain ⟨q, hq⟩ : ∃ q : ByteArray, q = ⟨(quote s).toArray⟩ := ⟨_, rfl⟩
    obtain ⟨q1, q2, q3, q4, q5⟩ := quote_facts s q hq
    obtain ⟨t, ht⟩ : ∃ t : ByteArray, t = ⟨(encs (runes s 0)).toArray⟩ := ⟨_, rfl⟩
    have htz : t.size ≤ 4 * s.size := by
      have a := runes_len s
      have b := encs_len (runes s 0)
      rw [ht, size_list]; omega
    have HQ : Hid (∀ w, Calls Try.prog 21 #[.string s] w fun e w' => e = .returned (.string q) ∧ Below w.heap.size w w') := by
      show ∀ w, _
      intro w; rw [hq]; exact quote_any s w (by omega)
    have HP : Hid (∀ w, Calls Try.prog 9 #[.string (q.extract 1 (q.size - 1))] w fun e w' => e = .returned (.tuple #[.string t, .bool true]) ∧ Below w.heap.size w w') := by
      show ∀ w, _
      intro w
      have hl := quoteFrom_len s
      have := plain_any (q.extract 1 (q.size - 1)) w (by rw [q5, size_list]; omega)
      rw [q5] at this ⊢
      rw [(plain_quoted s).1, (plain_quoted s).2, ← ht] at this
      exact this
    have HT : Hid (∀ w, Calls Try.prog 21 #[.string t] w fun e w' => e = .returned (.string q) ∧ Below w.heap.size w w') := by
      show ∀ w, _
      intro w
      have := quote_any t w (by omega)
      rw [ht, quote_again s, ← ht, ← hq] at this
      exact this
    have hbq : bad q = -1 := by rw [hq]; exact bad_quote s
    have hts : bad s < 0 → (t.toList == s.toList) = true := by
      intro h
      rw [beq_iff_eq, Lib.toList_data, Lib.toList_data, ht]
      exact back_same s h
    have HTS := Lib.hid hts; clear hts
    have hb0 := bt_eq q 0 (by omega)
    have hb1 := bt_eq q (q.size - 1) (by omega)
    have i1 : 2 ≤ (q.size : Int) := by omega
    have hsl : ∀ w : World, (Instr.slice 9 (.string q) (some (.int .i64 1)) (some (.int .i64 ((q.size : Int) - 1))) none).run Try.prog w = .ok (.string (q.extract 1 (q.size - 1))) w := by
      intro w
      have := run_slice_string (P := Try.prog) (w := w) 9 q .i64 .i64 1 ((q.size : Int) - 1) Try.underlying9 (by omega) (by omega) (by omega)
      rw [show ((q.size : Int) - 1).toNat = q.size - 1 from by omega] at this
      exact this
    clear hq ht q5
    go_enter Try.func4, Try.ntmps4
    go_wp2_with (go_at_call 21; refine (HQ.out _).mono ?_; rintro e w1 ⟨rfl, hb⟩; replace hc := hc.trans (hb.mono hc.size); clear hb; clear HQ)
    by_cases hbad : 0 ≤ bad s
    · go_wp2_with (first
        | (go_at_call 8; refine (told_any _).mono ?_; rintro e w1 ⟨rfl, hb⟩; replace hc := hc.trans (hb.mono hc.size); clear hb)
        | (go_at_call 9; refine (HP.out _).mono ?_; rintro e w1 ⟨rfl, hb⟩; replace hc := hc.trans (hb.mono hc.size); clear hb)
        | (go_at_call 23; refine (bad_any _ _ (by unfold maxLen; omega)).mono ?_; rintro e w1 ⟨rfl, hb⟩; replace hc := hc.trans (hb.mono hc.size); clear hb)
        | (go_at_call 21; refine (HT.out _).mono ?_; rintro e w1 ⟨rfl, hb⟩; replace hc := hc.trans (hb.mono hc.size); clear hb))
      go_ret
      exact ⟨rfl, hc⟩
    · have hts := HTS.out (by omega)
      go_wp2_with (first
        | (go_at_call 8; refine (told_any _).mono ?_; rintro e w1 ⟨rfl, hb⟩; replace hc := hc.trans (hb.mono hc.size); clear hb)
        | (go_at_call 9; refine (HP.out _).mono ?_; rintro e w1 ⟨rfl, hb⟩; replace hc := hc.trans (hb.mono hc.size); clear hb)
        | (go_at_call 23; refine (bad_any _ _ (by unfold maxLen; omega)).mono ?_; rintro e w1 ⟨rfl, hb⟩; replace hc := hc.trans (hb.mono hc.size); clear hb)
        | (go_at_call 21; refine (HT.out _).mono ?_; rintro e w1 ⟨rfl, hb⟩; replace hc := hc.trans (hb.mono hc.size); clear hb))
      go_ret
      exact ⟨rfl, hc⟩
end Go.Proofs.Ythimniopmeihgaa
