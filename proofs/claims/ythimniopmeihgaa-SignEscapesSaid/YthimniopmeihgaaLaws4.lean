/- Statements of layer 1 as walks: each rune in a quote. -/
import Derived.Test.YthimniopmeihgaaLaws3
import Derived.OpenShut
set_option linter.unusedSimpArgs false
set_option linter.unusedVariables false
namespace Go.Proofs.Ythimniopmeihgaa
open Go.RowKit

theorem encode_list (r : Int) : ∃ v : Nat, okRune v ∧ (((v : Nat) : Int) = r ∨ (v = 65533 ∧ ¬ (0 ≤ r ∧ r < 128))) ∧ (Utf8.encode r).data.toList = Lib.encodeRune (v : Int) := by
  have key : ∀ c : Nat, okRune c → (if c < 0x80 then (⟨#[UInt8.ofNat c]⟩ : ByteArray) else if c < 0x800 then ⟨#[UInt8.ofNat (0xC0 + c / 64), UInt8.ofNat (0x80 + c % 64)]⟩ else if c < 0x10000 then ⟨#[UInt8.ofNat (0xE0 + c / 4096), UInt8.ofNat (0x80 + c / 64 % 64), UInt8.ofNat (0x80 + c % 64)]⟩ else ⟨#[UInt8.ofNat (0xF0 + c / 262144), UInt8.ofNat (0x80 + c / 4096 % 64), UInt8.ofNat (0x80 + c / 64 % 64), UInt8.ofNat (0x80 + c % 64)]⟩).data.toList = Lib.encodeRune (c : Int) := by
    intro c hc
    unfold okRune at hc
    have u : ∀ (x : Int) (n : Nat), x = (n : Int) → x.toNat.toUInt8 = UInt8.ofNat n := by
      intro x n h; subst h; rfl
    by_cases h1 : c < 128
    · rw [if_pos h1, Lib.encodeRune, Lib.encodeRuneZ_one (by omega) (by omega)]
      simp only [List.map_cons, List.map_nil]
      rw [u _ c rfl]
    · rw [if_neg h1]
      by_cases h2 : c < 2048
      · rw [if_pos h2, Lib.encodeRune, Lib.encodeRuneZ_two (by omega) (by omega)]
        simp only [List.map_cons, List.map_nil]
        rw [u _ (0xC0 + c / 64) (by omega), u _ (0x80 + c % 64) (by omega)]
      · rw [if_neg h2]
        by_cases h3 : c < 65536
        · rw [if_pos h3, Lib.encodeRune, Lib.encodeRuneZ_three (by omega)]
          simp only [List.map_cons, List.map_nil]
          rw [u _ (0xE0 + c / 4096) (by omega), u _ (0x80 + c / 64 % 64) (by omega), u _ (0x80 + c % 64) (by omega)]
        · rw [if_neg h3, Lib.encodeRune, Lib.encodeRuneZ_four (by omega) (by omega)]
          simp only [List.map_cons, List.map_nil]
          rw [u _ (0xF0 + c / 262144) (by omega), u _ (0x80 + c / 4096 % 64) (by omega), u _ (0x80 + c / 64 % 64) (by omega), u _ (0x80 + c % 64) (by omega)]
  unfold Utf8.encode
  by_cases hv : Utf8.valid r = true
  · have hv2 : (0 ≤ r ∧ r < 55296) ∨ (57344 ≤ r ∧ r ≤ 1114111) := by
      simp only [Utf8.valid, Bool.and_eq_true, Bool.or_eq_true, decide_eq_true_eq] at hv; omega
    refine ⟨r.toNat, ?_, .inl (by omega), ?_⟩
    · unfold okRune; omega
    · rw [if_pos hv]; exact key _ (by unfold okRune; omega)
  · have hv2 : ¬ ((0 ≤ r ∧ r < 55296) ∨ (57344 ≤ r ∧ r ≤ 1114111)) := by
      intro h; apply hv
      simp only [Utf8.valid, Bool.and_eq_true, Bool.or_eq_true, decide_eq_true_eq]; omega
    refine ⟨65533, ?_, .inr ⟨rfl, by omega⟩, ?_⟩
    · unfold okRune; omega
    · rw [if_neg hv]; exact key 65533 (by unfold okRune; omega)
theorem enc_head (v : Nat) (hv : okRune v) (h92 : ¬ v = 92) : ∃ b l, Lib.encodeRune (v : Int) = b :: l ∧ ¬ b.toNat = 92 := by
  unfold okRune at hv
  have nn : ∀ n : Nat, 128 ≤ n → n < 256 → ¬ (((n : Int)).toNat.toUInt8).toNat = 92 := by
    intro n h1 h2; simp; omega
  by_cases h1 : v < 128
  · rw [Lib.encodeRune, Lib.encodeRuneZ_one (by omega) (by omega)]
    refine ⟨_, _, rfl, ?_⟩
    simp; omega
  · by_cases h2 : v < 2048
    · rw [Lib.encodeRune, Lib.encodeRuneZ_two (by omega) (by omega)]
      refine ⟨_, _, rfl, ?_⟩
      have := nn (192 + v / 64) (by omega) (by omega)
      rw [show (192 + (v : Int) / 64) = ((192 + v / 64 : Nat) : Int) from by omega]; exact this
    · by_cases h3 : v < 65536
      · rw [Lib.encodeRune, Lib.encodeRuneZ_three (by omega)]
        refine ⟨_, _, rfl, ?_⟩
        have := nn (224 + v / 4096) (by omega) (by omega)
        rw [show (224 + (v : Int) / 4096) = ((224 + v / 4096 : Nat) : Int) from by omega]; exact this
      · rw [Lib.encodeRune, Lib.encodeRuneZ_four (by omega) (by omega)]
        refine ⟨_, _, rfl, ?_⟩
        have := nn (240 + v / 262144) (by omega) (by omega)
        rw [show (240 + (v : Int) / 262144) = ((240 + v / 262144 : Nat) : Int) from by omega]; exact this
/-- A text of one rune: its quote. -/
theorem one_rune (r : Int) (s q : ByteArray) (hs : s = Utf8.encode r) (hq : q = ⟨(quote s).toArray⟩) :
    s.size ≤ 4 ∧ encs (runes s 0) = s.data.toList ∧ bad s = -1 ∧ 3 ≤ q.size ∧ ((((bt q 1 : Nat) : Int) == 92) = (r == 34 || (r == 92 || r == 10))) := by
  obtain ⟨v, hv, hr, e⟩ := encode_list r
  have e0 : s = ⟨(encs [v]).toArray⟩ := by
    rw [hs]; apply ba_of; rw [e, encs_cons, encs_nil, List.append_nil]
  have h := runes_of_encs [v] (by intro x hx; simp at hx; subst hx; exact hv)
  rw [← e0] at h
  have hl := enc_len (v : Int)
  have hqs : q = ⟨([34] ++ (encs (qr v) ++ [34])).toArray⟩ := by
    rw [hq, quote, quoteFrom, h.1]; simp
  refine ⟨?_, ?_, h.2, ?_, ?_⟩
  · rw [e0, size_list, encs_cons, encs_nil, List.append_nil]; exact hl.2
  · rw [h.1, e0]
  · rw [hqs, size_list, qr]
    split
    · simp only [encs_cons, encs_nil, List.length_append, List.length_cons, List.length_nil]
      have := enc_len (92 : Nat)
      omega
    · simp only [encs_cons, encs_nil, List.length_append, List.length_cons, List.length_nil]
      omega
  · have hm : mustN v = (r == 34 || (r == 92 || r == 10)) := by
      rcases hr with hr | ⟨hr, hn⟩
      · rw [← must_cast, hr]; rfl
      · subst hr
        have a : (r == 34) = false := by rw [beq_eq_false_iff_ne]; omega
        have b : (r == 92) = false := by rw [beq_eq_false_iff_ne]; omega
        have c : (r == 10) = false := by rw [beq_eq_false_iff_ne]; omega
        rw [a, b, c]; decide
    rw [← hm]
    cases hmv : mustN v
    · have h92 : ¬ v = 92 := by intro e; subst e; revert hmv; decide
      obtain ⟨b, l, eb, nb⟩ := enc_head v hv h92
      have : bt q 1 = b.toNat := by
        rw [hqs, qr, hmv]
        apply get_list
        simp [encs_cons, encs_nil, eb]
      rw [this, beq_eq_false_iff_ne]; omega
    · have : bt q 1 = 92 := by
        rw [hqs, qr, hmv]
        have e92 : Lib.encodeRune ((92 : Nat) : Int) = [92] := by decide
        apply get_list _ 1 92
        simp [encs_cons, encs_nil]
        rw [show Lib.encodeRune 92 = [92] from e92]; rfl
      rw [this]; rfl
set_option maxRecDepth 100000 in
set_option maxHeartbeats 4000000 in
theorem lawSignEscapes (r : Int) (hr : (Lit.int .i32 r).wf = true) (w : World) : Calls Try.prog 7 #[.int .i32 r] w fun e w' => e = .returned (.bool true) ∧ Below w.heap.size w w' := by
  have hc : Below w.heap.size w w := Below.refl _ _
  obtain ⟨s, hs⟩ : ∃ s : ByteArray, s = Utf8.encode r := ⟨_, rfl⟩
  obtain ⟨q, hq⟩ : ∃ q : ByteArray, q = ⟨(quote s).toArray⟩ := ⟨_, rfl⟩
  obtain ⟨q1, q2, q3, q4, q5⟩ := quote_facts s q hq
  obtain ⟨o1, o2, o3, o4, o5⟩ := one_rune r s q hs hq
  have HQ : Hid (∀ w, Calls Try.prog 21 #[.string s] w fun e w' => e = .returned (.string q) ∧ Below w.heap.size w w') := by
    show ∀ w, _
    intro w; rw [hq]; exact quote_any s w (by omega)
  have HP : Hid (∀ w, Calls Try.prog 9 #[.string (q.extract 1 (q.size - 1))] w fun e w' => e = .returned (.tuple #[.string s, .bool true]) ∧ Below w.heap.size w w') := by
    show ∀ w, _
    intro w
    have hl := quoteFrom_len s
    have := plain_any (q.extract 1 (q.size - 1)) w (by rw [q5, size_list]; omega)
    rw [q5] at this ⊢
    rw [(plain_quoted s).1, (plain_quoted s).2, o2] at this
    exact this
  have hb1 := bt_eq q 1 (by omega)
  have i1 : 3 ≤ (q.size : Int) := by omega
  have i5 : (1 : Int) < (q.size : Int) := by omega
  have hsl : ∀ w : World, (Instr.slice 9 (.string q) (some (.int .i64 1)) (some (.int .i64 ((q.size : Int) - 1))) none).run Try.prog w = .ok (.string (q.extract 1 (q.size - 1))) w := by
    intro w
    have := run_slice_string (P := Try.prog) (w := w) 9 q .i64 .i64 1 ((q.size : Int) - 1) Try.underlying9 (by omega) (by omega) (by omega)
    rw [show ((q.size : Int) - 1).toNat = q.size - 1 from by omega] at this
    exact this
  have hE : Utf8.encode r = s := hs.symm
  clear hq hs q5 o2 hr q3 q4
  go_enter Try.func7, Try.ntmps7
  cases t1 : r == 34
  all_goals cases t2 : r == 92
  all_goals cases t3 : r == 10
  all_goals rw [t1, t2, t3] at o5
  all_goals simp only [Bool.or_false, Bool.false_or, Bool.or_true, Bool.true_or] at o5
  all_goals go_wp2_with (first
    | (go_at_call 21; refine (HQ.out _).mono ?_; rintro e w1 ⟨rfl, hb⟩; replace hc := hc.trans (hb.mono hc.size); clear hb)
    | (go_at_call 8; refine (told_any _).mono ?_; rintro e w1 ⟨rfl, hb⟩; replace hc := hc.trans (hb.mono hc.size); clear hb)
    | (go_at_call 9; refine (HP.out _).mono ?_; rintro e w1 ⟨rfl, hb⟩; replace hc := hc.trans (hb.mono hc.size); clear hb)
    | (go_at_call 24; refine (rbad_any _ _ (by omega)).mono ?_; rintro e w1 ⟨rfl, hb⟩; replace hc := hc.trans (hb.mono hc.size); clear hb))
  all_goals (go_ret; exact ⟨rfl, hc⟩)
end Go.Proofs.Ythimniopmeihgaa
