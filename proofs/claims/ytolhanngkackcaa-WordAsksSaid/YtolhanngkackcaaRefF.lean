/- Contracts of the document's own answer for quotes. -/
import Derived.Test.YtolhanngkackcaaRefE
set_option linter.unusedSimpArgs false
set_option linter.unusedVariables false
namespace Go.Proofs.Ytolhanngkackcaa
open Go.RowKit

theorem app_list (a b : ByteArray) : (a ++ b).data.toList = a.data.toList ++ b.data.toList := by simp [ByteArray.data_append]
theorem enc_is (r : Nat) (k : Nat) (hk : k < 128) (hr : okRune r) : (Lib.encodeRune (r : Int) == [k.toUInt8]) = decide (r = k) := by
  rw [Bool.eq_iff_iff, beq_iff_eq, decide_eq_true_iff]
  unfold okRune at hr
  constructor
  · intro e
    by_cases h1 : r < 128
    · rw [Lib.encodeRune, Lib.encodeRuneZ_one (by omega) (by omega)] at e
      simp at e
      have := congrArg UInt8.toNat e
      simp at this
      omega
    · exfalso
      have hl : (Lib.encodeRune (r : Int)).length = 1 := by rw [e]; rfl
      by_cases h2 : r < 2048
      · rw [Lib.encodeRune, Lib.encodeRuneZ_two (by omega) (by omega)] at hl; simp at hl
      · by_cases h3 : r < 65536
        · rw [Lib.encodeRune, Lib.encodeRuneZ_three (by omega)] at hl; simp at hl
        · rw [Lib.encodeRune, Lib.encodeRuneZ_four (by omega) (by omega)] at hl; simp at hl
  · rintro rfl
    rw [Lib.encodeRune, Lib.encodeRuneZ_one (by omega) (by omega)]; simp
theorem enc_tests (s : ByteArray) (p : Nat) (c : ByteArray) (hc : c.data.toList = Lib.encodeRune ((Utf8.decode s p).1 : Nat)) :
    (c.toList == [34]) = decide ((Utf8.decode s p).1 = 34) ∧ (c.toList == [92]) = decide ((Utf8.decode s p).1 = 92) ∧ (c.toList == [10]) = decide ((Utf8.decode s p).1 = 10) := by
  rw [Lib.toList_data, hc]
  exact ⟨enc_is _ 34 (by omega) (rune_ok s p), enc_is _ 92 (by omega) (rune_ok s p), enc_is _ 10 (by omega) (rune_ok s p)⟩
theorem ba_size (c : ByteArray) : c.size = c.data.toList.length := by simp
theorem rquote_step (s : ByteArray) (p : Nat) (h : p < s.size) (o c : ByteArray) (hc : c.data.toList = Lib.encodeRune ((Utf8.decode s p).1 : Nat)) (ho : o.data.toList ++ (quoteFrom s p ++ [34]) = quote s) (x : ByteArray)
    (hx : x = if (Utf8.decode s p).1 = 34 ∨ (Utf8.decode s p).1 = 92 then (⟨#[92]⟩ : ByteArray) ++ c else if (Utf8.decode s p).1 = 10 then ⟨#[92, 110]⟩ else c) :
    (o ++ x).data.toList ++ (quoteFrom s (p + (Utf8.decode s p).2) ++ [34]) = quote s := by
  rw [← ho, quoteFrom_step s p h, app_list, hx]
  by_cases h1 : (Utf8.decode s p).1 = 34 ∨ (Utf8.decode s p).1 = 92
  · have h10 : ¬ (Utf8.decode s p).1 = 10 := by omega
    rw [if_pos h1, app_list, hc]
    have hm : mustN (Utf8.decode s p).1 = true := by rcases h1 with e | e <;> rw [e] <;> decide
    have hl : letterN (Utf8.decode s p).1 = (Utf8.decode s p).1 := by rw [letterN, if_neg h10]
    rw [hm, hl]; simp
  · rw [if_neg h1]
    by_cases h2 : (Utf8.decode s p).1 = 10
    · have hm : mustN (Utf8.decode s p).1 = true := by rw [h2]; decide
      have hl : letterN (Utf8.decode s p).1 = 110 := by rw [letterN, if_pos h2]
      have e110 : Lib.encodeRune ((110 : Nat) : Int) = [110] := by decide
      rw [if_pos h2, hm, hl, e110]; simp
    · have hm : mustN (Utf8.decode s p).1 = false := by
        simp only [mustN, Bool.or_eq_false_iff, beq_eq_false_iff_ne]; omega
      have hl : letterN (Utf8.decode s p).1 = (Utf8.decode s p).1 := by rw [letterN, if_neg h2]
      rw [if_neg h2, hm, hl, hc]; simp
set_option maxHeartbeats 1000000 in
theorem rquote_any (s : ByteArray) (w : World) (hs : s.size ≤ 1048576) : Calls Try.prog 14 #[.string s] w fun e w' => e = .returned (.string ⟨(quote s).toArray⟩) ∧ Below w.heap.size w w' := by
  go_enter Try.func14, Try.ntmps14
  go_wp2
  go_loopw [3, 4] (fun v3 v4 wr => ∃ (p : Nat) (o : ByteArray), v4 = .int .i64 p ∧ v3 = .string o ∧ p ≤ s.size ∧ o.size ≤ 1 + 8 * p ∧ o.data.toList ++ (quoteFrom s p ++ [34]) = quote s ∧ Below w.heap.size w wr) (fun v3 v4 wr => s.size - (intOf v4).toNat)
  case atStart => exact ⟨0, ⟨#[34]⟩, rfl, rfl, Nat.zero_le _, by decide, rfl, Below.refl _ _⟩
  case round =>
    obtain ⟨p, o, rfl, rfl, hp, hos, ho, hbw⟩ := hrel
    have hsz := hbw.size
    by_cases hlt : p < s.size
    · have hw := wid_pos s p
      have hwl := wid_le s p hlt
      obtain ⟨c, hcc⟩ : ∃ c : ByteArray, c = ⟨(Lib.encodeRune ((Utf8.decode s p).1 : Nat)).toArray⟩ := ⟨_, rfl⟩
      have hc : c.data.toList = Lib.encodeRune ((Utf8.decode s p).1 : Nat) := by rw [hcc]
      have hP := part_any s p
      rw [← hcc] at hP
      have HP := Lib.hid hP; clear hP hcc
      have hcs : c.size ≤ 4 := by rw [ba_size, hc]; exact (enc_len _).2
      obtain ⟨t1, t2, t3⟩ := enc_tests s p c hc
      have HS := Lib.hid (rquote_step s p hlt o c hc ho)
      clear hc ho
      have z1 : (⟨#[92]⟩ : ByteArray).size = 1 := rfl
      have z2 : (⟨#[92, 110]⟩ : ByteArray).size = 2 := rfl
      have Z1 := Lib.hid z1; clear z1
      have Z2 := Lib.hid z2; clear z2
      by_cases e34 : (Utf8.decode s p).1 = 34
      · rw [decide_eq_true e34] at t1
        have HX : Hid (((⟨#[92]⟩ : ByteArray) ++ c) = if (Utf8.decode s p).1 = 34 ∨ (Utf8.decode s p).1 = 92 then (⟨#[92]⟩ : ByteArray) ++ c else if (Utf8.decode s p).1 = 10 then ⟨#[92, 110]⟩ else c) := by
          show ((⟨#[92]⟩ : ByteArray) ++ c) = _
          rw [if_pos (Or.inl e34)]
        clear t2 t3 e34
        go_wp2_with (go_at_call 19; refine (HP.out _ (by omega) hlt).mono ?_; rintro e w1 ⟨rfl, hb1⟩)
        have hb2 := hbw.trans (hb1.mono hsz)
        go_roundw
        case rel => exact ⟨p + (Utf8.decode s p).2, o ++ ((⟨#[92]⟩ : ByteArray) ++ c), by go_num, rfl, hwl, by rw [ByteArray.size_append, ByteArray.size_append, Z1.out]; omega, HS.out _ HX.out, hb2⟩
        case measure => simp [intOf]; omega
      · by_cases e92 : (Utf8.decode s p).1 = 92
        · rw [decide_eq_false e34] at t1
          rw [decide_eq_true e92] at t2
          have HX : Hid (((⟨#[92]⟩ : ByteArray) ++ c) = if (Utf8.decode s p).1 = 34 ∨ (Utf8.decode s p).1 = 92 then (⟨#[92]⟩ : ByteArray) ++ c else if (Utf8.decode s p).1 = 10 then ⟨#[92, 110]⟩ else c) := by
            show ((⟨#[92]⟩ : ByteArray) ++ c) = _
            rw [if_pos (Or.inr e92)]
          clear t3 e34 e92
          go_wp2_with (go_at_call 19; refine (HP.out _ (by omega) hlt).mono ?_; rintro e w1 ⟨rfl, hb1⟩)
          have hb2 := hbw.trans (hb1.mono hsz)
          go_roundw
          case rel => exact ⟨p + (Utf8.decode s p).2, o ++ ((⟨#[92]⟩ : ByteArray) ++ c), by go_num, rfl, hwl, by rw [ByteArray.size_append, ByteArray.size_append, Z1.out]; omega, HS.out _ HX.out, hb2⟩
          case measure => simp [intOf]; omega
        · by_cases e10 : (Utf8.decode s p).1 = 10
          · rw [decide_eq_false e34] at t1
            rw [decide_eq_false e92] at t2
            rw [decide_eq_true e10] at t3
            have HX : Hid ((⟨#[92, 110]⟩ : ByteArray) = if (Utf8.decode s p).1 = 34 ∨ (Utf8.decode s p).1 = 92 then (⟨#[92]⟩ : ByteArray) ++ c else if (Utf8.decode s p).1 = 10 then ⟨#[92, 110]⟩ else c) := by
              show (⟨#[92, 110]⟩ : ByteArray) = _
              rw [if_neg (by omega), if_pos e10]
            clear e34 e92 e10
            go_wp2_with (go_at_call 19; refine (HP.out _ (by omega) hlt).mono ?_; rintro e w1 ⟨rfl, hb1⟩)
            have hb2 := hbw.trans (hb1.mono hsz)
            go_roundw
            case rel => exact ⟨p + (Utf8.decode s p).2, o ++ (⟨#[92, 110]⟩ : ByteArray), by go_num, rfl, hwl, by rw [ByteArray.size_append, Z2.out]; omega, HS.out _ HX.out, hb2⟩
            case measure => simp [intOf]; omega
          · rw [decide_eq_false e34] at t1
            rw [decide_eq_false e92] at t2
            rw [decide_eq_false e10] at t3
            have HX : Hid (c = if (Utf8.decode s p).1 = 34 ∨ (Utf8.decode s p).1 = 92 then (⟨#[92]⟩ : ByteArray) ++ c else if (Utf8.decode s p).1 = 10 then ⟨#[92, 110]⟩ else c) := by
              show c = _
              rw [if_neg (by omega), if_neg e10]
            clear e34 e92 e10
            go_wp2_with (go_at_call 19; refine (HP.out _ (by omega) hlt).mono ?_; rintro e w1 ⟨rfl, hb1⟩)
            have hb2 := hbw.trans (hb1.mono hsz)
            go_roundw
            case rel => exact ⟨p + (Utf8.decode s p).2, o ++ c, by go_num, rfl, hwl, by rw [ByteArray.size_append]; omega, HS.out _ HX.out, hb2⟩
            case measure => simp [intOf]; omega
    · have hq : o.data.toList ++ [34] = quote s := by have := ho; rw [quoteFrom_end s p hlt] at this; exact this
      have HQ : Hid (o ++ ⟨#[34]⟩ = ⟨(quote s).toArray⟩) := by
        show o ++ ⟨#[34]⟩ = ⟨(quote s).toArray⟩
        exact ba_of _ _ (by rw [app_list]; exact hq)
      clear hq ho
      go_wp2
      go_ret
      exact ⟨by rw [← HQ.out]; rfl, hbw⟩
end Go.Proofs.Ytolhanngkackcaa
