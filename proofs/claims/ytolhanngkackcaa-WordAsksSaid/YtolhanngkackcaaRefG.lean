/- Contract of the document's own answer for what stands in quotes. -/
import Derived.Test.YtolhanngkackcaaRefF
set_option linter.unusedSimpArgs false
set_option linter.unusedVariables false
namespace Go.Proofs.Ytolhanngkackcaa
open Go.RowKit

theorem plain_none (s : ByteArray) (ho : (plainL false (runes s 0)).map encs = none) : plainText s = [] ∧ plainOk s = false := by
  by_cases h : 0 ≤ bad s
  · exact plain_bad s h
  · exact plain_of s (by omega) none ho
/-- A rune as itself. -/
theorem rp_self (s : ByteArray) (p : Nat) (o : ByteArray) (h : p < s.size) (hB : badAt s p = false) (h34 : ¬ (Utf8.decode s p).1 = 34) (h10 : ¬ (Utf8.decode s p).1 = 10) (h92 : ¬ (Utf8.decode s p).1 = 92)
    (R : Reads s p false o.data.toList) : Reads s (p + (Utf8.decode s p).2) false (o ++ s.extract p (p + (Utf8.decode s p).2)).data.toList := by
  have hm : means ((Utf8.decode s p).1 : Nat) false = true := by
    have : must ((Utf8.decode s p).1 : Nat) = false := by
      rw [must_cast]; simp only [mustN, Bool.or_eq_false_iff, beq_eq_false_iff_ne]; omega
    simp [means, this]
  have := reads_next s p false _ h hm R
  have e : meant ((Utf8.decode s p).1 : Nat) false = ((Utf8.decode s p).1 : Nat) := by simp [meant, hm]
  rw [e, enc_ok s p h hB] at this
  rw [app_list, extract_sub, show p + (Utf8.decode s p).2 - p = (Utf8.decode s p).2 from by omega]
  exact this
theorem rp_none (s : ByteArray) (p : Nat) (o : ByteArray) (h : p < s.size) (hr : (Utf8.decode s p).1 = 34 ∨ (Utf8.decode s p).1 = 10) (R : Reads s p false o.data.toList) : plainText s = [] ∧ plainOk s = false := by
  apply plain_none
  apply reads_none s p false _ h _ _ R
  · have : must ((Utf8.decode s p).1 : Nat) = true := by
      rw [must_cast]; rcases hr with e | e <;> rw [e] <;> decide
    simp [means, this]
  · omega
theorem rp_cut (s : ByteArray) (p : Nat) (o : ByteArray) (h : p < s.size) (hr : (Utf8.decode s p).1 = 92) (hn : ¬ p + 1 < s.size) (R : Reads s p false o.data.toList) : plainText s = [] ∧ plainOk s = false := by
  have h1 := low_iff s p (by omega)
  have := reads_esc s p _ h (by omega) R
  rw [h1.2] at this
  exact plain_none s (reads_end s (p + 1) true _ hn this)
theorem rp_sign (s : ByteArray) (p : Nat) (o : ByteArray) (h : p < s.size) (hr : (Utf8.decode s p).1 = 92) (hn : p + 1 < s.size) (hb : bt s (p + 1) = 34 ∨ bt s (p + 1) = 92) (R : Reads s p false o.data.toList) :
    Reads s (p + 2) false (o ++ s.extract (p + 1) (p + 2)).data.toList := by
  have h1 := low_iff s p (by omega)
  have R1 := reads_esc s p _ h (by omega) R
  rw [h1.2] at R1
  have d := low_of s (p + 1) (by omega)
  have hm : means ((Utf8.decode s (p + 1)).1 : Nat) true = true := by
    rw [d]; rcases hb with e | e <;> rw [e] <;> decide
  have R2 := reads_next s (p + 1) true _ hn hm R1
  have e : meant ((Utf8.decode s (p + 1)).1 : Nat) true = ((Utf8.decode s (p + 1)).1 : Nat) := by
    rw [meant_nat _ _ hm, if_neg]
    rw [d]; rcases hb with e | e <;> rw [e] <;> decide
  rw [e, enc_ok s (p + 1) hn (badAt_low s (p + 1) (by omega)), d] at R2
  rw [app_list, extract_sub, show p + 2 - (p + 1) = 1 from by omega]
  exact R2
theorem rp_n (s : ByteArray) (p : Nat) (o : ByteArray) (h : p < s.size) (hr : (Utf8.decode s p).1 = 92) (hn : p + 1 < s.size) (hb : bt s (p + 1) = 110) (R : Reads s p false o.data.toList) :
    Reads s (p + 2) false (o ++ ⟨#[10]⟩).data.toList := by
  have h1 := low_iff s p (by omega)
  have R1 := reads_esc s p _ h (by omega) R
  rw [h1.2] at R1
  have d := low_of s (p + 1) (by omega)
  have hm : means ((Utf8.decode s (p + 1)).1 : Nat) true = true := by rw [d, hb]; decide
  have R2 := reads_next s (p + 1) true _ hn hm R1
  have e : meant ((Utf8.decode s (p + 1)).1 : Nat) true = ((10 : Nat) : Int) := by
    rw [meant_nat _ _ hm, if_pos]
    rw [d, hb]; decide
  have e10 : Lib.encodeRune ((10 : Nat) : Int) = [10] := by decide
  rw [e, e10, d] at R2
  rw [app_list]
  exact R2
theorem rp_other (s : ByteArray) (p : Nat) (o : ByteArray) (h : p < s.size) (hr : (Utf8.decode s p).1 = 92) (hn : p + 1 < s.size) (h34 : ¬ bt s (p + 1) = 34) (h92 : ¬ bt s (p + 1) = 92) (h110 : ¬ bt s (p + 1) = 110) (R : Reads s p false o.data.toList) :
    plainText s = [] ∧ plainOk s = false := by
  have h1 := low_iff s p (by omega)
  have R1 := reads_esc s p _ h (by omega) R
  rw [h1.2] at R1
  apply plain_none
  apply reads_none s (p + 1) true _ hn _ (by simp) R1
  have g : ∀ k, k < 128 → ¬ bt s (p + 1) = k → ((((Utf8.decode s (p + 1)).1 : Nat) : Int) == (k : Int)) = false := by
    intro k hk hne
    rw [beq_eq_false_iff_ne]
    intro e
    have := low_iff s (p + 1) (by omega)
    omega
  have a := g 110 (by omega) h110
  have b := g 34 (by omega) h34
  have c := g 92 (by omega) h92
  simp only [means, if_true, Bool.or_eq_false_iff]
  exact ⟨a, b, c⟩
/-- No sign is bad that is read so. -/
theorem rp_bad2 (s : ByteArray) (p : Nat) (h : p < s.size) (hr : (Utf8.decode s p).1 = 92) (hn : p + 1 < s.size) (hb : bt s (p + 1) < 128) (hB : badFrom s p = bad s) : badFrom s (p + 2) = bad s := by
  have h1 := low_iff s p (by omega)
  have d := low_of s (p + 1) hb
  have a := badFrom_step s p h (badAt_low s p (by omega))
  have b := badFrom_step s (p + 1) hn (badAt_low s (p + 1) hb)
  rw [h1.2] at a
  rw [d] at b
  rw [← hB, a, b]
  rfl
theorem rp_end (s : ByteArray) (p : Nat) (o : ByteArray) (h : ¬ p < s.size) (hB : badFrom s p = bad s) (R : Reads s p false o.data.toList) : plainText s = o.data.toList ∧ plainOk s = true := by
  have e := reads_end s p false _ h R
  have hb : bad s < 0 := by rw [← hB, badFrom_end s p h]; omega
  have := plain_of s hb _ e
  simpa using this
theorem ret_sb' (a b : ByteArray) (x y : Bool) (h1 : a = b) (h2 : x = y) : Ending.returned (.tuple #[.string a, .bool x]) = .returned (.tuple #[.string b, .bool y]) := by rw [h1, h2]
set_option maxRecDepth 100000 in
set_option maxHeartbeats 4000000 in
theorem rplain_any (s : ByteArray) (w : World) (hs : s.size ≤ 16777216) : Calls Try.prog 26 #[.string s] w fun e w' => e = .returned (.tuple #[.string ⟨(plainText s).toArray⟩, .bool (plainOk s)]) ∧ Below w.heap.size w w' := by
  go_enter Try.func26, Try.ntmps26
  go_wp2
  go_loopw [4, 5] (fun v4 v5 wr => ∃ (p : Nat) (o : ByteArray), v5 = .int .i64 p ∧ v4 = .string o ∧ p ≤ s.size ∧ o.size ≤ p ∧ Reads s p false o.data.toList ∧ badFrom s p = bad s ∧ Below w.heap.size w wr) (fun v4 v5 wr => s.size - (intOf v5).toNat)
  case atStart => exact ⟨0, ⟨#[]⟩, rfl, rfl, Nat.zero_le _, Nat.le_refl _, reads_start s, rfl, Below.refl _ _⟩
  case round =>
    obtain ⟨p, o, rfl, rfl, hp, hos, hR, hB, hbw⟩ := hrel
    have hsz := hbw.size
    have HR := Lib.hid hR; clear hR
    have HB := Lib.hid hB; clear hB
    by_cases hlt : p < s.size
    · have hw := wid_pos s p
      have hwl := wid_le s p hlt
      have fin : ∀ w1 : World, Below wr.heap.size wr w1 → Below w.heap.size w (w1.alloc (.cells #[.int .i32 ((Utf8.decode s p).1 : Nat), .int .i64 ((Utf8.decode s p).2 : Nat), .bool (badAt s p)] 45)) :=
        fun w1 hb1 => (hbw.trans (hb1.mono hsz)).alloc (Nat.le_trans hsz hb1.size) _
      have FIN := Lib.hid fin; clear fin
      cases hbad : badAt s p
      · rw [hbad] at FIN
        by_cases e34 : (Utf8.decode s p).1 = 34 ∨ (Utf8.decode s p).1 = 10
        · have HN := Lib.hid (rp_none s p o hlt e34 HR.out)
          rcases e34 with e34 | e34
          · have b1 : ((((Utf8.decode s p).1 : Nat) : Int) == 34) = true := by rw [beq_iff_eq]; omega
            clear e34
            go_wp2_with (go_at_call 18; refine (one_any s p _ hs hlt).mono ?_; rintro e w1 ⟨rfl, hb1⟩)
            go_ret2
            exact ⟨ret_sb' _ _ _ _ (by rw [HN.out.1] <;> rfl) (by rw [HN.out.2] <;> rfl), FIN.out w1 hb1⟩
          · have b1 : ((((Utf8.decode s p).1 : Nat) : Int) == 34) = false := by rw [beq_eq_false_iff_ne]; omega
            have b2 : ((((Utf8.decode s p).1 : Nat) : Int) == 10) = true := by rw [beq_iff_eq]; omega
            clear e34
            go_wp2_with (go_at_call 18; refine (one_any s p _ hs hlt).mono ?_; rintro e w1 ⟨rfl, hb1⟩)
            go_ret2
            exact ⟨ret_sb' _ _ _ _ (by rw [HN.out.1] <;> rfl) (by rw [HN.out.2] <;> rfl), FIN.out w1 hb1⟩
        · have b1 : ((((Utf8.decode s p).1 : Nat) : Int) == 34) = false := by rw [beq_eq_false_iff_ne]; omega
          have b2 : ((((Utf8.decode s p).1 : Nat) : Int) == 10) = false := by rw [beq_eq_false_iff_ne]; omega
          by_cases e92 : (Utf8.decode s p).1 = 92
          · have b3 : ((((Utf8.decode s p).1 : Nat) : Int) != 92) = false := by rw [bne_eq_false_iff_eq]; omega
            by_cases hn : p + 1 < s.size
            · have hbt := bt_eq s (p + 1) hn
              have hb256 := bt_lt s (p + 1)
              have hn' : (p : Int) + 1 < s.size := by omega
              have hn2 : (p : Int) + 2 ≤ s.size := by omega
              have hn3 : ((p : Int) + 1).toNat = p + 1 := by omega
              have hn4 : ((p : Int) + 2).toNat = p + 2 := by omega
              have hn5 : (p : Int) + 1 ≤ (p : Int) + 2 := by omega
              have hn6 : 0 ≤ (p : Int) + 1 := by omega
              have hn7 : 0 ≤ (p : Int) + 2 := by omega
              by_cases c110 : bt s (p + 1) = 110
              · have HR2 := Lib.hid (rp_n s p o hlt e92 hn c110 HR.out)
                have HB2 := Lib.hid (rp_bad2 s p hlt e92 hn (by omega) HB.out)
                have c1 : (((bt s (p + 1) : Nat) : Int) == 34) = false := by rw [beq_eq_false_iff_ne]; omega
                have c2 : (((bt s (p + 1) : Nat) : Int) == 92) = false := by rw [beq_eq_false_iff_ne]; omega
                have c3 : (((bt s (p + 1) : Nat) : Int) == 110) = true := by rw [beq_iff_eq]; omega
                have z1 : (⟨#[10]⟩ : ByteArray).size = 1 := rfl
                have Z1 := Lib.hid z1; clear z1
                clear e92 c110 e34
                go_wp2_with (go_at_call 18; refine (one_any s p _ hs hlt).mono ?_; rintro e w1 ⟨rfl, hb1⟩)
                have fin := FIN.out w1 hb1
                go_roundw
                case rel => exact ⟨p + 2, o ++ ⟨#[10]⟩, by go_num, rfl, by omega, by rw [ByteArray.size_append, Z1.out]; omega, HR2.out, HB2.out, fin⟩
                case measure => simp [intOf]; omega
              · by_cases c34 : bt s (p + 1) = 34
                · have HR2 := Lib.hid (rp_sign s p o hlt e92 hn (Or.inl c34) HR.out)
                  have HB2 := Lib.hid (rp_bad2 s p hlt e92 hn (by omega) HB.out)
                  have c1 : (((bt s (p + 1) : Nat) : Int) == 34) = true := by rw [beq_iff_eq]; omega
                  clear e92 c110 c34 e34
                  go_wp2_with (go_at_call 18; refine (one_any s p _ hs hlt).mono ?_; rintro e w1 ⟨rfl, hb1⟩)
                  have fin := FIN.out w1 hb1
                  go_roundw
                  case rel => exact ⟨p + 2, o ++ s.extract (p + 1) (p + 2), by go_num, rfl, by omega, by rw [ByteArray.size_append, ByteArray.size_extract]; omega, HR2.out, HB2.out, fin⟩
                  case measure => simp [intOf]; omega
                · by_cases c92 : bt s (p + 1) = 92
                  · have HR2 := Lib.hid (rp_sign s p o hlt e92 hn (Or.inr c92) HR.out)
                    have HB2 := Lib.hid (rp_bad2 s p hlt e92 hn (by omega) HB.out)
                    have c1 : (((bt s (p + 1) : Nat) : Int) == 34) = false := by rw [beq_eq_false_iff_ne]; omega
                    have c2 : (((bt s (p + 1) : Nat) : Int) == 92) = true := by rw [beq_iff_eq]; omega
                    clear e92 c110 c34 c92 e34
                    go_wp2_with (go_at_call 18; refine (one_any s p _ hs hlt).mono ?_; rintro e w1 ⟨rfl, hb1⟩)
                    have fin := FIN.out w1 hb1
                    go_roundw
                    case rel => exact ⟨p + 2, o ++ s.extract (p + 1) (p + 2), by go_num, rfl, by omega, by rw [ByteArray.size_append, ByteArray.size_extract]; omega, HR2.out, HB2.out, fin⟩
                    case measure => simp [intOf]; omega
                  · have HN := Lib.hid (rp_other s p o hlt e92 hn c34 c92 c110 HR.out)
                    have c1 : (((bt s (p + 1) : Nat) : Int) == 34) = false := by rw [beq_eq_false_iff_ne]; omega
                    have c2 : (((bt s (p + 1) : Nat) : Int) == 92) = false := by rw [beq_eq_false_iff_ne]; omega
                    have c3 : (((bt s (p + 1) : Nat) : Int) == 110) = false := by rw [beq_eq_false_iff_ne]; omega
                    clear e92 c110 c34 c92 e34
                    go_wp2_with (go_at_call 18; refine (one_any s p _ hs hlt).mono ?_; rintro e w1 ⟨rfl, hb1⟩)
                    go_ret2
                    exact ⟨ret_sb' _ _ _ _ (by rw [HN.out.1] <;> rfl) (by rw [HN.out.2] <;> rfl), FIN.out w1 hb1⟩
            · have HN := Lib.hid (rp_cut s p o hlt e92 hn HR.out)
              have hn' : (s.size : Int) ≤ (p : Int) + 1 := by omega
              clear e92 e34
              go_wp2_with (go_at_call 18; refine (one_any s p _ hs hlt).mono ?_; rintro e w1 ⟨rfl, hb1⟩)
              go_ret2
              exact ⟨ret_sb' _ _ _ _ (by rw [HN.out.1] <;> rfl) (by rw [HN.out.2] <;> rfl), FIN.out w1 hb1⟩
          · have b3 : ((((Utf8.decode s p).1 : Nat) : Int) != 92) = true := by rw [bne_iff_ne]; omega
            have HR2 := Lib.hid (rp_self s p o hlt hbad (by omega) (by omega) e92 HR.out)
            have h2 : 0 ≤ (p : Int) + ((Utf8.decode s p).2 : Nat) := by omega
            have h3 : ((p : Int) + ((Utf8.decode s p).2 : Nat)).toNat = p + (Utf8.decode s p).2 := by omega
            have h4 : (p : Int) + ((Utf8.decode s p).2 : Nat) ≤ s.size := by omega
            have h5 : (p : Int) ≤ (p : Int) + ((Utf8.decode s p).2 : Nat) := by omega
            have HB2 := Lib.hid ((badFrom_step s p hlt hbad).symm.trans HB.out)
            clear e92 e34
            go_wp2_with (go_at_call 18; refine (one_any s p _ hs hlt).mono ?_; rintro e w1 ⟨rfl, hb1⟩)
            have fin := FIN.out w1 hb1
            go_roundw
            case rel => exact ⟨p + (Utf8.decode s p).2, o ++ s.extract p (p + (Utf8.decode s p).2), by go_num, rfl, hwl, by rw [ByteArray.size_append, ByteArray.size_extract]; omega, HR2.out, HB2.out, fin⟩
            case measure => simp [intOf]; omega
      · rw [hbad] at FIN
        have HN := Lib.hid (plain_bad s (by rw [← HB.out, badFrom_at s p hlt hbad]; omega))
        go_wp2_with (go_at_call 18; refine (one_any s p _ hs hlt).mono ?_; rintro e w1 ⟨rfl, hb1⟩)
        go_ret2
        exact ⟨ret_sb' _ _ _ _ (by rw [HN.out.1] <;> rfl) (by rw [HN.out.2] <;> rfl), FIN.out w1 hb1⟩
    · have HN := Lib.hid (rp_end s p o hlt HB.out HR.out)
      go_wp2
      go_ret2
      exact ⟨ret_sb' _ _ _ _ (by rw [HN.out.1] <;> rfl) (by rw [HN.out.2] <;> rfl), hbw⟩
end Go.Proofs.Ytolhanngkackcaa
