/- Contracts of the document's own answers for words: letters, texts. -/
import Derived.Test.YtolhanngkackcaaRefG
import Derived.Test.YtolhanngkackcaaWordI
import Derived.Test.YtolhanngkackcaaWordE
set_option linter.unusedSimpArgs false
set_option linter.unusedVariables false
namespace Go.Proofs.Ytolhanngkackcaa
open Go.RowKit

theorem rletter_any (b : Nat) (hb : b < 256) (w : World) : Calls Try.prog 24 #[.int .u8 (b : Nat)] w fun e w' => e = .returned (.bool (alnum (b : Nat))) ∧ w = w' := by
  have e : alnum (b : Int) = (small b || (big b || digit b)) := rfl
  rw [e]; clear e
  have hb' : (b : Int) < 256 := by omega
  go_enter Try.func24, Try.ntmps24
  cases h1 : small b
  · cases h2 : big b
    all_goals
      go_wp2_with (first | (go_at_call 37; refine (rsmall_any _ _).mono ?_; rintro e w' ⟨rfl, rfl⟩) | (go_at_call 38; refine (rbig_any _ _).mono ?_; rintro e w' ⟨rfl, rfl⟩) | (go_at_call 23; refine (rdigit_any _ _).mono ?_; rintro e w' ⟨rfl, rfl⟩))
      go_ret
      exact ⟨by simp, rfl⟩
  · go_wp2_with (first | (go_at_call 37; refine (rsmall_any _ _).mono ?_; rintro e w' ⟨rfl, rfl⟩) | (go_at_call 38; refine (rbig_any _ _).mono ?_; rintro e w' ⟨rfl, rfl⟩) | (go_at_call 23; refine (rdigit_any _ _).mono ?_; rintro e w' ⟨rfl, rfl⟩))
    go_ret
    exact ⟨by simp, rfl⟩

def rtextL (l : List UInt8) : Nat := if 0 < textLen l ∧ plainOk (inner l (textLen l)) = true then textLen l else 0
theorem rtext_zero (l : List UInt8) (h : textLen l = 0) : rtextL l = 0 := by unfold rtextL; rw [if_neg (by omega)]
theorem tl_step (s : ByteArray) (k n : Nat) (h : k < s.size) (h1 : bt s k ≠ 10) (h2 : bt s k ≠ 92) (h3 : bt s k ≠ 34) : tlenL false (s.data.toList.drop k) n = tlenL false (s.data.toList.drop (k + 1)) (n + 1) := by
  obtain ⟨b, hx, hn, _⟩ := dropc s k h
  rw [hx, tlenL, if_neg (by omega), if_neg (by simp), if_neg (by omega), if_neg (by omega)]
theorem tl_back (s : ByteArray) (k n : Nat) (h : k < s.size) (h2 : bt s k = 92) : tlenL false (s.data.toList.drop k) n = tlenL true (s.data.toList.drop (k + 1)) (n + 1) := by
  obtain ⟨b, hx, hn, _⟩ := dropc s k h
  rw [hx, tlenL, if_neg (by omega), if_neg (by simp), if_pos (by omega)]
theorem tl_esc (s : ByteArray) (k n : Nat) (h : k < s.size) (h1 : bt s k ≠ 10) : tlenL true (s.data.toList.drop k) n = tlenL false (s.data.toList.drop (k + 1)) (n + 1) := by
  obtain ⟨b, hx, hn, _⟩ := dropc s k h
  rw [hx, tlenL, if_neg (by omega), if_pos rfl]
theorem tl_quote (s : ByteArray) (k n : Nat) (h : k < s.size) (h1 : bt s k = 34) : tlenL false (s.data.toList.drop k) n = n + 1 := by
  obtain ⟨b, hx, hn, _⟩ := dropc s k h
  rw [hx, tlenL, if_neg (by omega), if_neg (by simp), if_neg (by omega), if_pos (by omega)]
theorem text_at (s : ByteArray) (p : Nat) (h : p < s.size) (hb : bt s p = 34) : textLen (s.data.toList.drop p) = tlenL false (s.data.toList.drop (p + 1)) 1 := by
  obtain ⟨b, hx, hn, _⟩ := dropc s p h
  rw [hx, textLen, if_pos (by omega)]
theorem inner_at (s : ByteArray) (p k : Nat) (h : p < k) (hk : k < s.size) : s.extract (p + 1) k = inner (s.data.toList.drop p) (k - p + 1) := by
  apply ba_is
  rw [extract_list, show k - p + 1 - 1 = k - p from by omega, List.drop_take, List.drop_drop, show k - p - 1 = k - (p + 1) from by omega]
set_option maxRecDepth 100000 in
set_option maxHeartbeats 4000000 in
theorem rtext_any (s : ByteArray) (p : Nat) (w : World) (hs : s.size ≤ 1048576) (hp : p < s.size) (h34 : bt s p = 34) : Calls Try.prog 25 #[.string s, .int .i64 (p : Nat)] w fun e w' => e = .returned (.int .i64 (rtextL (s.data.toList.drop p) : Nat)) ∧ Below w.heap.size w w' := by
  obtain ⟨n, hn⟩ : ∃ n, n = textLen (s.data.toList.drop p) := ⟨_, rfl⟩
  have HN := Lib.hid (hn.trans (text_at s p hp h34))
  have HR := Lib.hid hn
  clear hn h34
  go_enter Try.func25, Try.ntmps25
  go_wp2
  go_loop [5] (fun v => ∃ k : Nat, v = .int .i64 k ∧ p < k ∧ k ≤ s.size ∧ n = tlenL false (s.data.toList.drop k) (k - p)) (fun v => s.size - (intOf v).toNat)
  case atStart => exact ⟨p + 1, by go_num, by omega, by omega, by rw [HN.out, show p + 1 - p = 1 from by omega]⟩
  case round =>
    obtain ⟨k, rfl, hpk, hk, hb⟩ := hrel
    have HB := Lib.hid hb; clear hb
    by_cases hlt : k < s.size
    · have hbt := bt_eq s k hlt
      have h256 := bt_lt s k
      by_cases h34 : bt s k = 34
      · have b1 : (((bt s k : Nat) : Int) == 34) = true := by rw [beq_iff_eq]; omega
        have b2 : (((bt s k : Nat) : Int) != 34) = false := by rw [bne_eq_false_iff_eq]; omega
        have hnk : n = k - p + 1 := by rw [HB.out, tl_quote s k _ hlt h34]
        have hin := inner_at s p k hpk hlt
        have hrt : rtextL (s.data.toList.drop p) = if plainOk (s.extract (p + 1) k) = true then k + 1 - p else 0 := by
          unfold rtextL
          rw [← HR.out, hin, hnk]
          by_cases g : plainOk (inner (s.data.toList.drop p) (k - p + 1)) = true
          · rw [if_pos ⟨by omega, g⟩, if_pos g]; omega
          · rw [if_neg (fun h => g h.2), if_neg g]
        obtain ⟨t, ht⟩ : ∃ t : ByteArray, t = ⟨(plainText (s.extract (p + 1) k)).toArray⟩ := ⟨_, rfl⟩
        have hsl : ∀ w : World, (Instr.slice 9 (.string s) (some (.int .i64 ((p : Int) + 1))) (some (.int .i64 (k : Int))) none).run Try.prog w = .ok (.string (s.extract (p + 1) k)) w := by
          intro w
          have := run_slice_string (P := Try.prog) (w := w) 9 s .i64 .i64 ((p : Int) + 1) (k : Int) Try.underlying9 (by omega) (by omega) (by omega)
          rw [show ((p : Int) + 1).toNat = p + 1 from by omega, Int.toNat_natCast] at this
          exact this
        cases hpo : plainOk (s.extract (p + 1) k)
        · have HP : Hid (∀ w, Calls Try.prog 26 #[.string (s.extract (p + 1) k)] w fun e w' => e = .returned (.tuple #[.string t, .bool false]) ∧ Below w.heap.size w w') := by
            show ∀ w, _
            intro w; have := rplain_any (s.extract (p + 1) k) w (by simp; omega); rw [hpo, ← ht] at this; exact this
          rw [hpo, if_neg (by simp)] at hrt
          have HRT := Lib.hid hrt
          clear hrt hnk hin h34 ht hpo HR HN
          go_wp2_with (go_at_call 26; refine (HP.out _).mono ?_; clear HP; rintro e w1 ⟨rfl, hb1⟩)
          go_ret
          exact ⟨by rw [HRT.out]; rfl, hb1⟩
        · have HP : Hid (∀ w, Calls Try.prog 26 #[.string (s.extract (p + 1) k)] w fun e w' => e = .returned (.tuple #[.string t, .bool true]) ∧ Below w.heap.size w w') := by
            show ∀ w, _
            intro w; have := rplain_any (s.extract (p + 1) k) w (by simp; omega); rw [hpo, ← ht] at this; exact this
          rw [hpo, if_pos rfl] at hrt
          have HRT := Lib.hid hrt
          clear hrt hnk hin h34 ht hpo HR HN
          go_wp2_with (go_at_call 26; refine (HP.out _).mono ?_; clear HP; rintro e w1 ⟨rfl, hb1⟩)
          go_ret
          exact ⟨by rw [HRT.out]; exact congrArg Ending.returned (by go_num), hb1⟩
      · have b1 : (((bt s k : Nat) : Int) != 34) = true := by rw [bne_iff_ne]; omega
        by_cases h10 : bt s k = 10
        · have b2 : (((bt s k : Nat) : Int) != 10) = false := by rw [bne_eq_false_iff_eq]; omega
          have hz : rtextL (s.data.toList.drop p) = 0 := rtext_zero _ (by rw [← HR.out, HB.out]; exact tlen_line s false k _ hlt h10)
          have HZ := Lib.hid hz; clear hz h34 h10
          go_wp2
          go_ret
          exact ⟨by rw [HZ.out]; rfl, Below.refl _ _⟩
        · have b2 : (((bt s k : Nat) : Int) != 10) = true := by rw [bne_iff_ne]; omega
          by_cases h92 : bt s k = 92
          · have b3 : (((bt s k : Nat) : Int) == 92) = true := by rw [beq_iff_eq]; omega
            have hst := HB.out.trans (tl_back s k _ hlt h92)
            by_cases hlt2 : k + 1 < s.size
            · have hbt2 := bt_eq s (k + 1) hlt2
              have h2562 := bt_lt s (k + 1)
              have i1 : (k : Int) + 1 < s.size := by omega
              have i2 : ((k : Int) + 1).toNat = k + 1 := by omega
              have i3 : 0 ≤ (k : Int) + 1 := by omega
              by_cases h102 : bt s (k + 1) = 10
              · have b4 : (((bt s (k + 1) : Nat) : Int) == 10) = true := by rw [beq_iff_eq]; omega
                have hz : rtextL (s.data.toList.drop p) = 0 := rtext_zero _ (by rw [← HR.out, hst]; exact tlen_line s true (k + 1) _ hlt2 h102)
                have HZ := Lib.hid hz; clear hz h34 h10 h92 h102 hst
                go_wp2
                go_ret
                exact ⟨by rw [HZ.out]; rfl, Below.refl _ _⟩
              · have b4 : (((bt s (k + 1) : Nat) : Int) == 10) = false := by rw [beq_eq_false_iff_ne]; omega
                have HS := Lib.hid (show n = tlenL false (s.data.toList.drop (k + 2)) (k + 2 - p) by rw [hst, tl_esc s (k + 1) _ hlt2 h102, show k - p + 1 + 1 = k + 2 - p from by omega])
                clear h34 h10 h92 h102 hst
                go_wp2
                go_round
                case rel => exact ⟨k + 2, by go_num, by omega, by omega, HS.out⟩
                case measure => simp [intOf]; omega
            · have i1 : (s.size : Int) ≤ (k : Int) + 1 := by omega
              have hz : rtextL (s.data.toList.drop p) = 0 := rtext_zero _ (by rw [← HR.out, hst]; exact tlen_end s true (k + 1) _ hlt2)
              have HZ := Lib.hid hz; clear hz h34 h10 h92 hst
              go_wp2
              go_ret
              exact ⟨by rw [HZ.out]; rfl, Below.refl _ _⟩
          · have b3 : (((bt s k : Nat) : Int) == 92) = false := by rw [beq_eq_false_iff_ne]; omega
            have HS := Lib.hid (show n = tlenL false (s.data.toList.drop (k + 1)) (k + 1 - p) by rw [HB.out, tl_step s k _ hlt h10 h92 h34, show k - p + 1 = k + 1 - p from by omega])
            clear h34 h10 h92
            go_wp2
            go_round
            case rel => exact ⟨k + 1, by go_num, by omega, by omega, HS.out⟩
            case measure => simp [intOf]; omega
    · have hz : rtextL (s.data.toList.drop p) = 0 := rtext_zero _ (by rw [← HR.out, HB.out]; exact tlen_end s false k _ hlt)
      have HZ := Lib.hid hz; clear hz
      go_wp2
      go_ret
      exact ⟨by rw [HZ.out]; rfl, Below.refl _ _⟩
end Go.Proofs.Ytolhanngkackcaa
