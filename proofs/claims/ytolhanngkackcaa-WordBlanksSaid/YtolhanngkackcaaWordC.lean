/- Contract of the function of package word that finds a text's end. -/
import Derived.Test.YtolhanngkackcaaWordA
set_option linter.unusedSimpArgs false
set_option linter.unusedVariables false
namespace Go.Proofs.Ytolhanngkackcaa
open Go.RowKit

theorem ne_bool {r k : Nat} (h : r ≠ k) : (((r : Nat) : Int) == (k : Nat)) = false := by rw [beq_eq_false_iff_ne]; omega
theorem eq_bool {r k : Nat} (h : r = k) : (((r : Nat) : Int) == (k : Nat)) = true := by rw [beq_iff_eq]; omega
set_option maxHeartbeats 2000000 in
theorem tlen_any (s : ByteArray) (w : World) (hs : s.size ≤ 16777216) : Calls Try.prog 33 #[.string s] w fun e w' => e = .returned (.int .i64 (textLen s.data.toList : Nat)) ∧ Below w.heap.size w w' := by
  obtain ⟨n, hn⟩ : ∃ n, n = textLen s.data.toList := ⟨_, rfl⟩
  rw [← hn]
  have HN := Lib.hid hn; clear hn
  go_enter Try.func33, Try.ntmps33
  go_wp2
  go_loopw [3] (fun v wr => ∃ (p : Nat) (c : Bool), v = .bool c ∧ wr = w.iter s p ∧ p ≤ s.size ∧ (p = 0 → c = false) ∧ (0 < p → n = tlenL c (s.data.toList.drop p) p)) (fun v wr => s.size - wr.iterPos w.heap.size)
  case atStart => exact ⟨0, false, rfl, rfl, Nat.zero_le _, fun _ => rfl, fun h => by omega⟩
  case round =>
    obtain ⟨p, c, rfl, rfl, hp, hc, hb⟩ := hrel
    have HB := Lib.hid hb; clear hb
    have HC := Lib.hid hc; clear hc
    by_cases hlt : p < s.size
    · have hnx := fun ty => run_next_any (P := Try.prog) w s p ty hlt
      have hw := wid_pos s p
      have hwl := wid_le s p hlt
      rcases Nat.eq_zero_or_pos p with rfl | hpos
      · obtain rfl : c = false := HC.out rfl
        by_cases h34 : bt s 0 = 34
        · have e : (Utf8.decode s 0).2 = 1 := by rw [low_of s 0 (by omega)]
          have hF : ((((Utf8.decode s 0).1 : Nat) : Int) != 34) = false := by rw [bne_eq_false_iff_eq, (rune_is s 0 34 (by omega)).2 h34]; rfl
          have HS := Lib.hid (show n = tlenL false (s.data.toList.drop (0 + (Utf8.decode s 0).2)) (0 + (Utf8.decode s 0).2) by rw [HN.out, e, text_start s hlt h34]); clear e h34
          go_wp2
          go_roundw
          case rel => exact ⟨0 + (Utf8.decode s 0).2, false, rfl, by simp, by omega, fun _ => rfl, fun _ => HS.out⟩
          case measure => simp; omega
        · have hF : ((((Utf8.decode s 0).1 : Nat) : Int) != 34) = true := by
            rw [bne_iff_ne]; intro e; exact h34 ((rune_is s 0 34 (by omega)).1 (by omega))
          have HS := Lib.hid (show n = 0 by rw [HN.out]; exact text_none s (fun h => h34 h.2)); clear h34
          go_wp2
          go_ret
          exact ⟨by rw [HS.out]; rfl, iter_below w s _⟩
      · have hb := HB.out hpos
        have hpb : ((p : Int) == 0) = false := by rw [beq_eq_false_iff_ne]; omega
        by_cases h10 : bt s p = 10
        · have hF : ((((Utf8.decode s p).1 : Nat) : Int) == 10) = true := by rw [beq_iff_eq, (rune_is s p 10 (by omega)).2 h10]; rfl
          have HS := Lib.hid (show n = 0 by rw [hb]; exact tlen_line s c p p hlt h10); clear h10 hb
          go_wp2
          go_ret
          exact ⟨by rw [HS.out]; rfl, iter_below w s _⟩
        · have hF : ((((Utf8.decode s p).1 : Nat) : Int) == 10) = false := by
            rw [beq_eq_false_iff_ne]; intro e; exact h10 ((rune_is s p 10 (by omega)).1 (by omega))
          cases c
          · by_cases h92 : bt s p = 92
            · have e : (Utf8.decode s p).2 = 1 := by rw [low_of s p (by omega)]
              have hF2 : ((((Utf8.decode s p).1 : Nat) : Int) == 92) = true := by rw [beq_iff_eq, (rune_is s p 92 (by omega)).2 h92]; rfl
              have HS := Lib.hid (show n = tlenL true (s.data.toList.drop (p + (Utf8.decode s p).2)) (p + (Utf8.decode s p).2) by rw [hb, e]; exact tlen_back s p hlt h92); clear h10 hb e h92
              go_wp2
              go_roundw
              case rel => exact ⟨p + (Utf8.decode s p).2, true, rfl, rfl, hwl, fun h => by omega, fun _ => HS.out⟩
              case measure => simp; omega
            · have hF2 : ((((Utf8.decode s p).1 : Nat) : Int) == 92) = false := by
                rw [beq_eq_false_iff_ne]; intro e; exact h92 ((rune_is s p 92 (by omega)).1 (by omega))
              by_cases h34 : bt s p = 34
              · have hF3 : ((((Utf8.decode s p).1 : Nat) : Int) == 34) = true := by rw [beq_iff_eq, (rune_is s p 34 (by omega)).2 h34]; rfl
                have HS := Lib.hid (show n = p + 1 by rw [hb]; exact tlen_quote s p hlt h34); clear h10 hb h92 h34
                go_wp2
                go_ret
                exact ⟨by rw [HS.out]; rfl, iter_below w s _⟩
              · have hF3 : ((((Utf8.decode s p).1 : Nat) : Int) == 34) = false := by
                  rw [beq_eq_false_iff_ne]; intro e; exact h34 ((rune_is s p 34 (by omega)).1 (by omega))
                have HS := Lib.hid (show n = tlenL false (s.data.toList.drop (p + (Utf8.decode s p).2)) (p + (Utf8.decode s p).2) by rw [hb]; exact tlen_other s p hlt h10 h92 h34); clear h10 hb h92 h34
                go_wp2
                go_roundw
                case rel => exact ⟨p + (Utf8.decode s p).2, false, rfl, rfl, hwl, fun h => by omega, fun _ => HS.out⟩
                case measure => simp; omega
          · have HS := Lib.hid (show n = tlenL false (s.data.toList.drop (p + (Utf8.decode s p).2)) (p + (Utf8.decode s p).2) by rw [hb]; exact tlen_esc s p hlt h10); clear h10 hb
            go_wp2
            go_roundw
            case rel => exact ⟨p + (Utf8.decode s p).2, false, rfl, rfl, hwl, fun h => by omega, fun _ => HS.out⟩
            case measure => simp; omega
    · have hnx := fun ty => run_next_end (P := Try.prog) w s p ty hlt
      have HS := Lib.hid (show n = 0 by
        rcases Nat.eq_zero_or_pos p with rfl | hpos
        · rw [HN.out]; exact text_none s (fun h => hlt h.1)
        · rw [HB.out hpos]; exact tlen_end s c p p hlt)
      go_wp2
      go_ret
      exact ⟨by rw [HS.out]; rfl, iter_below w s p⟩
end Go.Proofs.Ytolhanngkackcaa
