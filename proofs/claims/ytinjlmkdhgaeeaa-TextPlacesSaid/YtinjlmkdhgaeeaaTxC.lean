/- The document's own answers for layer 14: how many runes, the one at a place. -/
import Derived.Test.YtinjlmkdhgaeeaaTxB
set_option linter.unusedSimpArgs false
set_option linter.unusedVariables false
namespace Go.Proofs.Ytinjlmkdhgaeeaa
open Go.RowKit

set_option maxHeartbeats 1000000 in
theorem rlen_any (s : ByteArray) (hs : s.size ≤ 16777216) (w : World) : Calls Try.prog 15 #[.string s] w fun e w' => e = .returned (.int .i32 (lenT s)) ∧ Below w.heap.size w w' := by
  have hfd : ∀ (x : Int) (y : Int) (z : Bool) (w : World), (Instr.field 44 (.agg #[.int .i32 x, .int .i64 y, .bool z]) 1).run Try.prog w = .ok (.int .i64 y) w := fun _ _ _ _ => by kernel_rfl
  go_enter Try.func15, Try.ntmps15
  go_wp2
  go_loopw [3, 4] (fun v3 v4 wr => ∃ p i : Nat, v3 = .int .i32 i ∧ v4 = .int .i64 p ∧ Pos s p i ∧ Below w.heap.size w wr) (fun v3 v4 wr => s.size - (intOf v4).toNat)
  case atStart => exact ⟨0, 0, rfl, rfl, Pos.zero s, Below.refl _ _⟩
  case round =>
    obtain ⟨p, i, rfl, rfl, hP, hbw⟩ := hrel
    have hsz := hbw.size
    have hp := hP.le
    have hi := hP.ile
    by_cases hlt : p < s.size
    · have hst := (hP.step hlt).2
      have hw := wid_pos s p
      have hwl := wid_le s p hlt
      have HS := Lib.hid hst; clear hst hP
      go_wp2_with (go_at_call 23; refine (one_any s p _ hs hlt).mono ?_; rintro e w1 ⟨rfl, hb1⟩)
      go_roundw
      case rel => exact ⟨p + (Utf8.decode s p).2, i + 1, by go_num, by go_num, HS.out, hbw.trans (hb1.mono hsz)⟩
      case measure => simp [intOf]; omega
    · have HS := Lib.hid (hP.fin hlt); clear hP
      go_wp2
      go_ret
      exact ⟨by rw [← HS.out]; rfl, hbw⟩
set_option maxHeartbeats 1000000 in
theorem rat_any (s : ByteArray) (hs : s.size ≤ 16777216) (k : Int) (hk : i32 k) (w : World) : Calls Try.prog 11 #[.string s, .int .i32 k] w fun e w' => e = .returned (.tuple #[.string (atT s k).1, .bool (atT s k).2]) ∧ Below w.heap.size w w' := by
  obtain ⟨r, hr⟩ : ∃ r, atT s k = r := ⟨_, rfl⟩
  rw [hr]
  have HR := Lib.hid hr; clear hr
  go_enter Try.func11, Try.ntmps11
  go_wp2
  go_loopw [6, 7] (fun v6 v7 wr => ∃ p i : Nat, v6 = .int .i32 i ∧ v7 = .int .i64 p ∧ Pos s p i ∧ (0 ≤ k → (i : Int) ≤ k) ∧ Below w.heap.size w wr) (fun v6 v7 wr => s.size - (intOf v7).toNat)
  case atStart => exact ⟨0, 0, rfl, rfl, Pos.zero s, fun h => h, Below.refl _ _⟩
  case round =>
    obtain ⟨p, i, rfl, rfl, hP, hle, hbw⟩ := hrel
    have hsz := hbw.size
    have hp := hP.le
    have hi := hP.ile
    by_cases hlt : p < s.size
    · obtain ⟨hat, hst⟩ := hP.step hlt
      have hw := wid_pos s p
      have hwl := wid_le s p hlt
      have HS := Lib.hid hst
      by_cases hik : (i : Int) = k
      · have HE : Hid (r = (⟨(Lib.encodeRune ((Utf8.decode s p).1 : Nat)).toArray⟩, true)) := Lib.hid (by rw [← HR.out, ← hik, atT_nat, atN_at hat]; rfl)
        have hb : ((i : Int) == k) = true := by rw [beq_iff_eq]; exact hik
        obtain ⟨u, hu⟩ : ∃ u : ByteArray, (⟨(Lib.encodeRune ((Utf8.decode s p).1 : Nat)).toArray⟩ : ByteArray) = u := ⟨_, rfl⟩
        have HP : Hid (∀ W, Calls Try.prog 21 #[.string s, .int .i64 p] W fun e w' => e = .returned (.tuple #[.string u, .int .i64 ((Utf8.decode s p).2 : Nat)]) ∧ Below W.heap.size W w') := Lib.hid fun W => by have := part_any s p W hs hlt; rw [hu] at this; exact this
        rw [hu] at HE
        clear hst hP hat hle hik hu
        go_wp2_with (go_at_call 21; refine (HP.out _).mono ?_; rintro e w1 ⟨rfl, hb1⟩)
        go_ret2
        exact ⟨by rw [HE.out]; rfl, hbw.trans (hb1.mono hsz)⟩
      · have hb : ((i : Int) == k) = false := by rw [beq_eq_false_iff_ne]; exact hik
        have hle2 : 0 ≤ k → ((i + 1 : Nat) : Int) ≤ k := fun h => by have := hle h; omega
        have HL := Lib.hid hle2
        obtain ⟨u, hu⟩ : ∃ u : ByteArray, (⟨(Lib.encodeRune ((Utf8.decode s p).1 : Nat)).toArray⟩ : ByteArray) = u := ⟨_, rfl⟩
        have HP : Hid (∀ W, Calls Try.prog 21 #[.string s, .int .i64 p] W fun e w' => e = .returned (.tuple #[.string u, .int .i64 ((Utf8.decode s p).2 : Nat)]) ∧ Below W.heap.size W w') := Lib.hid fun W => by have := part_any s p W hs hlt; rw [hu] at this; exact this
        clear hst hP hat hle hik hle2 hu
        go_wp2_with (go_at_call 21; refine (HP.out _).mono ?_; rintro e w1 ⟨rfl, hb1⟩)
        go_roundw
        case rel => exact ⟨p + (Utf8.decode s p).2, i + 1, by go_num, by go_num, HS.out, HL.out, hbw.trans (hb1.mono hsz)⟩
        case measure => simp [intOf]; omega
    · have hfin := hP.fin hlt
      have HE : Hid (r = (⟨#[]⟩, false)) := Lib.hid (by
        rw [← HR.out]
        by_cases h0 : 0 ≤ k
        · exact atT_out (by have := hle h0; omega)
        · exact atT_neg (by omega))
      clear hP hfin hle
      go_wp2
      go_ret2
      exact ⟨by rw [HE.out]; rfl, hbw⟩
end Go.Proofs.Ytinjlmkdhgaeeaa
