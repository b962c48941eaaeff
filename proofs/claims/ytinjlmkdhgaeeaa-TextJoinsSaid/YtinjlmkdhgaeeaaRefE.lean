/- Contracts of the document's own answers: Bad, Part. -/
import Derived.Test.YtinjlmkdhgaeeaaRefD
import Derived.WalkSmall
set_option linter.unusedSimpArgs false
set_option linter.unusedVariables false
namespace Go.Proofs.Ytinjlmkdhgaeeaa
open Go.RowKit

theorem ba_of (s : ByteArray) (l : List UInt8) (h : s.data.toList = l) : s = ⟨l.toArray⟩ := by
  cases s with | mk d => subst h; simp
set_option maxHeartbeats 1000000 in
theorem rbad_any (s : ByteArray) (w : World) (hs : s.size ≤ 16777216) : Calls Try.prog 18 #[.string s] w fun e w' => e = .returned (.int .i64 (bad s)) ∧ Below w.heap.size w w' := by
  go_enter Try.func18, Try.ntmps18
  go_wp2
  go_loopw [3] (fun v wr => ∃ p : Nat, v = .int .i64 p ∧ p ≤ s.size ∧ badFrom s p = bad s ∧ Below w.heap.size w wr) (fun v wr => s.size - (intOf v).toNat)
  case atStart => exact ⟨0, rfl, Nat.zero_le _, rfl, Below.refl _ _⟩
  case round =>
    obtain ⟨p, rfl, hp, hb, hbw⟩ := hrel
    have hsz := hbw.size
    by_cases hlt : p < s.size
    · have hw := wid_pos s p
      have hwl := wid_le s p hlt
      cases hB : badAt s p
      · have HS := Lib.hid ((badFrom_step s p hlt hB).symm.trans hb); clear hb
        go_wp2_with (go_at_call 23; refine (one_any s p _ hs hlt).mono ?_; rintro e w1 ⟨rfl, hb1⟩)
        have hb2 := (hbw.trans (hb1.mono hsz)).alloc (Nat.le_trans hsz hb1.size) (.cells #[.int .i32 ((Utf8.decode s p).1 : Nat), .int .i64 ((Utf8.decode s p).2 : Nat), .bool (badAt s p)] 44)
        rw [hB] at hb2
        go_roundw
        case rel => exact ⟨p + (Utf8.decode s p).2, by go_num, hwl, HS.out, hb2⟩
        case measure => simp [intOf]; omega
      · have HS := Lib.hid ((badFrom_at s p hlt hB).symm.trans hb); clear hb
        go_wp2_with (go_at_call 23; refine (one_any s p _ hs hlt).mono ?_; rintro e w1 ⟨rfl, hb1⟩)
        have hb2 := (hbw.trans (hb1.mono hsz)).alloc (Nat.le_trans hsz hb1.size) (.cells #[.int .i32 ((Utf8.decode s p).1 : Nat), .int .i64 ((Utf8.decode s p).2 : Nat), .bool (badAt s p)] 44)
        rw [hB] at hb2
        go_ret
        exact ⟨by rw [← HS.out]; rfl, hb2⟩
    · have HS := Lib.hid (hb.symm.trans (badFrom_end s p hlt)); clear hb
      go_wp2
      go_ret
      exact ⟨by rw [HS.out]; rfl, hbw⟩
end Go.Proofs.Ytinjlmkdhgaeeaa
