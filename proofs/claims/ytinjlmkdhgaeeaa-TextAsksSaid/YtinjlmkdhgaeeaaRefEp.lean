/- The document's Part. -/
import Derived.Test.YtinjlmkdhgaeeaaRefE
set_option linter.unusedSimpArgs false
set_option linter.unusedVariables false
namespace Go.Proofs.Ytinjlmkdhgaeeaa
open Go.RowKit
theorem part_any (s : ByteArray) (p : Nat) (w : World) (hs : s.size ≤ 16777216) (hp : p < s.size) : Calls Try.prog 21 #[.string s, .int .i64 p] w fun e w' => e = .returned (.tuple #[.string ⟨(Lib.encodeRune ((Utf8.decode s p).1 : Nat)).toArray⟩, .int .i64 ((Utf8.decode s p).2 : Nat)]) ∧ Below w.heap.size w w' := by
  have hw := wid_pos s p
  have hwl := wid_le s p hp
  go_enter Try.func21, Try.ntmps21
  cases hB : badAt s p
  · have HE : Hid (s.extract p (p + (Utf8.decode s p).2) = ⟨(Lib.encodeRune ((Utf8.decode s p).1 : Nat)).toArray⟩) := by
      show s.extract p (p + (Utf8.decode s p).2) = ⟨(Lib.encodeRune ((Utf8.decode s p).1 : Nat)).toArray⟩
      apply ba_of
      rw [extract_sub, enc_ok s p hp hB]
      congr 1; omega
    have h1 : IntKind.i64.wrap ((p : Int) + ((Utf8.decode s p).2 : Nat)) = (p : Int) + ((Utf8.decode s p).2 : Nat) := by rw [IntKind.wrap_i64]; omega
    go_wp2_with (go_at_call 23; refine (one_any s p _ hs hp).mono ?_; rintro e w1 ⟨rfl, hb1⟩)
    have h2 : 0 ≤ (p : Int) + ((Utf8.decode s p).2 : Nat) := by omega
    have h3 : ((p : Int) + ((Utf8.decode s p).2 : Nat)).toNat = p + (Utf8.decode s p).2 := by omega
    have h4 : (p : Int) + ((Utf8.decode s p).2 : Nat) ≤ s.size := by omega
    have h5 : (p : Int) ≤ (p : Int) + ((Utf8.decode s p).2 : Nat) := by omega
    go_quiet (fail)
    clear h1 h3
    go_wp2
    go_ret2
    exact ⟨by rw [← HE.out]; rfl, below_drewN (hb1.alloc hb1.size _) _⟩
  · have HE := Lib.hid (enc_bad s p hB)
    have HD := Lib.hid (badAt_eq hB)
    go_wp2_with (go_at_call 23; refine (one_any s p _ hs hp).mono ?_; rintro e w1 ⟨rfl, hb1⟩)
    go_ret2
    exact ⟨by rw [HE.out, HD.out]; rfl, hb1.alloc hb1.size _⟩
end Go.Proofs.Ytinjlmkdhgaeeaa
