/- Plain: the two ways in which a rune's bytes are told are one. No Go program in this text. -/
import Derived.Test.YtinjlmkdhgaeeaaTxA
import Derived.Lib.RuneBytes
set_option linter.unusedSimpArgs false
set_option linter.unusedVariables false
namespace Go.Proofs.Ytinjlmkdhgaeeaa
open Go.RowKit

theorem u8_nat (r k : Nat) (x : Int) (h : x = (k : Nat)) : x.toNat.toUInt8 = UInt8.ofNat k := by subst h; rfl
theorem enc_oneT {r : Nat} (h : okRune r) : Utf8.encode (r : Int) = oneT r := by
  unfold okRune at h
  have hv : Utf8.valid (r : Int) = true := by unfold Utf8.valid; simp; omega
  unfold oneT Lib.encodeRune Utf8.encode
  simp only [hv, if_true, Int.toNat_natCast]
  by_cases h1 : r < 128
  · rw [if_pos (by omega), Lib.encodeRuneZ_one (by omega) (by omega)]
    simp only [List.map_cons, List.map_nil]
    rw [u8_nat r r (r : Int) rfl]
  · rw [if_neg (by omega)]
    by_cases h2 : r < 2048
    · rw [if_pos (by omega), Lib.encodeRuneZ_two (by omega) (by omega)]
      simp only [List.map_cons, List.map_nil]
      rw [u8_nat r (192 + r / 64) _ (by omega), u8_nat r (128 + r % 64) _ (by omega)]
    · rw [if_neg (by omega)]
      by_cases h3 : r < 65536
      · rw [if_pos (by omega), Lib.encodeRuneZ_three (by omega)]
        simp only [List.map_cons, List.map_nil]
        rw [u8_nat r (224 + r / 4096) _ (by omega), u8_nat r (128 + r / 64 % 64) _ (by omega), u8_nat r (128 + r % 64) _ (by omega)]
      · rw [if_neg (by omega), Lib.encodeRuneZ_four (by omega) (by omega)]
        simp only [List.map_cons, List.map_nil]
        rw [u8_nat r (240 + r / 262144) _ (by omega), u8_nat r (128 + r / 4096 % 64) _ (by omega), u8_nat r (128 + r / 64 % 64) _ (by omega), u8_nat r (128 + r % 64) _ (by omega)]
theorem enc_at {s : ByteArray} {p i : Nat} (h : Pos s p i) (hlt : p < s.size) : Utf8.encode (((Utf8.decode s p).1 : Nat) : Int) = oneT (Utf8.decode s p).1 :=
  enc_oneT (rl_ok s _ (List.mem_of_getElem? (h.step hlt).1))
end Go.Proofs.Ytinjlmkdhgaeeaa
