/- Contracts of the document's own answers for runes of a text. -/
import Derived.Test.YtinjlmkdhgaeeaaRef0
import Derived.Laws.BitsLemmas
set_option linter.unusedSimpArgs false
set_option linter.unusedVariables false
namespace Go.Proofs.Ytinjlmkdhgaeeaa
open Go.RowKit

/-- What is read of a rune behind k of its bytes. -/
def accR (s : ByteArray) (p m : Nat) : Nat → Nat
  | 0 => 0
  | 1 => bt s p % m
  | k + 2 => accR s p m (k + 1) * 64 + bt s (p + k + 1) % 64
theorem accR_succ (s : ByteArray) (p m k : Nat) (h : 1 ≤ k) : accR s p m (k + 1) = accR s p m k * 64 + bt s (p + k) % 64 := by
  obtain ⟨j, rfl⟩ : ∃ j, k = j + 1 := ⟨k - 1, by omega⟩
  rfl
theorem accR_lt (s : ByteArray) (p m : Nat) (hm : 0 < m) (hm2 : m ≤ 32) : ∀ k, k ≤ 4 → accR s p m k < 8388608 ∧ (k ≤ 3 → accR s p m k < 131072) ∧ (k ≤ 2 → accR s p m k < 2048) ∧ (k ≤ 1 → accR s p m k < 32) := by
  intro k hk
  have h0 := Nat.mod_lt (bt s p) hm
  have h1 := Nat.mod_lt (bt s (p + 0 + 1)) (show 0 < 64 by decide)
  have h2 := Nat.mod_lt (bt s (p + 1 + 1)) (show 0 < 64 by decide)
  have h3 := Nat.mod_lt (bt s (p + 2 + 1)) (show 0 < 64 by decide)
  match k, hk with
  | 0, _ => simp [accR]
  | 1, _ => simp only [accR]; omega
  | 2, _ => simp only [accR]; omega
  | 3, _ => simp only [accR]; omega
  | 4, _ => simp only [accR]; omega
theorem i64_and63 (x : Int) (h0 : 0 ≤ x) (h1 : x < 256) : bits .and .i64 x 63 = x % 64 := bits_mask .i64 8 (by decide) (fun n a b => by rw [IntKind.wrap_i64]; omega) 6 (by decide) x h0 h1
theorem i32_and31 (x : Int) (h0 : 0 ≤ x) (h1 : x < 256) : bits .and .i32 x 31 = x % 32 := bits_mask .i32 8 (by decide) (fun n a b => by rw [IntKind.wrap_i32]; omega) 5 (by decide) x h0 h1
theorem i32_and15 (x : Int) (h0 : 0 ≤ x) (h1 : x < 256) : bits .and .i32 x 15 = x % 16 := bits_mask .i32 8 (by decide) (fun n a b => by rw [IntKind.wrap_i32]; omega) 4 (by decide) x h0 h1
theorem i32_and7 (x : Int) (h0 : 0 ≤ x) (h1 : x < 256) : bits .and .i32 x 7 = x % 8 := bits_mask .i32 8 (by decide) (fun n a b => by rw [IntKind.wrap_i32]; omega) 3 (by decide) x h0 h1
def OneSaid (s : ByteArray) (p : Nat) (w : World) : Prop :=
  Calls Try.prog 23 #[.string s, .int .i64 p] w fun e w' => e = .returned (.agg #[.int .i32 ((Utf8.decode s p).1 : Nat), .int .i64 ((Utf8.decode s p).2 : Nat), .bool (badAt s p)]) ∧ Below w.heap.size w w'
theorem box_below (w : World) (c : Array Value) (T : TypeId) : Below w.heap.size w (w.alloc (.cells c T)) := (Below.refl _ w).alloc (Nat.le_refl _) _
theorem dbad (s : ByteArray) (p : Nat) (h : 128 ≤ bt s p) (h2 : ¬ K2 s p) (h3 : ¬ K3 s p) (h4 : ¬ K4 s p) : Utf8.decode s p = (65533, 1) := by
  rcases dcases s p with ⟨k, _⟩ | ⟨k, _⟩ | ⟨k, _⟩ | ⟨k, _⟩ | ⟨_, _, _, _, e⟩
  · omega
  · exact absurd k h2
  · exact absurd k h3
  · exact absurd k h4
  · exact e
end Go.Proofs.Ytinjlmkdhgaeeaa
