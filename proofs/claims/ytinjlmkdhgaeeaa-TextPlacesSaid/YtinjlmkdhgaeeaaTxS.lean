/- What the calls of layer 14 answer, in plain words: the statements are walked out of it. -/
import Derived.Test.YtinjlmkdhgaeeaaTxD
set_option linter.unusedSimpArgs false
set_option linter.unusedVariables false
namespace Go.Proofs.Ytinjlmkdhgaeeaa
open Go.RowKit

/-- What layer 14's calls answer. -/
structure TextC0 : Prop where
  of : ∀ (k n : Int) (s : ByteArray) (hn : i32 n) (hs : s.size ≤ 1048576) (w : World), Calls Try.prog 12 #[valV k n s] w fun e w' => e = .returned (.string (ofT k n s)) ∧ Below w.heap.size w w'
  same : ∀ (k1 n1 : Int) (s1 : ByteArray) (k2 n2 : Int) (s2 : ByteArray) (w : World), Calls Try.prog 16 #[valV k1 n1 s1, valV k2 n2 s2] w fun e w' => e = .returned (.bool (sameT k1 n1 s1 k2 n2 s2)) ∧ Below w.heap.size w w'
  len : ∀ (s : ByteArray) (hs : s.size ≤ 16777216) (w : World), Calls Try.prog 14 #[.string s] w fun e w' => e = .returned (.int .i32 (lenT s)) ∧ Below w.heap.size w w'
  at_ : ∀ (s : ByteArray) (hs : s.size ≤ 16777216) (k : Int) (hk : i32 k) (w : World), Calls Try.prog 10 #[.string s, .int .i32 k] w fun e w' => e = .returned (.tuple #[.string (atT s k).1, .bool (atT s k).2]) ∧ Below w.heap.size w w'
  join : ∀ (k1 n1 : Int) (s1 : ByteArray) (k2 n2 : Int) (s2 : ByteArray) (h1 : i32 n1) (h2 : i32 n2) (hz1 : s1.size ≤ 1048576) (hz2 : s2.size ≤ 1048576) (w : World), Calls Try.prog 8 #[valV k1 n1 s1, valV k2 n2 s2] w fun e w' => e = .returned (joinT (ofT k1 n1 s1 ++ ofT k2 n2 s2)) ∧ Below w.heap.size w w'
structure TextC : Prop extends TextC0 where
  told : ∀ (w : World), Calls Try.prog 7 #[] w fun e w' => e = .returned (.bool true) ∧ Below w.heap.size w w'
end Go.Proofs.Ytinjlmkdhgaeeaa
