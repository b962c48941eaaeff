/- Layer 14: what the calls answer, all of it; the statements. -/
import Derived.Test.YtinjlmkdhgaeeaaTxP
import Derived.Test.YtinjlmkdhgaeeaaTxT
import Derived.Test.YtinjlmkdhgaeeaaTxJ
import Derived.Test.YtinjlmkdhgaeeaaTxW
namespace Go.Proofs.Ytinjlmkdhgaeeaa
open Go.RowKit
theorem textC0 : TextC0 := ⟨tof_any, tsame_any, tlen_any, tat_any, tjoin_any⟩
theorem textC : TextC := ⟨textC0, told_of textC0⟩
theorem lawTextRunes (s : ByteArray) (hs : s.size ≤ maxLen) (w : World) : Calls Try.prog 4 #[.string s] w fun e w' => e = .returned (.bool true) ∧ Below w.heap.size w w' := runes_any textC s hs w
theorem lawTextJoins (a b c : ByteArray) (ha : a.size ≤ maxLen) (hb : b.size ≤ maxLen) (hc : c.size ≤ maxLen) (w : World) : Calls Try.prog 5 #[.string a, .string b, .string c] w fun e w' => e = .returned (.bool true) ∧ Below w.heap.size w w' := joins_any textC a b c ha hb hc w
theorem lawTextPlaces (a b : ByteArray) (k : Int) (ha : a.size ≤ maxLen) (hb : b.size ≤ maxLen) (hk : (Lit.int .i64 k).wf = true) (w : World) : Calls Try.prog 6 #[.string a, .string b, .int .i64 k] w fun e w' => e = .returned (.bool true) ∧ Below w.heap.size w w' := places_any textC a b k ha hb hk w
theorem lawTextAsks (W : World) (k1 n1 : Int) (s1 : ByteArray) (k2 n2 : Int) (s2 : ByteArray) (k : Int) (h1 : (Lit.int .i32 n1).wf = true) (h2 : (Lit.int .i32 n2).wf = true) (hk : (Lit.int .i32 k).wf = true) :
    Calls Try.prog 3 #[.agg #[.int .i64 k1, .int .i32 n1, .string s1], .agg #[.int .i64 k2, .int .i32 n2, .string s2], .int .i32 k] W fun e w' => e = .returned (.bool true) ∧ Below W.heap.size W w' := tasks_law textC W k1 n1 s1 k2 n2 s2 k h1 h2 hk
end Go.Proofs.Ytinjlmkdhgaeeaa
