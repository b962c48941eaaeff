/- A number's text, as a fact that is handed on. -/
import Derived.Test.YtinjlmkdhgaeeaaNwD
set_option linter.unusedSimpArgs false
set_option linter.unusedVariables false
namespace Go.Proofs.Ytinjlmkdhgaeeaa
open Go.RowKit

def TextS (a : Int) (s : ByteArray) : Prop := Hid (∀ W, Calls Try.prog 24 #[.int .i32 a] W fun e w' => e = .returned (.string s) ∧ Below W.heap.size W w')
theorem textS {a : Int} {s : ByteArray} (ha : i32 a) (h : decT a = s) : TextS a s := Lib.hid fun W => by have := text_any a ha W; rw [h] at this; exact this
theorem dec_is {a : Int} {l : List UInt8} (h : (decT a).data.toList = l) : decT a = ⟨l.toArray⟩ := by rw [← h]
end Go.Proofs.Ytinjlmkdhgaeeaa
