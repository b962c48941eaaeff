/- Statements of layer 14, as the rows call them. -/
import Derived.Test.YtinjlmkdhgaeeaaTxK
import Derived.Test.YtinjlmkdhgaeeaaOpenV
namespace Go.Proofs.Ytinjlmkdhgaeeaa
open Go.RowKit
theorem i32_wf {a : Int} (h : (Lit.int .i32 a).wf = true) : i32 a := by
  have h1 : IntKind.i32.min = -2147483648 := rfl
  have h2 : IntKind.i32.max = 2147483647 := rfl
  simp [Lit.wf, h1, h2] at h
  unfold i32; omega
theorem tasks_law (C : TextC) (W : World) (k1 n1 : Int) (s1 : ByteArray) (k2 n2 : Int) (s2 : ByteArray) (k : Int) (h1 : (Lit.int .i32 n1).wf = true) (h2 : (Lit.int .i32 n2).wf = true) (hk : (Lit.int .i32 k).wf = true) :
    Calls Try.prog 3 #[.agg #[.int .i64 k1, .int .i32 n1, .string s1], .agg #[.int .i64 k2, .int .i32 n2, .string s2], .int .i32 k] W fun e w' => e = .returned (.bool true) ∧ Below W.heap.size W w' :=
  tasks_any C k1 n1 s1 k2 n2 s2 k (i32_wf h1) (i32_wf h2) (i32_wf hk) W
end Go.Proofs.Ytinjlmkdhgaeeaa
