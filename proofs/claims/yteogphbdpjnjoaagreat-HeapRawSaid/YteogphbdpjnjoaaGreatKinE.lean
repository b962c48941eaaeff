/- kin: slices.Index and Contains of ints, chain. -/
import Derived.Test.YteogphbdpjnjoaaGreatKinC
set_option linter.unusedSimpArgs false
set_option linter.unusedVariables false
namespace Go.Proofs.YteogphbdpjnjoaaGreat
open Go.RowKit
theorem Tryz.infoIntK : (Tryz.prog.info? 3).map (fun i => (i.zero, i.size, i.bytes)) = some (some (.int .i64 0), 1, 8) := by kernel_rfl
def intsV (l : List Nat) : List Value := l.map fun (x : Nat) => .int .i64 x
theorem intsV_snoc (l : List Nat) (x : Nat) : intsV (l ++ [x]) = intsV l ++ [.int .i64 x] := by simp [intsV]
theorem intsV_at {l : List Nat} {k x : Nat} (h : l[k]? = some x) : (intsV l)[k]? = some (.int .i64 x) := by simp [intsV, h]
theorem ret_boolK {a b : Bool} (h : a = b) : Ending.returned (.bool a) = .returned (.bool b) := by rw [h]
theorem idxOf_leK : ∀ (l : List Nat) (k y : Nat), l[k]? = some y → l.idxOf y ≤ k
  | [], k, y, h => by simp at h
  | a :: l, 0, y, h => by simp at h; subst h; simp
  | a :: l, k + 1, y, h => by
    rw [List.idxOf_cons]
    have := idxOf_leK l k y (by simpa using h)
    cases a == y <;> simp <;> omega
/-- The place of the first one, -1. -/
def idxK (l : List Nat) (y : Nat) : Int := if l.idxOf y < l.length then (l.idxOf y : Int) else -1
end Go.Proofs.YteogphbdpjnjoaaGreat
