/- kin: Find. -/
import Derived.Test.YteogphbdpjnjoaaGreatKinN
set_option linter.unusedSimpArgs false
set_option linter.unusedVariables false
namespace Go.Proofs.YteogphbdpjnjoaaGreat
open Go.RowKit
def findI (cs : List Hdr) (s : ByteArray) : Int := if plc cs s < cs.length then (plc cs s : Int) else -1
theorem isEmpty_no {x : ByteArray} (hq : x ≠ ⟨#[]⟩) : x.toList.isEmpty = false := by
  cases he : x.toList.isEmpty
  · rfl
  · exfalso; apply hq
    have h0 := List.isEmpty_iff.1 he
    rw [ByteArray.toList_eq] at h0
    cases x; simp at h0; rw [h0]
end Go.Proofs.YteogphbdpjnjoaaGreat
