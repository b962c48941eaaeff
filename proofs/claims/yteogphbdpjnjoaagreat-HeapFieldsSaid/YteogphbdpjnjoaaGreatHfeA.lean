/- HeapFields: the objects are made once, and all choices of fields are tried. -/
import Derived.Test.YteogphbdpjnjoaaGreatHfB
set_option linter.unusedSimpArgs false
set_option linter.unusedVariables false
set_option maxRecDepth 1000000
namespace Go.Proofs.YteogphbdpjnjoaaGreat
open Go.RowKit

abbrev hfeL : AVs := (.cons (.y (.i .i64 1000000)) (.cons (.y (.i .i64 1000001)) (.cons (.y (.i .i64 1000002)) (.cons (.y (.i .i64 1000003)) (.cons (.y (.i .i32 1000004)) (.cons (.y (.i .i32 1000005)) .nil))))))
abbrev hfeT (i j : Nat) : List Any1 := [⟨0, [i], 3, 1000000⟩, ⟨1, [j], 3, 1000001⟩, ⟨2, List.range 6, 6, 1000002⟩, ⟨3, List.range 6, 6, 1000003⟩]
noncomputable def hfe (i j : Nat) : Bool := (restsF Tryz.prog hfX hfG 5 5 (hfeT i j)).un (fvC Tryz.prog hfX hfG hfK 10000) 10000 hfeL heap0 nx0
end Go.Proofs.YteogphbdpjnjoaaGreat
