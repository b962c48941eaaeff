/- Parts of the proof: Lex. -/
import Derived.Test.YtipcoglddfgopaaGreatDoorProg
import Derived.WalkKit
import Derived.Deep.QuietTactic
import Derived.BigQuiet
set_option linter.unusedSimpArgs false
set_option linter.unusedVariables false
namespace Go.Proofs.YtipcoglddfgopaaGreatDoor
end Go.Proofs.YtipcoglddfgopaaGreatDoor
