/- What the contracts of the document's own answers import. -/
import Derived.Test.YtinjlmkdhgaeeaaShelf
import Derived.Test.YtinjlmkdhgaeeaaText
import Derived.Lib.Hide
import Derived.WalkKit
import Derived.BigCall
import Derived.Deep.QuietTactic
import Derived.BigQuiet
set_option linter.unusedSimpArgs false
set_option linter.unusedVariables false
namespace Go.Proofs.Ytinjlmkdhgaeeaa
open Go.RowKit

end Go.Proofs.Ytinjlmkdhgaeeaa
