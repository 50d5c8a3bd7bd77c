/- Two lists of texts, two entries: are they one? The program's and the document's: the walks. -/
import Derived.Test.YtdgnefcpeocbjaaGreatDoorEnRead
import Derived.Test.YtdgnefcpeocbjaaGreatDoorEnFind
namespace Go.Proofs.YtdgnefcpeocbjaaGreatDoor
open Go.RowKit
set_option linter.unusedVariables false

end Go.Proofs.YtdgnefcpeocbjaaGreatDoor
