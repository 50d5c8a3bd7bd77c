/- Two lists of texts, two entries: are they one? The program's and the document's: the walks. -/
import Derived.Test.YtmilgbkkibahlaaGreatDoorEnRead
import Derived.Test.YtmilgbkkibahlaaGreatDoorEnFind
namespace Go.Proofs.YtmilgbkkibahlaaGreatDoor
open Go.RowKit
set_option linter.unusedVariables false

end Go.Proofs.YtmilgbkkibahlaaGreatDoor
