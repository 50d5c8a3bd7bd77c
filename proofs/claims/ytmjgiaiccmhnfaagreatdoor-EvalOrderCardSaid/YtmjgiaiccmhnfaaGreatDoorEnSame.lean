/- Two lists of texts, two entries: are they one? The program's and the document's: the walks. -/
import Derived.Test.YtmjgiaiccmhnfaaGreatDoorEnRead
import Derived.Test.YtmjgiaiccmhnfaaGreatDoorEnFind
namespace Go.Proofs.YtmjgiaiccmhnfaaGreatDoor
open Go.RowKit
set_option linter.unusedVariables false

end Go.Proofs.YtmjgiaiccmhnfaaGreatDoor
