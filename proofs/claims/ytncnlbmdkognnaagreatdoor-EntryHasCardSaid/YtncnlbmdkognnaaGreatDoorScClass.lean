/- row.class: the walk. -/
import Derived.Test.YtncnlbmdkognnaaGreatDoorScRow
import Derived.BigQuiet
import Derived.Deep.RegionLaw
import Derived.Deep.RegionHeld3
namespace Go.Proofs.YtncnlbmdkognnaaGreatDoor
open Go.RowKit
set_option linter.unusedVariables false

end Go.Proofs.YtncnlbmdkognnaaGreatDoor
