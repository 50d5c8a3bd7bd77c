/- dn.Up and dn.mayVal; strings.Clone's contract as a hypothesis. -/
import Derived.Test.YtmpicolplknomaaDoorDnType
namespace Go.Proofs.YtmpicolplknomaaDoor
open Go.RowKit
set_option linter.unusedVariables false

end Go.Proofs.YtmpicolplknomaaDoor
