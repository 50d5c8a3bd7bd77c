/- dn.Up and dn.mayVal; strings.Clone's contract as a hypothesis. -/
import Derived.Test.YtboikgcheclapaaDoorDnType
namespace Go.Proofs.YtboikgcheclapaaDoor
open Go.RowKit
set_option linter.unusedVariables false

end Go.Proofs.YtboikgcheclapaaDoor
