/- dn.Up and dn.mayVal; strings.Clone's contract as a hypothesis. -/
import Derived.Test.YtdcfmgnpjmpboaaDoorDnType
namespace Go.Proofs.YtdcfmgnpjmpboaaDoor
open Go.RowKit
set_option linter.unusedVariables false

end Go.Proofs.YtdcfmgnpjmpboaaDoor
