/- The document's example of chapter 3: the walk. -/
import Derived.Test.YtofmpaphafhdpaaGreatDoorMaSame
import Derived.Test.YtofmpaphafhdpaaGreatDoorMaUp
namespace Go.Proofs.YtofmpaphafhdpaaGreatDoor
open Go.RowKit
set_option linter.unusedVariables false

theorem rule_cn : ruleD [99, 110] = 1 := by decide
theorem rule_sn : ruleD [115, 110] = 1 := by decide
theorem rule_mail : ruleD [109, 97, 105, 108] = 1 := by decide
theorem rule_pass : ruleD [117, 115, 101, 114, 80, 97, 115, 115, 119, 111, 114, 100] = 4 := by decide

end Go.Proofs.YtofmpaphafhdpaaGreatDoor
