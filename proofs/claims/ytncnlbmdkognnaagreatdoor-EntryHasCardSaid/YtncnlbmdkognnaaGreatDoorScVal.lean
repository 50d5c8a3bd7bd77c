/- schema.checkVals: the walk. -/
import Derived.Test.YtncnlbmdkognnaaGreatDoorScPure
import Derived.Test.YtncnlbmdkognnaaGreatDoorMaNorm
import Derived.Sort.OwnSorted
namespace Go.Proofs.YtncnlbmdkognnaaGreatDoor
open Go.RowKit
set_option linter.unusedVariables false

theorem below_own {B : Nat} {w0 w w' : World} {v : Value} {L : List (List UInt8)} (h : Below B w0 w) (hs : B ≤ w.heap.size) (ho : OwnS B w v L) (hg : w.grownBy w' v.ownBlock) : Below B w0 w' :=
  h.grown hg hs (fun k e => (World.ownsRow.lt ho k e).1)

end Go.Proofs.YtncnlbmdkognnaaGreatDoor
