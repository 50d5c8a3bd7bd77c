/- schema.checkVals: the walk. -/
import Derived.Test.YtjenbkdfbendlaaGreatDoorScPure
import Derived.Test.YtjenbkdfbendlaaGreatDoorMaNorm
import Derived.Sort.OwnSorted
namespace Go.Proofs.YtjenbkdfbendlaaGreatDoor
open Go.RowKit
set_option linter.unusedVariables false

theorem below_own {B : Nat} {w0 w w' : World} {v : Value} {L : List (List UInt8)} (h : Below B w0 w) (hs : B ≤ w.heap.size) (ho : OwnS B w v L) (hg : w.grownBy w' v.ownBlock) : Below B w0 w' :=
  h.grown hg hs (fun k e => (World.ownsRow.lt ho k e).1)

end Go.Proofs.YtjenbkdfbendlaaGreatDoor
