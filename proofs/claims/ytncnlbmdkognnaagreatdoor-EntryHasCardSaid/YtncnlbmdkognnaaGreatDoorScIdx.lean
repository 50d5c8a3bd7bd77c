/- slices.Index, Contains at texts; IndexFunc, ContainsFunc with isNamed's question; isNamed: the walks. -/
import Derived.Test.YtncnlbmdkognnaaGreatDoorScPure
import Derived.Test.YtncnlbmdkognnaaGreatDoorEnHas
import Derived.Test.YtncnlbmdkognnaaGreatDoorDnParse
import Derived.Deep.RegionLaw
namespace Go.Proofs.YtncnlbmdkognnaaGreatDoor
open Go.RowKit
set_option linter.unusedVariables false

/-- A box of one slice. -/
def Box1 (w : World) (b : Nat) (x : Value) : Prop := w.cell? ⟨b, 0, none⟩ = some x
theorem Box1.below {w w' : World} {b n : Nat} {x : Value} (h : Box1 w b x) (hb : Below n w w') (hn : b < n) : Box1 w' b x := (hb.cell (p := ⟨b, 0, none⟩) hn).trans h
theorem box1_new (w : World) (x : Value) (e : TypeId) : Box1 (w.alloc (.cells #[x] e)) w.heap.size x := by
  have h : (w.alloc (.cells #[x] e)).heap[w.heap.size]? = some (.cells #[x] e (0, 0)) := heap_alloc_new w _
  simp only [Box1, World.cell?, h]; rfl

end Go.Proofs.YtncnlbmdkognnaaGreatDoor
