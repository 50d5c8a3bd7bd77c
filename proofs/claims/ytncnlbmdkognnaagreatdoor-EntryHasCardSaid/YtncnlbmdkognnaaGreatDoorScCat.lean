/- slices.Grow, Concat, Contains at texts: the walks. -/
import Derived.Test.YtncnlbmdkognnaaGreatDoorScOwn
import Derived.Lib.AppendZerosOnto
import Derived.Deep.Upon
namespace Go.Proofs.YtncnlbmdkognnaaGreatDoor
open Go.RowKit
set_option linter.unusedVariables false

theorem flat_take {α : Type} (U : List (List α)) (j : Nat) (h : j < U.length) : (U.take (j + 1)).flatten = (U.take j).flatten ++ U[j] := by
  rw [List.take_succ_eq_append_getElem h, List.flatten_append]
  simp
theorem flat_le {α : Type} (U : List (List α)) (j : Nat) : (U.take j).flatten.length ≤ U.flatten.length := by
  have : U.flatten = (U.take j).flatten ++ (U.drop j).flatten := by rw [← List.flatten_append, List.take_append_drop]
  rw [this, List.length_append]
  omega

/-- A list of lists of texts, below block n0. -/
def IsTT (n0 : Nat) (w : World) (U : List (List (List UInt8))) (v : Value) : Prop := ∃ a c, v = .slice a U.length c ∧ ∀ j, (h : j < U.length) → ∃ b off u, a = some ⟨b, off, none⟩ ∧ b < n0 ∧ w.cell? ⟨b, off + j, none⟩ = some u ∧ IsT n0 w U[j] u

end Go.Proofs.YtncnlbmdkognnaaGreatDoor
