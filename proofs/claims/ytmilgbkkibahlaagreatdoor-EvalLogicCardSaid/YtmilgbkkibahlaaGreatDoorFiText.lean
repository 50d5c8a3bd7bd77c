/- filter.sign, isPlain, writeVal, write, Text: the walks. -/
import Derived.Test.YtmilgbkkibahlaaGreatDoorFiMayW
import Derived.Test.YtmilgbkkibahlaaGreatDoorDnText
namespace Go.Proofs.YtmilgbkkibahlaaGreatDoor
open Go.RowKit
set_option linter.unusedVariables false
set_option linter.unusedSimpArgs false

def markIx (c : UInt8) : Bool := decide (Lib.indexByte [42, 40, 41, 92] c < 0) == !(c == 42 || c == 40 || c == 41 || c == 92)
theorem mark_ix (c : UInt8) : decide (Lib.indexByte [42, 40, 41, 92] c < 0) = !(c == 42 || c == 40 || c == 41 || c == 92) := by
  have := all_bytes markIx (by decide +kernel) c
  unfold markIx at this
  simpa using this
theorem quoC_len (c : UInt8) : (quoC c).length ≤ 3 := by unfold quoC; split <;> simp
theorem quo_len : ∀ v : List UInt8, (quo v).length ≤ 3 * v.length
  | [] => by simp [quo]
  | c :: r => by
    have := quoC_len c
    have := quo_len r
    simp only [quo, List.length_append, List.length_cons]; omega
/-- The builder holds l and what has been written of v so far. -/
def WroteF (B b : Nat) (l : List UInt8) (v : ByteArray) (j : Nat) (w : World) : Prop := ∃ E, E ++ quo (v.data.toList.drop j) = quo v.data.toList ∧ Bld' B b (l ++ E) w

end Go.Proofs.YtmilgbkkibahlaaGreatDoor
