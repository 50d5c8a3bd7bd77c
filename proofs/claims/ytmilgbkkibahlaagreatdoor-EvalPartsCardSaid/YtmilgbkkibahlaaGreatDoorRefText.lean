/- The document's two, escaped: the walks. -/
import Derived.Test.YtmilgbkkibahlaaGreatDoorOfL
import Derived.Test.YtmilgbkkibahlaaGreatDoorDnTextW
import Derived.Test.YtmilgbkkibahlaaGreatDoorDnLowAll
import Derived.Deep.QuietTactic
import Derived.BigQuiet
namespace Go.Proofs.YtmilgbkkibahlaaGreatDoor
open Go.RowKit
set_option linter.unusedVariables false

theorem drew_below {w : World} (n : Nat) : Below w.heap.size w (w.drewN n) := ⟨rfl, rfl, rfl, Nat.le_refl _, fun _ _ => rfl⟩

theorem need_ref (c : UInt8) (f l : Bool) (h : kindC c ≠ 0) : needC c f l = (([44, 43, 34, 92, 60, 62, 59] : List UInt8).contains c || (f && (decide (c.toNat = 35) || decide (c.toNat = 32))) || (l && decide (c.toNat = 32))) := by
  have := all_bytes (fun c => kindC c == 0 || (([true, false].all fun f => [true, false].all fun l => needC c f l == (([44, 43, 34, 92, 60, 62, 59] : List UInt8).contains c || (f && (decide (c.toNat = 35) || decide (c.toNat = 32))) || (l && decide (c.toNat = 32)))))) (by decide +kernel) c
  simp only [Bool.or_eq_true, beq_iff_eq, List.all_cons, List.all_nil, Bool.and_true, Bool.and_eq_true] at this
  have := this.resolve_left h
  cases f <;> cases l
  · exact this.2.2
  · exact this.2.1
  · exact this.1.2
  · exact this.1.1
theorem kind_zero (c : UInt8) : kindC c = 0 ↔ (c.toNat < 32 ∨ 126 < c.toNat) := by
  have := all_bytes (fun c => decide (kindC c = 0 ↔ (c.toNat < 32 ∨ 126 < c.toNat))) (by decide +kernel) c
  exact of_decide_eq_true this

def OutE (s : ByteArray) (j : Nat) (x : Value) : Prop := ∃ E, x = .string (ofL E) ∧ E ++ escR (decide (j = 0)) (s.data.toList.drop j) = escV s.data.toList

end Go.Proofs.YtmilgbkkibahlaaGreatDoor
