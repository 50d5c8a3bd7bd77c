/- The document's example: awake. -/
import Derived.Test.YtimkobcclkjdeaaDnKey
import Derived.Test.YtimkobcclkjdeaaDnFoldW
namespace Go.Proofs.Ytimkobcclkjdeaa
open Go.RowKit
set_option linter.unusedVariables false

def annB : ByteArray := ⟨#[67, 78, 61, 65, 110, 110, 32, 32, 76, 101, 101, 44, 79, 61, 120]⟩
theorem key_ann : keyD annB.data.toList = some [99, 110, 61, 97, 110, 110, 32, 108, 101, 101, 44, 111, 61, 120] := by kernel_rfl

set_option maxHeartbeats 400000 in
theorem awake_any (w : World) : Calls Try.prog 11 #[] w fun e w' => e = .returned (.bool true) ∧ Below w.heap.size w w' := by
  have hk := fun w : World => key_any annB (by decide) w
  rw [key_ann] at hk
  simp only [keyV] at hk
  have HK := Lib.hid hk
  clear hk
  go_enter Try.func11, Try.ntmps11
  go_wp2_with (go_at_call 14; refine (HK.out _).mono ?_; rintro e w1 ⟨rfl, hb1⟩)
  go_ret
  exact ⟨rfl, hb1⟩
end Go.Proofs.Ytimkobcclkjdeaa
