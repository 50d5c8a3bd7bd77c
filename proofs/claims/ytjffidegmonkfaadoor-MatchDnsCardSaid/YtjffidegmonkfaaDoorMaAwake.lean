/- The document's example of chapter 3: the walk. -/
import Derived.Test.YtjffidegmonkfaaDoorMaSame
import Derived.Test.YtjffidegmonkfaaDoorMaUp
namespace Go.Proofs.YtjffidegmonkfaaDoor
open Go.RowKit
set_option linter.unusedVariables false

theorem rule_cn : ruleD [99, 110] = 1 := by decide
theorem rule_sn : ruleD [115, 110] = 1 := by decide
theorem rule_mail : ruleD [109, 97, 105, 108] = 1 := by decide
theorem rule_pass : ruleD [117, 115, 101, 114, 80, 97, 115, 115, 119, 111, 114, 100] = 4 := by decide

set_option maxRecDepth 100000 in
set_option maxHeartbeats 1000000 in
theorem awake3_any (w : World) (hw : LaidW w) : Calls Tryd.prog 4 #[] w fun e w' => e = .returned (.bool true) ∧ Below w.heap.size w w' := by
  have h1 := fun w hw => same_any ⟨#[99, 110]⟩ ⟨#[65, 110, 110]⟩ ⟨#[32, 65, 78, 78]⟩ w hw
  have h2 := fun w hw => same_any ⟨#[99, 110]⟩ ⟨#[65, 110, 110]⟩ ⟨#[65, 110]⟩ w hw
  have e1 : sameO (normD (ruleD (⟨#[99, 110]⟩ : ByteArray).data.toList) (⟨#[65, 110, 110]⟩ : ByteArray).data.toList) (normD (ruleD (⟨#[99, 110]⟩ : ByteArray).data.toList) (⟨#[32, 65, 78, 78]⟩ : ByteArray).data.toList) = true := by decide +kernel
  have e2 : sameO (normD (ruleD (⟨#[99, 110]⟩ : ByteArray).data.toList) (⟨#[65, 110, 110]⟩ : ByteArray).data.toList) (normD (ruleD (⟨#[99, 110]⟩ : ByteArray).data.toList) (⟨#[65, 110]⟩ : ByteArray).data.toList) = false := by decide +kernel
  simp only [e1] at h1
  simp only [e2] at h2
  have H1 := Lib.hid h1
  have H2 := Lib.hid h2
  have HW := Lib.hid hw
  have tok : True := trivial
  clear h1 h2 e1 e2 hw
  go_enter Tryd.func4, Tryd.ntmps4
  go_wp2_with (go_at_call 10; first | (have _t := tok; (with_reducible refine (H1.out _ HW.out).mono ?_); rintro e w1 ⟨rfl, hb1⟩; have HB := Lib.hid hb1; clear hb1 tok) | ((with_reducible refine (H2.out _ (HW.out.below HB.out)).mono ?_); rintro e w2 ⟨rfl, hb2⟩; have HB := Lib.hid (bthen HB.out hb2); clear hb2))
  go_ret
  exact ⟨rfl, HB.out⟩
end Go.Proofs.YtjffidegmonkfaaDoor
