/- The library's functions, as the calls of package dn meet them; kinds of bytes, digits. -/
import Derived.Test.YtmpicolplknomaaDoorShelf
import Derived.Test.YtmpicolplknomaaDoorDnFold
import Derived.Test.YtmpicolplknomaaDoorDnType
import Derived.Test.YtmpicolplknomaaDoorDnUpW
import Derived.Test.YtmpicolplknomaaDoorDnSpec
namespace Go.Proofs.YtmpicolplknomaaDoor
open Go.RowKit
set_option linter.unusedVariables false

theorem clone_any (B : ByteArray) (w : World) (h : B.size ≤ 281474976710656) : Calls Tryd.prog 46 #[.string B] w fun e w' => e = .returned (.string B) ∧ Below w.heap.size w w' := by
  have hc := fun w => Tryd.stringslite_Clone B w h
  have HC := Lib.hid hc
  clear hc
  go_enter Tryd.func46, Tryd.ntmps46
  go_wp2_with (go_at_call 67; refine (HC.out _).mono ?_; rintro e w2 ⟨rfl, hb⟩)
  go_ret
  exact ⟨rfl, hb⟩
theorem idx_any (s : ByteArray) (c : UInt8) (w : World) : Calls Tryd.prog 71 #[.string s, .int .u8 c.toNat] w fun e w' => e = .returned (.int .i64 (Lib.indexByte s.data.toList c)) ∧ w = w' :=
  (Tryd.strings_IndexByte s c.toNat w).mono fun _ _ ⟨he, hw⟩ => ⟨by rw [he]; simp, hw.symm⟩

theorem marked_idx (c : UInt8) : decide (0 ≤ Lib.indexByte [44, 43, 34, 92, 60, 62, 59] c) = ([44, 43, 34, 92, 60, 62, 59] : List UInt8).contains c := by
  have := all_bytes (fun c => decide (0 ≤ Lib.indexByte [44, 43, 34, 92, 60, 62, 59] c) == ([44, 43, 34, 92, 60, 62, 59] : List UInt8).contains c) (by decide +kernel) c
  simpa using this

theorem kindC_le (c : UInt8) : kindC c ≤ 5 := by unfold kindC; split <;> (try split) <;> (try split) <;> (try split) <;> (try split) <;> omega

theorem hex_idx (c : UInt8) : (hexB c = true → Lib.indexByte digs (lowC c) = (hexN c : Int) ∧ hexN c < 16) ∧ (hexB c = false → Lib.indexByte digs (lowC c) = -1) := by
  have := all_bytes (fun c => if hexB c then decide (Lib.indexByte digs (lowC c) = (hexN c : Int) ∧ hexN c < 16) else decide (Lib.indexByte digs (lowC c) = -1)) (by decide +kernel) c
  constructor
  · intro h; rw [h] at this; simpa using this
  · intro h; rw [h] at this; simpa using this

def digV (c : UInt8) : Nat := if hexB c then hexN c else 0

end Go.Proofs.YtmpicolplknomaaDoor
