/- What is like another value has its norm; the norm of a norm is that: the walk. -/
import Derived.Test.YtjffidegmonkfaaDoorMaAwake
import Derived.Test.YtjffidegmonkfaaDoorMaKeyP
namespace Go.Proofs.YtjffidegmonkfaaDoor
open Go.RowKit
set_option linter.unusedVariables false

/-- The twelve texts of the statement's list. -/
def tyL : List (List UInt8) := kindsL.map (·.1) ++ [[110, 111, 110, 101]]
def tyB (k : Nat) : ByteArray := ⟨(tyL.getD k []).toArray⟩
theorem sameO_symm (p q : Option (List UInt8)) : sameO p q = sameO q p := by
  cases p <;> cases q <;> simp [sameO]
  exact Bool.eq_iff_iff.2 ⟨fun h => by simpa using (by simpa using h : _ = _).symm, fun h => by simpa using (by simpa using h : _ = _).symm⟩

theorem normD_nil (r : Nat) : normD r [] = none := by unfold normD; rw [if_pos (.inl rfl)]
theorem norm_at (T s : ByteArray) (r : Nat) (hr : ruleD T.data.toList = r) (o : Option (List UInt8)) (h : normD r s.data.toList = o) (v : Value) (hv : saidP o = v) (w : World) (hw : LaidW w) :
    Calls Tryd.prog 7 #[.string T, .string s] w fun e w' => e = .returned v ∧ Below w.heap.size w w' := by
  have := norm_any T s w hw
  rw [hr, h, hv] at this
  exact this
theorem same_at (T s t : ByteArray) (r : Nat) (hr : ruleD T.data.toList = r) (o q : Option (List UInt8)) (h : normD r s.data.toList = o) (k : normD r t.data.toList = q) (v : Bool) (hv : sameO o q = v) (w : World) (hw : LaidW w) :
    Calls Tryd.prog 10 #[.string T, .string s, .string t] w fun e w' => e = .returned (.bool v) ∧ Below w.heap.size w w' := by
  have := same_any T s t w hw
  rw [hr, h, k, hv] at this
  exact this

end Go.Proofs.YtjffidegmonkfaaDoor
