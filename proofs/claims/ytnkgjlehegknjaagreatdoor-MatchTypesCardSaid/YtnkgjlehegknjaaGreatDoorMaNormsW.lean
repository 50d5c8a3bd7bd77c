/- What is like another value has its norm; the norm of a norm is that: the walk. -/
import Derived.Test.YtnkgjlehegknjaaGreatDoorMaAwake
import Derived.Test.YtnkgjlehegknjaaGreatDoorMaKeyP
namespace Go.Proofs.YtnkgjlehegknjaaGreatDoor
open Go.RowKit
set_option linter.unusedVariables false

/-- The twelve texts of the statement's list. -/
def tyL : List (List UInt8) := kindsL.map (·.1) ++ [[110, 111, 110, 101]]
def tyB (k : Nat) : ByteArray := ⟨(tyL.getD k []).toArray⟩
set_option maxRecDepth 100000 in
set_option maxHeartbeats 1000000 in
theorem types_any (w : World) : Calls Tryz.prog 16 #[] w fun e w' => e = .returned (.slice (some ⟨w.heap.size, 0, none⟩) 12 12) ∧ (∀ k, k < 12 → w'.cell? ⟨w.heap.size, k, none⟩ = some (.string (tyB k))) ∧ w.heap.size < w'.heap.size ∧ Below w.heap.size w w' := by
  go_enter Tryz.func16, Tryz.ntmps16
  go_wp2
  go_ret
  refine ⟨rfl, fun k hk => ?_, by simp, (Below.refl _ _).alloc (Nat.le_refl _) _⟩
  rcases (show k = 0 ∨ k = 1 ∨ k = 2 ∨ k = 3 ∨ k = 4 ∨ k = 5 ∨ k = 6 ∨ k = 7 ∨ k = 8 ∨ k = 9 ∨ k = 10 ∨ k = 11 from by omega) with rfl | rfl | rfl | rfl | rfl | rfl | rfl | rfl | rfl | rfl | rfl | rfl <;> simp <;> rfl

theorem sameO_symm (p q : Option (List UInt8)) : sameO p q = sameO q p := by
  cases p <;> cases q <;> simp [sameO]
  exact Bool.eq_iff_iff.2 ⟨fun h => by simpa using (by simpa using h : _ = _).symm, fun h => by simpa using (by simpa using h : _ = _).symm⟩

theorem normD_nil (r : Nat) : normD r [] = none := by unfold normD; rw [if_pos (.inl rfl)]
theorem norm_at (T s : ByteArray) (r : Nat) (hr : ruleD T.data.toList = r) (o : Option (List UInt8)) (h : normD r s.data.toList = o) (v : Value) (hv : saidP o = v) (w : World) (hw : LaidW w) :
    Calls Tryz.prog 8 #[.string T, .string s] w fun e w' => e = .returned v ∧ Below w.heap.size w w' := by
  have := norm_any T s w hw
  rw [hr, h, hv] at this
  exact this
theorem same_at (T s t : ByteArray) (r : Nat) (hr : ruleD T.data.toList = r) (o q : Option (List UInt8)) (h : normD r s.data.toList = o) (k : normD r t.data.toList = q) (v : Bool) (hv : sameO o q = v) (w : World) (hw : LaidW w) :
    Calls Tryz.prog 14 #[.string T, .string s, .string t] w fun e w' => e = .returned (.bool v) ∧ Below w.heap.size w w' := by
  have := same_any T s t w hw
  rw [hr, h, k, hv] at this
  exact this

end Go.Proofs.YtnkgjlehegknjaaGreatDoor
