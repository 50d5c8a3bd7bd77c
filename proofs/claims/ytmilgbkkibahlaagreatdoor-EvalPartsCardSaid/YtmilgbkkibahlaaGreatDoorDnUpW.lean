/- dn.Up and dn.mayVal; strings.Clone's contract as a hypothesis. -/
import Derived.Test.YtmilgbkkibahlaaGreatDoorDnType
namespace Go.Proofs.YtmilgbkkibahlaaGreatDoor
open Go.RowKit
set_option linter.unusedVariables false

theorem mayVal_any (s : ByteArray) (w : World) : Calls Tryz.prog 111 #[.string s] w fun e w' => e = .returned (.bool (!s.data.toList.isEmpty && decide (s.size ≤ 100))) ∧ w = w' := by
  by_cases hne : s.data.toList = []
  · obtain ⟨e1, e2⟩ := bytes_nil hne
    have hr : (!s.data.toList.isEmpty && decide (s.size ≤ 100)) = false := by rw [hne]; rfl
    rw [hr]
    go_enter Tryz.func111, Tryz.ntmps111
    go_wp2
    go_ret
    exact ⟨rfl, rfl⟩
  · obtain ⟨e1, e2⟩ := bytes_some hne
    have he : s.data.toList.isEmpty = false := by cases h : s.data.toList with | nil => exact absurd h hne | cons x r => rfl
    obtain ⟨b, hb⟩ : ∃ b, b = decide ((s.size : Int) ≤ 100) := ⟨_, rfl⟩
    have hb2 : decide (s.size ≤ 100) = b := by rw [hb, Bool.eq_iff_iff]; simp; omega
    rw [he, hb2]
    have hb3 := hb.symm
    clear he hb hb2
    cases b <;> (
      go_enter Tryz.func111, Tryz.ntmps111
      go_wp2
      go_ret
      exact ⟨rfl, rfl⟩)
end Go.Proofs.YtmilgbkkibahlaaGreatDoor
