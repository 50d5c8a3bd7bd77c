/- Types of entries' parts: letters, digits; the program's and the document's. -/
import Derived.Test.YtmpicolplknomaaDoorDnOwn
namespace Go.Proofs.YtmpicolplknomaaDoor
open Go.RowKit
set_option linter.unusedVariables false

theorem letC_two (c : UInt8) : letC c = ((decide (97 ≤ c.toNat) && decide (c.toNat ≤ 122)) || (decide (65 ≤ c.toNat) && decide (c.toNat ≤ 90))) := by
  have h := lowC_toNat c
  have hc := c.toNat_lt
  unfold letC
  rw [h]
  split
  · rw [Bool.eq_iff_iff]; simp; omega
  · rw [Bool.eq_iff_iff]; simp; omega

set_option maxHeartbeats 1000000 in
theorem letterRef_any (c : UInt8) (w : World) : Calls Tryd.prog 30 #[.int .u8 c.toNat] w fun e w' => e = .returned (.bool (letC c)) ∧ w = w' := by
  have hml := c.toNat_lt
  rw [letC_two]
  obtain ⟨t1, h1⟩ : ∃ b, decide ((97 : Int) ≤ (c.toNat : Int)) = b := ⟨_, rfl⟩
  obtain ⟨t2, h2⟩ : ∃ b, decide ((c.toNat : Int) ≤ 122) = b := ⟨_, rfl⟩
  obtain ⟨t3, h3⟩ : ∃ b, decide ((65 : Int) ≤ (c.toNat : Int)) = b := ⟨_, rfl⟩
  obtain ⟨t4, h4⟩ : ∃ b, decide ((c.toNat : Int) ≤ 90) = b := ⟨_, rfl⟩
  have g1 : decide (97 ≤ c.toNat) = t1 := by rw [← h1]; simp; omega
  have g2 : decide (c.toNat ≤ 122) = t2 := by rw [← h2]; simp; omega
  have g3 : decide (65 ≤ c.toNat) = t3 := by rw [← h3]; simp; omega
  have g4 : decide (c.toNat ≤ 90) = t4 := by rw [← h4]; simp; omega
  rw [g1, g2, g3, g4]
  clear g1 g2 g3 g4
  cases t1 <;> cases t2 <;> cases t3 <;> cases t4 <;> (go_enter Tryd.func30, Tryd.ntmps30; go_wp2; go_ret; exact ⟨rfl, rfl⟩)


end Go.Proofs.YtmpicolplknomaaDoor
