/- dn.Up and dn.mayVal; strings.Clone's contract as a hypothesis. -/
import Derived.Test.YtpnbcmblnplbgaaGreatDoorDnType
namespace Go.Proofs.YtpnbcmblnplbgaaGreatDoor
open Go.RowKit
set_option linter.unusedVariables false

set_option maxHeartbeats 400000 in
theorem dnUp_any (clone : ∀ (B : ByteArray) (w : World), B.size ≤ 281474976710656 → Calls Tryz.prog 63 #[.string B] w fun e w' => e = .returned (.string B) ∧ Below w.heap.size w w')
    (s : ByteArray) (w : World) (hs : s.size ≤ 281474976710656) :
    Calls Tryz.prog 39 #[.string s] w fun e w' => e = .returned (.string (upB s)) ∧ Below w.heap.size w w' := by
  have hl : (upB s).size ≤ 281474976710656 := by
    have h2 := upB_size s
    by_cases hn : s.data.toList = []
    · have h3 : (upD s.data.toList).length = 0 := by rw [hn]; rfl
      omega
    · have h := upD_lt s.data.toList hn
      rw [bytes_len] at h
      omega
  have hc := fun w => clone (upB s) w hl
  have hcut := fun w => cut_below s w hs
  unfold cutV at hcut
  have HC := Lib.hid hc
  have HCut := Lib.hid hcut
  clear hc hcut clone
  go_enter Tryz.func39, Tryz.ntmps39
  go_wp2_with (first
    | (go_at_call 62; refine (HCut.out _).mono ?_; rintro e w2 ⟨rfl, hb2⟩; have HB2 := Lib.hid hb2; clear hb2)
    | (go_at_call 63; refine (HC.out _).mono ?_; rintro e w3 ⟨rfl, hb3⟩; have HB3 := Lib.hid hb3; clear hb3))
  go_ret
  exact ⟨rfl, HB2.out.trans (HB3.out.mono HB2.out.size)⟩

theorem mayVal_any (s : ByteArray) (w : World) : Calls Tryz.prog 125 #[.string s] w fun e w' => e = .returned (.bool (!s.data.toList.isEmpty && decide (s.size ≤ 100))) ∧ w = w' := by
  by_cases hne : s.data.toList = []
  · obtain ⟨e1, e2⟩ := bytes_nil hne
    have hr : (!s.data.toList.isEmpty && decide (s.size ≤ 100)) = false := by rw [hne]; rfl
    rw [hr]
    go_enter Tryz.func125, Tryz.ntmps125
    go_wp2
    go_ret
    exact ⟨rfl, rfl⟩
  · obtain ⟨e1, e2⟩ := bytes_some hne
    have he : s.data.toList.isEmpty = false := by cases h : s.data.toList with | nil => exact absurd h hne | cons x r => rfl
    obtain ⟨b, hb⟩ : ∃ b, b = decide ((s.size : Int) ≤ 100) := ⟨_, rfl⟩
    have hb2 : decide (s.size ≤ 100) = b := by rw [hb, Bool.eq_iff_iff]; simp; omega
    rw [he, hb2]
    have hb3 := hb.symm
    clear he hb hb2
    cases b <;> (
      go_enter Tryz.func125, Tryz.ntmps125
      go_wp2
      go_ret
      exact ⟨rfl, rfl⟩)
end Go.Proofs.YtpnbcmblnplbgaaGreatDoor
