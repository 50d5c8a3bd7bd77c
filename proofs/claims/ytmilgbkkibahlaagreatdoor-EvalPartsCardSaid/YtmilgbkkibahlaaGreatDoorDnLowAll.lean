/- dn.lowerAll; the document's in: is a byte in a text. -/
import Derived.Test.YtmilgbkkibahlaaGreatDoorDnOwn
namespace Go.Proofs.YtmilgbkkibahlaaGreatDoor
open Go.RowKit
set_option linter.unusedVariables false

set_option maxRecDepth 100000 in
set_option maxHeartbeats 1000000 in
theorem lowerAll_any (s : ByteArray) (w : World) (hs : s.size ≤ 281474976710656) :
    Calls Tryz.prog 74 #[.string s] w fun e w' => e = .returned (.string (lowB s)) ∧ Below w.heap.size w w' := by
  have hcv := fun w => Lib.run_convert_string_bytes (P := Tryz.prog) w 9 22 5 s Tryz.underlying9 Tryz.underlying22 Tryz.underlying5
  go_enter Tryz.func74, Tryz.ntmps74
  go_wp2
  clear hcv
  generalize grownCap w s.size 0 5 = cap
  go_loopw [10] (fun i wr => ∃ j : Nat, j ≤ s.size ∧ i = .int .i64 j ∧ LowAt w s j wr) (fun i _ => s.size - (intOf i).toNat)
  case atStart => exact ⟨0, by omega, rfl, lowAt_start w s⟩
  case round =>
    obtain ⟨j, hj, rfl, hlow⟩ := hrel
    by_cases hlt : j < s.size
    · have t1 : decide ((j : Int) < (s.size : Int)) = true := by simp; omega
      obtain ⟨c0, f0⟩ := hlow.cell hlt
      obtain ⟨c, hc⟩ : ∃ c : UInt8, c = s[j] := ⟨_, rfl⟩
      rw [← hc] at c0
      have hcl := c.toNat_lt
      have HSt := Lib.hid (hlow.store hlt ((lowC c).toNat : Int) (by rw [hc]))
      have hl := fun w => lower_any c w
      have HL := Lib.hid hl
      clear hlow hc hl
      go_wp2_with (go_at_call 67; refine (HL.out _).mono ?_; rintro e w2 ⟨rfl, rfl⟩)
      go_roundw
      case rel => exact ⟨j + 1, by omega, by go_num, HSt.out⟩
      case measure => simp [intOf]; omega
    · obtain rfl : j = s.size := by omega
      have t1 : decide ((s.size : Int) < (s.size : Int)) = false := by simp
      have hcv := hlow.conv (cap := cap)
      have HLow := Lib.hid hlow
      clear hlow
      go_wp2
      go_ret
      exact ⟨rfl, HLow.out.1⟩

end Go.Proofs.YtmilgbkkibahlaaGreatDoor
