/- Texts by lists of bytes. No walk. -/
import Derived.Test.YtpnbcmblnplbgaaGreatDoorDnFold
import Derived.Test.YtpnbcmblnplbgaaGreatDoorDnFoldP
import Derived.Test.YtpnbcmblnplbgaaGreatDoorDnFoldR
import Derived.Test.YtpnbcmblnplbgaaGreatDoorDnSpec
namespace Go.Proofs.YtpnbcmblnplbgaaGreatDoor
open Go.RowKit
set_option linter.unusedVariables false

theorem then_ {w a b : World} (h : Below w.heap.size w a) (k : Below a.heap.size a b) : Below w.heap.size w b := h.trans (k.mono h.size)
def blanks (j : Nat) : ByteArray := ⟨(List.replicate j 32).toArray⟩
theorem blanks_list (j : Nat) : (blanks j).data.toList = List.replicate j 32 := by simp [blanks]
theorem blanks_size (j : Nat) : (blanks j).size = j := by rw [← bytes_len, blanks_list, List.length_replicate]
theorem blanks_succ (j : Nat) : blanks j ++ ⟨#[32]⟩ = blanks (j + 1) := bytes_ext (by rw [app_list, blanks_list, blanks_list, List.replicate_succ'])

theorem bcell {W w1 : World} (hb : Below W.heap.size W w1) : (∀ b o, b < W.heap.size → w1.cell? ⟨b, o, none⟩ = W.cell? ⟨b, o, none⟩) ∧ (∀ b o, b < W.heap.size → w1.frozen? ⟨b, o, none⟩ = W.frozen? ⟨b, o, none⟩) :=
  ⟨fun b o h => hb.cell (p := ⟨b, o, none⟩) h, fun b o h => hb.frozen (p := ⟨b, o, none⟩) h⟩

theorem str_ne {A B : ByteArray} (h : A ≠ B) : (A.toList == B.toList) = false := by
  have : ¬ A.toList = B.toList := fun e => h (bytes_ext (by rw [ByteArray.toList_eq, ByteArray.toList_eq] at e; exact e))
  simp [this]
theorem ofL_list' (l : List UInt8) : (⟨l.toArray⟩ : ByteArray).data.toList = l := by simp
theorem lowB_list (s : ByteArray) : (lowB s).data.toList = low s.data.toList := by simp [lowB]
def ofL (l : List UInt8) : ByteArray := ⟨l.toArray⟩
theorem ofL_list (l : List UInt8) : (ofL l).data.toList = l := by simp [ofL]
theorem ofL_app (a b : List UInt8) : ofL a ++ ofL b = ofL (a ++ b) := bytes_ext (by rw [app_list, ofL_list, ofL_list, ofL_list])

theorem ofL_size (l : List UInt8) : (ofL l).size = l.length := by rw [← bytes_len, ofL_list]
theorem lower_at (m : Nat) (h : m < 16) : (⟨#[48, 49, 50, 51, 52, 53, 54, 55, 56, 57, 97, 98, 99, 100, 101, 102]⟩ : ByteArray).extract m (m + 1) = ofL [digL m] := by
  refine bytes_ext ?_
  rw [ofL_list, one_byte _ m (by exact h)]
  rcases (show m = 0 ∨ m = 1 ∨ m = 2 ∨ m = 3 ∨ m = 4 ∨ m = 5 ∨ m = 6 ∨ m = 7 ∨ m = 8 ∨ m = 9 ∨ m = 10 ∨ m = 11 ∨ m = 12 ∨ m = 13 ∨ m = 14 ∨ m = 15 from by omega) with rfl | rfl | rfl | rfl | rfl | rfl | rfl | rfl | rfl | rfl | rfl | rfl | rfl | rfl | rfl | rfl <;> rfl

end Go.Proofs.YtpnbcmblnplbgaaGreatDoor
