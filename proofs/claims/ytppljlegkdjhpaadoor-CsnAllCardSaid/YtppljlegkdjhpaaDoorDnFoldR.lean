/- The document's own Fold, Up, Under: the walks. -/
import Derived.Test.YtppljlegkdjhpaaDoorDnLow
namespace Go.Proofs.YtppljlegkdjhpaaDoor
open Go.RowKit
set_option linter.unusedVariables false

theorem bytes_nil {B : ByteArray} (h : B.data.toList = []) : B.toList = [] ∧ B.toList.isEmpty = true := by
  have h1 : B.toList = [] := by rw [ByteArray.toList_eq]; exact h
  exact ⟨h1, by rw [h1]; rfl⟩
theorem bytes_some {B : ByteArray} (h : B.data.toList ≠ []) : ¬ B.toList = [] ∧ B.toList.isEmpty = false := by
  have h1 : ¬ B.toList = [] := by rw [ByteArray.toList_eq]; exact h
  exact ⟨h1, by cases h2 : B.toList with | nil => exact absurd h2 h1 | cons c r => rfl⟩
theorem bytes_len (B : ByteArray) : B.data.toList.length = B.size := by simp
theorem bytes_ext {A B : ByteArray} (h : A.data.toList = B.data.toList) : A = B := by
  apply ByteArray.ext; exact Array.toList_inj.1 h
theorem one_byte (T : ByteArray) (j : Nat) (h : j < T.size) : (T.extract j (j + 1)).data.toList = [T[j]] := by
  have h1 : j < T.data.toList.length := by simpa using h
  have : (T.extract j (j + 1)).data.toList = (T.data.toList.drop j).take 1 := by simp [ByteArray.data_extract, Array.toList_extract, List.extract]
  rw [this, List.drop_eq_getElem_cons h1]
  rfl
theorem one_size (T : ByteArray) (j : Nat) (h : j < T.size) : (T.extract j (j + 1)).size = 1 := by
  simp; omega
theorem app_list (A B : ByteArray) : (A ++ B).data.toList = A.data.toList ++ B.data.toList := by simp [ByteArray.data_append]
theorem byte_get (T : ByteArray) (j : Nat) (h : j < T.size) (h1 : j < T.data.toList.length) : T.data.toList[j] = T[j] := rfl

end Go.Proofs.YtppljlegkdjhpaaDoor
