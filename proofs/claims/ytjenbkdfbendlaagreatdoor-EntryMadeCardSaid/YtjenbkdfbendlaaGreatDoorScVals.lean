/- schema.valsOf, has, most: the walks. -/
import Derived.Test.YtjenbkdfbendlaaGreatDoorEnFind
namespace Go.Proofs.YtjenbkdfbendlaaGreatDoor
open Go.RowKit
set_option linter.unusedVariables false

/-- The values of the first attribute of a type, by its very letters. -/
def valsS (L : List AT) (t : List UInt8) : List (List UInt8) := match L.find? (fun a => a.1 == t) with
  | some a => a.2
  | none => []
def hasS (L : List AT) (t : List UInt8) : Bool := decide (0 < (valsS L t).length)
def mostS (t : List UInt8) : Int := if t = [117, 105, 100, 110, 117, 109, 98, 101, 114] then 1 else 40
theorem valsS_at {L : List AT} {t : List UInt8} (j : Nat) (hj : j < L.length) (h : ∀ k (hk : k < L.length), k < j → L[k].1 ≠ t) (he : L[j].1 = t) : valsS L t = L[j].2 := by
  have : L.find? (fun a => a.1 == t) = some L[j] := by
    induction L generalizing j with
    | nil => simp at hj
    | cons x l ih =>
      cases j with
      | zero => rw [List.find?_cons_of_pos (by simpa using he)]; rfl
      | succ j =>
        have h0 := h 0 (by simp) (by omega)
        rw [List.find?_cons_of_neg (by simpa using h0)]
        exact ih j (by simpa using hj) (fun k hk hkj => h (k + 1) (by simpa using hk) (by omega)) he
  unfold valsS; rw [this]
theorem valsS_no {L : List AT} {t : List UInt8} (h : ∀ k (hk : k < L.length), L[k].1 ≠ t) : valsS L t = [] := by
  have : L.find? (fun a => a.1 == t) = none := by
    rw [List.find?_eq_none]
    intro a ha
    obtain ⟨k, hk, rfl⟩ := List.getElem_of_mem ha
    simpa using h k hk
  unfold valsS; rw [this]

end Go.Proofs.YtjenbkdfbendlaaGreatDoor
