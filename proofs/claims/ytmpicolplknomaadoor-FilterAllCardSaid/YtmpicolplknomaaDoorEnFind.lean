/- entry.find, typeName, Vals: the walks. -/
import Derived.Test.YtmpicolplknomaaDoorEnRead
namespace Go.Proofs.YtmpicolplknomaaDoor
open Go.RowKit
set_option linter.unusedVariables false

def smallA (L : List AT) : Prop := L.length ≤ 1000 ∧ ∀ a ∈ L, a.1.length ≤ 1000000 ∧ smallT a.2
def findA (L : List AT) (t : List UInt8) : List (List UInt8) := match L.find? (fun a => low a.1 == low t) with
  | some a => a.2
  | none => []
theorem findA_at {L : List AT} {t : List UInt8} (j : Nat) (hj : j < L.length) (h : ∀ k (hk : k < L.length), k < j → (low L[k].1 == low t) = false) (he : (low L[j].1 == low t) = true) : findA L t = L[j].2 := by
  have : L.find? (fun a => low a.1 == low t) = some L[j] := by
    induction L generalizing j with
    | nil => simp at hj
    | cons x l ih =>
      cases j with
      | zero => rw [List.find?_cons_of_pos (by exact he)]; rfl
      | succ j =>
        have h0 := h 0 (by simp) (by omega)
        rw [List.find?_cons_of_neg (by simpa using h0)]
        exact ih j (by simpa using hj) (fun k hk hkj => h (k + 1) (by simpa using hk) (by omega)) he
  unfold findA; rw [this]
theorem findA_no {L : List AT} {t : List UInt8} (h : ∀ k (hk : k < L.length), (low L[k].1 == low t) = false) : findA L t = [] := by
  have : L.find? (fun a => low a.1 == low t) = none := by
    rw [List.find?_eq_none]
    intro a ha
    obtain ⟨k, hk, rfl⟩ := List.getElem_of_mem ha
    simpa using h k hk
  unfold findA; rw [this]

theorem ownS_lower {B B' : Nat} {w : World} {v : Value} {L : List (List UInt8)} (h : OwnS B w v L) (hle : B' ≤ B) : OwnS B' w v L :=
  ⟨h.1, h.2.imp id fun ⟨g, cap, cur, e1, hb, rest⟩ => ⟨g, cap, cur, e1, Nat.le_trans hle hb, rest⟩⟩
end Go.Proofs.YtmpicolplknomaaDoor
