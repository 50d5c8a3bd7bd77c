/- Parts of a name in a row of the call's own; dn.Parse: the walk. -/
import Derived.Test.YtmpicolplknomaaDoorDnCut
namespace Go.Proofs.YtmpicolplknomaaDoor
open Go.RowKit
set_option linter.unusedVariables false

def strV (l : List UInt8) : Value := .string ⟨l.toArray⟩
def cellsR : List R → List Value
  | [] => []
  | r :: l => strV r.1 :: strV r.2 :: cellsR l
theorem cellsR_append : ∀ a b : List R, cellsR (a ++ b) = cellsR a ++ cellsR b
  | [], _ => rfl
  | r :: a, b => by show _ :: _ :: cellsR (a ++ b) = _; rw [cellsR_append a b]; rfl
theorem cellsR_length : ∀ l : List R, (cellsR l).length = l.length * 2
  | [] => rfl
  | r :: l => by simp [cellsR, cellsR_length l]; omega
theorem cellsR_get : ∀ (l : List R) (j : Nat) (h : j < l.length), (cellsR l)[j * 2]? = some (strV l[j].1) ∧ (cellsR l)[j * 2 + 1]? = some (strV l[j].2)
  | r :: l, 0, _ => ⟨rfl, rfl⟩
  | r :: l, j + 1, h => by
    have := cellsR_get l j (by simpa using h)
    rw [show (j + 1) * 2 = j * 2 + 2 from by omega]
    exact this

theorem cutD_le : ∀ l : List UInt8, (cutD l).1.length ≤ l.length ∧ (cutD l).2.1.length ≤ l.length := by
  have h : ∀ (n : Nat) (l : List UInt8), l.length ≤ n → (cutD l).1.length ≤ l.length ∧ (cutD l).2.1.length ≤ l.length := by
    intro n
    induction n with
    | zero => intro l hl; obtain rfl := List.eq_nil_of_length_eq_zero (by omega : l.length = 0); exact ⟨Nat.le_refl _, Nat.le_refl _⟩
    | succ n ih =>
      intro l hl
      cases l with
      | nil => exact ⟨Nat.le_refl _, Nat.le_refl _⟩
      | cons c r =>
        by_cases h1 : c.toNat = 44
        · rw [cutD_comma h1]; simp
        · by_cases h2 : c.toNat = 92
          · cases r with
            | nil => rw [cutD_mark0 h2]; simp
            | cons x r =>
              rw [cutD_mark h2]
              have := ih r (by simp at hl; omega)
              simp; omega
          · rw [cutD_any h1 h2]
            have := ih r (by simp at hl; omega)
            simp; omega
  intro l; exact h l.length l (Nat.le_refl _)

def lenOf : Value → Nat
  | .slice _ n _ => n
  | _ => 0

/-- What is left to read. -/
def restD (L : List R) (m : Bool) (S : List UInt8) : Option (List R) := if m = true then (parN (8 - L.length) S).map (L ++ ·) else some L

def stepD (q : Option R) (L : List R) (m : Bool) (U : List UInt8) : Option (List R) := match q with
  | none => none
  | some r => if L.length = 8 then none else restD (L ++ [r]) m U
theorem rest_step (L : List R) (S : List UInt8) (hL8 : L.length ≤ 8) : restD L true S = stepD (rdnD (cutD S).1) L (cutD S).2.2 (cutD S).2.1 := by
  unfold restD
  rw [if_pos rfl]
  cases hk : 8 - L.length with
  | zero =>
    have h8 : L.length = 8 := by omega
    cases rdnD (cutD S).1 with
    | none => rfl
    | some r => exact (if_pos h8).symm
  | succ k =>
    have h8 : ¬ L.length = 8 := by omega
    unfold parN
    cases rdnD (cutD S).1 with
    | none => rfl
    | some r =>
      show _ = if L.length = 8 then none else restD (L ++ [r]) _ _
      rw [if_neg h8]
      unfold restD
      rw [List.length_append, show 8 - (L.length + [r].length) = k from by simp; omega]
      by_cases hc : (cutD S).2.2 = true
      · simp only [hc, if_true, Option.map_map]
        congr 1
        funext x
        simp
      · simp only [hc]
        rfl

end Go.Proofs.YtmpicolplknomaaDoor
