/- dn.value: the walk. -/
import Derived.Test.YtmpicolplknomaaDoorDnVal
namespace Go.Proofs.YtmpicolplknomaaDoor
open Go.RowKit
set_option linter.unusedVariables false

theorem valN_nil (n : Nat) (f : Bool) : valN n f [] = some [] := by cases n <;> rfl
theorem valN_succ (n : Nat) (f : Bool) {l : List UInt8} (h : l ≠ []) : valN (n + 1) f l = if (oneD f l).2 = 0 then none else (valN n false (l.drop (oneD f l).2)).map ((oneD f l).1 :: ·) := by
  show (if l = [] then some [] else _) = _
  rw [if_neg h]
theorem valN_fuel : ∀ (n m : Nat) (f : Bool) (l : List UInt8), l.length ≤ n → l.length ≤ m → valN n f l = valN m f l
  | 0, m, f, l, h, _ => by
    obtain rfl : l = [] := List.eq_nil_of_length_eq_zero (by omega)
    rw [valN_nil, valN_nil]
  | n + 1, 0, f, l, _, h => by
    obtain rfl : l = [] := List.eq_nil_of_length_eq_zero (by omega)
    rw [valN_nil, valN_nil]
  | n + 1, m + 1, f, l, h1, h2 => by
    by_cases e : l = []
    · subst e; rw [valN_nil, valN_nil]
    · rw [valN_succ n f e, valN_succ m f e]
      by_cases h0 : (oneD f l).2 = 0
      · rw [if_pos h0, if_pos h0]
      · rw [if_neg h0, if_neg h0]
        have hl : (l.drop (oneD f l).2).length ≤ l.length - 1 := by simp; omega
        have hp : 0 < l.length := List.length_pos_iff.2 e
        rw [valN_fuel n m false _ (by omega) (by omega)]
/-- What stands from l on, if it is (f) the beginning. -/
def valF (f : Bool) (l : List UInt8) : Option (List UInt8) := valN l.length f l
theorem valF_nil (f : Bool) : valF f [] = some [] := rfl
theorem valF_step (f : Bool) {l : List UInt8} (h : l ≠ []) : valF f l = if (oneD f l).2 = 0 then none else (valF false (l.drop (oneD f l).2)).map ((oneD f l).1 :: ·) := by
  have hp : 0 < l.length := List.length_pos_iff.2 h
  obtain ⟨n, hn⟩ : ∃ n, l.length = n + 1 := ⟨l.length - 1, by omega⟩
  unfold valF
  rw [hn, valN_succ n f h]
  by_cases h0 : (oneD f l).2 = 0
  · rw [if_pos h0, if_pos h0]
  · rw [if_neg h0, if_neg h0]
    rw [valN_fuel n _ false _ (by simp; omega) (Nat.le_refl _)]

theorem behD_le3 (l : List UInt8) : (behD l).2 ≤ 3 := by
  cases l with
  | nil => exact Nat.zero_le _
  | cons x r =>
    by_cases h : 2 ≤ kindC x
    · rw [behD_free h]; exact (by decide : 2 ≤ 3)
    · cases r with
      | nil => rw [behD_nil h]; exact Nat.zero_le _
      | cons y r => rw [behD_hex h]; exact (by split <;> simp)
theorem oneD_le3 (f : Bool) (l : List UInt8) : (oneD f l).2 ≤ 3 := by
  cases l with
  | nil => exact Nat.zero_le _
  | cons c r =>
    by_cases h : c.toNat = 92
    · rw [oneD_mark h]; exact behD_le3 r
    · by_cases h2 : kindC c = 0 ∨ needC c f r.isEmpty = true
      · rw [oneD_no h h2]; exact Nat.zero_le _
      · rw [oneD_plain h h2]; exact (by decide : 1 ≤ 3)

def valV (o : Option (List UInt8)) : Value := match o with
  | some v => .tuple #[.string ⟨v.toArray⟩, .bool true]
  | none => .tuple #[.string ⟨#[]⟩, .bool false]

end Go.Proofs.YtmpicolplknomaaDoor
