/- filter.value: the walk. -/
import Derived.Test.YtmilgbkkibahlaaGreatDoorFiOne
import Derived.Test.YtmilgbkkibahlaaGreatDoorDnUp
namespace Go.Proofs.YtmilgbkkibahlaaGreatDoor
open Go.RowKit
set_option linter.unusedVariables false
set_option linter.unusedSimpArgs false

theorem oneQ_le : ∀ l : List UInt8, (oneQ l).2 ≤ l.length ∧ (oneQ l).2 ≤ 3
  | [] => ⟨Nat.zero_le _, Nat.zero_le _⟩
  | c :: r => by
    by_cases hp : plainC c = true
    · rw [oneQ_plain hp]; exact ⟨by simp, by simp⟩
    · by_cases h92 : c = 92
      · subst h92
        match r with
        | [] => rw [oneQ_short (by simp)]; exact ⟨Nat.zero_le _, Nat.zero_le _⟩
        | [_] => rw [oneQ_short (by simp)]; exact ⟨Nat.zero_le _, Nat.zero_le _⟩
        | x :: y :: r' =>
          rw [oneQ_esc]
          cases escD x y with
          | none => exact ⟨Nat.zero_le _, Nat.zero_le _⟩
          | some b => exact ⟨by simp, Nat.le_refl _⟩
      · rw [oneQ_no hp h92]; exact ⟨Nat.zero_le _, Nat.zero_le _⟩
theorem valQ_step (m : Nat) : ∀ {l : List UInt8}, l ≠ [] → valQ m l = if (oneQ l).2 = 0 ∨ m = 0 then none else (valQ (m - 1) (l.drop (oneQ l).2)).map ((oneQ l).1 :: ·)
  | [], h => absurd rfl h
  | c :: r, _ => by
    cases m with
    | zero => rw [if_pos (.inr rfl)]; rfl
    | succ m =>
      by_cases hp : plainC c = true
      · rw [oneQ_plain hp, if_neg (by simp), valQ_plain hp]
        rfl
      · by_cases h92 : c = 92
        · subst h92
          match r with
          | [] => rw [oneQ_short (by simp), if_pos (.inl rfl), valQ_one]
          | [_] => rw [oneQ_short (by simp), if_pos (.inl rfl), valQ_two]
          | x :: y :: r' =>
            rw [oneQ_esc, valQ_esc]
            cases escD x y with
            | none => rfl
            | some b => rfl
        · rw [oneQ_no hp h92, if_pos (.inl rfl), valQ_no hp h92]
def valV2 (o : Option (List UInt8)) : Value := match o with
  | some v => .tuple #[.string ⟨v.toArray⟩, .bool true]
  | none => .tuple #[.string ⟨#[]⟩, .bool false]
theorem below_drewN2 {n : Nat} {w w' : World} (h : Below n w w') (k : Nat) : Below n w (w'.drewN k) := ⟨h.1, h.2, h.3, h.4, h.5⟩

end Go.Proofs.YtmilgbkkibahlaaGreatDoor
