/- Texts that say no number of a change. No program. -/
import Derived.Test.YtppljlegkdjhpaaDoorCsRead
namespace Go.Proofs.YtppljlegkdjhpaaDoor
set_option linter.unusedVariables false

def goodN (l : List UInt8) : Prop := ∃ v : Int, 0 ≤ v ∧ v ≤ 4503599627370496 ∧ l = Lib.itoa v
theorem goodN_dig {l : List UInt8} (h : goodN l) : ∀ c ∈ l, 48 ≤ c.toNat ∧ c.toNat ≤ 57 := by
  obtain ⟨v, h0, _, rfl⟩ := h
  exact itoa_dig h0
theorem goodN_nil : ¬ goodN [] := fun ⟨v, _, _, h⟩ => itoa_ne v h.symm
theorem goodN_zero {c : UInt8} {l : List UInt8} : ¬ goodN (48 :: c :: l) := by
  rintro ⟨v, h0, _, h⟩
  rw [itoa_pos h0] at h
  by_cases hv : 1 ≤ v.toNat
  · exact dec_head v.toNat hv 48 (c :: l) h.symm (by decide)
  · rw [Lib.decDigits_one (by omega)] at h
    simp at h
theorem goodN_bad {l : List UInt8} {c : UInt8} (hc : c ∈ l) (h : c.toNat < 48 ∨ 57 < c.toNat) : ¬ goodN l := fun hg => by
  have := goodN_dig hg c hc
  omega
theorem goodN_big : ¬ goodN [52, 53, 48, 51, 53, 57, 57, 54, 50, 55, 51, 55, 48, 52, 57, 55] := by
  rintro ⟨v, h0, h1, h⟩
  have h2 := atoi_itoa v
  rw [← h] at h2
  have h3 : Lib.atoi [52, 53, 48, 51, 53, 57, 57, 54, 50, 55, 51, 55, 48, 52, 57, 55] = some 4503599627370497 := by decide +kernel
  rw [h3] at h2
  have := Option.some.inj h2
  omega
theorem split_dot : ∀ (X Y A B : List UInt8), (∀ c ∈ X, c ≠ 46) → (∀ c ∈ A, c ≠ 46) → X ++ 46 :: Y = A ++ 46 :: B → X = A ∧ Y = B
  | [], Y, [], B, _, _, h => by simpa using h
  | [], Y, a :: A, B, _, h2, h => by
    simp at h
    exact absurd h.1.symm (h2 a (by simp))
  | x :: X, Y, [], B, h1, _, h => by
    simp at h
    exact absurd h.1 (h1 x (by simp))
  | x :: X, Y, a :: A, B, h1, h2, h => by
    simp at h
    obtain ⟨e1, e2⟩ := split_dot X Y A B (fun c hc => h1 c (by simp [hc])) (fun c hc => h2 c (by simp [hc])) h.2
    exact ⟨by rw [h.1, e1], e2⟩
/-- A text with a dot whose parts are not both good. -/
theorem none_parts {X Y : List UInt8} (hX : ∀ c ∈ X, c ≠ 46) (h : ¬ goodN X ∨ ¬ goodN Y) : readO (X ++ 46 :: Y) = none :=
  readO_none fun e n hm he => by
    obtain ⟨⟨h1, h2⟩, h3, h4⟩ := (mayN_iff e n).1 hm
    have h5 : textC e n = Lib.itoa e ++ 46 :: Lib.itoa n := by simp [textC]
    rw [h5] at he
    obtain ⟨e1, e2⟩ := split_dot _ _ _ _ hX (itoa_nodot e) he
    rcases h with h | h
    · exact h ⟨e, h1, h2, e1⟩
    · exact h ⟨n, h3, h4, e2⟩
theorem none_nodot {l : List UInt8} (h : ∀ c ∈ l, c ≠ 46) : readO l = none :=
  readO_none fun e n _ he => by
    have : (46 : UInt8) ∈ l := by rw [he]; simp [textC]
    exact h 46 this rfl
/-- The thirteen texts. -/
def badC (s : List UInt8) : Nat → List UInt8
  | 0 => 48 :: s
  | 1 => s ++ [32]
  | 2 => 43 :: s
  | 3 => s ++ [46]
  | 4 => 46 :: s
  | 5 => s ++ [120]
  | 6 => 45 :: s
  | 7 => []
  | 8 => [49]
  | 9 => [49, 46]
  | 10 => [46, 49]
  | 11 => [49, 46, 48, 49]
  | _ => [52, 53, 48, 51, 53, 57, 57, 54, 50, 55, 51, 55, 48, 52, 57, 55, 46, 49]
theorem badC_none {e n : Int} (he : 0 ≤ e) (hn : 0 ≤ n) (k : Nat) (hk : k < 13) : readO (badC (textC e n) k) = none := by
  have hs : textC e n = Lib.itoa e ++ 46 :: Lib.itoa n := by simp [textC]
  have hd := itoa_dig he
  have nd := itoa_nodot e
  obtain ⟨c, r, hcr⟩ : ∃ c r, Lib.itoa e = c :: r := by
    cases h : Lib.itoa e with
    | nil => exact absurd h (itoa_ne e)
    | cons c r => exact ⟨c, r, rfl⟩
  have pre : ∀ b : UInt8, b ≠ 46 → ¬ goodN (b :: Lib.itoa e) → readO (b :: textC e n) = none := fun b hb hg => by
    rw [hs]
    exact none_parts (X := b :: Lib.itoa e) (Y := Lib.itoa n) (by
      intro x hx
      rcases List.mem_cons.1 hx with rfl | hx
      · exact hb
      · exact nd x hx) (.inl hg)
  have post : ∀ b : UInt8, (b.toNat < 48 ∨ 57 < b.toNat) → readO (textC e n ++ [b]) = none := fun b hb => by
    have : textC e n ++ [b] = Lib.itoa e ++ 46 :: (Lib.itoa n ++ [b]) := by rw [hs]; simp
    rw [this]
    exact none_parts nd (.inr (goodN_bad (c := b) (by simp) hb))
  rcases (show k = 0 ∨ k = 1 ∨ k = 2 ∨ k = 3 ∨ k = 4 ∨ k = 5 ∨ k = 6 ∨ k = 7 ∨ k = 8 ∨ k = 9 ∨ k = 10 ∨ k = 11 ∨ k = 12 from by omega) with rfl | rfl | rfl | rfl | rfl | rfl | rfl | rfl | rfl | rfl | rfl | rfl | rfl
  · exact pre 48 (by decide) (by rw [hcr]; exact goodN_zero)
  · exact post 32 (by decide)
  · exact pre 43 (by decide) (goodN_bad (c := 43) (by simp) (by decide))
  · exact post 46 (by decide)
  · show readO (46 :: textC e n) = none
    exact none_parts (X := []) (Y := textC e n) (by simp) (.inl goodN_nil)
  · exact post 120 (by decide)
  · exact pre 45 (by decide) (goodN_bad (c := 45) (by simp) (by decide))
  · exact none_nodot (by simp [badC])
  · exact none_nodot (by simp [badC])
  · exact none_parts (X := [49]) (Y := []) (by simp) (.inr goodN_nil)
  · exact none_parts (X := []) (Y := [49]) (by simp) (.inl goodN_nil)
  · exact none_parts (X := [49]) (Y := [48, 49]) (by simp) (.inr goodN_zero)
  · exact none_parts (X := [52, 53, 48, 51, 53, 57, 57, 54, 50, 55, 51, 55, 48, 52, 57, 55]) (Y := [49]) (by decide) (.inl goodN_big)
end Go.Proofs.YtppljlegkdjhpaaDoor
