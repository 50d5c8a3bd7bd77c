/- Folded texts: folded twice is folded, blanks around, what is no blank, no two blanks: no program. -/
import Derived.Test.YtpnbcmblnplbgaaGreatDoorDnPure
namespace Go.Proofs.YtpnbcmblnplbgaaGreatDoor

theorem fstep_blank (st : List UInt8 × Bool) (c : UInt8) (h : c.toNat = 32) : fstep st c = (st.1, !st.1.isEmpty) := by unfold fstep; rw [if_pos h]
theorem fstep_other (st : List UInt8 × Bool) (c : UInt8) (h : c.toNat ≠ 32) : fstep st c = (st.1 ++ (if st.2 then [32] else []) ++ [lowC c], false) := by unfold fstep; rw [if_neg h]

theorem frun_again : ∀ l : List UInt8, frun (frun l).1 = ((frun l).1, false) := by
  refine snoc_ind (by simp [frun]) ?_
  intro l c ih
  rw [frun_snoc]
  by_cases h : c.toNat = 32
  · rw [fstep_blank _ _ h]; exact ih
  · rw [fstep_other _ _ h]
    have hl : (lowC c).toNat ≠ 32 := fun e => h ((lowC_blank c).1 e)
    show frun ((frun l).1 ++ (if (frun l).2 then [32] else []) ++ [lowC c]) = _
    rw [frun_snoc]
    have hgap := frun_gap l
    cases hg : (frun l).2 with
    | false =>
      rw [if_neg (by simp), List.append_nil, ih, fstep_other _ _ hl, lowC_low]
      simp
    | true =>
      have hne := hgap hg
      rw [if_pos rfl, frun_snoc, ih, fstep_blank ((frun l).1, false) 32 (by rfl), fstep_other _ _ hl, lowC_low]
      have : (frun l).1.isEmpty = false := by simpa using hne
      simp [this]
theorem fold_fold (l : List UInt8) : fold (fold l) = fold l := by unfold fold; rw [frun_again]

theorem frun_ahead (n : Nat) (l : List UInt8) : frun (List.replicate n 32 ++ l) = frun l := by
  induction n with
  | zero => simp
  | succ n ih =>
    rw [List.replicate_succ, List.cons_append]
    have : ∀ r : List UInt8, frun (32 :: r) = frun r := fun r => by unfold frun; rw [List.foldl_cons, fstep_blank _ _ (by rfl)]; rfl
    rw [this, ih]
theorem frun_behind (n : Nat) (l : List UInt8) : (frun (l ++ List.replicate n 32)).1 = (frun l).1 := by
  induction n with
  | zero => simp
  | succ n ih => rw [List.replicate_succ', ← List.append_assoc, frun_snoc, fstep_blank _ _ (by rfl)]; exact ih
theorem fold_round (n : Nat) (l : List UInt8) : fold (List.replicate n 32 ++ low l ++ List.replicate n 32) = fold l := by
  unfold fold
  rw [frun_behind, frun_ahead, frun_low]

/-- What is no blank. -/
def nonb (l : List UInt8) : List UInt8 := l.filter fun c => decide (c.toNat ≠ 32)
theorem nonb_append (a b : List UInt8) : nonb (a ++ b) = nonb a ++ nonb b := by simp [nonb]
theorem nonb_one (c : UInt8) : nonb [c] = if c.toNat = 32 then [] else [c] := by
  unfold nonb; by_cases h : c.toNat = 32 <;> simp [h]
theorem low_append (a b : List UInt8) : low (a ++ b) = low a ++ low b := by simp [low]
theorem low_one (c : UInt8) : low [c] = [lowC c] := rfl
theorem nonb_fold (l : List UInt8) : nonb (fold l) = low (nonb l) := by
  unfold fold
  refine snoc_ind (P := fun l => nonb (frun l).1 = low (nonb l)) (by simp [frun, nonb, low]) ?_ l
  intro l c ih
  rw [frun_snoc, nonb_append, nonb_one, low_append]
  by_cases h : c.toNat = 32
  · rw [fstep_blank _ _ h, if_pos h]
    simpa [low] using ih
  · have hl : (lowC c).toNat ≠ 32 := fun e => h ((lowC_blank c).1 e)
    rw [fstep_other _ _ h, if_neg h, nonb_append, nonb_append, ih, nonb_one, if_neg hl, low_one]
    have : nonb (if (frun l).2 = true then [(32 : UInt8)] else []) = [] := by split <;> rfl
    rw [this, List.append_nil]

/-- No blank at the ends, no two in a row. -/
def Spaced (l : List UInt8) : Prop := ∀ i x, l[i]? = some x → x.toNat = 32 → 0 < i ∧ i + 1 < l.length ∧ ∀ y, l[i - 1]? = some y → y.toNat ≠ 32

theorem spaced_one {O : List UInt8} (h : Spaced O) {c : UInt8} (hc : c.toNat ≠ 32) : Spaced (O ++ [c]) := by
  intro i x hi hx
  rw [List.getElem?_append] at hi
  split at hi
  · obtain ⟨h1, h2, h3⟩ := h i x hi hx
    refine ⟨h1, by simp; omega, ?_⟩
    intro y hy
    rw [List.getElem?_append, if_pos (by omega)] at hy
    exact h3 y hy
  · exfalso
    rw [List.getElem?_singleton] at hi
    split at hi
    · injection hi with hi; subst hi; exact hc hx
    · cases hi
theorem spaced_two {O : List UInt8} (h : Spaced O) (hne : O ≠ []) (hl : ∀ y, O.getLast? = some y → y.toNat ≠ 32) {c : UInt8} (hc : c.toNat ≠ 32) : Spaced (O ++ [32] ++ [c]) := by
  have hp : 0 < O.length := List.length_pos_iff.2 hne
  intro i x hi hx
  rw [List.getElem?_append] at hi
  split at hi
  · rename_i hlt
    simp only [List.length_append, List.length_singleton] at hlt
    rw [List.getElem?_append] at hi
    split at hi
    · obtain ⟨h1, h2, h3⟩ := h i x hi hx
      refine ⟨h1, by simp; omega, ?_⟩
      intro y hy
      rw [List.append_assoc, List.getElem?_append, if_pos (by omega)] at hy
      exact h3 y hy
    · obtain rfl : i = O.length := by omega
      refine ⟨hp, by simp, ?_⟩
      intro y hy
      rw [List.append_assoc, List.getElem?_append, if_pos (by omega), ← List.getLast?_eq_getElem?] at hy
      exact hl y hy
  · exfalso
    rw [List.getElem?_singleton] at hi
    split at hi
    · injection hi with hi; subst hi; exact hc hx
    · cases hi

theorem frun_spaced : ∀ l : List UInt8, Spaced (frun l).1 ∧ ∀ y, (frun l).1.getLast? = some y → y.toNat ≠ 32 := by
  refine snoc_ind ⟨by intro i x hi; simp [frun] at hi, by simp [frun]⟩ ?_
  intro l c ⟨ih, il⟩
  rw [frun_snoc]
  by_cases h : c.toNat = 32
  · rw [fstep_blank _ _ h]; exact ⟨ih, il⟩
  · have hl : (lowC c).toNat ≠ 32 := fun e => h ((lowC_blank c).1 e)
    rw [fstep_other _ _ h]
    refine ⟨?_, by intro y hy; simp only [List.getLast?_append, List.getLast?_singleton, Option.some_or, Option.some.injEq] at hy; rw [← hy]; exact hl⟩
    cases hg : (frun l).2 with
    | false => simp only [Bool.false_eq_true, if_false, List.append_nil]; exact spaced_one ih hl
    | true => simp only [if_true]; exact spaced_two ih (frun_gap l hg) il hl
theorem fold_spaced (l : List UInt8) : Spaced (fold l) := (frun_spaced l).1
theorem fold_some {c : UInt8} {l : List UInt8} (h : c.toNat ≠ 32) : fold (c :: l) ≠ [] := by
  intro e
  have := nonb_fold (c :: l)
  rw [e] at this
  rw [show c :: l = [c] ++ l from rfl, nonb_append, nonb_one, if_neg h] at this
  simp [low, nonb] at this
end Go.Proofs.YtpnbcmblnplbgaaGreatDoor
