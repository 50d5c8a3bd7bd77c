/- Fold: the walk. -/
import Derived.Test.YtppljlegkdjhpaaDoorDnOwn
import Derived.Lib.Strings
namespace Go.Proofs.YtppljlegkdjhpaaDoor
open Go.RowKit
set_option linter.unusedVariables false

/-- What has come out never ends in a blank. -/
theorem frun_last : ∀ l : List UInt8, ∀ x, (frun l).1.getLast? = some x → x.toNat ≠ 32 := by
  refine snoc_ind (by simp [frun]) ?_
  intro l c ih x hx
  rw [frun_snoc] at hx
  unfold fstep at hx
  split at hx
  · exact ih x hx
  · rename_i h
    simp only [List.getLast?_append, List.getLast?_singleton, Option.some_or, Option.some.injEq] at hx
    rw [← hx]
    intro e; exact h ((lowC_blank c).1 e)

theorem trim_blank (O : List UInt8) : Lib.trimSuffix (O ++ [32]) [32] = O := by
  have h : Lib.hasSuffix (O ++ [32]) [32] = true := by unfold Lib.hasSuffix; rw [List.isSuffixOf_iff_suffix]; exact List.suffix_append _ _
  unfold Lib.trimSuffix; rw [if_pos h]; simp
theorem trim_none (O : List UInt8) (h : ∀ x, O.getLast? = some x → x.toNat ≠ 32) : Lib.trimSuffix O [32] = O := by
  have h2 : ¬ Lib.hasSuffix O [32] = true := by
    unfold Lib.hasSuffix; rw [List.isSuffixOf_iff_suffix]
    rintro ⟨t, ht⟩
    exact h 32 (by rw [← ht]; simp) rfl
  unfold Lib.trimSuffix; rw [if_neg h2]

end Go.Proofs.YtppljlegkdjhpaaDoor
