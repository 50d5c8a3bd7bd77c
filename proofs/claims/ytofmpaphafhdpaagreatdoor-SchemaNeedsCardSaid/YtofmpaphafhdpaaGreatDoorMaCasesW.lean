/- Letters in whatever case, blanks around and in rows: the walk. -/
import Derived.Test.YtofmpaphafhdpaaGreatDoorMaAwake
namespace Go.Proofs.YtofmpaphafhdpaaGreatDoor
open Go.RowKit
set_option linter.unusedVariables false

theorem sameO_self {p q : Option (List UInt8)} {x : List UInt8} (h : p = some x) (k : q = some x) : sameO p q = true := by rw [h, k]; simp [sameO]
theorem bytesLess_self : ∀ l : List UInt8, Op.bytesLess l l = false
  | [] => rfl
  | c :: l => by
    have := bytesLess_self l
    simp [Op.bytesLess, this]
theorem normD_text {v : List UInt8} (h0 : v ≠ []) (h1 : v.length ≤ 100) (h2 : fold v ≠ []) : normD 1 v = some (fold v) := by
  unfold normD
  rw [if_neg (by rintro (h | h); exact h0 h; omega), if_pos rfl, if_neg h2]
theorem normD_pass {v : List UInt8} (h0 : v ≠ []) (h1 : v.length ≤ 100) : normD 4 v = some v := by
  unfold normD
  rw [if_neg (by rintro (h | h); exact h0 h; omega), if_neg (by decide), if_neg (by decide), if_neg (by decide), if_pos rfl]

end Go.Proofs.YtofmpaphafhdpaaGreatDoor
