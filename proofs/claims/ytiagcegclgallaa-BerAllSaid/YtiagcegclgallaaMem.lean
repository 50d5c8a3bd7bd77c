/- Tlvs in memory. -/
import Derived.Test.YtiagcegclgallaaInt
import Derived.Test.YtiagcegclgallaaTlv
namespace Go.Proofs.Ytiagcegclgallaa
open Go.RowKit
set_option linter.unusedVariables false

mutual
/-- The value v is the tlv t, and all that it leads to lies below block n0. -/
def IsT (n0 : Nat) (w : World) : T → Value → Prop
  | .mk tag s l, v => ∃ a cap, v = .agg #[.int .i64 tag, .string s, .slice a l.length cap] ∧ (Lit.int .i64 tag).wf = true ∧ s.size ≤ maxLen ∧ l.length ≤ maxLen ∧ IsTs n0 w l a 0
def IsTs (n0 : Nat) (w : World) : List T → Option Addr → Nat → Prop
  | [], _, _ => True
  | t :: l, a, i => (∃ b off v0 v1 v2, a = some ⟨b, off, none⟩ ∧ b < n0 ∧ w.cell? ⟨b, off + i * 3, none⟩ = some v0 ∧ w.cell? ⟨b, off + i * 3 + 1, none⟩ = some v1 ∧ w.cell? ⟨b, off + i * 3 + 2, none⟩ = some v2 ∧ IsT n0 w t (.agg #[v0, v1, v2])) ∧ IsTs n0 w l a (i + 1)
end

mutual
theorem IsT.below {n0 n1 : Nat} {w w' : World} (h : Below n0 w w') (hn : n0 ≤ n1) : ∀ (t : T) (v : Value), IsT n0 w t v → IsT n1 w' t v
  | .mk tag s l, v, ⟨a, cap, e, h1, h2, h3, h4⟩ => ⟨a, cap, e, h1, h2, h3, IsTs.below h hn l a 0 h4⟩
theorem IsTs.below {n0 n1 : Nat} {w w' : World} (h : Below n0 w w') (hn : n0 ≤ n1) : ∀ (l : List T) (a : Option Addr) (i : Nat), IsTs n0 w l a i → IsTs n1 w' l a i
  | [], _, _, _ => trivial
  | t :: l, a, i, ⟨⟨b, off, v0, v1, v2, e, hb, h0, h1, h2, ht⟩, hl⟩ =>
    ⟨⟨b, off, v0, v1, v2, e, Nat.lt_of_lt_of_le hb hn, (h.cell (p := ⟨b, _, none⟩) hb).trans h0, (h.cell (p := ⟨b, _, none⟩) hb).trans h1, (h.cell (p := ⟨b, _, none⟩) hb).trans h2, IsT.below h hn t _ ht⟩, IsTs.below h hn l a (i + 1) hl⟩
end

/-- The k-th of the list. -/
theorem IsTs.get {n0 : Nat} {w : World} : ∀ (l : List T) (a : Option Addr) (i : Nat), IsTs n0 w l a i → ∀ (k : Nat) (t : T), l[k]? = some t →
    ∃ b off v0 v1 v2, a = some ⟨b, off, none⟩ ∧ b < n0 ∧ w.cell? ⟨b, off + (i + k) * 3, none⟩ = some v0 ∧ w.cell? ⟨b, off + (i + k) * 3 + 1, none⟩ = some v1 ∧ w.cell? ⟨b, off + (i + k) * 3 + 2, none⟩ = some v2 ∧ IsT n0 w t (.agg #[v0, v1, v2])
  | [], _, _, _, k, t, h => by simp at h
  | t :: l, a, i, ⟨h0, hl⟩, 0, t', h => by
    simp at h; subst h; exact h0
  | t :: l, a, i, ⟨h0, hl⟩, k + 1, t', h => by
    have := IsTs.get l a (i + 1) hl k t' (by simpa using h)
    rw [show i + 1 + k = i + (k + 1) from by omega] at this
    exact this

theorem IsT.shape {n0 : Nat} {w : World} {t : T} {v : Value} (h : IsT n0 w t v) : ∃ tag s a n cap, v = .agg #[.int .i64 tag, .string s, .slice a n cap] := by
  cases t; obtain ⟨a, cap, e, _⟩ := h; exact ⟨_, _, _, _, _, e⟩

end Go.Proofs.Ytiagcegclgallaa
