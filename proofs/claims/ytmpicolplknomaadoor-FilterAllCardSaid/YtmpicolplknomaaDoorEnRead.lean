/- Texts and attributes as they lie in memory; entry.lower, sameLetters, copyVals: the walks. -/
import Derived.Test.YtmpicolplknomaaDoorRefCut
import Derived.Test.YtmpicolplknomaaDoorDnLib
import Derived.Test.YtmpicolplknomaaDoorMaFind
import Derived.BigQuiet
namespace Go.Proofs.YtmpicolplknomaaDoor
open Go.RowKit
set_option linter.unusedVariables false

/-- The value v is the list of these texts, below block n0. -/
def IsT (n0 : Nat) (w : World) (L : List (List UInt8)) (v : Value) : Prop := ∃ a c, v = .slice a L.length c ∧ L.length ≤ maxLen ∧
  ∀ j, (h : j < L.length) → ∃ b off, a = some ⟨b, off, none⟩ ∧ b < n0 ∧ w.cell? ⟨b, off + j, none⟩ = some (strV L[j])
theorem IsT.below {n0 n1 : Nat} {w w' : World} {L : List (List UInt8)} {v : Value} (h : IsT n0 w L v) (hb : Below n0 w w') (hn : n0 ≤ n1) : IsT n1 w' L v := by
  obtain ⟨a, c, hv, hm, hc⟩ := h
  refine ⟨a, c, hv, hm, fun j hj => ?_⟩
  obtain ⟨b, off, ha, hlt, c0⟩ := hc j hj
  exact ⟨b, off, ha, Nat.lt_of_lt_of_le hlt hn, (hb.cell (p := ⟨b, _, none⟩) hlt).trans c0⟩
theorem isT_nil (n0 : Nat) (w : World) (c : Nat) (a : Option Addr) : IsT n0 w [] (.slice a 0 c) := ⟨a, c, rfl, Nat.zero_le _, fun j hj => absurd hj (by simp)⟩
theorem ownS_isT {B : Nat} {w : World} {v : Value} {L : List (List UInt8)} (h : OwnS B w v L) (hl : L.length ≤ maxLen) : IsT w.heap.size w L v := by
  by_cases hne : L = []
  · subst hne
    obtain ⟨a, c, hv⟩ := ownS_slice h
    exact ⟨a, c, hv, hl, fun j hj => absurd hj (by simp)⟩
  · obtain ⟨g, c, hv, _, hg, hc⟩ := ownS_at h hne
    exact ⟨_, c, hv, hl, fun j hj => ⟨g, 0, rfl, hg, by rw [Nat.zero_add]; exact hc j hj⟩⟩

abbrev AT := List UInt8 × List (List UInt8)
/-- The value v is the list of these attributes, below block n0. -/
def IsA (n0 : Nat) (w : World) (L : List AT) (v : Value) : Prop := ∃ a c, v = .slice a L.length c ∧ L.length ≤ maxLen ∧
  ∀ j, (h : j < L.length) → ∃ b off u, a = some ⟨b, off, none⟩ ∧ b < n0 ∧ w.cell? ⟨b, off + j * 2, none⟩ = some (strV L[j].1) ∧ w.cell? ⟨b, off + j * 2 + 1, none⟩ = some u ∧ IsT n0 w L[j].2 u
theorem IsA.below {n0 n1 : Nat} {w w' : World} {L : List AT} {v : Value} (h : IsA n0 w L v) (hb : Below n0 w w') (hn : n0 ≤ n1) : IsA n1 w' L v := by
  obtain ⟨a, c, hv, hm, hc⟩ := h
  refine ⟨a, c, hv, hm, fun j hj => ?_⟩
  obtain ⟨b, off, u, ha, hlt, c0, c1, ht⟩ := hc j hj
  exact ⟨b, off, u, ha, Nat.lt_of_lt_of_le hlt hn, (hb.cell (p := ⟨b, _, none⟩) hlt).trans c0, (hb.cell (p := ⟨b, _, none⟩) hlt).trans c1, ht.below hb hn⟩
theorem isA_nil (n0 : Nat) (w : World) (c : Nat) (a : Option Addr) : IsA n0 w [] (.slice a 0 c) := ⟨a, c, rfl, Nat.zero_le _, fun j hj => absurd hj (by simp)⟩

theorem below_drewN {B : Nat} {w w' : World} (h : Below B w w') (n : Nat) : Below B w (w'.drewN n) := h.trans ⟨rfl, rfl, rfl, Nat.le_refl _, fun _ _ => rfl⟩

theorem low_ne_len {a b : List UInt8} (h : a.length ≠ b.length) : (low a == low b) = false := by
  have : low a ≠ low b := fun e => h (by have := congrArg List.length e; rwa [low_length, low_length] at this)
  simpa using this
theorem low_eq_all {a b : List UInt8} (hl : a.length = b.length) (h : ∀ k (h1 : k < a.length) (h2 : k < b.length), lowC a[k] = lowC b[k]) : (low a == low b) = true := by
  have : low a = low b := List.ext_getElem (by rw [low_length, low_length]; exact hl) (fun k h1 h2 => by
    simp only [low, List.getElem_map]
    exact h k (by rwa [low_length] at h1) (by rwa [low_length] at h2))
  simpa using this
theorem low_ne_at {a b : List UInt8} (k : Nat) (h1 : k < a.length) (h2 : k < b.length) (h : lowC a[k] ≠ lowC b[k]) : (low a == low b) = false := by
  have : low a ≠ low b := fun e => h (by
    have h3 : k < (low a).length := by rw [low_length]; exact h1
    have h4 : k < (low b).length := by rw [low_length]; exact h2
    have : (low a)[k] = (low b)[k] := by simp only [e]
    simpa only [low, List.getElem_map] using this)
  simpa using this

def smallT (L : List (List UInt8)) : Prop := L.length ≤ 1000 ∧ ∀ s ∈ L, s.length ≤ 1000000
end Go.Proofs.YtmpicolplknomaaDoor
