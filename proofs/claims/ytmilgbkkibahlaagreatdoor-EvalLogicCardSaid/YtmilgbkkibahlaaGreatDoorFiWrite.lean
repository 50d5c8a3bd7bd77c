/- filter.write, Text: the walks. -/
import Derived.Test.YtmilgbkkibahlaaGreatDoorFiText
import Derived.Test.YtmilgbkkibahlaaGreatDoorDnTextW
namespace Go.Proofs.YtmilgbkkibahlaaGreatDoor
open Go.RowKit
set_option linter.unusedVariables false
set_option linter.unusedSimpArgs false

theorem mayF_leaf {d : Nat} {k : Int} {t x : List UInt8} {p : List (List UInt8)} {l : List FT} (h : mayF (d + 1) (.mk k t x p l) = true) : t.length ≤ 30 ∧ x.length ≤ 100 ∧ p.length ≤ 8 ∧ (∀ y ∈ p, y.length ≤ 100) ∧ (∀ f ∈ l, mayF d f = true) ∧ l.length ≤ 40 := by
  have h' : (if holdsC k then t.isEmpty && x.isEmpty && p.isEmpty && kidsC k l.length && l.all (mayF d) else okLeaf k t x p l.length) = true := h
  split at h'
  · simp only [Bool.and_eq_true, List.isEmpty_iff] at h'
    obtain ⟨⟨⟨⟨rfl, rfl⟩, rfl⟩, hk⟩, ha⟩ := h'
    refine ⟨by simp, by simp, by simp, fun y hy => absurd hy (by simp), List.all_eq_true.1 ha, ?_⟩
    unfold kidsC at hk
    split at hk
    · simp only [decide_eq_true_eq] at hk; omega
    · simpa using hk
  · unfold okLeaf at h'
    simp only [Bool.and_eq_true, decide_eq_true_eq] at h'
    obtain ⟨⟨ht, hl⟩, hc⟩ := h'
    have hl0 : l = [] := List.eq_nil_of_length_eq_zero hl
    subst hl0
    have ht30 : t.length ≤ 30 := by
      unfold okType at ht
      simp only [Bool.and_eq_true, decide_eq_true_eq] at ht
      exact ht.1.1.2
    refine ⟨ht30, ?_, ?_, ?_, fun f hf => absurd hf (by simp), by simp⟩
    · split at hc
      · simp only [Bool.and_eq_true, decide_eq_true_eq] at hc; exact hc.1
      · split at hc
        · simp only [Bool.and_eq_true, List.isEmpty_iff] at hc; rw [hc.1]; simp
        · split at hc
          · simp only [Bool.and_eq_true, List.isEmpty_iff] at hc; rw [hc.1]; simp
          · cases hc
    · split at hc
      · simp only [Bool.and_eq_true, List.isEmpty_iff] at hc; rw [hc.2]; simp
      · split at hc
        · simp only [Bool.and_eq_true] at hc
          exact ((okParts_iff p).1 hc.2).1.2
        · split at hc
          · simp only [Bool.and_eq_true, List.isEmpty_iff] at hc; rw [hc.2]; simp
          · cases hc
    · split at hc
      · simp only [Bool.and_eq_true, List.isEmpty_iff] at hc; rw [hc.2]; simp
      · split at hc
        · simp only [Bool.and_eq_true] at hc
          intro y hy
          obtain ⟨i, hi, rfl⟩ := List.getElem_of_mem hy
          exact (((okParts_iff p).1 hc.2).2.1 i hi).1
        · split at hc
          · simp only [Bool.and_eq_true, List.isEmpty_iff] at hc; rw [hc.2]; simp
          · cases hc
/-- Parts with stars ahead, but for the first. -/
def starR : Bool → List (List UInt8) → List UInt8
  | _, [] => []
  | f, x :: l => (if f then [] else [42]) ++ (quo x ++ starR false l)
theorem starR_false : ∀ (x : List UInt8) (l : List (List UInt8)), quo x ++ starR false l = starJ (x :: l)
  | x, [] => by simp [starR, starJ]
  | x, y :: l => by
    show quo x ++ ([42] ++ (quo y ++ starR false l)) = quo x ++ 42 :: starJ (y :: l)
    rw [starR_false y l]
    rfl
theorem starR_true (p : List (List UInt8)) : starR true p = starJ p := by
  cases p with
  | nil => rfl
  | cons x l => exact starR_false x l
theorem starR_drop (p : List (List UInt8)) (j : Nat) (hj : j < p.length) (f : Bool) : starR f (p.drop j) = (if f then [] else [42]) ++ (quo p[j] ++ starR false (p.drop (j + 1))) := by
  rw [List.drop_eq_getElem_cons hj]
  rfl
theorem Bld.bounds {B b : Nat} {l : List UInt8} {w : World} (h : Bld B b l w) : B ≤ b ∧ b < w.heap.size := by
  rcases h with ⟨h1, v, hb, _⟩ | ⟨h1, v, hb, _⟩
  · exact ⟨h1, (Array.getElem?_eq_some_iff.1 hb).1⟩
  · exact ⟨h1, (Array.getElem?_eq_some_iff.1 hb).1⟩
theorem bld'_alloc {B b : Nat} {l : List UInt8} {w : World} (h : Bld' B b l w) (o : Obj) : Bld' B b l (w.alloc o) := by
  have hlt := h.lt
  obtain ⟨hB, v, hb, hown, hne⟩ := h
  exact ⟨hB, v, (Lib.alloc_old w o b hlt).trans hb, World.ownsRow.alloc hown _, hne⟩
theorem Fr.box5 {B b k : Nat} {w w' : World} {cs : Array Value} (h : Fr B b w w') (hk : w.heap[k]? = some (.cells cs 31 (0, 0))) (hb : k ≠ b) : w'.heap[k]? = some (.cells cs 31 (0, 0)) := by
  refine (h.2 k (Array.getElem?_eq_some_iff.1 hk).1 hb fun cs' fr e => ?_).trans hk
  rw [hk] at e
  cases e
theorem cells5 {w : World} {k : Nat} {x0 x1 x2 x3 x4 : Value} (h : w.heap[k]? = some (.cells #[x0, x1, x2, x3, x4] 31 (0, 0))) : w.cell? ⟨k, 0, none⟩ = some x0 ∧ w.cell? ⟨k, 1, none⟩ = some x1 ∧ w.cell? ⟨k, 2, none⟩ = some x2 ∧ w.cell? ⟨k, 3, none⟩ = some x3 ∧ w.cell? ⟨k, 4, none⟩ = some x4 := by
  refine ⟨?_, ?_, ?_, ?_, ?_⟩ <;> simp [World.cell?, h]

end Go.Proofs.YtmilgbkkibahlaaGreatDoor
