/- Strips: blocks and changes as cells, by lists. No walk. -/
import Derived.WalkKit
import Derived.Laws.CopyOwn
import Derived.Laws.MakeOwn
namespace Go.Proofs.Ytgmlgjdibpphaaa
open Go.RowKit
set_option linter.unusedVariables false
set_option linter.unusedSimpArgs false

abbrev Blk := List UInt8
def byteV (b : UInt8) : Value := .int .u8 b.toNat
def flatB (bl : List Blk) : List Value := bl.flatMap (fun x => x.map byteV)
def ok32 (bl : List Blk) : Prop := ∀ x ∈ bl, x.length = 32
def cellsC (c : Nat × Blk) : List Value := .int .i64 c.1 :: c.2.map byteV
def flatC (lo : List (Nat × Blk)) : List Value := lo.flatMap cellsC
def zeroB : Blk := List.replicate 32 0

theorem part_at {α : Type} (l : List α) (i : Nat) (h : i < l.length) : l = l.take i ++ l[i] :: l.drop (i + 1) := by
  rw [List.getElem_cons_drop, List.take_append_drop]
theorem flatB_len : ∀ (bl : List Blk), ok32 bl → (flatB bl).length = bl.length * 32
  | [], _ => rfl
  | x :: r, h => by
    have h1 := flatB_len r fun y hy => h y (by simp [hy])
    have h2 := h x (by simp)
    simp only [flatB, List.flatMap_cons, List.length_append, List.length_map, List.length_cons] at h1 ⊢
    omega
theorem flatB_app (a b : List Blk) : flatB (a ++ b) = flatB a ++ flatB b := List.flatMap_append
theorem flatB_cons (x : Blk) (b : List Blk) : flatB (x :: b) = x.map byteV ++ flatB b := List.flatMap_cons
theorem ok32_take {bl : List Blk} (h : ok32 bl) (i : Nat) : ok32 (bl.take i) := fun x hx => h x (List.mem_of_mem_take hx)
theorem flatB_part (bl : List Blk) (h : ok32 bl) (i : Nat) (hi : i < bl.length) : ∃ P R, flatB bl = P ++ (bl[i].map byteV ++ R) ∧ P.length = i * 32 ∧ ∀ y : Blk, flatB (bl.set i y) = P ++ (y.map byteV ++ R) := by
  refine ⟨flatB (bl.take i), flatB (bl.drop (i + 1)), ?_, ?_, fun y => ?_⟩
  · conv => lhs; rw [part_at bl i hi]
    rw [flatB_app, flatB_cons]
  · rw [flatB_len _ (ok32_take h i), List.length_take, Nat.min_eq_left (by omega)]
  · rw [List.set_eq_take_append_cons_drop, if_pos hi, flatB_app, flatB_cons]
theorem flatB_at (bl : List Blk) (h : ok32 bl) (i k : Nat) (hi : i < bl.length) (hk : k < 32) : (flatB bl)[i * 32 + k]? = (bl[i].map byteV)[k]? := by
  obtain ⟨P, R, h1, h2, _⟩ := flatB_part bl h i hi
  have hl := h bl[i] (List.getElem_mem hi)
  rw [h1, List.getElem?_append_right (by omega), List.getElem?_append_left (by rw [List.length_map]; omega)]
  congr 1
  omega
theorem splice_mid {α : Type} (P Y R Z : List α) (t : Nat) (ht : t + Z.length = Y.length) : splice (P ++ (Y ++ R)) (P.length + t) Z = P ++ ((Y.take t ++ Z) ++ R) := by
  unfold splice
  have e1 : (P ++ (Y ++ R)).take (P.length + t) = P ++ Y.take t := by
    rw [List.take_append, List.take_of_length_le (by omega), show P.length + t - P.length = t from by omega, List.take_append, show t - Y.length = 0 from by omega]
    simp
  have e2 : (P ++ (Y ++ R)).drop (P.length + t + Z.length) = R := by
    rw [List.drop_append, List.drop_of_length_le (by omega), show P.length + t + Z.length - P.length = Y.length from by omega, List.drop_append, List.drop_of_length_le (by omega)]
    simp
  rw [e1, e2]
  simp
theorem flatB_splice (bl : List Blk) (h : ok32 bl) (i t : Nat) (hi : i < bl.length) (ht : t ≤ 32) (x : Blk) (hx : x.length = 32) : splice (flatB bl) (i * 32 + t) ((x.drop t).map byteV) = flatB (bl.set i (bl[i].take t ++ x.drop t)) := by
  obtain ⟨P, R, h1, h2, h3⟩ := flatB_part bl h i hi
  have hl := h bl[i] (List.getElem_mem hi)
  rw [h1, h3, ← h2, splice_mid _ _ _ _ _ (by rw [List.length_map, List.length_map, List.length_drop]; omega), List.map_append, List.map_take]
theorem flatB_put (bl : List Blk) (h : ok32 bl) (i : Nat) (hi : i < bl.length) (x : Blk) (hx : x.length = 32) : splice (flatB bl) (i * 32) (x.map byteV) = flatB (bl.set i x) := by
  have h9 := flatB_splice bl h i 0 hi (by omega) x hx
  simpa using h9
theorem ok32_set {bl : List Blk} (h : ok32 bl) (i : Nat) (x : Blk) (hx : x.length = 32) : ok32 (bl.set i x) := fun y hy => by
  rcases List.mem_or_eq_of_mem_set hy with h1 | rfl
  · exact h y h1
  · exact hx
theorem cellsC_len (c : Nat × Blk) (h : c.2.length = 32) : (cellsC c).length = 33 := by simp [cellsC, h]
theorem flatC_len : ∀ (lo : List (Nat × Blk)), (∀ c ∈ lo, c.2.length = 32) → (flatC lo).length = lo.length * 33
  | [], _ => rfl
  | x :: r, h => by
    have h1 := flatC_len r fun y hy => h y (by simp [hy])
    have h2 := cellsC_len x (h x (by simp))
    simp only [flatC, List.flatMap_cons, List.length_append, List.length_cons] at h1 ⊢
    omega
theorem flatC_app (a b : List (Nat × Blk)) : flatC (a ++ b) = flatC a ++ flatC b := List.flatMap_append
theorem flatC_at (lo : List (Nat × Blk)) (h : ∀ c ∈ lo, c.2.length = 32) (i k : Nat) (hi : i < lo.length) (hk : k < 33) : (flatC lo)[i * 33 + k]? = (cellsC lo[i])[k]? := by
  have hl := cellsC_len _ (h lo[i] (List.getElem_mem hi))
  have h2 : (flatC (lo.take i)).length = i * 33 := by
    rw [flatC_len _ fun c hc => h c (List.mem_of_mem_take hc), List.length_take, Nat.min_eq_left (by omega)]
  conv => lhs; rw [part_at lo i hi]
  rw [flatC_app, List.getElem?_append_right (by omega), show flatC (lo[i] :: lo.drop (i + 1)) = cellsC lo[i] ++ flatC (lo.drop (i + 1)) from List.flatMap_cons, List.getElem?_append_left (by omega)]
  congr 1
  omega
theorem flatC_one : ∀ (lo : List (Nat × Blk)), ∀ u ∈ flatC lo, u.oneCell' = true := by
  intro lo u hu
  obtain ⟨c, _, hc⟩ := List.mem_flatMap.1 hu
  rcases List.mem_cons.1 hc with rfl | hc
  · rfl
  · obtain ⟨_, _, rfl⟩ := List.mem_map.1 hc
    rfl
theorem map_one (x : Blk) : ∀ u ∈ x.map byteV, u.oneCell' = true := by
  intro u hu
  obtain ⟨_, _, rfl⟩ := List.mem_map.1 hu
  rfl
theorem flatB_zero : ∀ n, flatB (List.replicate n zeroB) = List.replicate (n * 32) (byteV 0)
  | 0 => rfl
  | n + 1 => by
    rw [List.replicate_succ, flatB_cons, flatB_zero n, zeroB, List.map_replicate, List.replicate_append_replicate]
    congr 1
    omega
theorem made_zero (n : Nat) (z : Array Value) (hz : z = Array.replicate 32 (byteV 0)) : madeCells z (n * 32) = (flatB (List.replicate n zeroB)).toArray := by
  subst hz
  rw [flatB_zero]
  apply Array.ext
  · simp [madeCells]
  · intro i h1 h2
    have h3 : i % 32 < (Array.replicate 32 (byteV 0)).size := by simp; omega
    have h4 : (Array.replicate 32 (byteV 0))[i % 32]! = byteV 0 := by rw [getElem!_pos (Array.replicate 32 (byteV 0)) (i % 32) h3, Array.getElem_replicate]
    simp [madeCells, h4]
theorem ok32_zero (n : Nat) : ok32 (List.replicate n zeroB) := fun x hx => by
  rw [(List.mem_replicate.1 hx).2]
  rfl
end Go.Proofs.Ytgmlgjdibpphaaa
