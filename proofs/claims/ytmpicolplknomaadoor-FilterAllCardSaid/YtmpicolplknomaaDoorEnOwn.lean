/- Attributes in a row of the call's own; entry.without: the walk. -/
import Derived.Test.YtmpicolplknomaaDoorEnFind
import Derived.Deep.AppendLies
import Derived.Deep.RegionLaw
namespace Go.Proofs.YtmpicolplknomaaDoor
open Go.RowKit
set_option linter.unusedVariables false

abbrev PT := List UInt8 × Value
def cellsP : List PT → List Value
  | [] => []
  | r :: l => strV r.1 :: r.2 :: cellsP l
theorem cellsP_append : ∀ a b : List PT, cellsP (a ++ b) = cellsP a ++ cellsP b
  | [], _ => rfl
  | r :: a, b => by show _ :: _ :: cellsP (a ++ b) = _; rw [cellsP_append a b]; rfl
theorem cellsP_length : ∀ l : List PT, (cellsP l).length = l.length * 2
  | [] => rfl
  | r :: l => by simp [cellsP, cellsP_length l]; omega
theorem cellsP_get : ∀ (l : List PT) (j : Nat) (h : j < l.length), (cellsP l)[j * 2]? = some (strV l[j].1) ∧ (cellsP l)[j * 2 + 1]? = some l[j].2
  | r :: l, 0, _ => ⟨rfl, rfl⟩
  | r :: l, j + 1, h => by
    have := cellsP_get l j (by simpa using h)
    rw [show (j + 1) * 2 = j * 2 + 2 from by omega]
    exact this

/-- The value v is the list of these texts, in blocks of which ok is true. -/
def IsTo (ok : Nat → Prop) (w : World) (L : List (List UInt8)) (v : Value) : Prop := ∃ a c, v = .slice a L.length c ∧ L.length ≤ maxLen ∧
  ∀ j, (h : j < L.length) → ∃ b off, a = some ⟨b, off, none⟩ ∧ ok b ∧ w.cell? ⟨b, off + j, none⟩ = some (strV L[j])
theorem IsTo.imp {ok ok' : Nat → Prop} {w w' : World} {L : List (List UInt8)} {v : Value} (h : IsTo ok w L v) (hi : ∀ b, ok b → ok' b) (hc : ∀ b o, ok b → w'.cell? ⟨b, o, none⟩ = w.cell? ⟨b, o, none⟩) : IsTo ok' w' L v := by
  obtain ⟨a, c, hv, hm, h⟩ := h
  refine ⟨a, c, hv, hm, fun j hj => ?_⟩
  obtain ⟨b, off, ha, hb, h0⟩ := h j hj
  exact ⟨b, off, ha, hi b hb, (hc b _ hb).trans h0⟩
theorem IsTo.to {ok : Nat → Prop} {n : Nat} {w : World} {L : List (List UInt8)} {v : Value} (h : IsTo ok w L v) (hi : ∀ b, ok b → b < n) : IsT n w L v := by
  obtain ⟨a, c, hv, hm, h⟩ := h
  refine ⟨a, c, hv, hm, fun j hj => ?_⟩
  obtain ⟨b, off, ha, hb, h0⟩ := h j hj
  exact ⟨b, off, ha, hi b hb, h0⟩
theorem IsT.isTo {n : Nat} {w : World} {L : List (List UInt8)} {v : Value} (h : IsT n w L v) : IsTo (· < n) w L v := h
/-- .. in a row of the call's own, made since the block base. -/
theorem ownS_isTo {B : Nat} {w : World} {v : Value} {L : List (List UInt8)} (h : OwnS B w v L) (hl : L.length ≤ maxLen) : IsTo (fun b => B ≤ b ∧ b < w.heap.size) w L v := by
  by_cases hne : L = []
  · subst hne
    obtain ⟨a, c, hv⟩ := ownS_slice h
    exact ⟨a, c, hv, hl, fun j hj => absurd hj (by simp)⟩
  · obtain ⟨g, c, hv, hB, hg, hc⟩ := ownS_at h hne
    exact ⟨_, c, hv, hl, fun j hj => ⟨g, 0, rfl, ⟨hB, hg⟩, by rw [Nat.zero_add]; exact hc j hj⟩⟩

/-- What the row's attributes are. -/
def Says (B : Nat) (w : World) (v : Value) (P : List PT) (L : List AT) : Prop := P.length = L.length ∧ ∀ j (h : j < L.length) (h' : j < P.length), P[j].1 = L[j].1 ∧ IsTo (fun b => B ≤ b ∧ b < w.heap.size ∧ some b ≠ v.ownBlock) w L[j].2 P[j].2
theorem says_below {B : Nat} {w w' : World} {v : Value} {P : List PT} {L : List AT} (h : Says B w v P L) (hb : Below w.heap.size w w') : Says B w' v P L :=
  ⟨h.1, fun j h1 h2 => ⟨(h.2 j h1 h2).1, (h.2 j h1 h2).2.imp (fun b hk => ⟨hk.1, Nat.lt_of_lt_of_le hk.2.1 hb.size, hk.2.2⟩) (fun b o hk => hb.cell (p := ⟨b, o, none⟩) hk.2.1)⟩⟩
/-- A new attribute behind those that there are. -/
theorem says_more {B : Nat} {w w' : World} {v v' : Value} {P : List PT} {L : List AT} {X : List UInt8} {u : Value} {A : List (List UInt8)} (h : Says B w v P L) (hu : IsTo (fun b => B ≤ b ∧ b < w.heap.size ∧ some b ≠ v.ownBlock) w A u)
    (hg : w.grownBy w' v.ownBlock) (hat : v'.ownBlock = v.ownBlock ∨ v'.ownBlock = some w.heap.size) : Says B w' v' (P ++ [(X, u)]) (L ++ [(X, A)]) := by
  have ok : ∀ b, (B ≤ b ∧ b < w.heap.size ∧ some b ≠ v.ownBlock) → (B ≤ b ∧ b < w'.heap.size ∧ some b ≠ v'.ownBlock) := fun b hb => ⟨hb.1, Nat.lt_of_lt_of_le hb.2.1 hg.size, by
    rcases hat with e | e
    · rw [e]; exact hb.2.2
    · rw [e]; intro h; have := Option.some.inj h; have := hb.2.1; omega⟩
  have hc : ∀ b o, (B ≤ b ∧ b < w.heap.size ∧ some b ≠ v.ownBlock) → w'.cell? ⟨b, o, none⟩ = w.cell? ⟨b, o, none⟩ := fun b o hb => by
    have := hg.block b hb.2.1 hb.2.2
    simp only [World.cell?, this]
  refine ⟨by simp [h.1], fun j h1 h2 => ?_⟩
  by_cases hj : j < L.length
  · have hj' : j < P.length := by rw [h.1]; exact hj
    rw [List.getElem_append_left hj', List.getElem_append_left hj]
    exact ⟨(h.2 j hj hj').1, (h.2 j hj hj').2.imp ok hc⟩
  · have e1 : j = L.length := by simp at h1; omega
    have e2 : j = P.length := by rw [h.1]; exact e1
    have g1 : (P ++ [(X, u)])[j] = (X, u) := by simp [e2]
    have g2 : (L ++ [(X, A)])[j] = (X, A) := by simp [e1]
    rw [g1, g2]
    exact ⟨rfl, hu.imp ok hc⟩
theorem strV_whole (X : ByteArray) : strV X.data.toList = .string X := by show Value.string ⟨X.data.toList.toArray⟩ = _; rw [whole_ext]
end Go.Proofs.YtmpicolplknomaaDoor
