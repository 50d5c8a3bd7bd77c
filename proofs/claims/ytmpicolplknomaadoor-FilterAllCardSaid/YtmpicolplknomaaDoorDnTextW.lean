/- dn.Text: the walk. -/
import Derived.Test.YtmpicolplknomaaDoorDnText
namespace Go.Proofs.YtmpicolplknomaaDoor
open Go.RowKit
set_option linter.unusedVariables false

/-- The value v is the list l, whose elements lie below block n0. -/
def IsL (n0 : Nat) (w : World) (l : List R) (v : Value) : Prop := ∃ a c, v = .slice a l.length c ∧ l.length ≤ maxLen ∧
  ∀ j, (h : j < l.length) → ∃ b off, a = some ⟨b, off, none⟩ ∧ b < n0 ∧ w.cell? ⟨b, off + j * 2, none⟩ = some (strV l[j].1) ∧ w.cell? ⟨b, off + j * 2 + 1, none⟩ = some (strV l[j].2)
theorem IsL.below {n0 n1 : Nat} {w w' : World} {l : List R} {v : Value} (h : IsL n0 w l v) (hb : Below n0 w w') (hn : n0 ≤ n1) : IsL n1 w' l v := by
  obtain ⟨a, c, hv, hm, hc⟩ := h
  refine ⟨a, c, hv, hm, fun j hj => ?_⟩
  obtain ⟨b, off, ha, hlt, c0, c1⟩ := hc j hj
  exact ⟨b, off, ha, Nat.lt_of_lt_of_le hlt hn, (hb.cell (p := ⟨b, _, none⟩) hlt).trans c0, (hb.cell (p := ⟨b, _, none⟩) hlt).trans c1⟩
def textT : Bool → List R → List UInt8
  | _, [] => []
  | f, r :: l => (if f then [] else [44]) ++ (textR r ++ textT false l)
theorem textT_false : ∀ l : List R, l ≠ [] → textT false l = 44 :: textD l
  | [], h => absurd rfl h
  | [r], _ => by simp [textT, textD]
  | r :: x :: l, _ => by
    have := textT_false (x :: l) (by simp)
    show [44] ++ (textR r ++ textT false (x :: l)) = _
    rw [this]; rfl
theorem textT_true : ∀ l : List R, textT true l = textD l
  | [] => rfl
  | [r] => by simp [textT, textD]
  | r :: x :: l => by
    show [] ++ (textR r ++ textT false (x :: l)) = _
    rw [textT_false (x :: l) (by simp)]; rfl
def smallL (l : List R) : Prop := l.length ≤ 1000 ∧ ∀ r ∈ l, r.1.length ≤ 1000 ∧ r.2.length ≤ 1000
theorem textT_len : ∀ (l : List R) (f : Bool), (∀ r ∈ l, r.1.length ≤ 1000 ∧ r.2.length ≤ 1000) → (textT f l).length ≤ l.length * 5000
  | [], f, _ => by simp [textT]
  | r :: l, f, h => by
    have h1 := h r (by simp)
    have h2 := textT_len l false (fun x hx => h x (by simp [hx]))
    have h3 := escR_len r.2 true
    have h4 : (textR r).length = r.1.length + 1 + (escR true r.2).length := by simp [textR, escV]; omega
    have h5 : (if f = true then ([] : List UInt8) else [44]).length ≤ 1 := by split <;> simp
    simp only [textT, List.length_append, List.length_cons]
    omega
theorem textT_drop (l : List R) (j : Nat) (f : Bool) (h : j < l.length) : textT f (l.drop j) = (if f then [] else [44]) ++ (textR l[j] ++ textT false (l.drop (j + 1))) := by
  rw [List.drop_eq_getElem_cons h]; rfl

theorem ofText_len (l : List R) (h : smallL l) : (textD l).length ≤ 5000000 := by
  have := textT_len l true h.2
  have := h.1
  rw [textT_true] at *
  omega

theorem bld_alloc {B b : Nat} {l : List UInt8} {w : World} (h : Bld B b l w) (o : Obj) : Bld B b l (w.alloc o) := by
  rcases h with h | h
  · have hlt := h.lt
    obtain ⟨hB, v, hb, hown, hne⟩ := h
    exact .inl ⟨hB, v, (Lib.alloc_old w o b hlt).trans hb, World.ownsRow.alloc hown _, hne⟩
  · have hlt := h.lt
    obtain ⟨hB, v, hb, hown, hne⟩ := h
    exact .inr ⟨hB, v, (Lib.alloc_old w o b hlt).trans hb, World.ownsRow.alloc hown _, hne⟩

/-- What has been written so far. -/
def Told (b : Nat) (l : List R) (j : Nat) (wr : World) : Prop := ∃ E, E ++ textT (decide (j = 0)) (l.drop j) = textD l ∧ Bld b b E wr ∧ E.length ≤ 5000000

end Go.Proofs.YtmpicolplknomaaDoor
