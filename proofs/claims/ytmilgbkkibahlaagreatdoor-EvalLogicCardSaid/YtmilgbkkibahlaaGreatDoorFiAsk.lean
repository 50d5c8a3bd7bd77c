/- filter.parts, asked: the walks. -/
import Derived.Test.YtmilgbkkibahlaaGreatDoorFiLib
import Derived.Test.YtmilgbkkibahlaaGreatDoorFiWrite
namespace Go.Proofs.YtmilgbkkibahlaaGreatDoor
open Go.RowKit
set_option linter.unusedVariables false
set_option linter.unusedSimpArgs false

/-- A filter in a block. -/
abbrev FlAt (W : World) (b : Nat) (x0 x1 x2 x3 x4 : Value) : Prop := W.heap[b]? = some (.cells #[x0, x1, x2, x3, x4] 31 (0, 0))
abbrev FzAt (W : World) (b : Nat) : Prop := FlAt W b (.int .i64 0) (.string ⟨#[]⟩) (.string ⟨#[]⟩) (.slice none 0 0) (.slice none 0 0)
def set5F (W : World) (b : Nat) (x0 x1 x2 x3 x4 : Value) : World := ((((W.setCell ⟨b, 0, none⟩ x0).setCell ⟨b, 1, none⟩ x1).setCell ⟨b, 2, none⟩ x2).setCell ⟨b, 3, none⟩ x3).setCell ⟨b, 4, none⟩ x4
theorem fl_lt {W : World} {b : Nat} {x0 x1 x2 x3 x4 : Value} (h : FlAt W b x0 x1 x2 x3 x4) : b < W.heap.size := (Array.getElem?_eq_some_iff.1 h).1
theorem fl_below {W W' : World} {b n : Nat} {x0 x1 x2 x3 x4 : Value} (h : FlAt W b x0 x1 x2 x3 x4) (hb : Below n W W') (hn : b < n) : FlAt W' b x0 x1 x2 x3 x4 := (hb.block b hn).trans h
theorem fl_cells {W : World} {b : Nat} {x0 x1 x2 x3 x4 : Value} (h : FlAt W b x0 x1 x2 x3 x4) : W.cell? ⟨b, 0, none⟩ = some x0 ∧ W.cell? ⟨b, 1, none⟩ = some x1 ∧ W.cell? ⟨b, 2, none⟩ = some x2 ∧ W.cell? ⟨b, 3, none⟩ = some x3 ∧ W.cell? ⟨b, 4, none⟩ = some x4 := cells5 h
theorem fl_frozen {W : World} {b : Nat} {x0 x1 x2 x3 x4 : Value} (h : FlAt W b x0 x1 x2 x3 x4) : W.frozen? ⟨b, 0, none⟩ = false ∧ W.frozen? ⟨b, 1, none⟩ = false ∧ W.frozen? ⟨b, 2, none⟩ = false ∧ W.frozen? ⟨b, 3, none⟩ = false ∧ W.frozen? ⟨b, 4, none⟩ = false := by
  refine ⟨?_, ?_, ?_, ?_, ?_⟩ <;> simp [World.frozen?, h]
theorem fl_set {W : World} {b : Nat} {y0 y1 y2 y3 y4 : Value} (h : FlAt W b y0 y1 y2 y3 y4) (x0 x1 x2 x3 x4 : Value) : FlAt (set5F W b x0 x1 x2 x3 x4) b x0 x1 x2 x3 x4 := by
  have h' : W.heap[b]? = some (.cells #[y0, y1, y2, y3, y4] 31 (0, 0)) := h
  show (set5F W b x0 x1 x2 x3 x4).heap[b]? = _
  simp [set5F, World.setCell, Array.getElem?_modify, h']
theorem fl_setB {W W0 : World} {b n : Nat} (h : Below n W0 W) (hn : n ≤ b) (x0 x1 x2 x3 x4 : Value) : Below n W0 (set5F W b x0 x1 x2 x3 x4) :=
  ((((h.setCell (p := ⟨b, 0, none⟩) hn x0).setCell (p := ⟨b, 1, none⟩) hn x1).setCell (p := ⟨b, 2, none⟩) hn x2).setCell (p := ⟨b, 3, none⟩) hn x3).setCell (p := ⟨b, 4, none⟩) hn x4
theorem blockFl_ne (w : World) (a : Addr) (x : Value) {b : Nat} (h : b ≠ a.block) : (w.setCell a x).heap[b]? = w.heap[b]? := by
  unfold World.setCell
  simp [Array.getElem?_modify, Ne.symm h]
theorem fl_setO {W : World} {b k : Nat} (h : k ≠ b) (x0 x1 x2 x3 x4 : Value) : (set5F W b x0 x1 x2 x3 x4).heap[k]? = W.heap[k]? := by
  unfold set5F
  rw [blockFl_ne _ ⟨b, 4, none⟩ _ h, blockFl_ne _ ⟨b, 3, none⟩ _ h, blockFl_ne _ ⟨b, 2, none⟩ _ h, blockFl_ne _ ⟨b, 1, none⟩ _ h, blockFl_ne _ ⟨b, 0, none⟩ _ h]
theorem set5F_size (W : World) (b : Nat) (x0 x1 x2 x3 x4 : Value) : (set5F W b x0 x1 x2 x3 x4).heap.size = W.heap.size := by simp [set5F, World.setCell]
/-- A row of texts that lies elsewhere. -/
theorem ownS_fl {W : World} {b B : Nat} {y0 y1 y2 y3 y4 : Value} (h : FlAt W b y0 y1 y2 y3 y4) {u : Value} {p : List (List UInt8)} (hu : OwnS B W u p) (x0 x1 x2 x3 x4 : Value) : OwnS B (set5F W b x0 x1 x2 x3 x4) u p := by
  have hg : W.grownBy (set5F W b x0 x1 x2 x3 x4) (some b) := ⟨by simp [set5F, World.setCell], by simp [set5F, World.setCell], by simp [set5F, World.setCell], by rw [set5F_size]; exact Nat.le_refl _, fun k hk hn => fl_setO (fun e => hn (by rw [e])) _ _ _ _ _⟩
  refine World.ownsRow.kept hu hg ?_
  rcases hu.2 with ⟨rfl, _⟩ | ⟨g, cap, cur, rfl, _, hgc, _⟩
  · exact .inl rfl
  · right
    intro e
    have : g = b := by simpa [Value.ownBlock] using e
    subst this
    rw [h] at hgc
    cases hgc

/-- What asked tells. -/
def AskV (B : Nat) (w : World) (o : Option (Int × List UInt8 × List (List UInt8))) (v : Value) : Prop := match o with
  | none => ∃ k : Int, v = .tuple #[.agg #[.int .i64 k, .string ⟨#[]⟩, .string ⟨#[]⟩, .slice none 0 0, .slice none 0 0], .bool false]
  | some (k, x, p) => ∃ u, v = .tuple #[.agg #[.int .i64 k, .string ⟨#[]⟩, strV x, u, .slice none 0 0], .bool true] ∧ OwnS B w u p
theorem allV_none {P : List (List UInt8)} {j : Nat} (hj : j < P.length) (h : valQ 100 P[j] = none) : allV P = none := by
  induction P generalizing j with
  | nil => simp at hj
  | cons x l ih =>
    show (match valQ 100 x, allV l with
      | some v, some r => some (v :: r)
      | _, _ => none) = none
    cases j with
    | zero =>
      have : valQ 100 x = none := h
      rw [this]
    | succ j =>
      rw [ih (by simpa using hj) h]
      cases valQ 100 x <;> rfl
theorem allV_snoc : ∀ (P : List (List UInt8)) (x : List UInt8) {V : List (List UInt8)} {v : List UInt8}, allV P = some V → valQ 100 x = some v → allV (P ++ [x]) = some (V ++ [v])
  | [], x, V, v, h, hv => by
    have : V = [] := by simpa [allV] using h.symm
    subst this
    show (match valQ 100 x, allV [] with
      | some v, some r => some (v :: r)
      | _, _ => none) = _
    rw [hv]
    rfl
  | y :: P, x, V, v, h, hv => by
    have h' : (match valQ 100 y, allV P with
      | some v, some r => some (v :: r)
      | _, _ => none) = some V := h
    cases h1 : valQ 100 y with
    | none => rw [h1] at h'; cases h'
    | some a =>
      cases h2 : allV P with
      | none => rw [h1, h2] at h'; cases h'
      | some r =>
        rw [h1, h2] at h'
        obtain rfl := Option.some.inj h'
        show (match valQ 100 y, allV (P ++ [x]) with
          | some v, some r => some (v :: r)
          | _, _ => none) = _
        rw [h1, allV_snoc P x h2 hv]
        rfl
theorem valFl_len {l v : List UInt8} (h : valQ 100 l = some v) : v.length ≤ 100 := (val_sound 100 l v h).2

end Go.Proofs.YtmilgbkkibahlaaGreatDoor
