/- schema.rows, row.class, find: the walks. -/
import Derived.Test.YtncnlbmdkognnaaGreatDoorScOwn
import Derived.Test.YtncnlbmdkognnaaGreatDoorMaNum
import Derived.Sort.OwnSorted
namespace Go.Proofs.YtncnlbmdkognnaaGreatDoor
open Go.RowKit
set_option linter.unusedVariables false

/-- The table of white space is as the library lays it. -/
def LaidF (w : World) : Prop := Lib.TabIs Tryz.prog w "strings.asciiSpace" .u8 Lib.asciiSpaceTab
def plainB (l : List UInt8) : Bool := l.all (fun b => decide (b.toNat < 128)) && decide (l.length < 1000)
/-- Own blocks: made since the block B. -/
abbrev New (B : Nat) (w : World) (b : Nat) : Prop := B ≤ b ∧ b < w.heap.size
theorem isTo_new {L : List (List UInt8)} {w : World} {v : Value} {B : Nat} (h : OwnS B w v L) (hl : L.length ≤ maxLen) : IsTo (New B w) w L v := ownS_isTo h hl

def rowCells : Array Value := #[.string { data := #[116, 111, 112] }, .string { data := #[] }, .bool false, .string { data := #[111, 98, 106, 101, 99, 116, 99, 108, 97, 115, 115] }, .string { data := #[] }, .string { data := #[111, 114, 103, 97, 110, 105, 122, 97, 116, 105, 111, 110] }, .string { data := #[116, 111, 112] }, .bool true, .string { data := #[111] }, .string { data := #[100, 101, 115, 99, 114, 105, 112, 116, 105, 111, 110] }, .string { data := #[111, 114, 103, 97, 110, 105, 122, 97, 116, 105, 111, 110, 97, 108, 117, 110, 105, 116] }, .string { data := #[116, 111, 112] }, .bool true, .string { data := #[111, 117] }, .string { data := #[100, 101, 115, 99, 114, 105, 112, 116, 105, 111, 110] }, .string { data := #[112, 101, 114, 115, 111, 110] }, .string { data := #[116, 111, 112] }, .bool true, .string { data := #[99, 110, 32, 115, 110] }, .string { data := #[100, 101, 115, 99, 114, 105, 112, 116, 105, 111, 110, 32, 117, 115, 101, 114, 112, 97, 115, 115, 119, 111, 114, 100] }, .string { data := #[105, 110, 101, 116, 111, 114, 103, 112, 101, 114, 115, 111, 110] }, .string { data := #[112, 101, 114, 115, 111, 110] }, .bool true, .string { data := #[] }, .string { data := #[117, 105, 100, 32, 109, 97, 105, 108] }, .string { data := #[112, 111, 115, 105, 120] }, .string { data := #[116, 111, 112] }, .bool false, .string { data := #[117, 105, 100, 32, 117, 105, 100, 110, 117, 109, 98, 101, 114] }, .string { data := #[] }, .string { data := #[103, 114, 111, 117, 112, 111, 102, 110, 97, 109, 101, 115] }, .string { data := #[116, 111, 112] }, .bool true, .string { data := #[99, 110, 32, 109, 101, 109, 98, 101, 114] }, .string { data := #[100, 101, 115, 99, 114, 105, 112, 116, 105, 111, 110] }]
def rowsV : Value := .agg rowCells
def rowV (c : CT) : Value := .agg #[strV c.name, strV c.sup, .bool c.st, strV c.must, strV c.may]
theorem class_plain : ∀ c ∈ classL, plainB c.must = true ∧ plainB c.may = true := by
  intro c hc
  simp only [classL, List.mem_cons, List.not_mem_nil, or_false] at hc
  rcases hc with rfl | rfl | rfl | rfl | rfl | rfl | rfl <;> decide
theorem fields_len (l : List UInt8) : (Lib.fields l).length ≤ l.length + 1 := by
  have h : ∀ (l cur : List UInt8), (Lib.fieldsGo cur l).length ≤ l.length + 1 := by
    intro l
    induction l with
    | nil => intro cur; unfold Lib.fieldsGo; split <;> simp
    | cons b l ih =>
      intro cur
      unfold Lib.fieldsGo
      split
      · split
        · have := ih []; simp; omega
        · have := ih []; simp; omega
      · have := ih (cur ++ [b]); simp; omega
  exact h l []

theorem isTo_slice {ok : Nat → Prop} {w : World} {L : List (List UInt8)} {v : Value} (h : IsTo ok w L v) : ∃ a n c, v = .slice a n c := by
  obtain ⟨a, c, h, _⟩ := h
  exact ⟨a, _, c, h⟩
/-- The zero class. -/
def noC : Value := .agg #[.string ⟨#[]⟩, .string ⟨#[]⟩, .bool false, .slice none 0 0, .slice none 0 0]

theorem cell_ne (w : World) (a : Addr) (x : Value) {b : Nat} (o : Nat) (h : b ≠ a.block) : (w.setCell a x).cell? ⟨b, o, none⟩ = w.cell? ⟨b, o, none⟩ := by
  have : (w.setCell a x).heap[b]? = w.heap[b]? := by
    unfold World.setCell
    simp [Array.getElem?_modify, Ne.symm h]
  simp only [World.cell?, this]
/-- A block of five cells is written. -/
abbrev set5 (w : World) (b : Nat) (x0 x1 x2 x3 x4 : Value) : World := ((((w.setCell ⟨b, 0, none⟩ x0).setCell ⟨b, 1, none⟩ x1).setCell ⟨b, 2, none⟩ x2).setCell ⟨b, 3, none⟩ x3).setCell ⟨b, 4, none⟩ x4
theorem set5_cell (w : World) (b : Nat) (x0 x1 x2 x3 x4 : Value) {k : Nat} (o : Nat) (h : k ≠ b) : (set5 w b x0 x1 x2 x3 x4).cell? ⟨k, o, none⟩ = w.cell? ⟨k, o, none⟩ := by
  simp only [set5]
  rw [cell_ne _ ⟨b, 4, none⟩ _ o h, cell_ne _ ⟨b, 3, none⟩ _ o h, cell_ne _ ⟨b, 2, none⟩ _ o h, cell_ne _ ⟨b, 1, none⟩ _ o h, cell_ne _ ⟨b, 0, none⟩ _ o h]
theorem set5_below {n b : Nat} {w w' : World} (h : Below n w w') (hb : n ≤ b) (x0 x1 x2 x3 x4 : Value) : Below n w (set5 w' b x0 x1 x2 x3 x4) :=
  ((((h.setCell (p := ⟨b, 0, none⟩) hb _).setCell (p := ⟨b, 1, none⟩) hb _).setCell (p := ⟨b, 2, none⟩) hb _).setCell (p := ⟨b, 3, none⟩) hb _).setCell (p := ⟨b, 4, none⟩) hb _
theorem set5_size (w : World) (b : Nat) (x0 x1 x2 x3 x4 : Value) : (set5 w b x0 x1 x2 x3 x4).heap.size = w.heap.size := by simp [set5, World.setCell]
theorem isTo_set5 {B : Nat} {w : World} {L : List (List UInt8)} {v : Value} (h : IsTo (New B w) w L v) {b : Nat} (hb : b < B) {B' : Nat} (hB : B' ≤ B) (x0 x1 x2 x3 x4 : Value) : IsTo (New B' (set5 w b x0 x1 x2 x3 x4)) (set5 w b x0 x1 x2 x3 x4) L v :=
  h.imp (fun k hk => ⟨Nat.le_trans hB hk.1, by rw [set5_size]; exact hk.2⟩) (fun k o hk => set5_cell w b x0 x1 x2 x3 x4 o (by have := hk.1; omega))
theorem isTo_go {B : Nat} {w w' : World} {L : List (List UInt8)} {v : Value} (h : IsTo (New B w) w L v) (hb : Below w.heap.size w w') {B' : Nat} (hB : B' ≤ B) : IsTo (New B' w') w' L v :=
  h.imp (fun k hk => ⟨Nat.le_trans hB hk.1, Nat.lt_of_lt_of_le hk.2 hb.size⟩) (fun k o hk => hb.cell (p := ⟨k, o, none⟩) hk.2)
end Go.Proofs.YtncnlbmdkognnaaGreatDoor
