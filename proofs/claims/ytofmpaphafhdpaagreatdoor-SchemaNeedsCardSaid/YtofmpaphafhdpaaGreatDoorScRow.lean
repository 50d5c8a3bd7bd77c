/- schema.rows, row.class, find: the walks. -/
import Derived.Test.YtofmpaphafhdpaaGreatDoorScOwn
import Derived.Test.YtofmpaphafhdpaaGreatDoorMaNum
import Derived.Sort.OwnSorted
namespace Go.Proofs.YtofmpaphafhdpaaGreatDoor
open Go.RowKit
set_option linter.unusedVariables false

/-- The table of white space is as the library lays it. -/
def LaidF (w : World) : Prop := Lib.TabIs Tryz.prog w "strings.asciiSpace" .u8 Lib.asciiSpaceTab
theorem LaidF.below {w w' : World} (h : LaidF w) (hb : Below w.heap.size w w') : LaidF w' := Joins.tab_stays (g := 1) (by kernel_rfl) h hb (Nat.le_refl _)

def plainB (l : List UInt8) : Bool := l.all (fun b => decide (b.toNat < 128)) && decide (l.length < 1000)
/-- Own blocks: made since the block B. -/
abbrev New (B : Nat) (w : World) (b : Nat) : Prop := B ≤ b ∧ b < w.heap.size
theorem isTo_new {L : List (List UInt8)} {w : World} {v : Value} {B : Nat} (h : OwnS B w v L) (hl : L.length ≤ maxLen) : IsTo (New B w) w L v := ownS_isTo h hl

def rowCells : Array Value := #[.string { data := #[116, 111, 112] }, .string { data := #[] }, .bool false, .string { data := #[111, 98, 106, 101, 99, 116, 99, 108, 97, 115, 115] }, .string { data := #[] }, .string { data := #[111, 114, 103, 97, 110, 105, 122, 97, 116, 105, 111, 110] }, .string { data := #[116, 111, 112] }, .bool true, .string { data := #[111] }, .string { data := #[100, 101, 115, 99, 114, 105, 112, 116, 105, 111, 110] }, .string { data := #[111, 114, 103, 97, 110, 105, 122, 97, 116, 105, 111, 110, 97, 108, 117, 110, 105, 116] }, .string { data := #[116, 111, 112] }, .bool true, .string { data := #[111, 117] }, .string { data := #[100, 101, 115, 99, 114, 105, 112, 116, 105, 111, 110] }, .string { data := #[112, 101, 114, 115, 111, 110] }, .string { data := #[116, 111, 112] }, .bool true, .string { data := #[99, 110, 32, 115, 110] }, .string { data := #[100, 101, 115, 99, 114, 105, 112, 116, 105, 111, 110, 32, 117, 115, 101, 114, 112, 97, 115, 115, 119, 111, 114, 100] }, .string { data := #[105, 110, 101, 116, 111, 114, 103, 112, 101, 114, 115, 111, 110] }, .string { data := #[112, 101, 114, 115, 111, 110] }, .bool true, .string { data := #[] }, .string { data := #[117, 105, 100, 32, 109, 97, 105, 108] }, .string { data := #[112, 111, 115, 105, 120] }, .string { data := #[116, 111, 112] }, .bool false, .string { data := #[117, 105, 100, 32, 117, 105, 100, 110, 117, 109, 98, 101, 114] }, .string { data := #[] }, .string { data := #[103, 114, 111, 117, 112, 111, 102, 110, 97, 109, 101, 115] }, .string { data := #[116, 111, 112] }, .bool true, .string { data := #[99, 110, 32, 109, 101, 109, 98, 101, 114] }, .string { data := #[100, 101, 115, 99, 114, 105, 112, 116, 105, 111, 110] }]
def rowsV : Value := .agg rowCells
theorem row_row : (Tryz.prog.info? 104).map (·.size) = some rowCells.size := by kernel_rfl
set_option maxRecDepth 100000 in
set_option maxHeartbeats 1000000 in
theorem rows_any (w : World) : Calls Tryz.prog 67 #[] w fun e w' => e = .returned rowsV ∧ Below w.heap.size w w' := by
  have hld := run_loadVar_new (P := Tryz.prog) w 104 rowCells 7 103 Tryz.underlying104 row_row
  go_enter Tryz.func67, Tryz.ntmps67
  go_wp2_with (first | (refine wpList_buildTo rfl 104 _ rfl (some 8) rfl rowCells (by kernel_rfl) ?_) | (refine wpList_store_row rfl 104 (.tmp 0) (.tmp 8) rfl w.heap.size rowCells rfl rfl 104 _ (Array.getElem?_push_size ..) (by kernel_rfl) (by kernel_rfl) (by kernel_rfl) ?_; rw [World.setRow_alloc_new]))
  refine bodyPost_ret (v := rowsV) ?_ rfl ⟨rfl, (Below.refl _ _).alloc (Nat.le_refl _) _⟩
  exact results_one rfl rfl hld

def rowV (c : CT) : Value := .agg #[strV c.name, strV c.sup, .bool c.st, strV c.must, strV c.may]
theorem row_all (w : World) : ∀ k : Fin 7, (Instr.index 104 rowsV (.int .i64 k.1)).run Tryz.prog w = .ok (rowV (classL.getD k.1 ⟨[], [], false, [], []⟩)) w
  | ⟨0, _⟩ => by show (Instr.index 104 rowsV (.int .i64 ((0 : Nat) : Int))).run Tryz.prog w = _; kernel_rfl
  | ⟨1, _⟩ => by show (Instr.index 104 rowsV (.int .i64 ((1 : Nat) : Int))).run Tryz.prog w = _; kernel_rfl
  | ⟨2, _⟩ => by show (Instr.index 104 rowsV (.int .i64 ((2 : Nat) : Int))).run Tryz.prog w = _; kernel_rfl
  | ⟨3, _⟩ => by show (Instr.index 104 rowsV (.int .i64 ((3 : Nat) : Int))).run Tryz.prog w = _; kernel_rfl
  | ⟨4, _⟩ => by show (Instr.index 104 rowsV (.int .i64 ((4 : Nat) : Int))).run Tryz.prog w = _; kernel_rfl
  | ⟨5, _⟩ => by show (Instr.index 104 rowsV (.int .i64 ((5 : Nat) : Int))).run Tryz.prog w = _; kernel_rfl
  | ⟨6, _⟩ => by show (Instr.index 104 rowsV (.int .i64 ((6 : Nat) : Int))).run Tryz.prog w = _; kernel_rfl
theorem row_at (k : Nat) (h : k < classL.length) (w : World) : (Instr.index 104 rowsV (.int .i64 k)).run Tryz.prog w = .ok (rowV classL[k]) w := by
  have := row_all w ⟨k, h⟩
  have e : classL.getD k ⟨[], [], false, [], []⟩ = classL[k] := by simp [List.getD, h]
  simp only [e] at this
  exact this
theorem class_plain : ∀ c ∈ classL, plainB c.must = true ∧ plainB c.may = true := by
  intro c hc
  simp only [classL, List.mem_cons, List.not_mem_nil, or_false] at hc
  rcases hc with rfl | rfl | rfl | rfl | rfl | rfl | rfl <;> decide
theorem fields_len (l : List UInt8) : (Lib.fields l).length ≤ l.length + 1 := by
  have h : ∀ (l cur : List UInt8), (Lib.fieldsGo cur l).length ≤ l.length + 1 := by
    intro l
    induction l with
    | nil => intro cur; unfold Lib.fieldsGo; split <;> simp
    | cons b l ih =>
      intro cur
      unfold Lib.fieldsGo
      split
      · split
        · have := ih []; simp; omega
        · have := ih []; simp; omega
      · have := ih (cur ++ [b]); simp; omega
  exact h l []

theorem fields_any (s : ByteArray) (w : World) (hl : LaidF w) (hp : plainB s.data.toList = true) :
    Calls Tryz.prog 102 #[.string s] w fun e w' => ∃ u, e = .returned u ∧ IsTo (New w.heap.size w') w' (Lib.fields s.data.toList) u ∧ Below w.heap.size w w' := by
  unfold plainB at hp
  simp only [Bool.and_eq_true, decide_eq_true_eq, List.all_eq_true] at hp
  have hsz : s.size < 1000 := by rw [← bytes_len]; exact hp.2
  have hf := fields_len s.data.toList
  rw [bytes_len] at hf
  refine (Tryz.strings_Fields s w (by omega) (fun j b hj => hp.1 b (List.mem_of_getElem? hj)) hl).mono ?_
  rintro e w' ⟨rfl, rfl⟩
  refine ⟨_, rfl, ⟨_, _, rfl, by unfold maxLen; omega, fun j hj => ⟨w.heap.size, 0, rfl, ⟨Nat.le_refl _, by simp⟩, ?_⟩⟩, (Below.refl _ _).alloc (Nat.le_refl _) _⟩
  have h : (w.alloc (.cells ((Lib.fields s.data.toList).map fun l => Value.string ⟨l.toArray⟩).toArray 9)).heap[w.heap.size]? = some (.cells ((Lib.fields s.data.toList).map fun l => Value.string ⟨l.toArray⟩).toArray 9 (0, 0)) := heap_alloc_new w _
  simp only [World.cell?]
  rw [h]
  simp [hj, strV]

theorem isTo_slice {ok : Nat → Prop} {w : World} {L : List (List UInt8)} {v : Value} (h : IsTo ok w L v) : ∃ a n c, v = .slice a n c := by
  obtain ⟨a, c, h, _⟩ := h
  exact ⟨a, _, c, h⟩
/-- The zero class. -/
def noC : Value := .agg #[.string ⟨#[]⟩, .string ⟨#[]⟩, .bool false, .slice none 0 0, .slice none 0 0]

theorem cell_ne (w : World) (a : Addr) (x : Value) {b : Nat} (o : Nat) (h : b ≠ a.block) : (w.setCell a x).cell? ⟨b, o, none⟩ = w.cell? ⟨b, o, none⟩ := by
  have : (w.setCell a x).heap[b]? = w.heap[b]? := by
    unfold World.setCell
    simp [Array.getElem?_modify, Ne.symm h]
  simp only [World.cell?, this]
/-- A block of five cells is written. -/
abbrev set5 (w : World) (b : Nat) (x0 x1 x2 x3 x4 : Value) : World := ((((w.setCell ⟨b, 0, none⟩ x0).setCell ⟨b, 1, none⟩ x1).setCell ⟨b, 2, none⟩ x2).setCell ⟨b, 3, none⟩ x3).setCell ⟨b, 4, none⟩ x4
theorem set5_cell (w : World) (b : Nat) (x0 x1 x2 x3 x4 : Value) {k : Nat} (o : Nat) (h : k ≠ b) : (set5 w b x0 x1 x2 x3 x4).cell? ⟨k, o, none⟩ = w.cell? ⟨k, o, none⟩ := by
  simp only [set5]
  rw [cell_ne _ ⟨b, 4, none⟩ _ o h, cell_ne _ ⟨b, 3, none⟩ _ o h, cell_ne _ ⟨b, 2, none⟩ _ o h, cell_ne _ ⟨b, 1, none⟩ _ o h, cell_ne _ ⟨b, 0, none⟩ _ o h]
theorem set5_below {n b : Nat} {w w' : World} (h : Below n w w') (hb : n ≤ b) (x0 x1 x2 x3 x4 : Value) : Below n w (set5 w' b x0 x1 x2 x3 x4) :=
  ((((h.setCell (p := ⟨b, 0, none⟩) hb _).setCell (p := ⟨b, 1, none⟩) hb _).setCell (p := ⟨b, 2, none⟩) hb _).setCell (p := ⟨b, 3, none⟩) hb _).setCell (p := ⟨b, 4, none⟩) hb _
theorem set5_size (w : World) (b : Nat) (x0 x1 x2 x3 x4 : Value) : (set5 w b x0 x1 x2 x3 x4).heap.size = w.heap.size := by simp [set5, World.setCell]
theorem isTo_set5 {B : Nat} {w : World} {L : List (List UInt8)} {v : Value} (h : IsTo (New B w) w L v) {b : Nat} (hb : b < B) {B' : Nat} (hB : B' ≤ B) (x0 x1 x2 x3 x4 : Value) : IsTo (New B' (set5 w b x0 x1 x2 x3 x4)) (set5 w b x0 x1 x2 x3 x4) L v :=
  h.imp (fun k hk => ⟨Nat.le_trans hB hk.1, by rw [set5_size]; exact hk.2⟩) (fun k o hk => set5_cell w b x0 x1 x2 x3 x4 o (by have := hk.1; omega))
theorem isTo_go {B : Nat} {w w' : World} {L : List (List UInt8)} {v : Value} (h : IsTo (New B w) w L v) (hb : Below w.heap.size w w') {B' : Nat} (hB : B' ≤ B) : IsTo (New B' w') w' L v :=
  h.imp (fun k hk => ⟨Nat.le_trans hB hk.1, Nat.lt_of_lt_of_le hk.2 hb.size⟩) (fun k o hk => hb.cell (p := ⟨k, o, none⟩) hk.2)
/-- A class in a block of its own. -/
def BoxC (w : World) (b : Nat) (x0 x1 x2 x3 x4 : Value) : Prop := w.heap[b]? = some (.cells #[x0, x1, x2, x3, x4] 29 (0, 0))
theorem BoxC.below {w w' : World} {b n : Nat} {x0 x1 x2 x3 x4 : Value} (h : BoxC w b x0 x1 x2 x3 x4) (hb : Below n w w') (hn : b < n) : BoxC w' b x0 x1 x2 x3 x4 := (hb.block b hn).trans h
theorem BoxC.cells {w : World} {b : Nat} {x0 x1 x2 x3 x4 : Value} (h : BoxC w b x0 x1 x2 x3 x4) : w.cell? ⟨b, 0, none⟩ = some x0 ∧ w.cell? ⟨b, 1, none⟩ = some x1 ∧ w.cell? ⟨b, 2, none⟩ = some x2 ∧ w.cell? ⟨b, 3, none⟩ = some x3 ∧ w.cell? ⟨b, 4, none⟩ = some x4 := by
  unfold BoxC at h
  simp [World.cell?, h]
theorem BoxC.frozen {w : World} {b : Nat} {x0 x1 x2 x3 x4 : Value} (h : BoxC w b x0 x1 x2 x3 x4) : w.frozen? ⟨b, 0, none⟩ = false ∧ w.frozen? ⟨b, 1, none⟩ = false ∧ w.frozen? ⟨b, 2, none⟩ = false ∧ w.frozen? ⟨b, 3, none⟩ = false ∧ w.frozen? ⟨b, 4, none⟩ = false := by
  unfold BoxC at h
  simp [World.frozen?, h]
theorem boxC_new (w : World) (x0 x1 x2 x3 x4 : Value) : BoxC (w.alloc (.cells #[x0, x1, x2, x3, x4] 29)) w.heap.size x0 x1 x2 x3 x4 := heap_alloc_new w _
theorem BoxC.store {w : World} {b : Nat} {x0 x1 x2 x3 x4 : Value} (h : BoxC w b x0 x1 x2 x3 x4) (y0 y1 y2 y3 y4 : Value) : BoxC (set5 w b y0 y1 y2 y3 y4) b y0 y1 y2 y3 y4 := by
  unfold BoxC at h ⊢
  simp [set5, World.setCell, Array.getElem?_modify, h]

end Go.Proofs.YtofmpaphafhdpaaGreatDoor
