/- The document's strip in memory; count, Write, Tear, Read: the walks. -/
import Derived.Test.YtgmlgjdibpphaaaStRunP
import Derived.Test.YtgmlgjdibpphaaaStReads
namespace Go.Proofs.Ytgmlgjdibpphaaa
open Go.RowKit
set_option linter.unusedVariables false
set_option linter.unusedSimpArgs false

def txtB (x : Blk) : ByteArray := ⟨x.toArray⟩
def cellsD (c : Nat × Blk) : List Value := [.int .i64 c.1, .string (txtB c.2)]
def flatD (L : List (Nat × Blk)) : List Value := L.flatMap cellsD
def strsD (s : List Blk) : List Value := s.map fun x => .string (txtB x)
theorem flatD_len : ∀ (L : List (Nat × Blk)), (flatD L).length = L.length * 2
  | [] => rfl
  | c :: L => by
    have h := flatD_len L
    show (cellsD c ++ flatD L).length = (L.length + 1) * 2
    rw [List.length_append, h]
    show 2 + L.length * 2 = _
    omega
theorem flatD_at : ∀ (L : List (Nat × Blk)) (j : Nat) (h : j < L.length), (flatD L)[j * 2]? = some (.int .i64 L[j].1) ∧ (flatD L)[j * 2 + 1]? = some (.string (txtB L[j].2))
  | [], j, h => absurd h (by simp)
  | c :: L, 0, h => ⟨rfl, rfl⟩
  | c :: L, j + 1, h => by
    have := flatD_at L j (by simpa using h)
    rw [show (j + 1) * 2 = j * 2 + 1 + 1 from by omega]
    exact this
/-- The document's strip, its box in block d, its rows made since block B. -/
structure StD (B d : Nat) (w : World) (D : Dt) (sv lv : Value) : Prop where
  hd : B ≤ d
  box : w.heap[d]? = some (.cells #[sv, lv, .int .i64 D.left, .bool D.off] 43 (0, 0))
  safe : w.ownsRow B 9 1 sv D.sf.length (strsD D.sf)
  row : w.ownsRow B 72 2 lv D.lo.length (flatD D.lo)
/-- Block k holds texts, or the document's changes. -/
def IsD (w : World) (k : Nat) : Prop := ∃ cs fr e, w.heap[k]? = some (.cells cs e fr) ∧ (e = 9 ∨ e = 72)
structure TchD (B d : Nat) (w w' : World) : Prop where
  os : w'.os = w.os
  tape : w'.tape = w.tape
  output : w'.output = w.output
  size : w.heap.size ≤ w'.heap.size
  block : ∀ k, k < w.heap.size → k ≠ d → (k < B ∨ ¬ IsD w k) → w'.heap[k]? = w.heap[k]?
theorem TchD.refl (B d : Nat) (w : World) : TchD B d w w := ⟨rfl, rfl, rfl, Nat.le_refl _, fun _ _ _ _ => rfl⟩
theorem TchD.trans {B d : Nat} {u v w : World} (h : TchD B d u v) (k : TchD B d v w) : TchD B d u w :=
  ⟨k.os.trans h.os, k.tape.trans h.tape, k.output.trans h.output, Nat.le_trans h.size k.size, fun j hj h1 h3 => by
    have e := h.block j hj h1 h3
    exact (k.block j (Nat.lt_of_lt_of_le hj h.size) h1 (h3.imp id fun hn => by unfold IsD at hn ⊢; rw [e]; exact hn)).trans e⟩
theorem TchD.of_below {B d : Nat} {w w' : World} (h : Below w.heap.size w w') : TchD B d w w' := ⟨h.os, h.tape, h.output, h.size, fun k hk _ _ => h.block k hk⟩
theorem TchD.below {B d : Nat} {w w' : World} (h : TchD B d w w') (hd : B ≤ d) (hB : B ≤ w.heap.size) : Below B w w' := ⟨h.os, h.tape, h.output, h.size, fun k hk => h.block k (Nat.lt_of_lt_of_le hk hB) (by omega) (.inl hk)⟩
theorem TchD.setCell {B d : Nat} (w : World) (i : Nat) (v : Value) : TchD B d w (w.setCell ⟨d, i, none⟩ v) :=
  ⟨rfl, rfl, rfl, by simp [World.setCell], fun k _ h1 _ => heap_setCell_ne _ _ _ _ _ h1⟩
theorem row_keepD {B : Nat} {w w' : World} {e : TypeId} {sz : Nat} {v : Value} {n : Nat} {xs : List Value} (h : w.ownsRow B e sz v n xs) (hk : ∀ (k : Nat) (cs : Array Value), w.heap[k]? = some (Obj.cells cs e (0, 0)) → w'.heap[k]? = w.heap[k]?) : w'.ownsRow B e sz v n xs := by
  refine ⟨h.1, ?_⟩
  rcases h.2 with h1 | ⟨k, cap, cur, h1, h2, h3, h4⟩
  · exact .inl h1
  · exact .inr ⟨k, cap, cur, h1, h2, (hk k _ h3).trans h3, h4⟩
theorem StD.keep {B d : Nat} {w w' : World} {D : Dt} {sv lv : Value} (h : StD B d w D sv lv) (hk : ∀ j, j = d ∨ IsD w j → w'.heap[j]? = w.heap[j]?) : StD B d w' D sv lv :=
  ⟨h.hd, (hk d (.inl rfl)).trans h.box, row_keepD h.safe fun k cs hc => hk k (.inr ⟨_, _, _, hc, .inl rfl⟩), row_keepD h.row fun k cs hc => hk k (.inr ⟨_, _, _, hc, .inr rfl⟩)⟩
theorem IsD.lt {w : World} {k : Nat} (h : IsD w k) : k < w.heap.size := by
  obtain ⟨_, _, _, h, _⟩ := h
  exact (Array.getElem?_eq_some_iff.1 h).1
theorem StD.lt {B d : Nat} {w : World} {D : Dt} {sv lv : Value} (h : StD B d w D sv lv) : d < w.heap.size := (Array.getElem?_eq_some_iff.1 h.box).1
theorem StD.below {B d : Nat} {w w' : World} {D : Dt} {sv lv : Value} (h : StD B d w D sv lv) (k : Below w.heap.size w w') : StD B d w' D sv lv := h.keep fun j hj => by
  rcases hj with rfl | hj
  · exact k.block _ h.lt
  · exact k.block _ hj.lt
theorem not_isD {w : World} {k : Nat} {cs : Array Value} {t : TypeId} {fr : Nat × Nat} (h : w.heap[k]? = some (.cells cs t fr)) (h1 : t ≠ 9) (h2 : t ≠ 72) : ¬ IsD w k := fun ⟨c, f, e, he, ho⟩ => by
  rw [h] at he
  injection he with he
  injection he with _ he
  subst he
  rcases ho with ho | ho
  · exact h1 ho
  · exact h2 ho
/-- The program's strip is as it was behind what the document's does. -/
theorem StA.keepD {B b g Bd d : Nat} {w w' : World} {S : St} {lv : Value} (h : StA B b g w S lv) {D : Dt} {sv dv : Value} (hd : StD Bd d w D sv dv) (ht : TchD Bd d w w') : StA B b g w' S lv := h.keep fun j hj => by
  rcases hj with rfl | rfl | ⟨cs, fr, hc⟩
  · exact ht.block _ h.ltB.1 (ne_type h.box hd.box (by decide)) (.inr (not_isD h.box (by decide) (by decide)))
  · exact ht.block _ h.ltB.2 (ne_type h.blk hd.box (by decide)) (.inr (not_isD h.blk (by decide) (by decide)))
  · exact ht.block _ (Array.getElem?_eq_some_iff.1 hc).1 (ne_type hc hd.box (by decide)) (.inr (not_isD hc (by decide) (by decide)))
/-- .. and the other way about. -/
theorem StD.keepA {B b g Bd d : Nat} {w w' : World} {D : Dt} {sv dv : Value} (hd : StD Bd d w D sv dv) {S : St} {lv : Value} (h : StA B b g w S lv) (ht : Tch B b g w w') : StD Bd d w' D sv dv := hd.keep fun j hj => by
  rcases hj with rfl | ⟨cs, fr, e, hc, ho⟩
  · exact ht.block _ hd.lt (ne_type hd.box h.box (by decide)) (ne_type hd.box h.blk (by decide)) (.inr (ne_ch hd.box (by decide)))
  · refine ht.block _ (Array.getElem?_eq_some_iff.1 hc).1 (ne_type hc h.box ?_) (ne_type hc h.blk ?_) (.inr (ne_ch hc ?_)) <;> (rcases ho with rfl | rfl <;> decide)
theorem StD.cells {B d : Nat} {w : World} {D : Dt} {sv lv : Value} (h : StD B d w D sv lv) : w.cell? ⟨d, 0, none⟩ = some sv ∧ w.cell? ⟨d, 1, none⟩ = some lv ∧ w.cell? ⟨d, 2, none⟩ = some (.int .i64 D.left) ∧ w.cell? ⟨d, 3, none⟩ = some (.bool D.off) := by
  simp only [World.cell?, h.box]
  exact ⟨rfl, rfl, rfl, rfl⟩
theorem StD.frozen {B d : Nat} {w : World} {D : Dt} {sv lv : Value} (h : StD B d w D sv lv) (k : Nat) : w.frozen? ⟨d, k, none⟩ = false := by
  simp [World.frozen?, h.box]
theorem StD.rows_set {B d : Nat} {w : World} {D : Dt} {sv lv : Value} (h : StD B d w D sv lv) (i : Nat) (v : Value) : (w.setCell ⟨d, i, none⟩ v).ownsRow B 9 1 sv D.sf.length (strsD D.sf) ∧ (w.setCell ⟨d, i, none⟩ v).ownsRow B 72 2 lv D.lo.length (flatD D.lo) :=
  ⟨row_keepD h.safe fun k cs hc => heap_setCell_ne _ _ _ _ _ (ne_type hc h.box (by decide)), row_keepD h.row fun k cs hc => heap_setCell_ne _ _ _ _ _ (ne_type hc h.box (by decide))⟩
theorem StD.set_left {B d : Nat} {w : World} {D : Dt} {sv lv : Value} (h : StD B d w D sv lv) (x : Nat) : StD B d (w.setCell ⟨d, 2, none⟩ (.int .i64 (x : Int))) { D with left := x } sv lv :=
  ⟨h.hd, heap_setCell_same w d 2 _ _ _ h.box, (h.rows_set _ _).1, (h.rows_set _ _).2⟩
theorem StD.set_off {B d : Nat} {w : World} {D : Dt} {sv lv : Value} (h : StD B d w D sv lv) (x : Bool) : StD B d (w.setCell ⟨d, 3, none⟩ (.bool x)) { D with off := x } sv lv :=
  ⟨h.hd, heap_setCell_same w d 3 _ _ _ h.box, (h.rows_set _ _).1, (h.rows_set _ _).2⟩
theorem StD.set_nil {B d : Nat} {w : World} {D : Dt} {sv lv : Value} (h : StD B d w D sv lv) : StD B d (w.setCell ⟨d, 1, none⟩ (.slice none 0 0)) { D with lo := [] } sv (.slice none 0 0) :=
  ⟨h.hd, heap_setCell_same w d 1 _ _ _ h.box, (h.rows_set _ _).1, World.ownsRow_nil _ _ _ _⟩
theorem slice_of {B : Nat} {w : World} {e : TypeId} {sz : Nat} {v : Value} {n : Nat} {xs : List Value} (h : w.ownsRow B e sz v n xs) : ∃ a c, v = .slice a n c := by
  rcases h.2 with ⟨rfl, hz⟩ | ⟨k, cap, cur, rfl, _⟩
  · exact ⟨_, _, by rw [hz]⟩
  · exact ⟨_, _, rfl⟩
/-- A cell of such a row. -/
theorem cell_row {B : Nat} {w : World} {e : TypeId} {sz : Nat} {v : Value} {n : Nat} {xs : List Value} (h : w.ownsRow B e sz v n xs) {j : Nat} {u : Value} (hu : xs[j]? = some u) (hn : 0 < n) : ∃ k cap, v = .slice (some ⟨k, 0, none⟩) n cap ∧ w.cell? ⟨k, j, none⟩ = some u ∧ w.frozen? ⟨k, j, none⟩ = false := by
  rcases h.2 with ⟨_, hz⟩ | ⟨k, cap, cur, h1, h2, h3, h4, h5, h6, h7⟩
  · omega
  · refine ⟨k, cap, h1, ?_, free_box h3 j⟩
    have hl := (List.getElem?_eq_some_iff.1 hu).1
    rw [h.1] at hl
    rw [← h7, List.getElem?_take_of_lt hl] at hu
    simp only [World.cell?, h3]
    simpa using hu
set_option maxRecDepth 100000 in
set_option maxHeartbeats 1000000 in
theorem count_any {B d : Nat} {w : World} {sf : List Blk} {lo : List (Nat × Blk)} {left : Nat} {sv lv : Value} (h : StD B d w ⟨sf, lo, left, false⟩ sv lv) (hl : left ≤ 9223372036854775807) : Calls Try.prog 30 #[.pointer (some ⟨d, 0, none⟩)] w fun e w' => e = .returned (.bool (!(decide (left = 1)))) ∧ StD B d w' ⟨sf, lo, left - 1, decide (left = 1)⟩ sv lv ∧ TchD B d w w' := by
  obtain ⟨c0, c1, c2, c3⟩ := h.cells
  dsimp only at c0 c1 c2 c3
  by_cases h0 : left = 0
  · subst h0
    clear hl
    go_enter Try.func30, Try.ntmps30
    go_wp2
    go_ret
    exact ⟨rfl, h, TchD.refl _ _ _⟩
  · have t1 : decide ((left : Int) > 0) = true := by simp; omega
    have t1' : decide ((0 : Int) < (left : Int)) = true := by simp; omega
    have t1'' : decide (0 < left) = true := by simp; omega
    obtain ⟨l, hl1⟩ : ∃ l, l = left - 1 := ⟨_, rfl⟩
    have e1 : (left : Int) - 1 = (l : Int) := by omega
    have e2 : IntKind.i64.wrap (l : Int) = (l : Int) := IntWalk.i64_in _ (by omega)
    obtain ⟨q, hq⟩ : ∃ q, q = decide (left = 1) := ⟨_, rfl⟩
    have hq2 : decide ((l : Int) = 0) = q := by rw [hq, decide_eq_decide]; omega
    have hq3 : decide (l = 0) = q := by rw [hq, decide_eq_decide]; omega
    have hq4 : ((l : Int) == 0) = q := by
      rw [← hq3]
      by_cases h9 : l = 0
      · subst h9; rfl
      · rw [decide_eq_false h9]; exact beq_eq_false_iff_ne.2 (by omega)
    rw [← hl1, ← hq]
    have f2 := h.frozen 2
    have h2 := h.set_left l
    have f3 := h2.frozen 3
    obtain ⟨x0, x1, x2, x3⟩ := h2.cells
    have h3 := h2.set_off q
    obtain ⟨y0, y1, y2, y3⟩ := h3.cells
    have ht : TchD B d w ((w.setCell ⟨d, 2, none⟩ (.int .i64 (l : Int))).setCell ⟨d, 3, none⟩ (.bool q)) := (TchD.setCell w 2 _).trans (TchD.setCell _ 3 _)
    have H3 := Lib.hid h3
    have HT := Lib.hid ht
    clear h h2 h3 ht hl hl1 hq h0
    dsimp only at x2 x3 y3
    go_enter Try.func30, Try.ntmps30
    go_wp2
    go_ret
    exact ⟨rfl, H3.out, HT.out⟩
set_option maxRecDepth 100000 in
theorem tearD_any {B d : Nat} {w : World} {D : Dt} {sv lv : Value} (h : StD B d w D sv lv) (c : Int) : Calls Try.prog 18 #[.pointer (some ⟨d, 0, none⟩), .int .i64 c] w fun e w' => e = .returned (.tuple #[]) ∧ StD B d w' { D with left := (max 0 c).toNat } sv lv ∧ TchD B d w w' := by
  obtain ⟨c0, c1, c2, c3⟩ := h.cells
  obtain ⟨l, hl⟩ : ∃ l, l = (max 0 c).toNat := ⟨_, rfl⟩
  have e1 : max 0 c = (l : Int) := by omega
  rw [← hl]
  have f2 := h.frozen 2
  have H2 := Lib.hid (h.set_left l)
  clear h hl
  go_enter Try.func18, Try.ntmps18
  go_wp2
  go_end0
  exact ⟨rfl, H2.out, TchD.setCell _ _ _⟩
end Go.Proofs.Ytgmlgjdibpphaaa
