/- A strip in memory: its box, its blocks, its row of changes that are loose; the small walks. -/
import Derived.Test.YtgmlgjdibpphaaaProg
import Derived.Test.YtgmlgjdibpphaaaStPure
import Derived.WalkKit
import Derived.WalkLawsBesides
import Derived.WalkSpells
import Derived.Lib.Hide
import Derived.Below
import Derived.RowKit
import Derived.Lib.ConvBytes
import Derived.Laws.IdiomStrings
import Derived.IntWalk
import Derived.Laws.LoneSync
import Derived.Laws.Externs
import Derived.RegionTactic
import Derived.Test.YtgmlgjdibpphaaaRegTwo
import Derived.BigRegion
import Derived.Deep.Cut
import Derived.Deep.RegionLaw
namespace Go.Proofs.Ytgmlgjdibpphaaa
open Go.RowKit
set_option linter.unusedVariables false
set_option linter.unusedSimpArgs false

theorem exec_appendS {P : Program} {o : Oper} {a : Act} {w w' : World} {s x : Operand} {t : TypeId} {v u v' : Value} (ho : o.op = .call { callee := .builtin .append, args := #[s, x], argTypes := #[t, t] }) (hs : a.eval s = v) (hx : a.eval x = u)
    (hr : (Builtin.append_ #[t, t] o.type #[v, u]).run P w = .ok v' w') : (execOp a.eval o).run P w = .ok (.value v') w' := by
  unfold execOp
  simp only [ho, resolve, invoke, builtin, Sem.run_bind, Sem.run_pure, Result.andThen_ok, List.map_toArray, List.map_cons, List.map_nil, hs, hx, hr]

/-- An operation that lays no value: a store. -/
theorem wpOp_skipS {P : Program} {ops : Array Oper} {Q : Exit → Act → World → Prop} {i : Nat} {o : Oper} {a : Act} {w w' : World} {K : Act → World → Prop} (ho : ops[i]? = some o) (hg : o.guard = none) (hr : (execOp a.eval o).run P w = .ok .skip w') (hk : K (a.put o.dst undef) w') : wpOp P ops Q i K a w := by
  unfold wpOp
  rw [ho]
  show if Region.wanted o (yielded ops a.tmps) = true then _ else _
  rw [if_pos (by unfold Region.wanted; rw [hg])]
  refine .inl ?_
  unfold Oper.wp
  rw [hr]
  exact hk

/-- A row in a block, from its place j on. -/

structure St where
  bl : List Blk
  lo : List (Nat × Blk)
  ch : Int
  cr : Int
  dn : Bool

def okC (n : Nat) (lo : List (Nat × Blk)) : Prop := ∀ c ∈ lo, c.1 < n ∧ c.2.length = 32
/-- The strip S, its box in block b, its blocks in block g, both made since block B. -/
structure StA (B b g : Nat) (w : World) (S : St) (lv : Value) : Prop where
  hb : B ≤ b
  hg : B ≤ g
  box : w.heap[b]? = some (.cells #[.slice (some ⟨g, 0, none⟩) S.bl.length S.bl.length, lv, .int .i64 S.ch, .int .i64 S.cr, .bool S.dn] 65 (0, 0))
  blk : w.heap[g]? = some (.cells (flatB S.bl).toArray 68 (0, 0))
  row : w.ownsRow B 70 33 lv S.lo.length (flatC S.lo)
  ok : ok32 S.bl
  okc : okC S.bl.length S.lo
  most : S.bl.length ≤ 65536
  few : S.lo.length ≤ 1000000

/-- Block k holds changes. -/
def IsCh (w : World) (k : Nat) : Prop := ∃ cs fr, w.heap[k]? = some (.cells cs 70 fr)
/-- What a call of the strip may turn: its own two blocks, and rows of changes made since B. -/
structure Tch (B b g : Nat) (w w' : World) : Prop where
  os : w'.os = w.os
  tape : w'.tape = w.tape
  output : w'.output = w.output
  size : w.heap.size ≤ w'.heap.size
  block : ∀ k, k < w.heap.size → k ≠ b → k ≠ g → (k < B ∨ ¬ IsCh w k) → w'.heap[k]? = w.heap[k]?

theorem Tch.refl (B b g : Nat) (w : World) : Tch B b g w w := ⟨rfl, rfl, rfl, Nat.le_refl _, fun _ _ _ _ _ => rfl⟩
theorem Tch.trans {B b g : Nat} {u v w : World} (h : Tch B b g u v) (k : Tch B b g v w) : Tch B b g u w :=
  ⟨k.os.trans h.os, k.tape.trans h.tape, k.output.trans h.output, Nat.le_trans h.size k.size, fun j hj h1 h2 h3 => by
    have e := h.block j hj h1 h2 h3
    exact (k.block j (Nat.lt_of_lt_of_le hj h.size) h1 h2 (h3.imp id fun hn => by unfold IsCh at hn ⊢; rw [e]; exact hn)).trans e⟩
theorem Tch.of_below {B b g : Nat} {w w' : World} (h : Below w.heap.size w w') : Tch B b g w w' := ⟨h.os, h.tape, h.output, h.size, fun k hk _ _ _ => h.block k hk⟩
theorem Tch.below {B b g : Nat} {w w' : World} (h : Tch B b g w w') (hb : B ≤ b) (hg : B ≤ g) (hB : B ≤ w.heap.size) : Below B w w' := ⟨h.os, h.tape, h.output, h.size, fun k hk => h.block k (Nat.lt_of_lt_of_le hk hB) (by omega) (by omega) (.inl hk)⟩
theorem StA.below {B b g : Nat} {w w' : World} {S : St} {lv : Value} (h : StA B b g w S lv) (k : Below w.heap.size w w') : StA B b g w' S lv :=
  ⟨h.hb, h.hg, (k.block b (Array.getElem?_eq_some_iff.1 h.box).1).trans h.box, (k.block g (Array.getElem?_eq_some_iff.1 h.blk).1).trans h.blk,
    World.ownsRow.kept h.row (row := none) ⟨k.os, k.tape, k.output, k.size, fun j hj _ => k.block j hj⟩ (by cases lv.ownBlock <;> simp), h.ok, h.okc, h.most, h.few⟩
theorem StA.ne {B b g : Nat} {w : World} {S : St} {lv : Value} (h : StA B b g w S lv) : b ≠ g := fun e => by
  have h1 := h.box
  have h2 := h.blk
  rw [e, h2] at h1
  injection h1 with h1
  injection h1 with _ h1
  exact absurd h1 (by decide)
theorem StA.cells {B b g : Nat} {w : World} {S : St} {lv : Value} (h : StA B b g w S lv) : w.cell? ⟨b, 0, none⟩ = some (.slice (some ⟨g, 0, none⟩) S.bl.length S.bl.length) ∧ w.cell? ⟨b, 1, none⟩ = some lv ∧ w.cell? ⟨b, 2, none⟩ = some (.int .i64 S.ch) ∧ w.cell? ⟨b, 3, none⟩ = some (.int .i64 S.cr) ∧ w.cell? ⟨b, 4, none⟩ = some (.bool S.dn) := by
  simp only [World.cell?, h.box]
  exact ⟨rfl, rfl, rfl, rfl, rfl⟩
theorem StA.frozen {B b g : Nat} {w : World} {S : St} {lv : Value} (h : StA B b g w S lv) (k : Nat) : w.frozen? ⟨b, k, none⟩ = false := by
  simp [World.frozen?, h.box]
/-- The box with some of its cells set. -/
theorem StA.box_set {B b g : Nat} {w : World} {S : St} {lv : Value} (h : StA B b g w S lv) (k : Nat) (v : Value) : (w.setCell ⟨b, k, none⟩ v).heap[b]? = some (.cells (#[.slice (some ⟨g, 0, none⟩) S.bl.length S.bl.length, lv, .int .i64 S.ch, .int .i64 S.cr, .bool S.dn].setIfInBounds k v) 65 (0, 0)) :=
  heap_setCell_same w b k _ _ v h.box
theorem heap_setCell_ne (w : World) (b i k : Nat) (v : Value) (h : k ≠ b) : (w.setCell ⟨b, i, none⟩ v).heap[k]? = w.heap[k]? := Below.heap_setCell _ _ _ _ h
theorem Tch.setCell {B b g : Nat} (w : World) (i : Nat) (v : Value) : Tch B b g w (w.setCell ⟨b, i, none⟩ v) :=
  ⟨rfl, rfl, rfl, by simp [World.setCell], fun k _ h1 _ _ => heap_setCell_ne _ _ _ _ _ h1⟩
theorem StA.owns_set {B b g : Nat} {w : World} {S : St} {lv : Value} (h : StA B b g w S lv) (i : Nat) (v : Value) : (w.setCell ⟨b, i, none⟩ v).ownsRow B 70 33 lv S.lo.length (flatC S.lo) := by
  refine ⟨h.row.1, ?_⟩
  rcases h.row.2 with h1 | ⟨k, cap, cur, h1, h2, h3, h4⟩
  · exact .inl h1
  · refine .inr ⟨k, cap, cur, h1, h2, ?_, h4⟩
    rw [heap_setCell_ne _ _ _ _ _ ?_]
    · exact h3
    · intro e
      have := h.box
      rw [← e, h3] at this
      injection this with this
      injection this with _ this
      exact absurd this (by decide)
theorem StA.set_ch {B b g : Nat} {w : World} {S : St} {lv : Value} (h : StA B b g w S lv) (x : Int) : StA B b g (w.setCell ⟨b, 2, none⟩ (.int .i64 x)) { S with ch := x } lv :=
  ⟨h.hb, h.hg, h.box_set 2 _, (heap_setCell_ne _ _ _ _ _ h.ne.symm).trans h.blk, h.owns_set _ _, h.ok, h.okc, h.most, h.few⟩
theorem StA.set_cr {B b g : Nat} {w : World} {S : St} {lv : Value} (h : StA B b g w S lv) (x : Int) : StA B b g (w.setCell ⟨b, 3, none⟩ (.int .i64 x)) { S with cr := x } lv :=
  ⟨h.hb, h.hg, h.box_set 3 _, (heap_setCell_ne _ _ _ _ _ h.ne.symm).trans h.blk, h.owns_set _ _, h.ok, h.okc, h.most, h.few⟩
theorem StA.set_dn {B b g : Nat} {w : World} {S : St} {lv : Value} (h : StA B b g w S lv) (x : Bool) : StA B b g (w.setCell ⟨b, 4, none⟩ (.bool x)) { S with dn := x } lv :=
  ⟨h.hb, h.hg, h.box_set 4 _, (heap_setCell_ne _ _ _ _ _ h.ne.symm).trans h.blk, h.owns_set _ _, h.ok, h.okc, h.most, h.few⟩
theorem StA.set_nil {B b g : Nat} {w : World} {S : St} {lv : Value} (h : StA B b g w S lv) : StA B b g (w.setCell ⟨b, 1, none⟩ (.slice none 0 0)) { S with lo := [] } (.slice none 0 0) :=
  ⟨h.hb, h.hg, h.box_set 1 _, (heap_setCell_ne _ _ _ _ _ h.ne.symm).trans h.blk, World.ownsRow_nil _ _ _ _, h.ok, fun _ hc => absurd hc (by simp), h.most, Nat.zero_le _⟩

set_option maxRecDepth 100000 in
theorem num_any (x : Int) (w : World) : Calls Try.prog 12 #[.int .i64 x] w fun e w' => e = .returned (.int .i64 x) ∧ w' = w := by
  go_enter Try.func12, Try.ntmps12
  go_wp2
  go_ret
  exact ⟨rfl, rfl⟩
set_option maxRecDepth 100000 in
theorem refuses_any {B b g : Nat} {w : World} {S : St} {lv : Value} (h : StA B b g w S lv) : Calls Try.prog 27 #[.pointer (some ⟨b, 0, none⟩)] w fun e w' => e = .returned (.int .i64 (if S.dn then 8 else 0)) ∧ w' = w := by
  obtain ⟨c0, c1, c2, c3, c4⟩ := h.cells
  clear h
  obtain ⟨bl, lo, ch, cr, dn⟩ := S
  cases dn
  · go_enter Try.func27, Try.ntmps27
    go_wp2
    go_ret
    exact ⟨rfl, rfl⟩
  · go_enter Try.func27, Try.ntmps27
    go_wp2
    go_ret
    exact ⟨rfl, rfl⟩
set_option maxRecDepth 100000 in
theorem refuses_nil (w : World) : Calls Try.prog 27 #[.pointer none] w fun e w' => e = .returned (.int .i64 2) ∧ w' = w := by
  go_enter Try.func27, Try.ntmps27
  go_wp2
  go_ret
  exact ⟨rfl, rfl⟩
def inB (n : Nat) (i : Int) : Bool := decide (0 ≤ i ∧ i < n)
set_option maxRecDepth 100000 in
theorem has_any {B b g : Nat} {w : World} {S : St} {lv : Value} (h : StA B b g w S lv) (i : Int) : Calls Try.prog 28 #[.pointer (some ⟨b, 0, none⟩), .int .i64 i] w fun e w' => e = .returned (.bool (inB S.bl.length i)) ∧ w' = w := by
  obtain ⟨c0, c1, c2, c3, c4⟩ := h.cells
  clear h
  obtain ⟨n, hn⟩ : ∃ n, n = S.bl.length := ⟨_, rfl⟩
  rw [← hn] at c0 ⊢
  clear hn
  by_cases h1 : 0 ≤ i
  · by_cases h2 : i < n
    · have t1 : decide (0 ≤ i) = true := by simpa using h1
      have t2 : decide (i < (n : Int)) = true := by simpa using h2
      have t3 : inB n i = true := by simp [inB, h1, h2]
      rw [t3]
      go_enter Try.func28, Try.ntmps28
      go_wp2
      go_ret
      exact ⟨rfl, rfl⟩
    · have t1 : decide (0 ≤ i) = true := by simpa using h1
      have t2 : decide (i < (n : Int)) = false := by simpa using h2
      have t3 : inB n i = false := by simp [inB, h2]
      rw [t3]
      go_enter Try.func28, Try.ntmps28
      go_wp2
      go_ret
      exact ⟨rfl, rfl⟩
  · have t1 : decide (0 ≤ i) = false := by simpa using h1
    have t3 : inB n i = false := by simp [inB, h1]
    rw [t3]
    go_enter Try.func28, Try.ntmps28
    go_wp2
    go_ret
    exact ⟨rfl, rfl⟩
set_option maxRecDepth 100000 in
theorem size_any {B b g : Nat} {w : World} {S : St} {lv : Value} (h : StA B b g w S lv) : Calls Try.prog 23 #[.pointer (some ⟨b, 0, none⟩)] w fun e w' => e = .returned (.int .i64 S.bl.length) ∧ w' = w := by
  obtain ⟨c0, c1, c2, c3, c4⟩ := h.cells
  clear h
  go_enter Try.func23, Try.ntmps23
  go_wp2
  go_ret
  exact ⟨rfl, rfl⟩
theorem StA.lv {B b g : Nat} {w : World} {S : St} {lv : Value} (h : StA B b g w S lv) : ∃ a c, lv = .slice a S.lo.length c := by
  rcases h.row.2 with ⟨rfl, hz⟩ | ⟨k, cap, cur, rfl, _⟩
  · exact ⟨_, _, by rw [hz]⟩
  · exact ⟨_, _, rfl⟩
set_option maxRecDepth 100000 in
theorem loose_any {B b g : Nat} {w : World} {S : St} {lv : Value} (h : StA B b g w S lv) : Calls Try.prog 22 #[.pointer (some ⟨b, 0, none⟩)] w fun e w' => e = .returned (.int .i64 S.lo.length) ∧ w' = w := by
  obtain ⟨c0, c1, c2, c3, c4⟩ := h.cells
  obtain ⟨a, c, rfl⟩ := h.lv
  clear h
  go_enter Try.func22, Try.ntmps22
  go_wp2
  go_ret
  exact ⟨rfl, rfl⟩
set_option maxRecDepth 100000 in
theorem down_any {B b g : Nat} {w : World} {S : St} {lv : Value} (h : StA B b g w S lv) : Calls Try.prog 21 #[.pointer (some ⟨b, 0, none⟩)] w fun e w' => e = .returned (.bool S.dn) ∧ w' = w := by
  obtain ⟨c0, c1, c2, c3, c4⟩ := h.cells
  clear h
  go_enter Try.func21, Try.ntmps21
  go_wp2
  go_ret
  exact ⟨rfl, rfl⟩
set_option maxRecDepth 100000 in
theorem store_any (b o : Nat) (x : Int) (w : World) (h : (w.cell? ⟨b, o, none⟩).isSome = true) (hz : w.frozen? ⟨b, o, none⟩ = false) : Calls Try.prog 31 #[.pointer (some ⟨b, o, none⟩), .int .i64 x] w fun e w' => e = .returned (.tuple #[]) ∧ w' = w.setCell ⟨b, o, none⟩ (.int .i64 x) := by
  obtain ⟨u, hu⟩ := Option.isSome_iff_exists.1 h
  have hl := run_call_store (P := Try.prog) Try.func34 (by kernel_rfl) (by kernel_rfl) (by kernel_rfl) (by kernel_rfl) (a := ⟨b, o, none⟩) (k := .i64) (y := x) (w := w) hu hz
  go_enter Try.func31, Try.ntmps31
  go_wp2
  go_end0
  exact ⟨rfl, rfl⟩
set_option maxRecDepth 100000 in
theorem addS_any (b o : Nat) (x : Int) (hx : 0 ≤ x) (hx2 : x ≤ 1000000000) (w : World) (h : w.cell? ⟨b, o, none⟩ = some (.int .i64 x)) (hz : w.frozen? ⟨b, o, none⟩ = false) : Calls Try.prog 33 #[.pointer (some ⟨b, o, none⟩), .int .i64 1] w fun e w' => e = .returned (.int .i64 (x + 1)) ∧ w' = w.setCell ⟨b, o, none⟩ (.int .i64 (x + 1)) := by
  have hl := run_call_add (P := Try.prog) Try.func35 (by kernel_rfl) (by kernel_rfl) (by kernel_rfl) .i64 (by kernel_rfl) (a := ⟨b, o, none⟩) (x := x) (y := 1) (s := x + 1) (w := w) h hz (by
    show Sem.run _ (pure (Value.int .i64 (IntKind.i64.wrap (x + 1)))) w = _
    rw [IntKind.wrap_i64, show (x + 1 + 9223372036854775808) % 18446744073709551616 - 9223372036854775808 = x + 1 from by omega]
    rfl)
  go_enter Try.func33, Try.ntmps33
  go_wp2
  go_ret
  exact ⟨rfl, rfl⟩
set_option maxRecDepth 100000 in
theorem tear_any {B b g : Nat} {w : World} {S : St} {lv : Value} (h : StA B b g w S lv) (n : Int) : Calls Try.prog 17 #[.pointer (some ⟨b, 0, none⟩), .int .i64 n] w fun e w' => e = .returned (.tuple #[]) ∧ StA B b g w' { S with ch := 0, cr := n } lv ∧ Tch B b g w w' := by
  obtain ⟨c0, c1, c2, c3, c4⟩ := h.cells
  have hf := h.frozen
  have h2 := (h.set_ch 0).set_cr n
  have ht : Tch B b g w ((w.setCell ⟨b, 2, none⟩ (.int .i64 0)).setCell ⟨b, 3, none⟩ (.int .i64 n)) := (Tch.setCell w 2 _).trans (Tch.setCell _ 3 _)
  have hs := store_any b 2 0 w (by rw [c2]; rfl) (hf 2)
  have d3 : ((w.setCell ⟨b, 2, none⟩ (.int .i64 0)).cell? ⟨b, 3, none⟩).isSome = true := by
    rw [(h.set_ch 0).cells.2.2.2.1]; rfl
  have f3 : (w.setCell ⟨b, 2, none⟩ (.int .i64 0)).frozen? ⟨b, 3, none⟩ = false := (h.set_ch 0).frozen 3
  have H2 := Lib.hid h2
  have HT := Lib.hid ht
  clear h h2 ht
  go_enter Try.func17, Try.ntmps17
  go_wp2_with (go_at_call 31; refine hs.mono ?_; rintro e w2 ⟨rfl, rfl⟩)
  go_end0
  exact ⟨rfl, H2.out, HT.out⟩
set_option maxRecDepth 100000 in
theorem tear_nil (n : Int) (w : World) : Calls Try.prog 17 #[.pointer none, .int .i64 n] w fun e w' => e = .returned (.tuple #[]) ∧ w' = w := by
  go_enter Try.func17, Try.ntmps17
  go_wp2
  exact bodyPost_ret (results_none (by rfl) _ _ _) rfl ⟨rfl, rfl⟩
end Go.Proofs.Ytgmlgjdibpphaaa
