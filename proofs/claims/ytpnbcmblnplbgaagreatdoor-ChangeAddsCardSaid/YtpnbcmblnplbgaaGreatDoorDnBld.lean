/- The builder of texts: what its calls do, walked at this program. -/
import Derived.Test.YtpnbcmblnplbgaaGreatDoorDnParse
import Derived.Lib.Builder
namespace Go.Proofs.YtpnbcmblnplbgaaGreatDoor
open Go.RowKit
set_option linter.unusedVariables false

theorem sizeBld : (Tryz.prog.info? 151).map (·.size) = some 2 := by kernel_rfl
theorem liesBld : liesAt Tryz.prog Tryz.prog.depth 151 (2 / Tryz.prog.cellsOf 151) 0 151 1 = true := by kernel_rfl

/-- A builder of the call's own that holds these bytes. -/
def Bld (B b : Nat) (l : List UInt8) (w : World) : Prop := Lib.IsBuilder 151 5 B b (l.map byteV) w
def Bld' (B b : Nat) (l : List UInt8) (w : World) : Prop := Lib.BuilderAt 151 5 B b (.pointer (some ⟨b, 0, none⟩)) (l.map byteV) w
theorem Bld'.bld {B b : Nat} {l : List UInt8} {w : World} (h : Bld' B b l w) : Bld B b l w := .inr h

/-- Nothing below B, and nothing but the block b and rows of bytes, is another one. -/
def Fr (B b : Nat) (w w' : World) : Prop := Below B w w' ∧ ∀ k, k < w.heap.size → k ≠ b → (∀ cs fr, w.heap[k]? ≠ some (.cells cs 5 fr)) → w'.heap[k]? = w.heap[k]?
theorem Fr.refl (B b : Nat) (w : World) : Fr B b w w := ⟨Below.refl B w, fun _ _ _ _ => rfl⟩
theorem Fr.trans {B b : Nat} {w w' w'' : World} (h : Fr B b w w') (k : Fr B b w' w'') : Fr B b w w'' := by
  refine ⟨h.1.trans k.1, fun i hi hb hno => ?_⟩
  have e := h.2 i hi hb hno
  rw [k.2 i (Nat.lt_of_lt_of_le hi h.1.size) hb (by rw [e]; exact hno), e]
theorem Fr.setCell {B b : Nat} {w w' : World} (h : Fr B b w w') (hB : B ≤ b) (o : Nat) (x : Value) : Fr B b w (w'.setCell ⟨b, o, none⟩ x) :=
  ⟨h.1.setCell (p := ⟨b, o, none⟩) hB x, fun i hi hb hno => (Below.heap_setCell _ _ _ _ (fun e => hb e)).trans (h.2 i hi hb hno)⟩
theorem Fr.alloc {B b : Nat} {w w' : World} (h : Fr B b w w') (hB : B ≤ w'.heap.size) (o : Obj) : Fr B b w (w'.alloc o) :=
  ⟨h.1.alloc hB o, fun i hi hb hno => (Below.heap_alloc _ _ _ (Nat.lt_of_lt_of_le hi h.1.size)).trans (h.2 i hi hb hno)⟩
theorem Fr.box {B b k : Nat} {w w' : World} {x y : ByteArray} (h : Fr B b w w') (hk : BoxR w k x y) (hb : k ≠ b) : BoxR w' k x y := by
  have hlt : k < w.heap.size := by
    rcases Nat.lt_or_ge k w.heap.size with h' | h'
    · exact h'
    · unfold BoxR at hk; simp [Array.getElem?_eq_none h'] at hk
  refine (h.2 k hlt hb fun cs fr e => ?_).trans hk
  unfold BoxR at hk
  rw [hk] at e
  simp at e
theorem fr_grown {B b : Nat} {w w' : World} {v : Value} {l : List UInt8} (hown : OwnB B w v l) (hgrow : w.grownBy w' v.ownBlock) (hB : B ≤ w.heap.size) : Fr B b w w' := by
  refine ⟨(Below.refl B w).grown hgrow hB (fun k e => (World.ownsRow.lt hown k e).1), fun k hk _ hno => hgrow.block k hk fun e => ?_⟩
  rcases hown.2 with ⟨rfl, hz⟩ | ⟨g, cap, cur, rfl, _, hg, _⟩
  · cases e
  · cases e
    exact hno _ _ hg

set_option maxHeartbeats 1000000 in
set_option maxRecDepth 100000 in
theorem check_any (B b : Nat) (l : List UInt8) (w : World) (h : Bld B b l w) :
    Calls Tryz.prog 126 #[.pointer (some ⟨b, 0, none⟩)] w fun e w' => e = .returned (.tuple #[]) ∧ (Bld' B b l w' ∧ Fr B b w w') := by
  obtain ⟨j, hj, hjs⟩ := Option.map_eq_some_iff.1 sizeBld
  have hab := @Lib.run_neq_ptr_same Tryz.prog
  rcases h with h | h
  · have h0 := h.cell0
    have hsh := h.shape
    have hfz := h.frozen0
    have HH := Lib.hid h
    clear h hab
    go_enter Tryz.func126, Tryz.ntmps126
    go_wp2
    rw [Lib.run_to_unsafe w ⟨b, 0, none⟩ Tryz.underlying149 Tryz.underlying200 hj (by rw [hjs]; decide) hsh (Nat.zero_lt_succ 1)]
    simp only [Result.andThen]
    rw [Oper.upon_value]
    go_wp2
    rw [run_callFunc_extern Tryz.func145 (by kernel_rfl) (by kernel_rfl) (by kernel_rfl) (e := Extern.AbiNoEscape.same) (by kernel_rfl), Lib.run_noEscape]
    simp only [Result.andThen]
    rw [Oper.upon_value]
    go_wp2
    rw [Lib.run_from_unsafe w ⟨b, 0, none⟩ Tryz.underlying200 Tryz.underlying149 hj hsh liesBld]
    simp only [Result.andThen]
    rw [Oper.upon_value]
    go_wp2
    go_end0
    exact ⟨rfl, HH.out.used _, (Fr.refl B b w).setCell HH.out.1 0 _⟩
  · have h0 := h.cell0
    have HH := Lib.hid h
    clear h hab
    go_enter Tryz.func126, Tryz.ntmps126
    go_wp2
    rw [Lib.run_neq_ptr_same w _ Tryz.underlying149 hj]
    go_wp2
    go_end0
    exact ⟨rfl, HH.out, Fr.refl B b _⟩

theorem Bld'.facts {B b : Nat} {l : List UInt8} {w : World} (h : Bld' B b l w) : ∃ v, w.heap[b]? = some (.cells #[.pointer (some ⟨b, 0, none⟩), v] 151 (0, 0)) ∧ OwnB B w v l ∧ v.ownBlock ≠ some b ∧ B ≤ b ∧ b < w.heap.size := by
  have hlt := h.lt
  obtain ⟨hB, v, hb, hown, hne⟩ := h
  rw [List.length_map] at hown
  exact ⟨v, hb, hown, hne, hB, hlt⟩
theorem bld_put {B b : Nat} {v v' : Value} {l : List UInt8} {w : World} (hB : B ≤ b) (hb : w.heap[b]? = some (.cells #[.pointer (some ⟨b, 0, none⟩), v] 151 (0, 0))) (hown : OwnB B w v' l) : Bld' B b l (w.setCell ⟨b, 1, none⟩ v') := by
  refine Lib.BuilderAt.put hB hb ?_ (by decide)
  rw [List.length_map]; exact hown
theorem own_keep {B b : Nat} {w w' : World} {v v' : Value} {l l' : List UInt8} (hown : OwnB B w v l) (hne : v.ownBlock ≠ some b) (hb : b < w.heap.size) (hgrow : w.grownBy w' v.ownBlock) {o : Obj} (h : w.heap[b]? = some o) : w'.heap[b]? = some o :=
  (hgrow.block b hb (fun e => hne e.symm)).trans h

/-- 'append(b.buf, c)', and where the new row lies. -/
theorem wpList_append_bld {ops : Array Oper} {rest : List Oper} {o : Oper} {a : Act} {w : World} {Q : Exit → Act → World → Prop} (hgd : o.guard = none) (sl x : Operand)
    (ho : o.op = .call { callee := .builtin .append, args := #[sl, x], argTypes := #[22, 22] })
    (base b : Nat) (v : Value) (l : List UInt8) (hs : a.eval sl = v) (n : Int) (c : UInt8) (hc : (c.toNat : Int) = n) (hown : OwnB base w v l) (hx : a.eval x = .slice (some ⟨w.heap.size, 0, none⟩) 1 1)
    (h63 : l.length + 1 ≤ 140737488355328) (hbase : base ≤ w.heap.size) (hne : v.ownBlock ≠ some b) (hb : b < w.heap.size) (ob : Obj) (hob : w.heap[b]? = some ob)
    (h : ∀ v' w', OwnB base w' v' (l ++ [c]) → Fr base b w w' → w'.heap[b]? = some ob → wpList Tryz.prog ops Q rest (a.put o.dst v') w') : wpList Tryz.prog ops Q (o :: rest) a (w.alloc (.cells #[.int .u8 n] 5)) := by
  subst hc
  obtain ⟨i0, hi, hz0, hz1, hz2⟩ := info_parts infoB
  refine wpList_append_own_at _ hgd sl x 22 ho base 5 i0 (.int .u8 0) 1 1 Tryz.underlying22 hi hz0 hz1 hz2 rfl (by decide) v l.length (l.map byteV) hs (World.ownsRow.alloc hown _) ⟨w.heap.size, 0, none⟩ 1 1 [.int .u8 c.toNat] hx rfl (cell_one_new w (.int .u8 c.toNat) 5) (by intro u hu; simp at hu; rw [hu]; rfl) (by unfold maxLen; omega) (by omega) (by simp; omega) ?_
  intro v' w' hown' hgrow _ hat
  refine h v' w' ?_ ?_ ?_
  · unfold OwnB
    rw [List.length_append, List.map_append]
    exact hown'
  · exact ((Fr.refl base b w).alloc hbase _).trans (fr_grown (l := l) (World.ownsRow.alloc hown _) hgrow (by simp; omega))
  · exact (hgrow.block b (by simp; omega) (fun e => hne e.symm)).trans ((Lib.alloc_old w _ b hb).trans hob)

set_option maxHeartbeats 1000000 in
set_option maxRecDepth 100000 in
theorem writeByte_any (B b : Nat) (l : List UInt8) (c : UInt8) (w : World) (h : Bld B b l w) (hlen : l.length + 1 ≤ 140737488355328) (hBw : B ≤ w.heap.size) :
    Calls Tryz.prog 101 #[.pointer (some ⟨b, 0, none⟩), .int .u8 c.toNat] w fun e w' => e = .returned .nilIface ∧ Bld' B b (l ++ [c]) w' ∧ Fr B b w w' := by
  have hck := check_any B b l w h
  have HCk := Lib.hid hck
  have hcl := c.toNat_lt
  clear hck h
  go_enter Tryz.func101, Tryz.ntmps101
  go_wp2_with (first
    | (go_at_call 126; refine (HCk.out).mono ?_; rintro e w1 ⟨rfl, h1, hb1⟩; obtain ⟨v, hbk, hown, hne, hBb, hlt⟩ := h1.facts; have c0 := Lib.cell_of_heap hbk 0; have c1 := Lib.cell_of_heap hbk 1; simp at c0 c1; have HBk := Lib.hid hbk; have HOwn := Lib.hid hown; have HNe := Lib.hid hne; have HB1 := Lib.hid hb1; obtain ⟨a0, cp0, hv⟩ := own_slice hown; subst hv; clear hbk hown hne h1 hb1)
    | (at_builtin; refine wpList_append_bld rfl (.tmp 11) (.tmp 13) rfl B b (.slice a0 l.length cp0) l rfl (c.toNat : Int) c rfl HOwn.out rfl (by omega) (by have := HB1.out.1.size; omega) HNe.out hlt (.cells #[.pointer (some ⟨b, 0, none⟩), .slice a0 l.length cp0] 151 (0, 0)) HBk.out ?_; intro v2 w2 hown2 hb2 hbk2; have d0 := Lib.cell_of_heap hbk2 0; have d1 := Lib.cell_of_heap hbk2 1; have f1 := Lib.frozen_of_heap hbk2 1; simp at d0 d1; have HBk2 := Lib.hid hbk2; have HOwn2 := Lib.hid hown2; have HB2 := Lib.hid hb2; obtain ⟨a2, cp2, hv⟩ := own_slice hown2; subst hv; clear hbk2 hown2 hb2))
  go_ret
  have ho2 := HOwn2.out
  rw [List.length_append, List.length_singleton] at ho2
  exact ⟨rfl, bld_put hBb HBk2.out ho2, (HB1.out.trans HB2.out).setCell hBb 1 _⟩

/-- 'append(b.buf, s...)' of a text. -/
theorem wpList_append_bstr {ops : Array Oper} {rest : List Oper} {o : Oper} {a : Act} {w : World} {Q : Exit → Act → World → Prop} (hgd : o.guard = none) (sl x : Operand)
    (ho : o.op = .call { callee := .builtin .append, args := #[sl, x], argTypes := #[22, 9] })
    (base b : Nat) (v : Value) (l : List UInt8) (hs : a.eval sl = v) (s : ByteArray) (hown : OwnB base w v l) (hx : a.eval x = .string s)
    (h63 : l.length + s.size ≤ 140737488355328) (hbase : base ≤ w.heap.size) (hne : v.ownBlock ≠ some b) (hb : b < w.heap.size) (ob : Obj) (hob : w.heap[b]? = some ob)
    (h : ∀ v' w', OwnB base w' v' (l ++ s.data.toList) → Fr base b w w' → w'.heap[b]? = some ob → wpList Tryz.prog ops Q rest (a.put o.dst v') w') : wpList Tryz.prog ops Q (o :: rest) a w := by
  obtain ⟨i0, hi, hz0, hz1, hz2⟩ := info_parts infoB
  refine Lib.wpList_append_own_string _ hgd sl x 22 9 ho base 5 i0 Tryz.underlying22 Tryz.underlying9 hi hz0 hz1 hz2 v l.length (l.map byteV) hs hown s hx (by unfold maxLen; omega) (by omega) (by omega) ?_
  intro v' w' hown' hgrow _
  refine h v' w' ?_ ?_ ?_
  · unfold OwnB
    rw [List.length_append, List.map_append, bytes_len]
    exact hown'
  · exact fr_grown hown hgrow (by omega)
  · exact (hgrow.block b hb (fun e => hne e.symm)).trans hob

set_option maxHeartbeats 1000000 in
set_option maxRecDepth 100000 in
theorem writeString_any (B b : Nat) (l : List UInt8) (s : ByteArray) (w : World) (h : Bld B b l w) (hlen : l.length + s.size ≤ 140737488355328) (hBw : B ≤ w.heap.size) :
    Calls Tryz.prog 102 #[.pointer (some ⟨b, 0, none⟩), .string s] w fun e w' => e = .returned (.tuple #[.int .i64 s.size, .nilIface]) ∧ Bld' B b (l ++ s.data.toList) w' ∧ Fr B b w w' := by
  have hck := check_any B b l w h
  have HCk := Lib.hid hck
  clear hck h
  go_enter Tryz.func102, Tryz.ntmps102
  go_wp2_with (first
    | (go_at_call 126; refine (HCk.out).mono ?_; rintro e w1 ⟨rfl, h1, hb1⟩; obtain ⟨v, hbk, hown, hne, hBb, hlt⟩ := h1.facts; have c0 := Lib.cell_of_heap hbk 0; have c1 := Lib.cell_of_heap hbk 1; simp at c0 c1; have HBk := Lib.hid hbk; have HOwn := Lib.hid hown; have HNe := Lib.hid hne; have HB1 := Lib.hid hb1; obtain ⟨a0, cp0, hv⟩ := own_slice hown; subst hv; clear hbk hown hne h1 hb1)
    | (at_builtin; refine wpList_append_bstr rfl (.tmp 12) (.tmp 13) rfl B b (.slice a0 l.length cp0) l rfl s HOwn.out rfl (by omega) (by have := HB1.out.1.size; omega) HNe.out hlt (.cells #[.pointer (some ⟨b, 0, none⟩), .slice a0 l.length cp0] 151 (0, 0)) HBk.out ?_; intro v2 w2 hown2 hb2 hbk2; have d0 := Lib.cell_of_heap hbk2 0; have d1 := Lib.cell_of_heap hbk2 1; have f1 := Lib.frozen_of_heap hbk2 1; simp at d0 d1; have HBk2 := Lib.hid hbk2; have HOwn2 := Lib.hid hown2; have HB2 := Lib.hid hb2; obtain ⟨a2, cp2, hv⟩ := own_slice hown2; subst hv; clear hbk2 hown2 hb2))
  go_ret2
  have ho2 := HOwn2.out
  exact ⟨rfl, bld_put hBb HBk2.out (by first | exact ho2 | (rw [List.length_append, bytes_len] at ho2; exact ho2)), (HB1.out.trans HB2.out).setCell hBb 1 _⟩

theorem bldString_any (B b : Nat) (l : List UInt8) (w : World) (h : Bld B b l w) (hBw : B ≤ w.heap.size) :
    Calls Tryz.prog 104 #[.pointer (some ⟨b, 0, none⟩)] w fun e w' => e = .returned (.string ⟨l.toArray⟩) ∧ Below B w w' :=
  Tryz.Builder_String_any B b l w h hBw
end Go.Proofs.YtpnbcmblnplbgaaGreatDoor
