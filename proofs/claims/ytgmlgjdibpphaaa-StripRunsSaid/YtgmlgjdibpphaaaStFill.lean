/- A change as a value: how a struct with an array in it is built, and a list of one. No walk. -/
import Derived.Test.YtgmlgjdibpphaaaStMem
import Derived.Great.BuildSlice
import Derived.Deep.MidRow
import Derived.Laws.CopyOwn
import Derived.Maps.AppendAt
namespace Go.Proofs.Ytgmlgjdibpphaaa
open Go.RowKit
set_option linter.unusedVariables false
set_option linter.unusedSimpArgs false

theorem fold_put : ∀ (cs : List Value) (k off : Nat) (cells : Array Value), off + k + cs.length ≤ cells.size → (cs.zipIdx k).foldl (fun a (x : Value × Nat) => a.setIfInBounds (off + x.2) x.1) cells = (cells.toList.take (off + k) ++ cs ++ cells.toList.drop (off + k + cs.length)).toArray
  | [], k, off, cells, h => by simp
  | c :: cs, k, off, cells, h => by
    rw [List.zipIdx_cons, List.foldl_cons, fold_put cs (k + 1) off _ (by simp at h ⊢; omega)]
    have e := list_seg_step cells.toList (off + k) c cs (by simp at h ⊢; omega)
    simp only [Array.toList_setIfInBounds]
    rw [show off + (k + 1) = off + k + 1 from rfl, e]
    rfl
theorem fill_cons (place : Nat → Option (Nat × Nat)) (cells : Array Value) (i off size : Nat) (v : Value) (cs : List Value) (rest : List (Nat × Value)) (hp : place i = some (off, size)) (hv : v.cells = cs.toArray) (hl : cs.length = size) (hs : off + size ≤ cells.size) :
    Instr.fill place cells ((i, v) :: rest) = Instr.fill place (cells.toList.take off ++ cs ++ cells.toList.drop (off + size)).toArray rest := by
  subst hl
  have e := fold_put cs 0 off cells (by simpa using hs)
  simp only [Nat.add_zero] at e
  have h1 : ¬ (v.cells.size ≠ cs.length || off + v.cells.size > cells.size) = true := by
    rw [hv]
    simp
    exact hs
  conv => lhs; unfold Instr.fill
  simp only [hp]
  rw [if_neg h1, ← e, hv]
  congr 1
  rw [← Array.foldl_toList, Array.toList_zipIdx]
def zeroC : Array Value := (.int .i64 0 :: List.replicate 32 (.int .u8 0)).toArray
theorem infoC : (Try.prog.info? 70).map (fun i => (i.zero, i.size, i.bytes)) = some (some (.agg zeroC), 33, 40) := by kernel_rfl
theorem infoK : (Try.prog.info? 68).map (fun i => (i.zero, i.size, i.bytes)) = some (some (.agg (Array.replicate 32 (.int .u8 0))), 32, 32) := by kernel_rfl
theorem infoS_parts {t : TypeId} {z : Option Value} {n m : Nat} (h : (Try.prog.info? t).map (fun i => (i.zero, i.size, i.bytes)) = some (z, n, m)) : ∃ i, Try.prog.info? t = some i ∧ i.zero = z ∧ i.size = n ∧ i.bytes = m := by
  cases hq : Try.prog.info? t with
  | none => rw [hq] at h; cases h
  | some i =>
    rw [hq] at h
    injection h with h
    injection h with h1 h
    injection h with h2 h3
    exact ⟨i, rfl, h1, h2, h3⟩
theorem built_change (l : List (Nat × Value)) : Try.prog.built 70 l = Instr.fill ((#[(0, 1), (1, 32)] : Array (Nat × Nat))[·]?) zeroC l := by kernel_rfl
theorem build_change (w : World) (i : Nat) (x : Blk) (hx : x.length = 32) : (Instr.build 70 #[(0, .int .i64 i), (1, .agg (x.map byteV).toArray)]).run Try.prog w = .ok (.agg (cellsC (i, x)).toArray) w := by
  refine run_build w _ _ _ ?_
  rw [built_change]
  show Instr.fill _ _ [(0, .int .i64 (i : Int)), (1, .agg (x.map byteV).toArray)] = _
  rw [fill_cons _ _ 0 0 1 _ [.int .i64 (i : Int)] _ rfl rfl rfl (by decide), fill_cons _ _ 1 1 32 _ (x.map byteV) _ rfl rfl (by simp [hx]) (by simp [zeroC])]
  show some _ = some _
  congr 1
  simp [zeroC, cellsC]
theorem buildSlice_change (w : World) (c : Nat × Blk) (hx : c.2.length = 32) : (Instr.buildSlice 58 1 #[(0, .agg (cellsC c).toArray)]).run Try.prog w = .ok (.slice (some ⟨w.heap.size, 0, none⟩) 1 1) (w.alloc (.cells (cellsC c).toArray 70)) := by
  obtain ⟨i, h1, h2, h3, h4⟩ := infoS_parts infoC
  refine run_buildSlice w _ 70 1 _ _ i _ Try.underlying58 h1 h2 (by rw [h3]; decide) (by rw [h3]; decide) ?_
  rw [h3]
  have hl := cellsC_len c hx
  show Instr.fill _ _ [(0, .agg (cellsC c).toArray)] = _
  rw [fill_cons _ _ 0 0 33 _ (cellsC c) _ rfl rfl hl (by simp)]
  show some _ = some _
  congr 1
  simp
theorem cells_slice {w : World} {g o : Nat} {cs : List Value} {t : TypeId} {fr : Nat × Nat} (hg : w.heap[g]? = some (.cells cs.toArray t fr)) (j : Nat) : w.cell? ⟨g, o + j, none⟩ = cs[o + j]? := by
  simp [World.cell?, hg]
/-- One of the blocks, as it lies. -/
theorem StA.range {B b g : Nat} {w : World} {S : St} {lv : Value} (h : StA B b g w S lv) (i : Nat) (hi : i < S.bl.length) : w.rangeAt g (i * 32) (S.bl[i].map byteV) := by
  intro j v hv
  have hl := h.ok S.bl[i] (List.getElem_mem hi)
  have hj : j < 32 := by
    have := (List.getElem?_eq_some_iff.1 hv).1
    rw [List.length_map] at this
    omega
  rw [cells_slice h.blk, flatB_at _ h.ok i j hi hj]
  exact hv
theorem load_block (w : World) (g o : Nat) (x : Blk) (hx : x.length = 32) (h : w.rangeAt g o (x.map byteV)) : (Instr.loadAt 68 (.pointer (some ⟨g, o, none⟩))).run Try.prog w = .ok (.agg (x.map byteV).toArray) w := by
  obtain ⟨i, h1, h2, h3, h4⟩ := infoS_parts infoK
  exact run_loadAt_mid w g o _ _ _ h Try.underlying68 rfl (by rw [h1]; simp [h3, hx])
theorem load_change (w : World) (g o : Nat) (c : Nat × Blk) (hx : c.2.length = 32) (h : w.rangeAt g o (cellsC c)) : (Instr.loadAt 70 (.pointer (some ⟨g, o, none⟩))).run Try.prog w = .ok (.agg (cellsC c).toArray) w := by
  obtain ⟨i, h1, h2, h3, h4⟩ := infoS_parts infoC
  exact run_loadAt_mid w g o _ _ _ h Try.underlying70 rfl (by rw [h1]; simp [h3, cellsC_len c hx])
theorem exec_loadS {P : Program} {o : Oper} {a : Act} {w : World} {x : Operand} {t : TypeId} {p v : Value} (ho : o.op = .load t x) (hx : a.eval x = p) (hr : (Instr.loadAt t p).run P w = .ok v w) : (execOp a.eval o).run P w = .ok (.value v) w := by
  unfold execOp
  simp only [ho, hx, hr, Sem.run_bind, Sem.run_pure, Result.andThen_ok]
theorem exec_buildS {P : Program} {o : Oper} {a : Act} {w : World} {ps : Array (Nat × Operand)} {qs : Array (Nat × Value)} {t : TypeId} {v : Value} (ho : o.op = .build t ps) (hx : (ps.map fun (i, x) => (i, a.eval x)) = qs) (hr : (Instr.build t qs).run P w = .ok v w) : (execOp a.eval o).run P w = .ok (.value v) w := by
  unfold execOp
  simp only [ho, hx, hr, Sem.run_bind, Sem.run_pure, Result.andThen_ok]
theorem exec_buildSliceS {P : Program} {o : Oper} {a : Act} {w w' : World} {ps : Array (Nat × Operand)} {qs : Array (Nat × Value)} {t : TypeId} {n : Nat} {v : Value} (ho : o.op = .buildSlice t n ps) (hx : (ps.map fun (i, x) => (i, a.eval x)) = qs) (hr : (Instr.buildSlice t n qs).run P w = .ok v w') : (execOp a.eval o).run P w = .ok (.value v) w' := by
  unfold execOp
  simp only [ho, hx, hr, Sem.run_bind, Sem.run_pure, Result.andThen_ok]
end Go.Proofs.Ytgmlgjdibpphaaa
