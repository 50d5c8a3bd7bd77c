/- slices.Backward over a slice of tlvs: the iterator's contract. -/
import Derived.RangeFuncNested
import Derived.RangeFuncBound
import Derived.RangeFuncCalls
import Derived.RangeFuncLeaves
import Derived.Shelf.Abstract
import Derived.WalkKit
import Derived.OwnWalkIn
import Derived.TacticsInMore
import Derived.LoopNIn
import Derived.LoopIn
import Derived.Lib.Hide
import Derived.Test.YtiagcegclgallaaSeq
import Derived.Test.YtiagcegclgallaaProg
namespace Go.Proofs.Ytiagcegclgallaa
open Go.RowKit Go.Shelf
set_option linter.unusedVariables false
attribute [local go_sem] Oper.semAt_some

/-- What a round keeps: all below block g, and block Bs. -/
def KpB (g Bs : Nat) (W W' : World) : Prop := ∀ k, (k < g ∨ k = Bs) → W'.heap[k]? = W.heap[k]?
theorem KpB.refl (g Bs : Nat) (W : World) : KpB g Bs W W := fun _ _ => rfl
theorem KpB.trans {g Bs : Nat} {X Y Z : World} (h : KpB g Bs X Y) (k : KpB g Bs Y Z) : KpB g Bs X Z := fun i hi => (k i hi).trans (h i hi)
theorem KpB.cell {g Bs : Nat} {W W' : World} (h : KpB g Bs W W') {p : Addr} (hp : p.block < g ∨ p.block = Bs) : W'.cell? p = W.cell? p := World.cell?_of_block (h p.block hp)
theorem kpB_b {g Bs : Nat} {w : World} (hg : g ≤ w.heap.size) (hB : Bs < w.heap.size) (W : World) (l : Nat) (o' : Obj) (hl : w.heap.size ≤ l) : KpB g Bs W (W.putObj l o') :=
  fun k hk => World.putObj_heap_other (by omega)

/-- len - 1, .., 0. -/
def downFrom (len : Nat) : List Nat := (List.range len).map fun k => len - 1 - k
theorem downFrom_length (len : Nat) : (downFrom len).length = len := by simp [downFrom]
theorem downFrom_get {len k : Nat} (h : k < len) : (downFrom len)[k]? = some (len - 1 - k) := by simp [downFrom, h]
theorem downFrom_some {len k x : Nat} (h : (downFrom len)[k]? = some x) : k < len ∧ x = len - 1 - k := by
  have hk : k < len := by
    have := (List.getElem?_eq_some_iff.1 h).1
    rwa [downFrom_length] at this
  rw [downFrom_get hk] at h
  exact ⟨hk, by simpa using h.symm⟩

set_option maxRecDepth 100000 in
set_option maxHeartbeats 2000000 in
theorem back_runs (F : Fence) (n : Nat) (h53 : F.fn 53) (hro : F.round = none) (hn : 1 ≤ n) (Bs g : Nat) (a : Option Addr) (len cap : Nat) (hlen : len ≤ 9223372036854775807) (v0 v1 v2 : Nat → Value)
    (w : World) (hgs : g ≤ w.heap.size) (hBs : Bs < w.heap.size) (hBc : w.cell? ⟨Bs, 0, none⟩ = some (.slice a len cap))
    (hc : ∀ j, j < len → ∃ b off, a = some ⟨b, off, none⟩ ∧ b < g ∧ w.cell? ⟨b, off + j * 3, none⟩ = some (v0 j) ∧ w.cell? ⟨b, off + j * 3 + 1, none⟩ = some (v1 j) ∧ w.cell? ⟨b, off + j * 3 + 2, none⟩ = some (v2 j)) :
    RunsSeq F n Try.prog 53 #[.pointer (some ⟨Bs, 0, none⟩)] (fun x : Nat => #[Value.int .i64 x, .agg #[v0 x, v1 x, v2 x]]) (KpB g Bs) (downFrom len) w := by
  intro l J W hW hY h0
  have hW' : KpB g Bs w W := fun k hk => hW.block k (by omega)
  have HC := Lib.hid hc
  have HBc := Lib.hid hBc
  have HY := Lib.hid hY
  clear hc hBc hY
  refine callsIn_of_wp Try.func53 rfl h53 ?_ hro
  simp only [Try.ntmps53, List.size_toArray, List.length_cons, List.length_nil, Nat.reduceAdd, Nat.reduceSub, Array.replicate_succ, Array.replicate_zero, List.push_toArray, List.append_toArray, List.nil_append, List.cons_append]
  have hBc0 := (hW'.cell (p := ⟨Bs, 0, none⟩) (.inr rfl)).trans HBc.out
  gi_wp2
  gi_loopw [3] (fun i wr => ∃ (x : Int) (k : Nat), k ≤ len ∧ i = .int .i64 x ∧ x = (len : Int) - 1 - k ∧ J k wr ∧ KpB g Bs W wr)
    (fun i _ => (intOf i + 1).toNat)
  case atStart => exact ⟨_, 0, Nat.zero_le _, rfl, by simp, h0, KpB.refl _ _ _⟩
  case round =>
    obtain ⟨x, k, hk, rfl, hx, hJs, hkp⟩ := hrel
    have hkw := hW'.trans hkp
    have hBc' := (hkw.cell (p := ⟨Bs, 0, none⟩) (.inr rfl)).trans HBc.out
    by_cases hlt : k < len
    · obtain ⟨j, hj⟩ : ∃ j : Nat, j = len - 1 - k := ⟨_, rfl⟩
      obtain rfl : x = (j : Int) := by omega
      obtain ⟨b, off, rfl, hb, e0, e1, e2⟩ := HC.out j (by omega)
      have e0' := (hkw.cell (p := ⟨b, _, none⟩) (.inl hb)).trans e0
      have e1' := (hkw.cell (p := ⟨b, _, none⟩) (.inl hb)).trans e1
      have e2' := (hkw.cell (p := ⟨b, _, none⟩) (.inl hb)).trans e2
      obtain ⟨fn, tmps, assign, body, hy, hR⟩ := HY.out k j wr (by rw [downFrom_get hlt, hj]) hJs
      have hjl : j < len := by omega
      have HJ := Lib.hid hj
      have HX := Lib.hid hx
      clear hj hx e0 e1 e2
      have hj0 : (0 : Int) ≤ (j : Int) := by omega
      gi_wp2
      refine hR.mono ?_
      rintro e W3 ⟨rfl, hJ3, hk3⟩
      gi_wp2
      go_roundw
      case rel => exact ⟨_, k + 1, by omega, rfl, by have := HJ.out; omega, hJ3, hkp.trans hk3⟩
      case measure => simp [intOf]
    · obtain rfl : k = len := by omega
      obtain rfl : x = -1 := by omega
      clear hx
      gi_wp2
      go_end0
      exact ⟨⟨_, rfl⟩, by rw [downFrom_length]; exact hJs⟩

set_option maxHeartbeats 1000000 in
/-- slices.Backward(s): the slice value is boxed; the function value captures the box. -/
theorem backward_in (F : Fence) (n : Nat) (h42 : F.fn 42) (hro : F.round = none) (a : Option Addr) (len cap : Nat) (w : World) :
    CallsIn F n Try.prog 42 #[.slice a len cap] w fun e w' => e = .returned (.func (.func 53) #[] #[.pointer (some ⟨w.heap.size, 0, none⟩)]) ∧ w.alloc (.cells #[.slice a len cap] 22) = w' := by
  refine callsIn_of_wp Try.func42 rfl h42 ?_ hro
  simp only [Try.ntmps42, List.size_toArray, List.length_cons, List.length_nil, Nat.reduceAdd, Nat.reduceSub, Array.replicate_succ, Array.replicate_zero, List.push_toArray, List.append_toArray, List.nil_append, List.cons_append]
  gi_wp2
  go_ret
  exact ⟨rfl, rfl⟩

end Go.Proofs.Ytiagcegclgallaa
