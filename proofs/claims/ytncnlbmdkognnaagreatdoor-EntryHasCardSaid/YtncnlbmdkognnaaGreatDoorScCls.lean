/- schema.classesOf: the walk. -/
import Derived.Test.YtncnlbmdkognnaaGreatDoorScFind
import Derived.Test.YtncnlbmdkognnaaGreatDoorMaNorm
import Derived.Test.YtncnlbmdkognnaaGreatDoorDnParse
namespace Go.Proofs.YtncnlbmdkognnaaGreatDoor
open Go.RowKit
set_option linter.unusedVariables false

theorem chain_len (n : List UInt8) : ∀ k, (chainC k n).length ≤ k := by
  intro k
  induction k generalizing n with
  | zero => simp [chainC]
  | succ k ih =>
    simp only [chainC]
    cases findC n with
    | none => simp
    | some c => have := ih c.sup; simp; omega
def restC : Option CT → List CT
  | none => []
  | some c => c :: chainC 3 c.sup
theorem rest_find (n : List UInt8) : restC (findC n) = chainC 3 n := by
  cases e : findC n with
  | none => rw [chain_none e]; rfl
  | some c => rw [chain_step e]; rfl
theorem lt_set {w : World} {a : Addr} {x : Value} : (w.setCell a x).heap.size = w.heap.size := by simp [World.setCell]
theorem block_ne (w : World) (a : Addr) (x : Value) {b : Nat} (h : b ≠ a.block) : (w.setCell a x).heap[b]? = w.heap[b]? := by
  unfold World.setCell
  simp [Array.getElem?_modify, Ne.symm h]
theorem set5_block (w : World) (g : Nat) (x0 x1 x2 x3 x4 : Value) {b : Nat} (h : b ≠ g) : (set5 w g x0 x1 x2 x3 x4).heap[b]? = w.heap[b]? := by
  simp only [set5]
  rw [block_ne _ ⟨g, 4, none⟩ _ h, block_ne _ ⟨g, 3, none⟩ _ h, block_ne _ ⟨g, 2, none⟩ _ h, block_ne _ ⟨g, 1, none⟩ _ h, block_ne _ ⟨g, 0, none⟩ _ h]
/-- A store into a block that is neither the row's nor one of those that its classes need. -/
theorem grown_set5 (w : World) (g : Nat) (x0 x1 x2 x3 x4 : Value) : w.grownBy (set5 w g x0 x1 x2 x3 x4) (some g) :=
  have hb := set5_below (Below.refl 0 w) (Nat.zero_le g) x0 x1 x2 x3 x4
  ⟨hb.os, hb.tape, hb.output, hb.size, fun k hk hne => set5_block w g x0 x1 x2 x3 x4 (fun e => hne (by rw [e]))⟩
theorem apart_go {B g : Nat} {w w' : World} {l : Value} {v : Value} {A : List (List UInt8)} (h : IsTo (Apart B g w l) w A v) (hb : Below w.heap.size w w') : IsTo (Apart B g w' l) w' A v :=
  h.imp (fun b hk => ⟨hk.1, Nat.lt_of_lt_of_le hk.2.1 hb.size, hk.2.2⟩) (fun b o hk => hb.cell (p := ⟨b, o, none⟩) hk.2.1)
theorem apart_set {B g : Nat} {w : World} {l : Value} {v : Value} {A : List (List UInt8)} (h : IsTo (Apart B g w l) w A v) (x0 x1 x2 x3 x4 : Value) : IsTo (Apart B g (set5 w g x0 x1 x2 x3 x4) l) (set5 w g x0 x1 x2 x3 x4) A v :=
  h.imp (fun b hk => ⟨hk.1, by rw [set5_size]; exact hk.2.1, hk.2.2⟩) (fun b o hk => set5_cell w g x0 x1 x2 x3 x4 o hk.2.2.2)

end Go.Proofs.YtncnlbmdkognnaaGreatDoor
