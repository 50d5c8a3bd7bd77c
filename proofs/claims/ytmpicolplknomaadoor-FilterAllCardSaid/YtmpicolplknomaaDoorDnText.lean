/- dn.writeVal, dn.Text: the walks. -/
import Derived.Test.YtmpicolplknomaaDoorDnBld
namespace Go.Proofs.YtmpicolplknomaaDoor
open Go.RowKit
set_option linter.unusedVariables false

theorem wb_any (B b : Nat) (l : List UInt8) (x : UInt8) (n : Int) (hn : (x.toNat : Int) = n) (w : World) (h : Bld B b l w) (hlen : l.length + 1 ≤ 140737488355328) (hBw : B ≤ w.heap.size) :
    Calls Tryd.prog 53 #[.pointer (some ⟨b, 0, none⟩), .int .u8 n] w fun e w' => e = .returned .nilIface ∧ Bld' B b (l ++ [x]) w' ∧ Fr B b w w' := by
  subst hn; exact writeByte_any B b l x w h hlen hBw

theorem escC_len (f g : Bool) (c : UInt8) : (escC f g c).length ≤ 3 := by unfold escC; split <;> (try split) <;> simp
theorem escR_len : ∀ (v : List UInt8) (f : Bool), (escR f v).length ≤ 3 * v.length
  | [], f => by simp [escR]
  | c :: r, f => by
    have := escC_len f r.isEmpty c
    have := escR_len r false
    simp only [escR, List.length_append, List.length_cons]; omega

theorem dig_at (n : Nat) (h : n < (⟨#[48, 49, 50, 51, 52, 53, 54, 55, 56, 57, 97, 98, 99, 100, 101, 102]⟩ : ByteArray).size) : (⟨#[48, 49, 50, 51, 52, 53, 54, 55, 56, 57, 97, 98, 99, 100, 101, 102]⟩ : ByteArray)[n]'h = digL n := by
  have h16 : n < digs.length := h
  show digs[n] = digs.getD n 0
  rw [List.getD_eq_getElem?_getD, List.getElem?_eq_getElem h16]; rfl

/-- The builder holds l and what has been written of v so far. -/
def Wrote (B b : Nat) (l : List UInt8) (v : ByteArray) (j : Nat) (w : World) : Prop := ∃ E, E ++ escR (decide (j = 0)) (v.data.toList.drop j) = escV v.data.toList ∧ Bld' B b (l ++ E) w

end Go.Proofs.YtmpicolplknomaaDoor
