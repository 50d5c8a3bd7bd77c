/- The document's examples: awake. -/
import Derived.Test.YtiagcegclgallaaPut
namespace Go.Proofs.Ytiagcegclgallaa
open Go.RowKit
set_option linter.unusedVariables false

theorem _root_.Go.RowKit.Below.then {w a b : World} (h : Below w.heap.size w a) (k : Below a.heap.size a b) : Below w.heap.size w b := h.trans (k.mono h.size)
theorem _root_.Go.RowKit.Below.alloc' {w a : World} (h : Below w.heap.size w a) (o : Obj) : Below w.heap.size w (a.alloc o) := h.alloc h.size o

def abT : T := .mk 4 ⟨#[97, 98]⟩ []
theorem putB_ab : putB abT = ⟨#[4, 2, 97, 98]⟩ := by kernel_rfl
theorem intL_128 : intL 128 = [0, 128] := by kernel_rfl

set_option maxHeartbeats 400000 in
theorem awake_any (w : World) : Calls Try.prog 12 #[] w fun e w' => e = .returned (.bool true) ∧ Below w.heap.size w w' := by
  have hp := fun w : World => put_any abT (.agg #[.int .i64 4, .string ⟨#[97, 98]⟩, .slice none 0 0]) w ⟨none, 0, rfl, rfl, by decide, by decide, trivial⟩
  rw [putB_ab] at hp
  have hi := fun w : World => int_any 128 (by decide) (by decide) w
  rw [intL_128] at hi
  have HP := Lib.hid hp
  have HI := Lib.hid hi
  clear hp hi
  go_enter Try.func12, Try.ntmps12
  go_wp2_with (first
    | (go_at_call 15; refine (HP.out _).mono ?_; rintro e w1 ⟨rfl, hb1⟩)
    | (go_at_call 24; refine (HI.out _).mono ?_; rintro e w2 ⟨rfl, rfl⟩))
  go_ret
  exact ⟨rfl, hb1.alloc hb1.size _⟩
end Go.Proofs.Ytiagcegclgallaa
