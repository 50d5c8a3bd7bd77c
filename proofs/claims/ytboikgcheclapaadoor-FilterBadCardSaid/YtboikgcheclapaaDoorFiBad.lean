/- brooklaw6.FilterBad: the walk. -/
import Derived.Test.YtboikgcheclapaaDoorFiAwake
namespace Go.Proofs.YtboikgcheclapaaDoor
open Go.RowKit
set_option linter.unusedVariables false

def badL : List (List UInt8) := [[], [40], [41], [40, 41], [99, 110, 61, 97], [40, 99, 110, 41], [40, 61, 97, 41], [40, 99, 110, 61, 97], [99, 110, 61, 97, 41], [40, 99, 110, 61, 97, 41, 41], [40, 40, 99, 110, 61, 97, 41, 41], [40, 33, 41], [40, 33, 40, 97, 61, 98, 41, 40, 99, 61, 100, 41, 41], [40, 38, 40, 97, 61, 98, 41], [40, 99, 110, 61, 97, 40, 98, 41], [40, 99, 110, 61, 92, 41], [40, 99, 110, 61, 92, 50, 41], [40, 99, 110, 61, 92, 50, 65, 41], [40, 99, 110, 61, 1, 41], [40, 99, 110, 61, 97, 42, 42, 98, 41], [40, 49, 110, 61, 97, 41], [40, 99, 110, 62, 97, 41], [40, 99, 110, 62, 61, 97, 42, 41], [40, 99, 110, 61, 42, 42, 41], [40, 99, 110, 61, 97, 41, 32], [40, 99, 110, 32, 61, 97, 41], [40, 99, 110, 61, 92, 54, 49, 41]]
theorem badL_none : badL.all (fun x => (parseF x).isNone) = true := by kernel_rfl
theorem badL_small : badL.all (fun x => decide (x.length ≤ 20) && x.all (fun c => decide (c.toNat < 128))) = true := by kernel_rfl
abbrev badA : Array Value := #[.string ⟨#[]⟩, .string ⟨#[40]⟩, .string ⟨#[41]⟩, .string ⟨#[40, 41]⟩, .string ⟨#[99, 110, 61, 97]⟩, .string ⟨#[40, 99, 110, 41]⟩, .string ⟨#[40, 61, 97, 41]⟩, .string ⟨#[40, 99, 110, 61, 97]⟩, .string ⟨#[99, 110, 61, 97, 41]⟩, .string ⟨#[40, 99, 110, 61, 97, 41, 41]⟩, .string ⟨#[40, 40, 99, 110, 61, 97, 41, 41]⟩, .string ⟨#[40, 33, 41]⟩, .string ⟨#[40, 33, 40, 97, 61, 98, 41, 40, 99, 61, 100, 41, 41]⟩, .string ⟨#[40, 38, 40, 97, 61, 98, 41]⟩, .string ⟨#[40, 99, 110, 61, 97, 40, 98, 41]⟩, .string ⟨#[40, 99, 110, 61, 92, 41]⟩, .string ⟨#[40, 99, 110, 61, 92, 50, 41]⟩, .string ⟨#[40, 99, 110, 61, 92, 50, 65, 41]⟩, .string ⟨#[40, 99, 110, 61, 1, 41]⟩, .string ⟨#[40, 99, 110, 61, 97, 42, 42, 98, 41]⟩, .string ⟨#[40, 49, 110, 61, 97, 41]⟩, .string ⟨#[40, 99, 110, 62, 97, 41]⟩, .string ⟨#[40, 99, 110, 62, 61, 97, 42, 41]⟩, .string ⟨#[40, 99, 110, 61, 42, 42, 41]⟩, .string ⟨#[40, 99, 110, 61, 97, 41, 32]⟩, .string ⟨#[40, 99, 110, 32, 61, 97, 41]⟩, .string ⟨#[40, 99, 110, 61, 92, 54, 49, 41]⟩]
theorem badA_eq : badA = (badL.map fun x => Value.string ⟨x.toArray⟩).toArray := rfl
set_option maxRecDepth 100000 in
set_option maxHeartbeats 8000000 in
theorem badFl_any (n : Nat) (hn : n < 256) (w : World) : Calls Tryd.prog 5 #[.int .u8 n] w fun e w' => e = .returned (.bool true) ∧ Below w.heap.size w w' := by
  obtain ⟨j, hj⟩ : ∃ j, j = n % 27 := ⟨_, rfl⟩
  have hj27 : j < 27 := by omega
  obtain ⟨W1, hW1⟩ : ∃ W, W = w.alloc (.cells #[.string ⟨#[]⟩, .string ⟨#[40]⟩, .string ⟨#[41]⟩, .string ⟨#[40, 41]⟩, .string ⟨#[99, 110, 61, 97]⟩, .string ⟨#[40, 99, 110, 41]⟩, .string ⟨#[40, 61, 97, 41]⟩, .string ⟨#[40, 99, 110, 61, 97]⟩, .string ⟨#[99, 110, 61, 97, 41]⟩, .string ⟨#[40, 99, 110, 61, 97, 41, 41]⟩, .string ⟨#[40, 40, 99, 110, 61, 97, 41, 41]⟩, .string ⟨#[40, 33, 41]⟩, .string ⟨#[40, 33, 40, 97, 61, 98, 41, 40, 99, 61, 100, 41, 41]⟩, .string ⟨#[40, 38, 40, 97, 61, 98, 41]⟩, .string ⟨#[40, 99, 110, 61, 97, 40, 98, 41]⟩, .string ⟨#[40, 99, 110, 61, 92, 41]⟩, .string ⟨#[40, 99, 110, 61, 92, 50, 41]⟩, .string ⟨#[40, 99, 110, 61, 92, 50, 65, 41]⟩, .string ⟨#[40, 99, 110, 61, 1, 41]⟩, .string ⟨#[40, 99, 110, 61, 97, 42, 42, 98, 41]⟩, .string ⟨#[40, 49, 110, 61, 97, 41]⟩, .string ⟨#[40, 99, 110, 62, 97, 41]⟩, .string ⟨#[40, 99, 110, 62, 61, 97, 42, 41]⟩, .string ⟨#[40, 99, 110, 61, 42, 42, 41]⟩, .string ⟨#[40, 99, 110, 61, 97, 41, 32]⟩, .string ⟨#[40, 99, 110, 32, 61, 97, 41]⟩, .string ⟨#[40, 99, 110, 61, 92, 54, 49, 41]⟩] 9) := ⟨_, rfl⟩
  have hb1 : Below w.heap.size w W1 := by rw [hW1]; exact (Below.refl _ _).alloc (Nat.le_refl _) _
  have hlen : badL.length = 27 := rfl
  obtain ⟨S, hS, hSl⟩ := strV_text (badL[j]'(by rw [hlen]; exact hj27))
  have hc : W1.cell? ⟨w.heap.size, j, none⟩ = some (.string S) := by
    have hb : W1.heap[w.heap.size]? = some (.cells badA 9 (0, 0)) := by rw [hW1]; exact heap_alloc_new w _
    unfold World.cell?
    rw [hb]
    show badA[j]? = _
    rw [badA_eq, List.getElem?_toArray, List.getElem?_map, List.getElem?_eq_getElem (by rw [hlen]; exact hj27), ← hS]
    rfl
  have hmem : badL[j]'(by rw [hlen]; exact hj27) ∈ badL := List.getElem_mem _
  have hno : parseF S.data.toList = none := by
    rw [hSl]
    exact Option.isNone_iff_eq_none.1 (List.all_eq_true.1 badL_none _ hmem)
  have hsm := List.all_eq_true.1 badL_small _ hmem
  rw [Bool.and_eq_true, decide_eq_true_eq] at hsm
  have hp := fun W => parseFl_any S (by rw [← bytes_len, hSl]; omega) (by rw [hSl]; intro c hc; simpa using List.all_eq_true.1 hsm.2 c hc) W
  rw [hno] at hp
  have HP := Lib.hid hp
  have HW1 := Lib.hid hW1.symm
  have HB1 := Lib.hid hb1
  have tm : Int.tmod (n : Int) 27 = (j : Int) := by rw [Int.tmod_eq_emod_of_nonneg (by omega)]; omega
  have ti0 : (0 : Int) ≤ (j : Int) := by omega
  have ti1 : (j : Int) < 27 := by omega
  have tw : IntKind.i64.wrap (n : Int) = (n : Int) := IntWalk.i64_in _ (by omega)
  clear hp hW1 hb1 hlen hS hSl hmem hno hsm hj
  go_enter Tryd.func5, Tryd.ntmps5
  go_upto_region 2 with (fail)
  rw [HW1.out]
  go_upto_region 3 with (go_at_call 10; refine (HP.out _).mono ?_; rintro e w2 ⟨x, b, rfl, ⟨rfl, rfl⟩, hb2⟩; have HB2 := Lib.hid hb2; clear hb2)
  obtain ⟨W3, hW3⟩ : ∃ W, W = w2.alloc (.cells #[.int .i64 0, .string ⟨#[]⟩, .string ⟨#[]⟩, .slice none 0 0, .slice none 0 0] 25) := ⟨_, rfl⟩
  rw [← hW3]
  have h23 : Below w2.heap.size w2 W3 := by rw [hW3]; exact box5 w2 _ _ _ _ _
  have hx3 : FzAt W3 w2.heap.size := by rw [hW3]; exact heap_alloc_new w2 _
  obtain ⟨d0, d1, d2, d3, d4⟩ := fl_cells hx3
  have H23 := Lib.hid h23
  have HAw := Lib.hid (awakeFl_any W3)
  clear hW3 h23 hx3
  go_wp2_with (go_at_call 9; refine (HAw.out).mono ?_; rintro e w4 ⟨rfl, hb4⟩; have HB4 := Lib.hid hb4; clear hb4)
  go_ret
  exact ⟨rfl, bthen (bthen (bthen HB1.out HB2.out) H23.out) HB4.out⟩
end Go.Proofs.YtboikgcheclapaaDoor
