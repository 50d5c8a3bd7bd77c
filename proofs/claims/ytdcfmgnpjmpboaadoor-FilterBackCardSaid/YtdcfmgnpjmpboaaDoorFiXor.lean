/- A byte turned by another one. -/
import Derived.Test.YtdcfmgnpjmpboaaDoorDnLow
namespace Go.Proofs.YtdcfmgnpjmpboaaDoor
open Go.RowKit
set_option linter.unusedVariables false
set_option linter.unusedSimpArgs false

def xorOk (c d : Nat) : Bool := decide (0 ≤ bits .xor .u8 (c : Int) (d : Int) ∧ bits .xor .u8 (c : Int) (d : Int) < 256 ∧ (bits .xor .u8 (c : Int) (d : Int) = (c : Int) → d = 0))
theorem xor_all : ((List.range 256).all fun c => (List.range 256).all fun d => xorOk c d) = true := by decide +kernel
theorem xor_turn (c : UInt8) (d : Nat) (hd : d < 256) (h0 : d ≠ 0) : ∃ y : UInt8, bits .xor .u8 (c.toNat : Int) (d : Int) = (y.toNat : Int) ∧ y ≠ c := by
  have h1 := List.all_eq_true.1 xor_all c.toNat (List.mem_range.2 c.toNat_lt)
  have h2 := List.all_eq_true.1 h1 d (List.mem_range.2 hd)
  unfold xorOk at h2
  simp only [decide_eq_true_eq] at h2
  obtain ⟨h3, h4, h5⟩ := h2
  refine ⟨UInt8.ofNat (bits .xor .u8 (c.toNat : Int) (d : Int)).toNat, ?_, fun e => h0 (h5 ?_)⟩
  · simp; omega
  · have := congrArg UInt8.toNat e
    simp at this
    omega
end Go.Proofs.YtdcfmgnpjmpboaaDoor
