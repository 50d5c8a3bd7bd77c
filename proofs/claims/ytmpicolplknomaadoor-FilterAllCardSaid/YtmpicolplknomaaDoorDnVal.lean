/- A value's text is read: the walks. -/
import Derived.Test.YtmpicolplknomaaDoorDnLib
namespace Go.Proofs.YtmpicolplknomaaDoor
open Go.RowKit
set_option linter.unusedVariables false

theorem needB_any_form (c : UInt8) (K : Nat) (first last : Bool) (h : K = kindC c) : needC c first last = (K == 5 || (K == 3 && first) || (K == 4 && (first || last))) := by rw [h]; rfl

theorem or16_all : ((List.range 16).all fun m => (List.range 16).all fun n => decide (bits .or .u8 ((m : Int) * 16) (n : Int) = ((m : Int) * 16 + (n : Int)) % 256)) = true := by decide +kernel
theorem or16 (m n : Nat) (hm : m < 16) (hn : n < 16) : bits .or .u8 ((m : Int) * 16) (n : Int) = ((m : Int) * 16 + (n : Int)) % 256 := by
  have h := List.all_eq_true.1 (List.all_eq_true.1 or16_all m (List.mem_range.2 hm)) n (List.mem_range.2 hn)
  simpa using h

def behV (l : List UInt8) : Value := .tuple #[.int .u8 (behD l).1.toNat, .int .i64 (behD l).2]

def oneV (l : List UInt8) (f : Bool) : Value := .tuple #[.int .u8 (oneD f l).1.toNat, .int .i64 (oneD f l).2]
theorem oneD_mark {f : Bool} {c : UInt8} {r : List UInt8} (h : c.toNat = 92) : oneD f (c :: r) = behD r := by
  show (if c.toNat = 92 then behD r else _) = _
  rw [if_pos h]
theorem oneD_no {f : Bool} {c : UInt8} {r : List UInt8} (h : c.toNat ≠ 92) (h2 : kindC c = 0 ∨ needC c f r.isEmpty = true) : oneD f (c :: r) = (0, 0) := by
  show (if c.toNat = 92 then behD r else _) = _
  rw [if_neg h, if_pos h2]
theorem oneD_plain {f : Bool} {c : UInt8} {r : List UInt8} (h : c.toNat ≠ 92) (h2 : ¬ (kindC c = 0 ∨ needC c f r.isEmpty = true)) : oneD f (c :: r) = (c, 1) := by
  show (if c.toNat = 92 then behD r else _) = _
  rw [if_neg h, if_neg h2]
theorem drop_empty (s : ByteArray) (j : Nat) : (s.data.toList.drop (j + 1)).isEmpty = decide (s.size ≤ j + 1) := by
  rw [Bool.eq_iff_iff]; simp

end Go.Proofs.YtmpicolplknomaaDoor
