/-
  NARROWER THAN 'FOR EVERY INPUT', by the rows' own cells (each row's printed sentence says how): BerAll: loops.
  DERIVED. THE GIVEN ROWS OF THIS SEAT. 8 by the template 'for every input the law returns true; each argument reads behind the call as it read before'; 0 by the template 'total and deterministic' (their statements: YtiagcegclgallaaTotals.lean).
  GIVEN WITH THE SEED: the statements are not yours to turn. If you find one false, say at which input.
  Laid BY PROGRAM, IN A SANDBOX (cutbox-rows.mjs): the forced cells as the released guide's own fill.sh prints them over the translation 8b70549a59dd4fc3… (all of the seat's roots in one cut). By AI agents, Wed Nov 11 2026. No macro, syntax, notation, axiom, sorry.
-/
import Derived.Test.YtiagcegclgallaaChecked
import GoSem.Claim
import GoSem.ClaimJoined
import GoSem.ClaimMapViews
import Derived.JoinedTies
import Derived.KernelRfl
namespace Go.Proofs.Ytiagcegclgallaa
/- THE CELL 'sum', in the pinned program and in every row, IS THE sha256 OF THE DUMP (.gsa) THAT YtiagcegclgallaaProg.lean LOADS. Nothing in Lean hashes anything: it is a label: what it is worth is what the hold of that sum in a sandbox is worth. -/
noncomputable def Try.pinned : Pinned := { name := "ytiagcegclgallaa", sum := "8b70549a59dd4fc374d70bbd93c5a1825143dbee866f4c133f9ca2c5f3e53c8b", checked := Try.checked }
namespace Rows
def none {H : Type} : Left H := { results := [], args := [] }

/-- 'brooklaw1.BerAll': WHATEVER THE INPUT: true; the input reads as it did. -/
def berAllSpec : ChangeSpec := { name := "berAll", fn := fun _ => fun
  | [d1, d2] => { results := [.lit (.bool true)], args := [d1, d2] }
  | _ => none }
def berAllRow : OpenClaim := { program := "ytiagcegclgallaa", sum := "8b70549a59dd4fc374d70bbd93c5a1825143dbee866f4c133f9ca2c5f3e53c8b", func := "brook/brooklaw1.BerAll", spec := "berAll", unfollowed := true, recurses := true, loops := true, apart := false }
def BerAllSaid : Prop := berAllRow.holds Try.pinned (OpenSpec.ofChange berAllSpec)

/-- ITS FALSE NEIGHBOUR: 'it returns false'. Refute it at one input. -/
def berAllWrong : ChangeSpec := { name := "berAll", fn := fun _ => fun
  | [d1, d2] => { results := [.lit (.bool false)], args := [d1, d2] }
  | _ => none }
def BerAllWrongFalsely : Prop := berAllRow.holds Try.pinned (OpenSpec.ofChange berAllWrong)

/-- 'brooklaw1.BerBytes': WHATEVER THE INPUT: true; the input reads as it did. -/
def berBytesSpec : ChangeSpec := { name := "berBytes", fn := fun _ => fun
  | [d1, d2] => { results := [.lit (.bool true)], args := [d1, d2] }
  | _ => none }
def berBytesRow : OpenClaim := { program := "ytiagcegclgallaa", sum := "8b70549a59dd4fc374d70bbd93c5a1825143dbee866f4c133f9ca2c5f3e53c8b", func := "brook/brooklaw1.BerBytes", spec := "berBytes", inPlace := ["sync/atomic.LoadInt64", "sync/atomic.AddInt64"], unfollowed := true, recurses := true, apart := false }
def BerBytesSaid : Prop := berBytesRow.holds Try.pinned (OpenSpec.ofChange berBytesSpec)

/-- ITS FALSE NEIGHBOUR: 'it returns false'. Refute it at one input. -/
def berBytesWrong : ChangeSpec := { name := "berBytes", fn := fun _ => fun
  | [d1, d2] => { results := [.lit (.bool false)], args := [d1, d2] }
  | _ => none }
def BerBytesWrongFalsely : Prop := berBytesRow.holds Try.pinned (OpenSpec.ofChange berBytesWrong)

/-- 'brooklaw1.BerNumbers': WHATEVER THE INPUT: true; the input reads as it did. -/
def berNumbersSpec : ChangeSpec := { name := "berNumbers", fn := fun _ => fun
  | [d1, d2] => { results := [.lit (.bool true)], args := [d1, d2] }
  | _ => none }
def berNumbersRow : OpenClaim := { program := "ytiagcegclgallaa", sum := "8b70549a59dd4fc374d70bbd93c5a1825143dbee866f4c133f9ca2c5f3e53c8b", func := "brook/brooklaw1.BerNumbers", spec := "berNumbers", unfollowed := true, recurses := true, apart := false }
def BerNumbersSaid : Prop := berNumbersRow.holds Try.pinned (OpenSpec.ofChange berNumbersSpec)

/-- ITS FALSE NEIGHBOUR: 'it returns false'. Refute it at one input. -/
def berNumbersWrong : ChangeSpec := { name := "berNumbers", fn := fun _ => fun
  | [d1, d2] => { results := [.lit (.bool false)], args := [d1, d2] }
  | _ => none }
def BerNumbersWrongFalsely : Prop := berNumbersRow.holds Try.pinned (OpenSpec.ofChange berNumbersWrong)

/-- 'brooklaw1.BerBack': WHATEVER THE INPUT: true; the input reads as it did. -/
def berBackSpec : ChangeSpec := { name := "berBack", fn := fun _ => fun
  | [d1, d2, d3, d4, d5, d6, d7] => { results := [.lit (.bool true)], args := [d1, d2, d3, d4, d5, d6, d7] }
  | _ => none }
def berBackRow : OpenClaim := { program := "ytiagcegclgallaa", sum := "8b70549a59dd4fc374d70bbd93c5a1825143dbee866f4c133f9ca2c5f3e53c8b", func := "brook/brooklaw1.BerBack", spec := "berBack", inPlace := ["sync/atomic.LoadInt64", "sync/atomic.AddInt64"], unfollowed := true, recurses := true, apart := false }
def BerBackSaid : Prop := berBackRow.holds Try.pinned (OpenSpec.ofChange berBackSpec)

/-- ITS FALSE NEIGHBOUR: 'it returns false'. Refute it at one input. -/
def berBackWrong : ChangeSpec := { name := "berBack", fn := fun _ => fun
  | [d1, d2, d3, d4, d5, d6, d7] => { results := [.lit (.bool false)], args := [d1, d2, d3, d4, d5, d6, d7] }
  | _ => none }
def BerBackWrongFalsely : Prop := berBackRow.holds Try.pinned (OpenSpec.ofChange berBackWrong)

/-- 'brooklaw1.BerDeep': WHATEVER THE INPUT: true; the input reads as it did. -/
def berDeepSpec : ChangeSpec := { name := "berDeep", fn := fun _ => fun
  | [d1, d2] => { results := [.lit (.bool true)], args := [d1, d2] }
  | _ => none }
def berDeepRow : OpenClaim := { program := "ytiagcegclgallaa", sum := "8b70549a59dd4fc374d70bbd93c5a1825143dbee866f4c133f9ca2c5f3e53c8b", func := "brook/brooklaw1.BerDeep", spec := "berDeep", inPlace := ["sync/atomic.LoadInt64", "sync/atomic.AddInt64"], unfollowed := true, recurses := true, apart := false }
def BerDeepSaid : Prop := berDeepRow.holds Try.pinned (OpenSpec.ofChange berDeepSpec)

/-- ITS FALSE NEIGHBOUR: 'it returns false'. Refute it at one input. -/
def berDeepWrong : ChangeSpec := { name := "berDeep", fn := fun _ => fun
  | [d1, d2] => { results := [.lit (.bool false)], args := [d1, d2] }
  | _ => none }
def BerDeepWrongFalsely : Prop := berDeepRow.holds Try.pinned (OpenSpec.ofChange berDeepWrong)

/-- 'brooklaw1.BerLengths': WHATEVER THE INPUT: true; the input reads as it did. -/
def berLengthsSpec : ChangeSpec := { name := "berLengths", fn := fun _ => fun
  | [d1, d2] => { results := [.lit (.bool true)], args := [d1, d2] }
  | _ => none }
def berLengthsRow : OpenClaim := { program := "ytiagcegclgallaa", sum := "8b70549a59dd4fc374d70bbd93c5a1825143dbee866f4c133f9ca2c5f3e53c8b", func := "brook/brooklaw1.BerLengths", spec := "berLengths", inPlace := ["sync/atomic.LoadInt64", "sync/atomic.AddInt64"], unfollowed := true, recurses := true, apart := false }
def BerLengthsSaid : Prop := berLengthsRow.holds Try.pinned (OpenSpec.ofChange berLengthsSpec)

/-- ITS FALSE NEIGHBOUR: 'it returns false'. Refute it at one input. -/
def berLengthsWrong : ChangeSpec := { name := "berLengths", fn := fun _ => fun
  | [d1, d2] => { results := [.lit (.bool false)], args := [d1, d2] }
  | _ => none }
def BerLengthsWrongFalsely : Prop := berLengthsRow.holds Try.pinned (OpenSpec.ofChange berLengthsWrong)

/-- 'brooklaw1.BerSide': WHATEVER THE INPUT: true; the input reads as it did. -/
def berSideSpec : ChangeSpec := { name := "berSide", fn := fun _ => fun
  | [d1, d2] => { results := [.lit (.bool true)], args := [d1, d2] }
  | _ => none }
def berSideRow : OpenClaim := { program := "ytiagcegclgallaa", sum := "8b70549a59dd4fc374d70bbd93c5a1825143dbee866f4c133f9ca2c5f3e53c8b", func := "brook/brooklaw1.BerSide", spec := "berSide", inPlace := ["sync/atomic.LoadInt64", "sync/atomic.AddInt64"], unfollowed := true, recurses := true, apart := false }
def BerSideSaid : Prop := berSideRow.holds Try.pinned (OpenSpec.ofChange berSideSpec)

/-- ITS FALSE NEIGHBOUR: 'it returns false'. Refute it at one input. -/
def berSideWrong : ChangeSpec := { name := "berSide", fn := fun _ => fun
  | [d1, d2] => { results := [.lit (.bool false)], args := [d1, d2] }
  | _ => none }
def BerSideWrongFalsely : Prop := berSideRow.holds Try.pinned (OpenSpec.ofChange berSideWrong)

/-- 'brooklaw1.BerInts': WHATEVER THE INPUT: true; the input reads as it did. -/
def berIntsSpec : ChangeSpec := { name := "berInts", fn := fun _ => fun
  | [d1, d2] => { results := [.lit (.bool true)], args := [d1, d2] }
  | _ => none }
def berIntsRow : OpenClaim := { program := "ytiagcegclgallaa", sum := "8b70549a59dd4fc374d70bbd93c5a1825143dbee866f4c133f9ca2c5f3e53c8b", func := "brook/brooklaw1.BerInts", spec := "berInts", unfollowed := true, recurses := true, apart := false }
def BerIntsSaid : Prop := berIntsRow.holds Try.pinned (OpenSpec.ofChange berIntsSpec)

/-- ITS FALSE NEIGHBOUR: 'it returns false'. Refute it at one input. -/
def berIntsWrong : ChangeSpec := { name := "berInts", fn := fun _ => fun
  | [d1, d2] => { results := [.lit (.bool false)], args := [d1, d2] }
  | _ => none }
def BerIntsWrongFalsely : Prop := berIntsRow.holds Try.pinned (OpenSpec.ofChange berIntsWrong)

/- THE SECOND FORM. 'bulk': how many values and letters a reading holds, each counted each time it is reached (what is shared counts as often as it is met; a slice's spare places count too). A statement '..UptoSaid' is the law's where the arguments, and the package variables that the reading takes, are together of bulk at most 1048576: NARROWER than '..Said'. Prove '..Said' where nothing that the law and all that it calls make is longer than what came in: it says more and counts as full. Else prove '..UptoSaid'. A law counts once. -/
mutual
def uptoBulk {H : Type} : DataW H → Nat
  | .lit (.string bytes) => bytes.length + 1
  | .lit _ => 1
  | .nil => 1
  | .ptr d => uptoBulk d + 1
  | .slice elems spare => uptoBulkAll elems + uptoBulkAll spare + 1
  | .agg parts => uptoBulkAll parts + 1
  | .iface _ d => uptoBulk d + 1
  | .map entries => uptoBulkEntries entries + 1
  | .held _ => 1
def uptoBulkAll {H : Type} : List (DataW H) → Nat
  | [] => 0
  | d :: r => uptoBulk d + uptoBulkAll r
def uptoBulkEntries {H : Type} : List (Lit × DataW H) → Nat
  | [] => 0
  | x :: r => uptoBulkEntry x + uptoBulkEntries r
def uptoBulkEntry {H : Type} : Lit × DataW H → Nat
  | (.string bytes, d) => bytes.length + uptoBulk d + 1
  | (_, d) => uptoBulk d + 1
 end
def uptoSmall : (H : Type) → List (DataW H) → Bool := fun _ ds => decide (uptoBulkAll ds ≤ 1048576)
def OpenSpec.upto (s : _root_.Go.ChangeSpec) : _root_.Go.OpenSpec := { _root_.Go.OpenSpec.ofChange s with cond := some uptoSmall }

/-- 'brooklaw1.BerAll', WHERE WHAT IT READS IS OF BULK AT MOST 1048576: true; the input reads as it did. -/
def berAllUptoRow : OpenClaim := { program := "ytiagcegclgallaa", sum := "8b70549a59dd4fc374d70bbd93c5a1825143dbee866f4c133f9ca2c5f3e53c8b", func := "brook/brooklaw1.BerAll", spec := "berAll", unfollowed := true, recurses := true, loops := true, apart := false, narrowed := true }
def BerAllUptoSaid : Prop := berAllUptoRow.holds Try.pinned (OpenSpec.upto berAllSpec)

/-- 'brooklaw1.BerBytes', WHERE WHAT IT READS IS OF BULK AT MOST 1048576: true; the input reads as it did. -/
def berBytesUptoRow : OpenClaim := { program := "ytiagcegclgallaa", sum := "8b70549a59dd4fc374d70bbd93c5a1825143dbee866f4c133f9ca2c5f3e53c8b", func := "brook/brooklaw1.BerBytes", spec := "berBytes", inPlace := ["sync/atomic.LoadInt64", "sync/atomic.AddInt64"], unfollowed := true, recurses := true, apart := false, narrowed := true }
def BerBytesUptoSaid : Prop := berBytesUptoRow.holds Try.pinned (OpenSpec.upto berBytesSpec)

/-- 'brooklaw1.BerNumbers', WHERE WHAT IT READS IS OF BULK AT MOST 1048576: true; the input reads as it did. -/
def berNumbersUptoRow : OpenClaim := { program := "ytiagcegclgallaa", sum := "8b70549a59dd4fc374d70bbd93c5a1825143dbee866f4c133f9ca2c5f3e53c8b", func := "brook/brooklaw1.BerNumbers", spec := "berNumbers", unfollowed := true, recurses := true, apart := false, narrowed := true }
def BerNumbersUptoSaid : Prop := berNumbersUptoRow.holds Try.pinned (OpenSpec.upto berNumbersSpec)

/-- 'brooklaw1.BerBack', WHERE WHAT IT READS IS OF BULK AT MOST 1048576: true; the input reads as it did. -/
def berBackUptoRow : OpenClaim := { program := "ytiagcegclgallaa", sum := "8b70549a59dd4fc374d70bbd93c5a1825143dbee866f4c133f9ca2c5f3e53c8b", func := "brook/brooklaw1.BerBack", spec := "berBack", inPlace := ["sync/atomic.LoadInt64", "sync/atomic.AddInt64"], unfollowed := true, recurses := true, apart := false, narrowed := true }
def BerBackUptoSaid : Prop := berBackUptoRow.holds Try.pinned (OpenSpec.upto berBackSpec)

/-- 'brooklaw1.BerDeep', WHERE WHAT IT READS IS OF BULK AT MOST 1048576: true; the input reads as it did. -/
def berDeepUptoRow : OpenClaim := { program := "ytiagcegclgallaa", sum := "8b70549a59dd4fc374d70bbd93c5a1825143dbee866f4c133f9ca2c5f3e53c8b", func := "brook/brooklaw1.BerDeep", spec := "berDeep", inPlace := ["sync/atomic.LoadInt64", "sync/atomic.AddInt64"], unfollowed := true, recurses := true, apart := false, narrowed := true }
def BerDeepUptoSaid : Prop := berDeepUptoRow.holds Try.pinned (OpenSpec.upto berDeepSpec)

/-- 'brooklaw1.BerLengths', WHERE WHAT IT READS IS OF BULK AT MOST 1048576: true; the input reads as it did. -/
def berLengthsUptoRow : OpenClaim := { program := "ytiagcegclgallaa", sum := "8b70549a59dd4fc374d70bbd93c5a1825143dbee866f4c133f9ca2c5f3e53c8b", func := "brook/brooklaw1.BerLengths", spec := "berLengths", inPlace := ["sync/atomic.LoadInt64", "sync/atomic.AddInt64"], unfollowed := true, recurses := true, apart := false, narrowed := true }
def BerLengthsUptoSaid : Prop := berLengthsUptoRow.holds Try.pinned (OpenSpec.upto berLengthsSpec)

/-- 'brooklaw1.BerSide', WHERE WHAT IT READS IS OF BULK AT MOST 1048576: true; the input reads as it did. -/
def berSideUptoRow : OpenClaim := { program := "ytiagcegclgallaa", sum := "8b70549a59dd4fc374d70bbd93c5a1825143dbee866f4c133f9ca2c5f3e53c8b", func := "brook/brooklaw1.BerSide", spec := "berSide", inPlace := ["sync/atomic.LoadInt64", "sync/atomic.AddInt64"], unfollowed := true, recurses := true, apart := false, narrowed := true }
def BerSideUptoSaid : Prop := berSideUptoRow.holds Try.pinned (OpenSpec.upto berSideSpec)

/-- 'brooklaw1.BerInts', WHERE WHAT IT READS IS OF BULK AT MOST 1048576: true; the input reads as it did. -/
def berIntsUptoRow : OpenClaim := { program := "ytiagcegclgallaa", sum := "8b70549a59dd4fc374d70bbd93c5a1825143dbee866f4c133f9ca2c5f3e53c8b", func := "brook/brooklaw1.BerInts", spec := "berInts", unfollowed := true, recurses := true, apart := false, narrowed := true }
def BerIntsUptoSaid : Prop := berIntsUptoRow.holds Try.pinned (OpenSpec.upto berIntsSpec)

end Rows
end Go.Proofs.Ytiagcegclgallaa
