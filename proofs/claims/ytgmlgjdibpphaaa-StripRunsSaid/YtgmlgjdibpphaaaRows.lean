/-
  No cell of these rows narrows 'for every input' (looked for: loops, veiled, ifaces, maps, wideKeys, modest, calm, conditions, laid).
  DERIVED. THE GIVEN ROWS OF THIS SEAT. 6 by the template 'for every input the law returns true; each argument reads behind the call as it read before'; 0 by the template 'total and deterministic' (their statements: YtgmlgjdibpphaaaTotals.lean).
  GIVEN WITH THE SEED: the statements are not yours to turn. If you find one false, say at which input.
  Laid BY PROGRAM, IN A SANDBOX (cutbox-rows.mjs): the forced cells as the released guide's own fill.sh prints them over the translation 7eab4fe1c626c5ec… (all of the seat's roots in one cut). By AI agents, Wed Nov 11 2026. No macro, syntax, notation, axiom, sorry.
-/
import Derived.Test.YtgmlgjdibpphaaaChecked
import GoSem.Claim
import GoSem.ClaimJoined
import GoSem.ClaimMapViews
import Derived.JoinedTies
import Derived.KernelRfl
namespace Go.Proofs.Ytgmlgjdibpphaaa
/- THE CELL 'sum', in the pinned program and in every row, IS THE sha256 OF THE DUMP (.gsa) THAT YtgmlgjdibpphaaaProg.lean LOADS. Nothing in Lean hashes anything: it is a label: what it is worth is what the hold of that sum in a sandbox is worth. -/
noncomputable def Try.pinned : Pinned := { name := "ytgmlgjdibpphaaa", sum := "7eab4fe1c626c5ec15f00367edd0f6636eb9dba71135760c6cd0ec28d6da2406", checked := Try.checked }
namespace Rows
def none {H : Type} : Left H := { results := [], args := [] }

/-- 'brooklaw16.StripRuns': WHATEVER THE INPUT: true; the input reads as it did. -/
def stripRunsSpec : ChangeSpec := { name := "stripRuns", fn := fun _ => fun
  | [d1, d2] => { results := [.lit (.bool true)], args := [d1, d2] }
  | _ => none }
def stripRunsRow : OpenClaim := { program := "ytgmlgjdibpphaaa", sum := "7eab4fe1c626c5ec15f00367edd0f6636eb9dba71135760c6cd0ec28d6da2406", func := "brook/brooklaw16.StripRuns", spec := "stripRuns", inPlace := ["sync/atomic.StoreInt64", "sync/atomic.AddInt64"], apart := false }
def StripRunsSaid : Prop := stripRunsRow.holds Try.pinned (OpenSpec.ofChange stripRunsSpec)

/-- ITS FALSE NEIGHBOUR: 'it returns false'. Refute it at one input. -/
def stripRunsWrong : ChangeSpec := { name := "stripRuns", fn := fun _ => fun
  | [d1, d2] => { results := [.lit (.bool false)], args := [d1, d2] }
  | _ => none }
def StripRunsWrongFalsely : Prop := stripRunsRow.holds Try.pinned (OpenSpec.ofChange stripRunsWrong)

/-- 'brooklaw16.StripFalls': WHATEVER THE INPUT: true; the input reads as it did. -/
def stripFallsSpec : ChangeSpec := { name := "stripFalls", fn := fun _ => fun
  | [d1, d2, d3] => { results := [.lit (.bool true)], args := [d1, d2, d3] }
  | _ => none }
def stripFallsRow : OpenClaim := { program := "ytgmlgjdibpphaaa", sum := "7eab4fe1c626c5ec15f00367edd0f6636eb9dba71135760c6cd0ec28d6da2406", func := "brook/brooklaw16.StripFalls", spec := "stripFalls", inPlace := ["sync/atomic.StoreInt64", "sync/atomic.AddInt64"], apart := false }
def StripFallsSaid : Prop := stripFallsRow.holds Try.pinned (OpenSpec.ofChange stripFallsSpec)

/-- ITS FALSE NEIGHBOUR: 'it returns false'. Refute it at one input. -/
def stripFallsWrong : ChangeSpec := { name := "stripFalls", fn := fun _ => fun
  | [d1, d2, d3] => { results := [.lit (.bool false)], args := [d1, d2, d3] }
  | _ => none }
def StripFallsWrongFalsely : Prop := stripFallsRow.holds Try.pinned (OpenSpec.ofChange stripFallsWrong)

/-- 'brooklaw16.StripTear': WHATEVER THE INPUT: true; the input reads as it did. -/
def stripTearSpec : ChangeSpec := { name := "stripTear", fn := fun _ => fun
  | [d1, d2, d3] => { results := [.lit (.bool true)], args := [d1, d2, d3] }
  | _ => none }
def stripTearRow : OpenClaim := { program := "ytgmlgjdibpphaaa", sum := "7eab4fe1c626c5ec15f00367edd0f6636eb9dba71135760c6cd0ec28d6da2406", func := "brook/brooklaw16.StripTear", spec := "stripTear", inPlace := ["sync/atomic.StoreInt64", "sync/atomic.AddInt64"], apart := false }
def StripTearSaid : Prop := stripTearRow.holds Try.pinned (OpenSpec.ofChange stripTearSpec)

/-- ITS FALSE NEIGHBOUR: 'it returns false'. Refute it at one input. -/
def stripTearWrong : ChangeSpec := { name := "stripTear", fn := fun _ => fun
  | [d1, d2, d3] => { results := [.lit (.bool false)], args := [d1, d2, d3] }
  | _ => none }
def StripTearWrongFalsely : Prop := stripTearRow.holds Try.pinned (OpenSpec.ofChange stripTearWrong)

/-- 'brooklaw16.StripEdges': WHATEVER THE INPUT: true; the input reads as it did. -/
def stripEdgesSpec : ChangeSpec := { name := "stripEdges", fn := fun _ => fun
  | [d1, d2, d3] => { results := [.lit (.bool true)], args := [d1, d2, d3] }
  | _ => none }
def stripEdgesRow : OpenClaim := { program := "ytgmlgjdibpphaaa", sum := "7eab4fe1c626c5ec15f00367edd0f6636eb9dba71135760c6cd0ec28d6da2406", func := "brook/brooklaw16.StripEdges", spec := "stripEdges", inPlace := ["sync/atomic.StoreInt64", "sync/atomic.AddInt64"], apart := false }
def StripEdgesSaid : Prop := stripEdgesRow.holds Try.pinned (OpenSpec.ofChange stripEdgesSpec)

/-- ITS FALSE NEIGHBOUR: 'it returns false'. Refute it at one input. -/
def stripEdgesWrong : ChangeSpec := { name := "stripEdges", fn := fun _ => fun
  | [d1, d2, d3] => { results := [.lit (.bool false)], args := [d1, d2, d3] }
  | _ => none }
def StripEdgesWrongFalsely : Prop := stripEdgesRow.holds Try.pinned (OpenSpec.ofChange stripEdgesWrong)

/-- 'brooklaw16.StripNil': WHATEVER THE INPUT: true; the input reads as it did. -/
def stripNilSpec : ChangeSpec := { name := "stripNil", fn := fun _ => fun
  | [d1, d2] => { results := [.lit (.bool true)], args := [d1, d2] }
  | _ => none }
def stripNilRow : OpenClaim := { program := "ytgmlgjdibpphaaa", sum := "7eab4fe1c626c5ec15f00367edd0f6636eb9dba71135760c6cd0ec28d6da2406", func := "brook/brooklaw16.StripNil", spec := "stripNil", inPlace := ["sync/atomic.StoreInt64", "sync/atomic.AddInt64"], apart := false }
def StripNilSaid : Prop := stripNilRow.holds Try.pinned (OpenSpec.ofChange stripNilSpec)

/-- ITS FALSE NEIGHBOUR: 'it returns false'. Refute it at one input. -/
def stripNilWrong : ChangeSpec := { name := "stripNil", fn := fun _ => fun
  | [d1, d2] => { results := [.lit (.bool false)], args := [d1, d2] }
  | _ => none }
def StripNilWrongFalsely : Prop := stripNilRow.holds Try.pinned (OpenSpec.ofChange stripNilWrong)

/-- 'brooklaw16.StripReads': WHATEVER THE INPUT: true; the input reads as it did. -/
def stripReadsSpec : ChangeSpec := { name := "stripReads", fn := fun _ => fun
  | [d1, d2] => { results := [.lit (.bool true)], args := [d1, d2] }
  | _ => none }
def stripReadsRow : OpenClaim := { program := "ytgmlgjdibpphaaa", sum := "7eab4fe1c626c5ec15f00367edd0f6636eb9dba71135760c6cd0ec28d6da2406", func := "brook/brooklaw16.StripReads", spec := "stripReads", inPlace := ["sync/atomic.StoreInt64", "sync/atomic.AddInt64"], apart := false }
def StripReadsSaid : Prop := stripReadsRow.holds Try.pinned (OpenSpec.ofChange stripReadsSpec)

/-- ITS FALSE NEIGHBOUR: 'it returns false'. Refute it at one input. -/
def stripReadsWrong : ChangeSpec := { name := "stripReads", fn := fun _ => fun
  | [d1, d2] => { results := [.lit (.bool false)], args := [d1, d2] }
  | _ => none }
def StripReadsWrongFalsely : Prop := stripReadsRow.holds Try.pinned (OpenSpec.ofChange stripReadsWrong)

/- THE SECOND FORM. 'bulk': how many values and letters a reading holds, each counted each time it is reached (what is shared counts as often as it is met; a slice's spare places count too). A statement '..UptoSaid' is the law's where the arguments, and the package variables that the reading takes, are together of bulk at most 1048576: NARROWER than '..Said'. Prove '..Said' where nothing that the law and all that it calls make is longer than what came in: it says more and counts as full. Else prove '..UptoSaid'. A law counts once. -/
mutual
def uptoBulk {H : Type} : DataW H → Nat
  | .lit (.string bytes) => bytes.length + 1
  | .lit _ => 1
  | .nil => 1
  | .ptr d => uptoBulk d + 1
  | .slice elems spare => uptoBulkAll elems + uptoBulkAll spare + 1
  | .agg parts => uptoBulkAll parts + 1
  | .iface _ d => uptoBulk d + 1
  | .map entries => uptoBulkEntries entries + 1
  | .held _ => 1
def uptoBulkAll {H : Type} : List (DataW H) → Nat
  | [] => 0
  | d :: r => uptoBulk d + uptoBulkAll r
def uptoBulkEntries {H : Type} : List (Lit × DataW H) → Nat
  | [] => 0
  | x :: r => uptoBulkEntry x + uptoBulkEntries r
def uptoBulkEntry {H : Type} : Lit × DataW H → Nat
  | (.string bytes, d) => bytes.length + uptoBulk d + 1
  | (_, d) => uptoBulk d + 1
 end
def uptoSmall : (H : Type) → List (DataW H) → Bool := fun _ ds => decide (uptoBulkAll ds ≤ 1048576)
def OpenSpec.upto (s : _root_.Go.ChangeSpec) : _root_.Go.OpenSpec := { _root_.Go.OpenSpec.ofChange s with cond := some uptoSmall }

/-- 'brooklaw16.StripRuns', WHERE WHAT IT READS IS OF BULK AT MOST 1048576: true; the input reads as it did. -/
def stripRunsUptoRow : OpenClaim := { program := "ytgmlgjdibpphaaa", sum := "7eab4fe1c626c5ec15f00367edd0f6636eb9dba71135760c6cd0ec28d6da2406", func := "brook/brooklaw16.StripRuns", spec := "stripRuns", inPlace := ["sync/atomic.StoreInt64", "sync/atomic.AddInt64"], apart := false, narrowed := true }
def StripRunsUptoSaid : Prop := stripRunsUptoRow.holds Try.pinned (OpenSpec.upto stripRunsSpec)

/-- 'brooklaw16.StripFalls', WHERE WHAT IT READS IS OF BULK AT MOST 1048576: true; the input reads as it did. -/
def stripFallsUptoRow : OpenClaim := { program := "ytgmlgjdibpphaaa", sum := "7eab4fe1c626c5ec15f00367edd0f6636eb9dba71135760c6cd0ec28d6da2406", func := "brook/brooklaw16.StripFalls", spec := "stripFalls", inPlace := ["sync/atomic.StoreInt64", "sync/atomic.AddInt64"], apart := false, narrowed := true }
def StripFallsUptoSaid : Prop := stripFallsUptoRow.holds Try.pinned (OpenSpec.upto stripFallsSpec)

/-- 'brooklaw16.StripTear', WHERE WHAT IT READS IS OF BULK AT MOST 1048576: true; the input reads as it did. -/
def stripTearUptoRow : OpenClaim := { program := "ytgmlgjdibpphaaa", sum := "7eab4fe1c626c5ec15f00367edd0f6636eb9dba71135760c6cd0ec28d6da2406", func := "brook/brooklaw16.StripTear", spec := "stripTear", inPlace := ["sync/atomic.StoreInt64", "sync/atomic.AddInt64"], apart := false, narrowed := true }
def StripTearUptoSaid : Prop := stripTearUptoRow.holds Try.pinned (OpenSpec.upto stripTearSpec)

/-- 'brooklaw16.StripEdges', WHERE WHAT IT READS IS OF BULK AT MOST 1048576: true; the input reads as it did. -/
def stripEdgesUptoRow : OpenClaim := { program := "ytgmlgjdibpphaaa", sum := "7eab4fe1c626c5ec15f00367edd0f6636eb9dba71135760c6cd0ec28d6da2406", func := "brook/brooklaw16.StripEdges", spec := "stripEdges", inPlace := ["sync/atomic.StoreInt64", "sync/atomic.AddInt64"], apart := false, narrowed := true }
def StripEdgesUptoSaid : Prop := stripEdgesUptoRow.holds Try.pinned (OpenSpec.upto stripEdgesSpec)

/-- 'brooklaw16.StripNil', WHERE WHAT IT READS IS OF BULK AT MOST 1048576: true; the input reads as it did. -/
def stripNilUptoRow : OpenClaim := { program := "ytgmlgjdibpphaaa", sum := "7eab4fe1c626c5ec15f00367edd0f6636eb9dba71135760c6cd0ec28d6da2406", func := "brook/brooklaw16.StripNil", spec := "stripNil", inPlace := ["sync/atomic.StoreInt64", "sync/atomic.AddInt64"], apart := false, narrowed := true }
def StripNilUptoSaid : Prop := stripNilUptoRow.holds Try.pinned (OpenSpec.upto stripNilSpec)

/-- 'brooklaw16.StripReads', WHERE WHAT IT READS IS OF BULK AT MOST 1048576: true; the input reads as it did. -/
def stripReadsUptoRow : OpenClaim := { program := "ytgmlgjdibpphaaa", sum := "7eab4fe1c626c5ec15f00367edd0f6636eb9dba71135760c6cd0ec28d6da2406", func := "brook/brooklaw16.StripReads", spec := "stripReads", inPlace := ["sync/atomic.StoreInt64", "sync/atomic.AddInt64"], apart := false, narrowed := true }
def StripReadsUptoSaid : Prop := stripReadsUptoRow.holds Try.pinned (OpenSpec.upto stripReadsSpec)

end Rows
end Go.Proofs.Ytgmlgjdibpphaaa
