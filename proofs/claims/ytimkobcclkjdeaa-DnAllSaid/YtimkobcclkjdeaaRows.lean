/-
  No cell of these rows narrows 'for every input' (looked for: loops, veiled, ifaces, maps, wideKeys, modest, calm, conditions, laid).
  DERIVED. THE GIVEN ROWS OF THIS SEAT. 8 by the template 'for every input the law returns true; each argument reads behind the call as it read before'; 0 by the template 'total and deterministic' (their statements: YtimkobcclkjdeaaTotals.lean).
  GIVEN WITH THE SEED: the statements are not yours to turn. If you find one false, say at which input.
  Laid BY PROGRAM, IN A SANDBOX (cutbox-rows.mjs): the forced cells as the released guide's own fill.sh prints them over the translation d6fec8d29460b596… (all of the seat's roots in one cut). By AI agents, Wed Nov 11 2026. No macro, syntax, notation, axiom, sorry.
-/
import Derived.Test.YtimkobcclkjdeaaChecked
import GoSem.Claim
import GoSem.ClaimJoined
import GoSem.ClaimMapViews
import Derived.JoinedTies
import Derived.KernelRfl
namespace Go.Proofs.Ytimkobcclkjdeaa
/- THE CELL 'sum', in the pinned program and in every row, IS THE sha256 OF THE DUMP (.gsa) THAT YtimkobcclkjdeaaProg.lean LOADS. Nothing in Lean hashes anything: it is a label: what it is worth is what the hold of that sum in a sandbox is worth. -/
noncomputable def Try.pinned : Pinned := { name := "ytimkobcclkjdeaa", sum := "d6fec8d29460b5962912e0ace8c34ff823e1f3a44caedd8bb4fdc176a53641d6", checked := Try.checked }
namespace Rows
def none {H : Type} : Left H := { results := [], args := [] }

/-- 'brooklaw2.DnAll': WHATEVER THE INPUT: true; the input reads as it did. -/
def dnAllSpec : ChangeSpec := { name := "dnAll", fn := fun _ => fun
  | [d1, d2] => { results := [.lit (.bool true)], args := [d1, d2] }
  | _ => none }
def dnAllRow : OpenClaim := { program := "ytimkobcclkjdeaa", sum := "d6fec8d29460b5962912e0ace8c34ff823e1f3a44caedd8bb4fdc176a53641d6", func := "brook/brooklaw2.DnAll", spec := "dnAll", inPlace := ["internal/bytealg.IndexByteString", "internal/bytealg.IndexString", "internal/abi.NoEscape"], named := ["internal/bytealg.MaxLen"], apart := false }
def DnAllSaid : Prop := dnAllRow.holds Try.pinned (OpenSpec.ofChange dnAllSpec)

/-- ITS FALSE NEIGHBOUR: 'it returns false'. Refute it at one input. -/
def dnAllWrong : ChangeSpec := { name := "dnAll", fn := fun _ => fun
  | [d1, d2] => { results := [.lit (.bool false)], args := [d1, d2] }
  | _ => none }
def DnAllWrongFalsely : Prop := dnAllRow.holds Try.pinned (OpenSpec.ofChange dnAllWrong)

/-- 'brooklaw2.DnLists': WHATEVER THE INPUT: true; the input reads as it did. -/
def dnListsSpec : ChangeSpec := { name := "dnLists", fn := fun _ => fun
  | [d] => { results := [.lit (.bool true)], args := [d] }
  | _ => none }
def dnListsRow : OpenClaim := { program := "ytimkobcclkjdeaa", sum := "d6fec8d29460b5962912e0ace8c34ff823e1f3a44caedd8bb4fdc176a53641d6", func := "brook/brooklaw2.DnLists", spec := "dnLists", inPlace := ["internal/bytealg.IndexByteString", "internal/bytealg.IndexString", "internal/abi.NoEscape"], named := ["internal/bytealg.MaxLen"], apart := false }
def DnListsSaid : Prop := dnListsRow.holds Try.pinned (OpenSpec.ofChange dnListsSpec)

/-- ITS FALSE NEIGHBOUR: 'it returns false'. Refute it at one input. -/
def dnListsWrong : ChangeSpec := { name := "dnLists", fn := fun _ => fun
  | [d] => { results := [.lit (.bool false)], args := [d] }
  | _ => none }
def DnListsWrongFalsely : Prop := dnListsRow.holds Try.pinned (OpenSpec.ofChange dnListsWrong)

/-- 'brooklaw2.DnBack': WHATEVER THE INPUT: true; the input reads as it did. -/
def dnBackSpec : ChangeSpec := { name := "dnBack", fn := fun _ => fun
  | [d1, d2] => { results := [.lit (.bool true)], args := [d1, d2] }
  | _ => none }
def dnBackRow : OpenClaim := { program := "ytimkobcclkjdeaa", sum := "d6fec8d29460b5962912e0ace8c34ff823e1f3a44caedd8bb4fdc176a53641d6", func := "brook/brooklaw2.DnBack", spec := "dnBack", inPlace := ["internal/abi.NoEscape", "internal/bytealg.IndexByteString", "internal/bytealg.IndexString"], named := ["internal/bytealg.MaxLen"], apart := false }
def DnBackSaid : Prop := dnBackRow.holds Try.pinned (OpenSpec.ofChange dnBackSpec)

/-- ITS FALSE NEIGHBOUR: 'it returns false'. Refute it at one input. -/
def dnBackWrong : ChangeSpec := { name := "dnBack", fn := fun _ => fun
  | [d1, d2] => { results := [.lit (.bool false)], args := [d1, d2] }
  | _ => none }
def DnBackWrongFalsely : Prop := dnBackRow.holds Try.pinned (OpenSpec.ofChange dnBackWrong)

/-- 'brooklaw2.DnKeys': WHATEVER THE INPUT: true; the input reads as it did. -/
def dnKeysSpec : ChangeSpec := { name := "dnKeys", fn := fun _ => fun
  | [d1, d2, d3] => { results := [.lit (.bool true)], args := [d1, d2, d3] }
  | _ => none }
def dnKeysRow : OpenClaim := { program := "ytimkobcclkjdeaa", sum := "d6fec8d29460b5962912e0ace8c34ff823e1f3a44caedd8bb4fdc176a53641d6", func := "brook/brooklaw2.DnKeys", spec := "dnKeys", inPlace := ["internal/abi.NoEscape", "internal/bytealg.IndexByteString", "internal/bytealg.IndexString"], named := ["internal/bytealg.MaxLen"], apart := false }
def DnKeysSaid : Prop := dnKeysRow.holds Try.pinned (OpenSpec.ofChange dnKeysSpec)

/-- ITS FALSE NEIGHBOUR: 'it returns false'. Refute it at one input. -/
def dnKeysWrong : ChangeSpec := { name := "dnKeys", fn := fun _ => fun
  | [d1, d2, d3] => { results := [.lit (.bool false)], args := [d1, d2, d3] }
  | _ => none }
def DnKeysWrongFalsely : Prop := dnKeysRow.holds Try.pinned (OpenSpec.ofChange dnKeysWrong)

/-- 'brooklaw2.DnUnder': WHATEVER THE INPUT: true; the input reads as it did. -/
def dnUnderSpec : ChangeSpec := { name := "dnUnder", fn := fun _ => fun
  | [d1, d2, d3] => { results := [.lit (.bool true)], args := [d1, d2, d3] }
  | _ => none }
def dnUnderRow : OpenClaim := { program := "ytimkobcclkjdeaa", sum := "d6fec8d29460b5962912e0ace8c34ff823e1f3a44caedd8bb4fdc176a53641d6", func := "brook/brooklaw2.DnUnder", spec := "dnUnder", inPlace := ["internal/bytealg.IndexByteString", "internal/bytealg.IndexString", "internal/abi.NoEscape"], named := ["internal/bytealg.MaxLen"], apart := false }
def DnUnderSaid : Prop := dnUnderRow.holds Try.pinned (OpenSpec.ofChange dnUnderSpec)

/-- ITS FALSE NEIGHBOUR: 'it returns false'. Refute it at one input. -/
def dnUnderWrong : ChangeSpec := { name := "dnUnder", fn := fun _ => fun
  | [d1, d2, d3] => { results := [.lit (.bool false)], args := [d1, d2, d3] }
  | _ => none }
def DnUnderWrongFalsely : Prop := dnUnderRow.holds Try.pinned (OpenSpec.ofChange dnUnderWrong)

/-- 'brooklaw2.DnBad': WHATEVER THE INPUT: true; the input reads as it did. -/
def dnBadSpec : ChangeSpec := { name := "dnBad", fn := fun _ => fun
  | [d1, d2] => { results := [.lit (.bool true)], args := [d1, d2] }
  | _ => none }
def dnBadRow : OpenClaim := { program := "ytimkobcclkjdeaa", sum := "d6fec8d29460b5962912e0ace8c34ff823e1f3a44caedd8bb4fdc176a53641d6", func := "brook/brooklaw2.DnBad", spec := "dnBad", inPlace := ["internal/bytealg.IndexByteString", "internal/bytealg.IndexString", "internal/abi.NoEscape"], named := ["internal/bytealg.MaxLen"], apart := false }
def DnBadSaid : Prop := dnBadRow.holds Try.pinned (OpenSpec.ofChange dnBadSpec)

/-- ITS FALSE NEIGHBOUR: 'it returns false'. Refute it at one input. -/
def dnBadWrong : ChangeSpec := { name := "dnBad", fn := fun _ => fun
  | [d1, d2] => { results := [.lit (.bool false)], args := [d1, d2] }
  | _ => none }
def DnBadWrongFalsely : Prop := dnBadRow.holds Try.pinned (OpenSpec.ofChange dnBadWrong)

/-- 'brooklaw2.DnFold': WHATEVER THE INPUT: true; the input reads as it did. -/
def dnFoldSpec : ChangeSpec := { name := "dnFold", fn := fun _ => fun
  | [d1, d2] => { results := [.lit (.bool true)], args := [d1, d2] }
  | _ => none }
def dnFoldRow : OpenClaim := { program := "ytimkobcclkjdeaa", sum := "d6fec8d29460b5962912e0ace8c34ff823e1f3a44caedd8bb4fdc176a53641d6", func := "brook/brooklaw2.DnFold", spec := "dnFold", inPlace := ["internal/bytealg.IndexByteString", "internal/bytealg.IndexString", "internal/abi.NoEscape"], named := ["internal/bytealg.MaxLen"], apart := false }
def DnFoldSaid : Prop := dnFoldRow.holds Try.pinned (OpenSpec.ofChange dnFoldSpec)

/-- ITS FALSE NEIGHBOUR: 'it returns false'. Refute it at one input. -/
def dnFoldWrong : ChangeSpec := { name := "dnFold", fn := fun _ => fun
  | [d1, d2] => { results := [.lit (.bool false)], args := [d1, d2] }
  | _ => none }
def DnFoldWrongFalsely : Prop := dnFoldRow.holds Try.pinned (OpenSpec.ofChange dnFoldWrong)

/-- 'brooklaw2.DnSteps': WHATEVER THE INPUT: true; the input reads as it did. -/
def dnStepsSpec : ChangeSpec := { name := "dnSteps", fn := fun _ => fun
  | [d1, d2] => { results := [.lit (.bool true)], args := [d1, d2] }
  | _ => none }
def dnStepsRow : OpenClaim := { program := "ytimkobcclkjdeaa", sum := "d6fec8d29460b5962912e0ace8c34ff823e1f3a44caedd8bb4fdc176a53641d6", func := "brook/brooklaw2.DnSteps", spec := "dnSteps", inPlace := ["internal/abi.NoEscape", "internal/bytealg.IndexByteString", "internal/bytealg.IndexString"], named := ["internal/bytealg.MaxLen"], apart := false }
def DnStepsSaid : Prop := dnStepsRow.holds Try.pinned (OpenSpec.ofChange dnStepsSpec)

/-- ITS FALSE NEIGHBOUR: 'it returns false'. Refute it at one input. -/
def dnStepsWrong : ChangeSpec := { name := "dnSteps", fn := fun _ => fun
  | [d1, d2] => { results := [.lit (.bool false)], args := [d1, d2] }
  | _ => none }
def DnStepsWrongFalsely : Prop := dnStepsRow.holds Try.pinned (OpenSpec.ofChange dnStepsWrong)

/- THE SECOND FORM. 'bulk': how many values and letters a reading holds, each counted each time it is reached (what is shared counts as often as it is met; a slice's spare places count too). A statement '..UptoSaid' is the law's where the arguments, and the package variables that the reading takes, are together of bulk at most 1048576: NARROWER than '..Said'. Prove '..Said' where nothing that the law and all that it calls make is longer than what came in: it says more and counts as full. Else prove '..UptoSaid'. A law counts once. -/
mutual
def uptoBulk {H : Type} : DataW H → Nat
  | .lit (.string bytes) => bytes.length + 1
  | .lit _ => 1
  | .nil => 1
  | .ptr d => uptoBulk d + 1
  | .slice elems spare => uptoBulkAll elems + uptoBulkAll spare + 1
  | .agg parts => uptoBulkAll parts + 1
  | .iface _ d => uptoBulk d + 1
  | .map entries => uptoBulkEntries entries + 1
  | .held _ => 1
def uptoBulkAll {H : Type} : List (DataW H) → Nat
  | [] => 0
  | d :: r => uptoBulk d + uptoBulkAll r
def uptoBulkEntries {H : Type} : List (Lit × DataW H) → Nat
  | [] => 0
  | x :: r => uptoBulkEntry x + uptoBulkEntries r
def uptoBulkEntry {H : Type} : Lit × DataW H → Nat
  | (.string bytes, d) => bytes.length + uptoBulk d + 1
  | (_, d) => uptoBulk d + 1
 end
def uptoSmall : (H : Type) → List (DataW H) → Bool := fun _ ds => decide (uptoBulkAll ds ≤ 1048576)
def OpenSpec.upto (s : _root_.Go.ChangeSpec) : _root_.Go.OpenSpec := { _root_.Go.OpenSpec.ofChange s with cond := some uptoSmall }

/-- 'brooklaw2.DnAll', WHERE WHAT IT READS IS OF BULK AT MOST 1048576: true; the input reads as it did. -/
def dnAllUptoRow : OpenClaim := { program := "ytimkobcclkjdeaa", sum := "d6fec8d29460b5962912e0ace8c34ff823e1f3a44caedd8bb4fdc176a53641d6", func := "brook/brooklaw2.DnAll", spec := "dnAll", inPlace := ["internal/bytealg.IndexByteString", "internal/bytealg.IndexString", "internal/abi.NoEscape"], named := ["internal/bytealg.MaxLen"], apart := false, narrowed := true }
def DnAllUptoSaid : Prop := dnAllUptoRow.holds Try.pinned (OpenSpec.upto dnAllSpec)

/-- 'brooklaw2.DnLists', WHERE WHAT IT READS IS OF BULK AT MOST 1048576: true; the input reads as it did. -/
def dnListsUptoRow : OpenClaim := { program := "ytimkobcclkjdeaa", sum := "d6fec8d29460b5962912e0ace8c34ff823e1f3a44caedd8bb4fdc176a53641d6", func := "brook/brooklaw2.DnLists", spec := "dnLists", inPlace := ["internal/bytealg.IndexByteString", "internal/bytealg.IndexString", "internal/abi.NoEscape"], named := ["internal/bytealg.MaxLen"], apart := false, narrowed := true }
def DnListsUptoSaid : Prop := dnListsUptoRow.holds Try.pinned (OpenSpec.upto dnListsSpec)

/-- 'brooklaw2.DnBack', WHERE WHAT IT READS IS OF BULK AT MOST 1048576: true; the input reads as it did. -/
def dnBackUptoRow : OpenClaim := { program := "ytimkobcclkjdeaa", sum := "d6fec8d29460b5962912e0ace8c34ff823e1f3a44caedd8bb4fdc176a53641d6", func := "brook/brooklaw2.DnBack", spec := "dnBack", inPlace := ["internal/abi.NoEscape", "internal/bytealg.IndexByteString", "internal/bytealg.IndexString"], named := ["internal/bytealg.MaxLen"], apart := false, narrowed := true }
def DnBackUptoSaid : Prop := dnBackUptoRow.holds Try.pinned (OpenSpec.upto dnBackSpec)

/-- 'brooklaw2.DnKeys', WHERE WHAT IT READS IS OF BULK AT MOST 1048576: true; the input reads as it did. -/
def dnKeysUptoRow : OpenClaim := { program := "ytimkobcclkjdeaa", sum := "d6fec8d29460b5962912e0ace8c34ff823e1f3a44caedd8bb4fdc176a53641d6", func := "brook/brooklaw2.DnKeys", spec := "dnKeys", inPlace := ["internal/abi.NoEscape", "internal/bytealg.IndexByteString", "internal/bytealg.IndexString"], named := ["internal/bytealg.MaxLen"], apart := false, narrowed := true }
def DnKeysUptoSaid : Prop := dnKeysUptoRow.holds Try.pinned (OpenSpec.upto dnKeysSpec)

/-- 'brooklaw2.DnUnder', WHERE WHAT IT READS IS OF BULK AT MOST 1048576: true; the input reads as it did. -/
def dnUnderUptoRow : OpenClaim := { program := "ytimkobcclkjdeaa", sum := "d6fec8d29460b5962912e0ace8c34ff823e1f3a44caedd8bb4fdc176a53641d6", func := "brook/brooklaw2.DnUnder", spec := "dnUnder", inPlace := ["internal/bytealg.IndexByteString", "internal/bytealg.IndexString", "internal/abi.NoEscape"], named := ["internal/bytealg.MaxLen"], apart := false, narrowed := true }
def DnUnderUptoSaid : Prop := dnUnderUptoRow.holds Try.pinned (OpenSpec.upto dnUnderSpec)

/-- 'brooklaw2.DnBad', WHERE WHAT IT READS IS OF BULK AT MOST 1048576: true; the input reads as it did. -/
def dnBadUptoRow : OpenClaim := { program := "ytimkobcclkjdeaa", sum := "d6fec8d29460b5962912e0ace8c34ff823e1f3a44caedd8bb4fdc176a53641d6", func := "brook/brooklaw2.DnBad", spec := "dnBad", inPlace := ["internal/bytealg.IndexByteString", "internal/bytealg.IndexString", "internal/abi.NoEscape"], named := ["internal/bytealg.MaxLen"], apart := false, narrowed := true }
def DnBadUptoSaid : Prop := dnBadUptoRow.holds Try.pinned (OpenSpec.upto dnBadSpec)

/-- 'brooklaw2.DnFold', WHERE WHAT IT READS IS OF BULK AT MOST 1048576: true; the input reads as it did. -/
def dnFoldUptoRow : OpenClaim := { program := "ytimkobcclkjdeaa", sum := "d6fec8d29460b5962912e0ace8c34ff823e1f3a44caedd8bb4fdc176a53641d6", func := "brook/brooklaw2.DnFold", spec := "dnFold", inPlace := ["internal/bytealg.IndexByteString", "internal/bytealg.IndexString", "internal/abi.NoEscape"], named := ["internal/bytealg.MaxLen"], apart := false, narrowed := true }
def DnFoldUptoSaid : Prop := dnFoldUptoRow.holds Try.pinned (OpenSpec.upto dnFoldSpec)

/-- 'brooklaw2.DnSteps', WHERE WHAT IT READS IS OF BULK AT MOST 1048576: true; the input reads as it did. -/
def dnStepsUptoRow : OpenClaim := { program := "ytimkobcclkjdeaa", sum := "d6fec8d29460b5962912e0ace8c34ff823e1f3a44caedd8bb4fdc176a53641d6", func := "brook/brooklaw2.DnSteps", spec := "dnSteps", inPlace := ["internal/abi.NoEscape", "internal/bytealg.IndexByteString", "internal/bytealg.IndexString"], named := ["internal/bytealg.MaxLen"], apart := false, narrowed := true }
def DnStepsUptoSaid : Prop := dnStepsUptoRow.holds Try.pinned (OpenSpec.upto dnStepsSpec)

end Rows
end Go.Proofs.Ytimkobcclkjdeaa
