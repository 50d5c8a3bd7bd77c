/-
  DERIVED. GIVEN WITH THE SEED: THE CARDS: each row of YtjenbkdfbendlaaGreatDoorRows.lean that lists a variable, with what it lists TIED to the program's text (the seventh form; the later family's looks); each row that meets fmt, with fmt's text TOLD by the authors' own Lean function (tested against real Go, not proved from fmt's source: count such statements apart). THE CARD IS WHAT COUNTS. Prove the row's statement (the work); the ties are given (YtjenbkdfbendlaaGreatDoorTie.lean); close each card by the builder's one call (the guide's Derived/Test/ToyasCard.lean, 'card_holds'). Laid BY PROGRAM, IN A SANDBOX (cutbox-door.mjs). By AI agents, Wed Nov 11 2026. No macro, syntax, notation, axiom, sorry.
-/
import Derived.Test.YtjenbkdfbendlaaGreatDoorRows
import GoSem.ClaimSeven
namespace Go.Proofs.YtjenbkdfbendlaaGreatDoor
namespace Rows

/-- THE TIED CARD OF 'brooklaw5.EntryAll'. -/
def entryAllCard : Claim7 := { stood := { row := entryAllRow, standIns := [], harness := (true, "846bd0f1a707ab980c0b34980b363d15750d12fc509f887e26be69c94f99aa5d"), looks := true }, kinds := [], alts := [], laidByText := true, laidKinds := [.data, .data, .data, .sentinel, .sentinel], laidTests := true, laidLooks := .later }
def EntryAllCardSaid : Prop := Claim7.holds Tryz.pinned (.plain (OpenSpec.ofChange entryAllSpec)) entryAllCard

/-- THE TIED CARD OF 'brooklaw5.EntryMade'. -/
def entryMadeCard : Claim7 := { stood := { row := entryMadeRow, standIns := [], harness := (true, "846bd0f1a707ab980c0b34980b363d15750d12fc509f887e26be69c94f99aa5d"), looks := true }, kinds := [], alts := [], laidByText := true, laidKinds := [.data, .data, .data, .sentinel, .sentinel], laidTests := true, laidLooks := .later }
def EntryMadeCardSaid : Prop := Claim7.holds Tryz.pinned (.plain (OpenSpec.ofChange entryMadeSpec)) entryMadeCard

/-- THE SECOND FORM's CARD OF 'brooklaw5.EntryAll'. -/
def entryAllUptoCard : Claim7 := { stood := { row := entryAllUptoRow, standIns := [], harness := (true, "846bd0f1a707ab980c0b34980b363d15750d12fc509f887e26be69c94f99aa5d"), looks := true }, kinds := [], alts := [], laidByText := true, laidKinds := [.data, .data, .data, .sentinel, .sentinel], laidTests := true, laidLooks := .later }
def EntryAllUptoCardSaid : Prop := Claim7.holds Tryz.pinned (.plain (OpenSpec.upto entryAllSpec)) entryAllUptoCard

/-- THE SECOND FORM's CARD OF 'brooklaw5.EntryMade'. -/
def entryMadeUptoCard : Claim7 := { stood := { row := entryMadeUptoRow, standIns := [], harness := (true, "846bd0f1a707ab980c0b34980b363d15750d12fc509f887e26be69c94f99aa5d"), looks := true }, kinds := [], alts := [], laidByText := true, laidKinds := [.data, .data, .data, .sentinel, .sentinel], laidTests := true, laidLooks := .later }
def EntryMadeUptoCardSaid : Prop := Claim7.holds Tryz.pinned (.plain (OpenSpec.upto entryMadeSpec)) entryMadeUptoCard
end Rows
end Go.Proofs.YtjenbkdfbendlaaGreatDoor
