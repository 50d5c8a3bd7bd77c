/-
  DERIVED. GIVEN WITH THE SEED: THE CARDS: each row of YtofmpaphafhdpaaGreatDoorRows.lean that lists a variable, with what it lists TIED to the program's text (the seventh form; the later family's looks); each row that meets fmt, with fmt's text TOLD by the authors' own Lean function (tested against real Go, not proved from fmt's source: count such statements apart). THE CARD IS WHAT COUNTS. Prove the row's statement (the work); the ties are given (YtofmpaphafhdpaaGreatDoorTie.lean); close each card by the builder's one call (the guide's Derived/Test/ToyasCard.lean, 'card_holds'). Laid BY PROGRAM, IN A SANDBOX (cutbox-door.mjs). By AI agents, Wed Nov 11 2026. No macro, syntax, notation, axiom, sorry.
-/
import Derived.Test.YtofmpaphafhdpaaGreatDoorRows
import GoSem.ClaimSeven
namespace Go.Proofs.YtofmpaphafhdpaaGreatDoor
namespace Rows

/-- THE TIED CARD OF 'brooklaw4.SchemaAll'. -/
def schemaAllCard : Claim7 := { stood := { row := schemaAllRow, standIns := [], harness := (true, "0a6b8dcfd4ea3946c9b13c74388f0e3bd2570af49771ed5209a620c84b989e63"), looks := true }, kinds := [], alts := [], laidByText := true, laidKinds := [.data, .data, .data, .sentinel, .sentinel, .listed, .data], laidTests := true, laidLooks := .later }
def SchemaAllCardSaid : Prop := Claim7.holds Tryz.pinned (.plain (OpenSpec.ofChange schemaAllSpec)) schemaAllCard

/-- THE TIED CARD OF 'brooklaw4.SchemaMade'. -/
def schemaMadeCard : Claim7 := { stood := { row := schemaMadeRow, standIns := [], harness := (true, "0a6b8dcfd4ea3946c9b13c74388f0e3bd2570af49771ed5209a620c84b989e63"), looks := true }, kinds := [], alts := [], laidByText := true, laidKinds := [.data, .data, .data, .sentinel, .sentinel, .listed, .data], laidTests := true, laidLooks := .later }
def SchemaMadeCardSaid : Prop := Claim7.holds Tryz.pinned (.plain (OpenSpec.ofChange schemaMadeSpec)) schemaMadeCard

/-- THE TIED CARD OF 'brooklaw4.SchemaNeeds'. -/
def schemaNeedsCard : Claim7 := { stood := { row := schemaNeedsRow, standIns := [], harness := (true, "0a6b8dcfd4ea3946c9b13c74388f0e3bd2570af49771ed5209a620c84b989e63"), looks := true }, kinds := [], alts := [], laidByText := true, laidKinds := [.data, .data, .data, .sentinel, .sentinel, .listed, .data], laidTests := true, laidLooks := .later }
def SchemaNeedsCardSaid : Prop := Claim7.holds Tryz.pinned (.plain (OpenSpec.ofChange schemaNeedsSpec)) schemaNeedsCard

/-- THE TIED CARD OF 'brooklaw5.EntryAll'. -/
def entryAllCard : Claim7 := { stood := { row := entryAllRow, standIns := [], harness := (true, "0a6b8dcfd4ea3946c9b13c74388f0e3bd2570af49771ed5209a620c84b989e63"), looks := true }, kinds := [], alts := [], laidByText := true, laidKinds := [.data, .data, .data, .sentinel, .sentinel], laidTests := true, laidLooks := .later }
def EntryAllCardSaid : Prop := Claim7.holds Tryz.pinned (.plain (OpenSpec.ofChange entryAllSpec)) entryAllCard

/-- THE TIED CARD OF 'brooklaw5.EntryMade'. -/
def entryMadeCard : Claim7 := { stood := { row := entryMadeRow, standIns := [], harness := (true, "0a6b8dcfd4ea3946c9b13c74388f0e3bd2570af49771ed5209a620c84b989e63"), looks := true }, kinds := [], alts := [], laidByText := true, laidKinds := [.data, .data, .data, .sentinel, .sentinel], laidTests := true, laidLooks := .later }
def EntryMadeCardSaid : Prop := Claim7.holds Tryz.pinned (.plain (OpenSpec.ofChange entryMadeSpec)) entryMadeCard

/-- THE TIED CARD OF 'brooklaw5.EntryHas'. -/
def entryHasCard : Claim7 := { stood := { row := entryHasRow, standIns := [], harness := (true, "0a6b8dcfd4ea3946c9b13c74388f0e3bd2570af49771ed5209a620c84b989e63"), looks := true }, kinds := [], alts := [], laidByText := true, laidKinds := [.data, .data, .data, .sentinel, .sentinel], laidTests := true, laidLooks := .later }
def EntryHasCardSaid : Prop := Claim7.holds Tryz.pinned (.plain (OpenSpec.ofChange entryHasSpec)) entryHasCard

/-- THE SECOND FORM's CARD OF 'brooklaw4.SchemaAll'. -/
def schemaAllUptoCard : Claim7 := { stood := { row := schemaAllUptoRow, standIns := [], harness := (true, "0a6b8dcfd4ea3946c9b13c74388f0e3bd2570af49771ed5209a620c84b989e63"), looks := true }, kinds := [], alts := [], laidByText := true, laidKinds := [.data, .data, .data, .sentinel, .sentinel, .listed, .data], laidTests := true, laidLooks := .later }
def SchemaAllUptoCardSaid : Prop := Claim7.holds Tryz.pinned (.plain (OpenSpec.upto schemaAllSpec)) schemaAllUptoCard

/-- THE SECOND FORM's CARD OF 'brooklaw4.SchemaMade'. -/
def schemaMadeUptoCard : Claim7 := { stood := { row := schemaMadeUptoRow, standIns := [], harness := (true, "0a6b8dcfd4ea3946c9b13c74388f0e3bd2570af49771ed5209a620c84b989e63"), looks := true }, kinds := [], alts := [], laidByText := true, laidKinds := [.data, .data, .data, .sentinel, .sentinel, .listed, .data], laidTests := true, laidLooks := .later }
def SchemaMadeUptoCardSaid : Prop := Claim7.holds Tryz.pinned (.plain (OpenSpec.upto schemaMadeSpec)) schemaMadeUptoCard

/-- THE SECOND FORM's CARD OF 'brooklaw4.SchemaNeeds'. -/
def schemaNeedsUptoCard : Claim7 := { stood := { row := schemaNeedsUptoRow, standIns := [], harness := (true, "0a6b8dcfd4ea3946c9b13c74388f0e3bd2570af49771ed5209a620c84b989e63"), looks := true }, kinds := [], alts := [], laidByText := true, laidKinds := [.data, .data, .data, .sentinel, .sentinel, .listed, .data], laidTests := true, laidLooks := .later }
def SchemaNeedsUptoCardSaid : Prop := Claim7.holds Tryz.pinned (.plain (OpenSpec.upto schemaNeedsSpec)) schemaNeedsUptoCard

/-- THE SECOND FORM's CARD OF 'brooklaw5.EntryAll'. -/
def entryAllUptoCard : Claim7 := { stood := { row := entryAllUptoRow, standIns := [], harness := (true, "0a6b8dcfd4ea3946c9b13c74388f0e3bd2570af49771ed5209a620c84b989e63"), looks := true }, kinds := [], alts := [], laidByText := true, laidKinds := [.data, .data, .data, .sentinel, .sentinel], laidTests := true, laidLooks := .later }
def EntryAllUptoCardSaid : Prop := Claim7.holds Tryz.pinned (.plain (OpenSpec.upto entryAllSpec)) entryAllUptoCard

/-- THE SECOND FORM's CARD OF 'brooklaw5.EntryMade'. -/
def entryMadeUptoCard : Claim7 := { stood := { row := entryMadeUptoRow, standIns := [], harness := (true, "0a6b8dcfd4ea3946c9b13c74388f0e3bd2570af49771ed5209a620c84b989e63"), looks := true }, kinds := [], alts := [], laidByText := true, laidKinds := [.data, .data, .data, .sentinel, .sentinel], laidTests := true, laidLooks := .later }
def EntryMadeUptoCardSaid : Prop := Claim7.holds Tryz.pinned (.plain (OpenSpec.upto entryMadeSpec)) entryMadeUptoCard

/-- THE SECOND FORM's CARD OF 'brooklaw5.EntryHas'. -/
def entryHasUptoCard : Claim7 := { stood := { row := entryHasUptoRow, standIns := [], harness := (true, "0a6b8dcfd4ea3946c9b13c74388f0e3bd2570af49771ed5209a620c84b989e63"), looks := true }, kinds := [], alts := [], laidByText := true, laidKinds := [.data, .data, .data, .sentinel, .sentinel], laidTests := true, laidLooks := .later }
def EntryHasUptoCardSaid : Prop := Claim7.holds Tryz.pinned (.plain (OpenSpec.upto entryHasSpec)) entryHasUptoCard
end Rows
end Go.Proofs.YtofmpaphafhdpaaGreatDoor
