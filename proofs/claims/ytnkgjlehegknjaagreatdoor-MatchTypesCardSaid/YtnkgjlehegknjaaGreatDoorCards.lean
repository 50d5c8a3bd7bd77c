/-
  DERIVED. GIVEN WITH THE SEED: THE CARDS: each row of YtnkgjlehegknjaaGreatDoorRows.lean that lists a variable, with what it lists TIED to the program's text (the seventh form; the later family's looks); each row that meets fmt, with fmt's text TOLD by the authors' own Lean function (tested against real Go, not proved from fmt's source: count such statements apart). THE CARD IS WHAT COUNTS. Prove the row's statement (the work); the ties are given (YtnkgjlehegknjaaGreatDoorTie.lean); close each card by the builder's one call (the guide's Derived/Test/ToyasCard.lean, 'card_holds'). Laid BY PROGRAM, IN A SANDBOX (cutbox-door.mjs). By AI agents, Wed Nov 11 2026. No macro, syntax, notation, axiom, sorry.
-/
import Derived.Test.YtnkgjlehegknjaaGreatDoorRows
import GoSem.ClaimSeven
namespace Go.Proofs.YtnkgjlehegknjaaGreatDoor
namespace Rows

/-- THE TIED CARD OF 'brooklaw3.MatchAll'. -/
def matchAllCard : Claim7 := { stood := { row := matchAllRow, standIns := [], harness := (true, "95d70bdd5f5008a8f0ccbfe2e545883e2eb7003982d98071a748dc6f1d13f86b"), looks := true }, kinds := [], alts := [], laidByText := true, laidKinds := [.data, .data, .data, .sentinel, .sentinel], laidTests := true, laidLooks := .later }
def MatchAllCardSaid : Prop := Claim7.holds Tryz.pinned (.plain (OpenSpec.ofChange matchAllSpec)) matchAllCard

/-- THE TIED CARD OF 'brooklaw3.MatchTypes'. -/
def matchTypesCard : Claim7 := { stood := { row := matchTypesRow, standIns := [], harness := (true, "95d70bdd5f5008a8f0ccbfe2e545883e2eb7003982d98071a748dc6f1d13f86b"), looks := true }, kinds := [], alts := [], laidByText := true, laidKinds := [.data, .data, .data, .sentinel, .sentinel], laidTests := true, laidLooks := .later }
def MatchTypesCardSaid : Prop := Claim7.holds Tryz.pinned (.plain (OpenSpec.ofChange matchTypesSpec)) matchTypesCard

/-- THE SECOND FORM's CARD OF 'brooklaw3.MatchAll'. -/
def matchAllUptoCard : Claim7 := { stood := { row := matchAllUptoRow, standIns := [], harness := (true, "95d70bdd5f5008a8f0ccbfe2e545883e2eb7003982d98071a748dc6f1d13f86b"), looks := true }, kinds := [], alts := [], laidByText := true, laidKinds := [.data, .data, .data, .sentinel, .sentinel], laidTests := true, laidLooks := .later }
def MatchAllUptoCardSaid : Prop := Claim7.holds Tryz.pinned (.plain (OpenSpec.upto matchAllSpec)) matchAllUptoCard

/-- THE SECOND FORM's CARD OF 'brooklaw3.MatchTypes'. -/
def matchTypesUptoCard : Claim7 := { stood := { row := matchTypesUptoRow, standIns := [], harness := (true, "95d70bdd5f5008a8f0ccbfe2e545883e2eb7003982d98071a748dc6f1d13f86b"), looks := true }, kinds := [], alts := [], laidByText := true, laidKinds := [.data, .data, .data, .sentinel, .sentinel], laidTests := true, laidLooks := .later }
def MatchTypesUptoCardSaid : Prop := Claim7.holds Tryz.pinned (.plain (OpenSpec.upto matchTypesSpec)) matchTypesUptoCard
end Rows
end Go.Proofs.YtnkgjlehegknjaaGreatDoor
