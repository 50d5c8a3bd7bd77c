/-
  DERIVED. GIVEN WITH THE SEED: THE CARDS: each row of YtmilgbkkibahlaaGreatDoorRows.lean that lists a variable, with what it lists TIED to the program's text (the seventh form; the later family's looks); each row that meets fmt, with fmt's text TOLD by the authors' own Lean function (tested against real Go, not proved from fmt's source: count such statements apart). THE CARD IS WHAT COUNTS. Prove the row's statement (the work); the ties are given (YtmilgbkkibahlaaGreatDoorTie.lean); close each card by the builder's one call (the guide's Derived/Test/ToyasCard.lean, 'card_holds'). Laid BY PROGRAM, IN A SANDBOX (cutbox-door.mjs). By AI agents, Wed Nov 11 2026. No macro, syntax, notation, axiom, sorry.
-/
import Derived.Test.YtmilgbkkibahlaaGreatDoorRows
import GoSem.ClaimSeven
namespace Go.Proofs.YtmilgbkkibahlaaGreatDoor
namespace Rows

/-- THE TIED CARD OF 'brooklaw7.EvalNots'. -/
def evalNotsCard : Claim7 := { stood := { row := evalNotsRow, standIns := [], harness := (true, "150d995e0e6f9ffc5402e3f70f1a2c4184bb33f813a556e5c7008a152c79016f"), looks := true }, kinds := [], alts := [], laidByText := true, laidKinds := [.data, .data, .data, .sentinel, .sentinel], laidTests := true, laidLooks := .later }
def EvalNotsCardSaid : Prop := Claim7.holds Tryz.pinned (.plain (OpenSpec.ofChange evalNotsSpec)) evalNotsCard

/-- THE TIED CARD OF 'brooklaw7.EvalLogic'. -/
def evalLogicCard : Claim7 := { stood := { row := evalLogicRow, standIns := [], harness := (true, "150d995e0e6f9ffc5402e3f70f1a2c4184bb33f813a556e5c7008a152c79016f"), looks := true }, kinds := [], alts := [], laidByText := true, laidKinds := [.data, .data, .data, .sentinel, .sentinel], laidTests := true, laidLooks := .later }
def EvalLogicCardSaid : Prop := Claim7.holds Tryz.pinned (.plain (OpenSpec.ofChange evalLogicSpec)) evalLogicCard

/-- THE TIED CARD OF 'brooklaw7.EvalParts'. -/
def evalPartsCard : Claim7 := { stood := { row := evalPartsRow, standIns := [], harness := (true, "150d995e0e6f9ffc5402e3f70f1a2c4184bb33f813a556e5c7008a152c79016f"), looks := true }, kinds := [], alts := [], laidByText := true, laidKinds := [.data, .data, .data, .sentinel, .sentinel], laidTests := true, laidLooks := .later }
def EvalPartsCardSaid : Prop := Claim7.holds Tryz.pinned (.plain (OpenSpec.ofChange evalPartsSpec)) evalPartsCard

/-- THE SECOND FORM's CARD OF 'brooklaw7.EvalNots'. -/
def evalNotsUptoCard : Claim7 := { stood := { row := evalNotsUptoRow, standIns := [], harness := (true, "150d995e0e6f9ffc5402e3f70f1a2c4184bb33f813a556e5c7008a152c79016f"), looks := true }, kinds := [], alts := [], laidByText := true, laidKinds := [.data, .data, .data, .sentinel, .sentinel], laidTests := true, laidLooks := .later }
def EvalNotsUptoCardSaid : Prop := Claim7.holds Tryz.pinned (.plain (OpenSpec.upto evalNotsSpec)) evalNotsUptoCard

/-- THE SECOND FORM's CARD OF 'brooklaw7.EvalLogic'. -/
def evalLogicUptoCard : Claim7 := { stood := { row := evalLogicUptoRow, standIns := [], harness := (true, "150d995e0e6f9ffc5402e3f70f1a2c4184bb33f813a556e5c7008a152c79016f"), looks := true }, kinds := [], alts := [], laidByText := true, laidKinds := [.data, .data, .data, .sentinel, .sentinel], laidTests := true, laidLooks := .later }
def EvalLogicUptoCardSaid : Prop := Claim7.holds Tryz.pinned (.plain (OpenSpec.upto evalLogicSpec)) evalLogicUptoCard

/-- THE SECOND FORM's CARD OF 'brooklaw7.EvalParts'. -/
def evalPartsUptoCard : Claim7 := { stood := { row := evalPartsUptoRow, standIns := [], harness := (true, "150d995e0e6f9ffc5402e3f70f1a2c4184bb33f813a556e5c7008a152c79016f"), looks := true }, kinds := [], alts := [], laidByText := true, laidKinds := [.data, .data, .data, .sentinel, .sentinel], laidTests := true, laidLooks := .later }
def EvalPartsUptoCardSaid : Prop := Claim7.holds Tryz.pinned (.plain (OpenSpec.upto evalPartsSpec)) evalPartsUptoCard
end Rows
end Go.Proofs.YtmilgbkkibahlaaGreatDoor
