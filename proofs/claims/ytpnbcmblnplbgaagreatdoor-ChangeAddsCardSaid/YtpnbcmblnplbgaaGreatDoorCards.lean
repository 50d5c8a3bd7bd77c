/-
  DERIVED. GIVEN WITH THE SEED: THE CARDS: each row of YtpnbcmblnplbgaaGreatDoorRows.lean that lists a variable, with what it lists TIED to the program's text (the seventh form; the later family's looks); each row that meets fmt, with fmt's text TOLD by the authors' own Lean function (tested against real Go, not proved from fmt's source: count such statements apart). THE CARD IS WHAT COUNTS. Prove the row's statement (the work); the ties are given (YtpnbcmblnplbgaaGreatDoorTie.lean); close each card by the builder's one call (the guide's Derived/Test/ToyasCard.lean, 'card_holds'). Laid BY PROGRAM, IN A SANDBOX (cutbox-door.mjs). By AI agents, Wed Nov 11 2026. No macro, syntax, notation, axiom, sorry.
-/
import Derived.Test.YtpnbcmblnplbgaaGreatDoorRows
import GoSem.ClaimSeven
namespace Go.Proofs.YtpnbcmblnplbgaaGreatDoor
namespace Rows

/-- THE TIED CARD OF 'brooklaw9.ChangeAdds'. -/
def changeAddsCard : Claim7 := { stood := { row := changeAddsRow, standIns := [], harness := (true, "2a0032048ffaf677314a3c2fa0019aa600ace7b68ffbf067afd999f2e97a5cd0"), looks := true }, kinds := [], alts := [], laidByText := true, laidKinds := [.data, .data, .data, .sentinel, .sentinel, .listed, .data], laidTests := true, laidLooks := .later }
def ChangeAddsCardSaid : Prop := Claim7.holds Tryz.pinned (.plain (OpenSpec.ofChange changeAddsSpec)) changeAddsCard

/-- THE SECOND FORM's CARD OF 'brooklaw9.ChangeAdds'. -/
def changeAddsUptoCard : Claim7 := { stood := { row := changeAddsUptoRow, standIns := [], harness := (true, "2a0032048ffaf677314a3c2fa0019aa600ace7b68ffbf067afd999f2e97a5cd0"), looks := true }, kinds := [], alts := [], laidByText := true, laidKinds := [.data, .data, .data, .sentinel, .sentinel, .listed, .data], laidTests := true, laidLooks := .later }
def ChangeAddsUptoCardSaid : Prop := Claim7.holds Tryz.pinned (.plain (OpenSpec.upto changeAddsSpec)) changeAddsUptoCard
end Rows
end Go.Proofs.YtpnbcmblnplbgaaGreatDoor
