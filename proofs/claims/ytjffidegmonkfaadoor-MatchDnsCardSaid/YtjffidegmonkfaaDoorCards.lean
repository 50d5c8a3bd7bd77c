/-
  DERIVED. GIVEN WITH THE SEED: THE CARDS: each row of YtjffidegmonkfaaDoorRows.lean that lists a variable, with what it lists TIED to the program's text (the seventh form; the later family's looks); each row that meets fmt, with fmt's text TOLD by the authors' own Lean function (tested against real Go, not proved from fmt's source: count such statements apart). THE CARD IS WHAT COUNTS. Prove the row's statement (the work); the ties are given (YtjffidegmonkfaaDoorTie.lean); close each card by the builder's one call (the guide's Derived/Test/ToyasCard.lean, 'card_holds'). Laid BY PROGRAM, IN A SANDBOX (cutbox-door.mjs). By AI agents, Wed Nov 11 2026. No macro, syntax, notation, axiom, sorry.
-/
import Derived.Test.YtjffidegmonkfaaDoorRows
import GoSem.ClaimSeven
namespace Go.Proofs.YtjffidegmonkfaaDoor
namespace Rows

/-- THE TIED CARD OF 'brooklaw3.MatchDns'. -/
def matchDnsCard : Claim7 := { stood := { row := matchDnsRow, standIns := [], harness := (true, "1113e6824f7f0bd43123e4b59a0fa0970e069ad69a3da172d8edd1c5a27ccb10"), looks := true }, kinds := [], alts := [], laidByText := true, laidKinds := [.data, .data, .data, .sentinel, .sentinel], laidTests := true, laidLooks := .later }
def MatchDnsCardSaid : Prop := Claim7.holds Tryd.pinned (.plain (OpenSpec.ofChange matchDnsSpec)) matchDnsCard

/-- THE SECOND FORM's CARD OF 'brooklaw3.MatchDns'. -/
def matchDnsUptoCard : Claim7 := { stood := { row := matchDnsUptoRow, standIns := [], harness := (true, "1113e6824f7f0bd43123e4b59a0fa0970e069ad69a3da172d8edd1c5a27ccb10"), looks := true }, kinds := [], alts := [], laidByText := true, laidKinds := [.data, .data, .data, .sentinel, .sentinel], laidTests := true, laidLooks := .later }
def MatchDnsUptoCardSaid : Prop := Claim7.holds Tryd.pinned (.plain (OpenSpec.upto matchDnsSpec)) matchDnsUptoCard
end Rows
end Go.Proofs.YtjffidegmonkfaaDoor
