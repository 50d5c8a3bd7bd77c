/-
  DERIVED. GIVEN WITH THE SEED: THE CARDS: each row of YtmpicolplknomaaDoorRows.lean that lists a variable, with what it lists TIED to the program's text (the seventh form; the later family's looks); each row that meets fmt, with fmt's text TOLD by the authors' own Lean function (tested against real Go, not proved from fmt's source: count such statements apart). THE CARD IS WHAT COUNTS. Prove the row's statement (the work); the ties are given (YtmpicolplknomaaDoorTie.lean); close each card by the builder's one call (the guide's Derived/Test/ToyasCard.lean, 'card_holds'). Laid BY PROGRAM, IN A SANDBOX (cutbox-door.mjs). By AI agents, Wed Nov 11 2026. No macro, syntax, notation, axiom, sorry.
-/
import Derived.Test.YtmpicolplknomaaDoorRows
import GoSem.ClaimSeven
namespace Go.Proofs.YtmpicolplknomaaDoor
namespace Rows

/-- THE TIED CARD OF 'brooklaw6.FilterAll'. -/
def filterAllCard : Claim7 := { stood := { row := filterAllRow, standIns := [], harness := (true, "2bfb7bb318d96a0914253d143d388d411462cf8beb54a61d954eed83f9695b04"), looks := false }, kinds := [], alts := [], laidByText := true, laidKinds := [.data, .pinned], laidTests := true, laidLooks := .later }
def FilterAllCardSaid : Prop := Claim7.holds Tryd.pinned (.plain (OpenSpec.ofChange filterAllSpec)) filterAllCard

/-- THE SECOND FORM's CARD OF 'brooklaw6.FilterAll'. -/
def filterAllUptoCard : Claim7 := { stood := { row := filterAllUptoRow, standIns := [], harness := (true, "2bfb7bb318d96a0914253d143d388d411462cf8beb54a61d954eed83f9695b04"), looks := false }, kinds := [], alts := [], laidByText := true, laidKinds := [.data, .pinned], laidTests := true, laidLooks := .later }
def FilterAllUptoCardSaid : Prop := Claim7.holds Tryd.pinned (.plain (OpenSpec.upto filterAllSpec)) filterAllUptoCard
end Rows
end Go.Proofs.YtmpicolplknomaaDoor
