/-
  DERIVED. GIVEN WITH THE SEED: THE CARDS: each row of YtnkgjlehegknjaaDoorRows.lean that lists a variable, with what it lists TIED to the program's text (the seventh form; the later family's looks); each row that meets fmt, with fmt's text TOLD by the authors' own Lean function (tested against real Go, not proved from fmt's source: count such statements apart). THE CARD IS WHAT COUNTS. Prove the row's statement (the work); the ties are given (YtnkgjlehegknjaaDoorTie.lean); close each card by the builder's one call (the guide's Derived/Test/ToyasCard.lean, 'card_holds'). Laid BY PROGRAM, IN A SANDBOX (cutbox-door.mjs). By AI agents, Wed Nov 11 2026. No macro, syntax, notation, axiom, sorry.
-/
import Derived.Test.YtnkgjlehegknjaaDoorRows
import GoSem.ClaimSeven
namespace Go.Proofs.YtnkgjlehegknjaaDoor
namespace Rows

/-- THE TIED CARD OF 'brooklaw3.MatchNorms'. -/
def matchNormsCard : Claim7 := { stood := { row := matchNormsRow, standIns := [], harness := (true, "e24d330822ac566ce03147bbdbfb8e169ab3686a45efcb0d15563e783c279771"), looks := true }, kinds := [], alts := [], laidByText := true, laidKinds := [.data, .data, .data, .sentinel, .sentinel], laidTests := true, laidLooks := .later }
def MatchNormsCardSaid : Prop := Claim7.holds Tryd.pinned (.plain (OpenSpec.ofChange matchNormsSpec)) matchNormsCard

/-- THE TIED CARD OF 'brooklaw3.MatchNumbers'. -/
def matchNumbersCard : Claim7 := { stood := { row := matchNumbersRow, standIns := [], harness := (true, "e24d330822ac566ce03147bbdbfb8e169ab3686a45efcb0d15563e783c279771"), looks := true }, kinds := [], alts := [], laidByText := true, laidKinds := [.data, .data, .data, .sentinel, .sentinel], laidTests := true, laidLooks := .later }
def MatchNumbersCardSaid : Prop := Claim7.holds Tryd.pinned (.plain (OpenSpec.ofChange matchNumbersSpec)) matchNumbersCard

/-- THE TIED CARD OF 'brooklaw3.MatchCases'. -/
def matchCasesCard : Claim7 := { stood := { row := matchCasesRow, standIns := [], harness := (true, "e24d330822ac566ce03147bbdbfb8e169ab3686a45efcb0d15563e783c279771"), looks := true }, kinds := [], alts := [], laidByText := true, laidKinds := [.data, .data, .data, .sentinel, .sentinel], laidTests := true, laidLooks := .later }
def MatchCasesCardSaid : Prop := Claim7.holds Tryd.pinned (.plain (OpenSpec.ofChange matchCasesSpec)) matchCasesCard

/-- THE TIED CARD OF 'brooklaw3.MatchDns'. -/
def matchDnsCard : Claim7 := { stood := { row := matchDnsRow, standIns := [], harness := (true, "e24d330822ac566ce03147bbdbfb8e169ab3686a45efcb0d15563e783c279771"), looks := true }, kinds := [], alts := [], laidByText := true, laidKinds := [.data, .data, .data, .sentinel, .sentinel], laidTests := true, laidLooks := .later }
def MatchDnsCardSaid : Prop := Claim7.holds Tryd.pinned (.plain (OpenSpec.ofChange matchDnsSpec)) matchDnsCard

/-- THE SECOND FORM's CARD OF 'brooklaw3.MatchNorms'. -/
def matchNormsUptoCard : Claim7 := { stood := { row := matchNormsUptoRow, standIns := [], harness := (true, "e24d330822ac566ce03147bbdbfb8e169ab3686a45efcb0d15563e783c279771"), looks := true }, kinds := [], alts := [], laidByText := true, laidKinds := [.data, .data, .data, .sentinel, .sentinel], laidTests := true, laidLooks := .later }
def MatchNormsUptoCardSaid : Prop := Claim7.holds Tryd.pinned (.plain (OpenSpec.upto matchNormsSpec)) matchNormsUptoCard

/-- THE SECOND FORM's CARD OF 'brooklaw3.MatchNumbers'. -/
def matchNumbersUptoCard : Claim7 := { stood := { row := matchNumbersUptoRow, standIns := [], harness := (true, "e24d330822ac566ce03147bbdbfb8e169ab3686a45efcb0d15563e783c279771"), looks := true }, kinds := [], alts := [], laidByText := true, laidKinds := [.data, .data, .data, .sentinel, .sentinel], laidTests := true, laidLooks := .later }
def MatchNumbersUptoCardSaid : Prop := Claim7.holds Tryd.pinned (.plain (OpenSpec.upto matchNumbersSpec)) matchNumbersUptoCard

/-- THE SECOND FORM's CARD OF 'brooklaw3.MatchCases'. -/
def matchCasesUptoCard : Claim7 := { stood := { row := matchCasesUptoRow, standIns := [], harness := (true, "e24d330822ac566ce03147bbdbfb8e169ab3686a45efcb0d15563e783c279771"), looks := true }, kinds := [], alts := [], laidByText := true, laidKinds := [.data, .data, .data, .sentinel, .sentinel], laidTests := true, laidLooks := .later }
def MatchCasesUptoCardSaid : Prop := Claim7.holds Tryd.pinned (.plain (OpenSpec.upto matchCasesSpec)) matchCasesUptoCard

/-- THE SECOND FORM's CARD OF 'brooklaw3.MatchDns'. -/
def matchDnsUptoCard : Claim7 := { stood := { row := matchDnsUptoRow, standIns := [], harness := (true, "e24d330822ac566ce03147bbdbfb8e169ab3686a45efcb0d15563e783c279771"), looks := true }, kinds := [], alts := [], laidByText := true, laidKinds := [.data, .data, .data, .sentinel, .sentinel], laidTests := true, laidLooks := .later }
def MatchDnsUptoCardSaid : Prop := Claim7.holds Tryd.pinned (.plain (OpenSpec.upto matchDnsSpec)) matchDnsUptoCard
end Rows
end Go.Proofs.YtnkgjlehegknjaaDoor
