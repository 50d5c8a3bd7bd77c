/-
  DERIVED. GIVEN WITH THE SEED: THE CARDS: each row of YtdcfmgnpjmpboaaDoorRows.lean that lists a variable, with what it lists TIED to the program's text (the seventh form; the later family's looks); each row that meets fmt, with fmt's text TOLD by the authors' own Lean function (tested against real Go, not proved from fmt's source: count such statements apart). THE CARD IS WHAT COUNTS. Prove the row's statement (the work); the ties are given (YtdcfmgnpjmpboaaDoorTie.lean); close each card by the builder's one call (the guide's Derived/Test/ToyasCard.lean, 'card_holds'). Laid BY PROGRAM, IN A SANDBOX (cutbox-door.mjs). By AI agents, Wed Nov 11 2026. No macro, syntax, notation, axiom, sorry.
-/
import Derived.Test.YtdcfmgnpjmpboaaDoorRows
import GoSem.ClaimSeven
namespace Go.Proofs.YtdcfmgnpjmpboaaDoor
namespace Rows

/-- THE TIED CARD OF 'brooklaw6.FilterAll'. -/
def filterAllCard : Claim7 := { stood := { row := filterAllRow, standIns := [], harness := (true, "dba4b6611ba7bc778a1053b7b9480d075a6f94befd74d27f0a9aae6884c3f73d"), looks := false }, kinds := [], alts := [], laidByText := true, laidKinds := [.data, .pinned], laidTests := true, laidLooks := .later }
def FilterAllCardSaid : Prop := Claim7.holds Tryd.pinned (.plain (OpenSpec.ofChange filterAllSpec)) filterAllCard

/-- THE TIED CARD OF 'brooklaw6.FilterBack'. -/
def filterBackCard : Claim7 := { stood := { row := filterBackRow, standIns := [], harness := (true, "dba4b6611ba7bc778a1053b7b9480d075a6f94befd74d27f0a9aae6884c3f73d"), looks := false }, kinds := [], alts := [], laidByText := true, laidKinds := [.data, .pinned], laidTests := true, laidLooks := .later }
def FilterBackCardSaid : Prop := Claim7.holds Tryd.pinned (.plain (OpenSpec.ofChange filterBackSpec)) filterBackCard

/-- THE TIED CARD OF 'brooklaw6.FilterBad'. -/
def filterBadCard : Claim7 := { stood := { row := filterBadRow, standIns := [], harness := (true, "dba4b6611ba7bc778a1053b7b9480d075a6f94befd74d27f0a9aae6884c3f73d"), looks := false }, kinds := [], alts := [], laidByText := true, laidKinds := [.data, .pinned], laidTests := true, laidLooks := .later }
def FilterBadCardSaid : Prop := Claim7.holds Tryd.pinned (.plain (OpenSpec.ofChange filterBadSpec)) filterBadCard

/-- THE TIED CARD OF 'brooklaw6.FilterDeep'. -/
def filterDeepCard : Claim7 := { stood := { row := filterDeepRow, standIns := [], harness := (true, "dba4b6611ba7bc778a1053b7b9480d075a6f94befd74d27f0a9aae6884c3f73d"), looks := false }, kinds := [], alts := [], laidByText := true, laidKinds := [.data, .pinned], laidTests := true, laidLooks := .later }
def FilterDeepCardSaid : Prop := Claim7.holds Tryd.pinned (.plain (OpenSpec.ofChange filterDeepSpec)) filterDeepCard

/-- THE TIED CARD OF 'brooklaw6.FilterSigns'. -/
def filterSignsCard : Claim7 := { stood := { row := filterSignsRow, standIns := [], harness := (true, "dba4b6611ba7bc778a1053b7b9480d075a6f94befd74d27f0a9aae6884c3f73d"), looks := false }, kinds := [], alts := [], laidByText := true, laidKinds := [.data, .pinned], laidTests := true, laidLooks := .later }
def FilterSignsCardSaid : Prop := Claim7.holds Tryd.pinned (.plain (OpenSpec.ofChange filterSignsSpec)) filterSignsCard

/-- THE SECOND FORM's CARD OF 'brooklaw6.FilterAll'. -/
def filterAllUptoCard : Claim7 := { stood := { row := filterAllUptoRow, standIns := [], harness := (true, "dba4b6611ba7bc778a1053b7b9480d075a6f94befd74d27f0a9aae6884c3f73d"), looks := false }, kinds := [], alts := [], laidByText := true, laidKinds := [.data, .pinned], laidTests := true, laidLooks := .later }
def FilterAllUptoCardSaid : Prop := Claim7.holds Tryd.pinned (.plain (OpenSpec.upto filterAllSpec)) filterAllUptoCard

/-- THE SECOND FORM's CARD OF 'brooklaw6.FilterBack'. -/
def filterBackUptoCard : Claim7 := { stood := { row := filterBackUptoRow, standIns := [], harness := (true, "dba4b6611ba7bc778a1053b7b9480d075a6f94befd74d27f0a9aae6884c3f73d"), looks := false }, kinds := [], alts := [], laidByText := true, laidKinds := [.data, .pinned], laidTests := true, laidLooks := .later }
def FilterBackUptoCardSaid : Prop := Claim7.holds Tryd.pinned (.plain (OpenSpec.upto filterBackSpec)) filterBackUptoCard

/-- THE SECOND FORM's CARD OF 'brooklaw6.FilterBad'. -/
def filterBadUptoCard : Claim7 := { stood := { row := filterBadUptoRow, standIns := [], harness := (true, "dba4b6611ba7bc778a1053b7b9480d075a6f94befd74d27f0a9aae6884c3f73d"), looks := false }, kinds := [], alts := [], laidByText := true, laidKinds := [.data, .pinned], laidTests := true, laidLooks := .later }
def FilterBadUptoCardSaid : Prop := Claim7.holds Tryd.pinned (.plain (OpenSpec.upto filterBadSpec)) filterBadUptoCard

/-- THE SECOND FORM's CARD OF 'brooklaw6.FilterDeep'. -/
def filterDeepUptoCard : Claim7 := { stood := { row := filterDeepUptoRow, standIns := [], harness := (true, "dba4b6611ba7bc778a1053b7b9480d075a6f94befd74d27f0a9aae6884c3f73d"), looks := false }, kinds := [], alts := [], laidByText := true, laidKinds := [.data, .pinned], laidTests := true, laidLooks := .later }
def FilterDeepUptoCardSaid : Prop := Claim7.holds Tryd.pinned (.plain (OpenSpec.upto filterDeepSpec)) filterDeepUptoCard

/-- THE SECOND FORM's CARD OF 'brooklaw6.FilterSigns'. -/
def filterSignsUptoCard : Claim7 := { stood := { row := filterSignsUptoRow, standIns := [], harness := (true, "dba4b6611ba7bc778a1053b7b9480d075a6f94befd74d27f0a9aae6884c3f73d"), looks := false }, kinds := [], alts := [], laidByText := true, laidKinds := [.data, .pinned], laidTests := true, laidLooks := .later }
def FilterSignsUptoCardSaid : Prop := Claim7.holds Tryd.pinned (.plain (OpenSpec.upto filterSignsSpec)) filterSignsUptoCard
end Rows
end Go.Proofs.YtdcfmgnpjmpboaaDoor
