/-
  DERIVED. GIVEN WITH THE SEED: THE CARDS: each row of YtenmnpbjnbdeaaaGreatDoorRows.lean that lists a variable, with what it lists TIED to the program's text (the seventh form; the later family's looks); each row that meets fmt, with fmt's text TOLD by the authors' own Lean function (tested against real Go, not proved from fmt's source: count such statements apart). THE CARD IS WHAT COUNTS. Prove the row's statement (the work); the ties are given (YtenmnpbjnbdeaaaGreatDoorTie.lean); close each card by the builder's one call (the guide's Derived/Test/ToyasCard.lean, 'card_holds'). Laid BY PROGRAM, IN A SANDBOX (cutbox-door.mjs). By AI agents, Wed Nov 11 2026. No macro, syntax, notation, axiom, sorry.
-/
import Derived.Test.YtenmnpbjnbdeaaaGreatDoorRows
import GoSem.ClaimSeven
namespace Go.Proofs.YtenmnpbjnbdeaaaGreatDoor
namespace Rows

/-- THE TIED CARD OF 'folkmootlaw07.TreesMay'. -/
def treesMayCard : Claim7 := { stood := { row := treesMayRow, standIns := [], harness := (true, "ddb81a6141fa4a453422990b31d445bf8c9cc692d196cac8bf88433ced443927"), looks := true }, kinds := [], alts := [], laidByText := true, laidKinds := [.data, .data, .data, .data, .sentinel, .sentinel, .data, .pinned, .pinned], laidTests := true, laidLooks := .later }
def TreesMayCardSaid : Prop := Claim7.holds Tryz.pinned (.plain (OpenSpec.ofChange treesMaySpec)) treesMayCard

/-- THE TIED CARD OF 'folkmootlaw07.TreesBrackets'. -/
def treesBracketsCard : Claim7 := { stood := { row := treesBracketsRow, standIns := [], harness := (true, "ddb81a6141fa4a453422990b31d445bf8c9cc692d196cac8bf88433ced443927"), looks := true }, kinds := [], alts := [], laidByText := true, laidKinds := [.data, .data, .data, .data, .sentinel, .sentinel, .data, .pinned, .pinned], laidTests := true, laidLooks := .later }
def TreesBracketsCardSaid : Prop := Claim7.holds Tryz.pinned (.plain (OpenSpec.ofChange treesBracketsSpec)) treesBracketsCard

/-- THE TIED CARD OF 'folkmootlaw07.TreesTight'. -/
def treesTightCard : Claim7 := { stood := { row := treesTightRow, standIns := [], harness := (true, "ddb81a6141fa4a453422990b31d445bf8c9cc692d196cac8bf88433ced443927"), looks := true }, kinds := [], alts := [], laidByText := true, laidKinds := [.data, .data, .data, .data, .sentinel, .sentinel, .data, .pinned, .pinned], laidTests := true, laidLooks := .later }
def TreesTightCardSaid : Prop := Claim7.holds Tryz.pinned (.plain (OpenSpec.ofChange treesTightSpec)) treesTightCard

/-- THE TIED CARD OF 'folkmootlaw07.TreesNot'. -/
def treesNotCard : Claim7 := { stood := { row := treesNotRow, standIns := [], harness := (true, "ddb81a6141fa4a453422990b31d445bf8c9cc692d196cac8bf88433ced443927"), looks := true }, kinds := [], alts := [], laidByText := true, laidKinds := [.data, .data, .data, .data, .sentinel, .sentinel, .data, .pinned, .pinned], laidTests := true, laidLooks := .later }
def TreesNotCardSaid : Prop := Claim7.holds Tryz.pinned (.plain (OpenSpec.ofChange treesNotSpec)) treesNotCard

/-- THE TIED CARD OF 'folkmootlaw07.TreesCut'. -/
def treesCutCard : Claim7 := { stood := { row := treesCutRow, standIns := [], harness := (true, "ddb81a6141fa4a453422990b31d445bf8c9cc692d196cac8bf88433ced443927"), looks := true }, kinds := [], alts := [], laidByText := true, laidKinds := [.data, .data, .data, .data, .sentinel, .sentinel, .data, .pinned, .pinned], laidTests := true, laidLooks := .later }
def TreesCutCardSaid : Prop := Claim7.holds Tryz.pinned (.plain (OpenSpec.ofChange treesCutSpec)) treesCutCard

/-- THE TIED CARD OF 'folkmootlaw07.TreesLetters'. -/
def treesLettersCard : Claim7 := { stood := { row := treesLettersRow, standIns := [], harness := (true, "ddb81a6141fa4a453422990b31d445bf8c9cc692d196cac8bf88433ced443927"), looks := true }, kinds := [], alts := [], laidByText := true, laidKinds := [.data, .data, .data, .data, .sentinel, .sentinel, .data, .pinned, .pinned], laidTests := true, laidLooks := .later }
def TreesLettersCardSaid : Prop := Claim7.holds Tryz.pinned (.plain (OpenSpec.ofChange treesLettersSpec)) treesLettersCard

/-- THE TIED CARD OF 'folkmootlaw07.TreesDeep'. -/
def treesDeepCard : Claim7 := { stood := { row := treesDeepRow, standIns := [], harness := (true, "ddb81a6141fa4a453422990b31d445bf8c9cc692d196cac8bf88433ced443927"), looks := true }, kinds := [], alts := [], laidByText := true, laidKinds := [.data, .data, .data, .data, .sentinel, .sentinel, .data, .pinned, .pinned], laidTests := true, laidLooks := .later }
def TreesDeepCardSaid : Prop := Claim7.holds Tryz.pinned (.plain (OpenSpec.ofChange treesDeepSpec)) treesDeepCard

/-- THE TIED CARD OF 'folkmootlaw07.TreesLists'. -/
def treesListsCard : Claim7 := { stood := { row := treesListsRow, standIns := [], harness := (true, "ddb81a6141fa4a453422990b31d445bf8c9cc692d196cac8bf88433ced443927"), looks := true }, kinds := [], alts := [], laidByText := true, laidKinds := [.data, .data, .data, .data, .sentinel, .sentinel, .data, .pinned, .pinned], laidTests := true, laidLooks := .later }
def TreesListsCardSaid : Prop := Claim7.holds Tryz.pinned (.plain (OpenSpec.ofChange treesListsSpec)) treesListsCard

/-- THE SECOND FORM's CARD OF 'folkmootlaw07.TreesMay'. -/
def treesMayUptoCard : Claim7 := { stood := { row := treesMayUptoRow, standIns := [], harness := (true, "ddb81a6141fa4a453422990b31d445bf8c9cc692d196cac8bf88433ced443927"), looks := true }, kinds := [], alts := [], laidByText := true, laidKinds := [.data, .data, .data, .data, .sentinel, .sentinel, .data, .pinned, .pinned], laidTests := true, laidLooks := .later }
def TreesMayUptoCardSaid : Prop := Claim7.holds Tryz.pinned (.plain (OpenSpec.upto treesMaySpec)) treesMayUptoCard

/-- THE SECOND FORM's CARD OF 'folkmootlaw07.TreesBrackets'. -/
def treesBracketsUptoCard : Claim7 := { stood := { row := treesBracketsUptoRow, standIns := [], harness := (true, "ddb81a6141fa4a453422990b31d445bf8c9cc692d196cac8bf88433ced443927"), looks := true }, kinds := [], alts := [], laidByText := true, laidKinds := [.data, .data, .data, .data, .sentinel, .sentinel, .data, .pinned, .pinned], laidTests := true, laidLooks := .later }
def TreesBracketsUptoCardSaid : Prop := Claim7.holds Tryz.pinned (.plain (OpenSpec.upto treesBracketsSpec)) treesBracketsUptoCard

/-- THE SECOND FORM's CARD OF 'folkmootlaw07.TreesTight'. -/
def treesTightUptoCard : Claim7 := { stood := { row := treesTightUptoRow, standIns := [], harness := (true, "ddb81a6141fa4a453422990b31d445bf8c9cc692d196cac8bf88433ced443927"), looks := true }, kinds := [], alts := [], laidByText := true, laidKinds := [.data, .data, .data, .data, .sentinel, .sentinel, .data, .pinned, .pinned], laidTests := true, laidLooks := .later }
def TreesTightUptoCardSaid : Prop := Claim7.holds Tryz.pinned (.plain (OpenSpec.upto treesTightSpec)) treesTightUptoCard

/-- THE SECOND FORM's CARD OF 'folkmootlaw07.TreesNot'. -/
def treesNotUptoCard : Claim7 := { stood := { row := treesNotUptoRow, standIns := [], harness := (true, "ddb81a6141fa4a453422990b31d445bf8c9cc692d196cac8bf88433ced443927"), looks := true }, kinds := [], alts := [], laidByText := true, laidKinds := [.data, .data, .data, .data, .sentinel, .sentinel, .data, .pinned, .pinned], laidTests := true, laidLooks := .later }
def TreesNotUptoCardSaid : Prop := Claim7.holds Tryz.pinned (.plain (OpenSpec.upto treesNotSpec)) treesNotUptoCard

/-- THE SECOND FORM's CARD OF 'folkmootlaw07.TreesCut'. -/
def treesCutUptoCard : Claim7 := { stood := { row := treesCutUptoRow, standIns := [], harness := (true, "ddb81a6141fa4a453422990b31d445bf8c9cc692d196cac8bf88433ced443927"), looks := true }, kinds := [], alts := [], laidByText := true, laidKinds := [.data, .data, .data, .data, .sentinel, .sentinel, .data, .pinned, .pinned], laidTests := true, laidLooks := .later }
def TreesCutUptoCardSaid : Prop := Claim7.holds Tryz.pinned (.plain (OpenSpec.upto treesCutSpec)) treesCutUptoCard

/-- THE SECOND FORM's CARD OF 'folkmootlaw07.TreesLetters'. -/
def treesLettersUptoCard : Claim7 := { stood := { row := treesLettersUptoRow, standIns := [], harness := (true, "ddb81a6141fa4a453422990b31d445bf8c9cc692d196cac8bf88433ced443927"), looks := true }, kinds := [], alts := [], laidByText := true, laidKinds := [.data, .data, .data, .data, .sentinel, .sentinel, .data, .pinned, .pinned], laidTests := true, laidLooks := .later }
def TreesLettersUptoCardSaid : Prop := Claim7.holds Tryz.pinned (.plain (OpenSpec.upto treesLettersSpec)) treesLettersUptoCard

/-- THE SECOND FORM's CARD OF 'folkmootlaw07.TreesDeep'. -/
def treesDeepUptoCard : Claim7 := { stood := { row := treesDeepUptoRow, standIns := [], harness := (true, "ddb81a6141fa4a453422990b31d445bf8c9cc692d196cac8bf88433ced443927"), looks := true }, kinds := [], alts := [], laidByText := true, laidKinds := [.data, .data, .data, .data, .sentinel, .sentinel, .data, .pinned, .pinned], laidTests := true, laidLooks := .later }
def TreesDeepUptoCardSaid : Prop := Claim7.holds Tryz.pinned (.plain (OpenSpec.upto treesDeepSpec)) treesDeepUptoCard

/-- THE SECOND FORM's CARD OF 'folkmootlaw07.TreesLists'. -/
def treesListsUptoCard : Claim7 := { stood := { row := treesListsUptoRow, standIns := [], harness := (true, "ddb81a6141fa4a453422990b31d445bf8c9cc692d196cac8bf88433ced443927"), looks := true }, kinds := [], alts := [], laidByText := true, laidKinds := [.data, .data, .data, .data, .sentinel, .sentinel, .data, .pinned, .pinned], laidTests := true, laidLooks := .later }
def TreesListsUptoCardSaid : Prop := Claim7.holds Tryz.pinned (.plain (OpenSpec.upto treesListsSpec)) treesListsUptoCard
end Rows
end Go.Proofs.YtenmnpbjnbdeaaaGreatDoor
