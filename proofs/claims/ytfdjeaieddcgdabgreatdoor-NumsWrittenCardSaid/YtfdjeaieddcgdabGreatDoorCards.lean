/-
  DERIVED. GIVEN WITH THE SEED: THE CARDS: each row of YtfdjeaieddcgdabGreatDoorRows.lean that lists a variable, with what it lists TIED to the program's text (the seventh form; the later family's looks); each row that meets fmt, with fmt's text TOLD by the authors' own Lean function (tested against real Go, not proved from fmt's source: count such statements apart). THE CARD IS WHAT COUNTS. Prove the row's statement (the work); the ties are given (YtfdjeaieddcgdabGreatDoorTie.lean); close each card by the builder's one call (the guide's Derived/Test/ToyasCard.lean, 'card_holds'). Laid BY PROGRAM, IN A SANDBOX (cutbox-door.mjs). By AI agents, Wed Nov 11 2026. No macro, syntax, notation, axiom, sorry.
-/
import Derived.Test.YtfdjeaieddcgdabGreatDoorRows
import GoSem.ClaimSeven
namespace Go.Proofs.YtfdjeaieddcgdabGreatDoor
namespace Rows

/-- THE TIED CARD OF 'folkmootlaw05.RowsLimits'. -/
def rowsLimitsCard : Claim7 := { stood := { row := rowsLimitsRow, standIns := [], harness := (true, "0bee9a82083a3890ade60e8eda43940868281c6a60971a4017cd61d492c195d1"), looks := true }, kinds := [], alts := [], laidByText := true, laidKinds := [.data, .pinned], laidTests := true, laidLooks := .later }
def RowsLimitsCardSaid : Prop := Claim7.holds Tryz.pinned (.plain (OpenSpec.ofChange rowsLimitsSpec)) rowsLimitsCard

/-- THE TIED CARD OF 'folkmootlaw05.RowsTables'. -/
def rowsTablesCard : Claim7 := { stood := { row := rowsTablesRow, standIns := [], harness := (true, "0bee9a82083a3890ade60e8eda43940868281c6a60971a4017cd61d492c195d1"), looks := true }, kinds := [], alts := [], laidByText := true, laidKinds := [.data, .pinned], laidTests := true, laidLooks := .later }
def RowsTablesCardSaid : Prop := Claim7.holds Tryz.pinned (.plain (OpenSpec.ofChange rowsTablesSpec)) rowsTablesCard

/-- THE TIED CARD OF 'folkmootlaw06.WordsOf'. -/
def wordsOfCard : Claim7 := { stood := { row := wordsOfRow, standIns := [], harness := (true, "0bee9a82083a3890ade60e8eda43940868281c6a60971a4017cd61d492c195d1"), looks := true }, kinds := [], alts := [], laidByText := true, laidKinds := [.data, .data, .data, .data, .sentinel, .sentinel, .data, .pinned, .pinned], laidTests := true, laidLooks := .later }
def WordsOfCardSaid : Prop := Claim7.holds Tryz.pinned (.plain (OpenSpec.ofChange wordsOfSpec)) wordsOfCard

/-- THE TIED CARD OF 'folkmootlaw05.RowsPut'. -/
def rowsPutCard : Claim7 := { stood := { row := rowsPutRow, standIns := [], harness := (true, "0bee9a82083a3890ade60e8eda43940868281c6a60971a4017cd61d492c195d1"), looks := true }, kinds := [], alts := [], laidByText := true, laidKinds := [.data, .data, .data, .data, .pinned], laidTests := true, laidLooks := .later }
def RowsPutCardSaid : Prop := Claim7.holds Tryz.pinned (.plain (OpenSpec.ofChange rowsPutSpec)) rowsPutCard

/-- THE TIED CARD OF 'folkmootlaw05.RowsTable'. -/
def rowsTableCard : Claim7 := { stood := { row := rowsTableRow, standIns := [], harness := (true, "0bee9a82083a3890ade60e8eda43940868281c6a60971a4017cd61d492c195d1"), looks := true }, kinds := [], alts := [], laidByText := true, laidKinds := [.data, .data, .data], laidTests := true, laidLooks := .later }
def RowsTableCardSaid : Prop := Claim7.holds Tryz.pinned (.plain (OpenSpec.ofChange rowsTableSpec)) rowsTableCard

/-- THE TIED CARD OF 'folkmootlaw05.RowsOutcome'. -/
def rowsOutcomeCard : Claim7 := { stood := { row := rowsOutcomeRow, standIns := [], harness := (true, "0bee9a82083a3890ade60e8eda43940868281c6a60971a4017cd61d492c195d1"), looks := true }, kinds := [], alts := [], laidByText := true, laidKinds := [.data, .data, .data], laidTests := true, laidLooks := .later }
def RowsOutcomeCardSaid : Prop := Claim7.holds Tryz.pinned (.plain (OpenSpec.ofChange rowsOutcomeSpec)) rowsOutcomeCard

/-- THE TIED CARD OF 'folkmootlaw01.NumsWritten'. -/
def numsWrittenCard : Claim7 := { stood := { row := numsWrittenRow, standIns := [], harness := (true, "0bee9a82083a3890ade60e8eda43940868281c6a60971a4017cd61d492c195d1"), looks := true }, kinds := [], alts := [], laidByText := true, laidKinds := [.data, .data, .data], laidTests := true, laidLooks := .later }
def NumsWrittenCardSaid : Prop := Claim7.holds Tryz.pinned (.plain (OpenSpec.ofChange numsWrittenSpec)) numsWrittenCard

/-- THE SECOND FORM's CARD OF 'folkmootlaw05.RowsLimits'. -/
def rowsLimitsUptoCard : Claim7 := { stood := { row := rowsLimitsUptoRow, standIns := [], harness := (true, "0bee9a82083a3890ade60e8eda43940868281c6a60971a4017cd61d492c195d1"), looks := true }, kinds := [], alts := [], laidByText := true, laidKinds := [.data, .pinned], laidTests := true, laidLooks := .later }
def RowsLimitsUptoCardSaid : Prop := Claim7.holds Tryz.pinned (.plain (OpenSpec.upto rowsLimitsSpec)) rowsLimitsUptoCard

/-- THE SECOND FORM's CARD OF 'folkmootlaw05.RowsTables'. -/
def rowsTablesUptoCard : Claim7 := { stood := { row := rowsTablesUptoRow, standIns := [], harness := (true, "0bee9a82083a3890ade60e8eda43940868281c6a60971a4017cd61d492c195d1"), looks := true }, kinds := [], alts := [], laidByText := true, laidKinds := [.data, .pinned], laidTests := true, laidLooks := .later }
def RowsTablesUptoCardSaid : Prop := Claim7.holds Tryz.pinned (.plain (OpenSpec.upto rowsTablesSpec)) rowsTablesUptoCard

/-- THE SECOND FORM's CARD OF 'folkmootlaw06.WordsOf'. -/
def wordsOfUptoCard : Claim7 := { stood := { row := wordsOfUptoRow, standIns := [], harness := (true, "0bee9a82083a3890ade60e8eda43940868281c6a60971a4017cd61d492c195d1"), looks := true }, kinds := [], alts := [], laidByText := true, laidKinds := [.data, .data, .data, .data, .sentinel, .sentinel, .data, .pinned, .pinned], laidTests := true, laidLooks := .later }
def WordsOfUptoCardSaid : Prop := Claim7.holds Tryz.pinned (.plain (OpenSpec.upto wordsOfSpec)) wordsOfUptoCard

/-- THE SECOND FORM's CARD OF 'folkmootlaw05.RowsPut'. -/
def rowsPutUptoCard : Claim7 := { stood := { row := rowsPutUptoRow, standIns := [], harness := (true, "0bee9a82083a3890ade60e8eda43940868281c6a60971a4017cd61d492c195d1"), looks := true }, kinds := [], alts := [], laidByText := true, laidKinds := [.data, .data, .data, .data, .pinned], laidTests := true, laidLooks := .later }
def RowsPutUptoCardSaid : Prop := Claim7.holds Tryz.pinned (.plain (OpenSpec.upto rowsPutSpec)) rowsPutUptoCard

/-- THE SECOND FORM's CARD OF 'folkmootlaw05.RowsTable'. -/
def rowsTableUptoCard : Claim7 := { stood := { row := rowsTableUptoRow, standIns := [], harness := (true, "0bee9a82083a3890ade60e8eda43940868281c6a60971a4017cd61d492c195d1"), looks := true }, kinds := [], alts := [], laidByText := true, laidKinds := [.data, .data, .data], laidTests := true, laidLooks := .later }
def RowsTableUptoCardSaid : Prop := Claim7.holds Tryz.pinned (.plain (OpenSpec.upto rowsTableSpec)) rowsTableUptoCard

/-- THE SECOND FORM's CARD OF 'folkmootlaw05.RowsOutcome'. -/
def rowsOutcomeUptoCard : Claim7 := { stood := { row := rowsOutcomeUptoRow, standIns := [], harness := (true, "0bee9a82083a3890ade60e8eda43940868281c6a60971a4017cd61d492c195d1"), looks := true }, kinds := [], alts := [], laidByText := true, laidKinds := [.data, .data, .data], laidTests := true, laidLooks := .later }
def RowsOutcomeUptoCardSaid : Prop := Claim7.holds Tryz.pinned (.plain (OpenSpec.upto rowsOutcomeSpec)) rowsOutcomeUptoCard

/-- THE SECOND FORM's CARD OF 'folkmootlaw01.NumsWritten'. -/
def numsWrittenUptoCard : Claim7 := { stood := { row := numsWrittenUptoRow, standIns := [], harness := (true, "0bee9a82083a3890ade60e8eda43940868281c6a60971a4017cd61d492c195d1"), looks := true }, kinds := [], alts := [], laidByText := true, laidKinds := [.data, .data, .data], laidTests := true, laidLooks := .later }
def NumsWrittenUptoCardSaid : Prop := Claim7.holds Tryz.pinned (.plain (OpenSpec.upto numsWrittenSpec)) numsWrittenUptoCard
end Rows
end Go.Proofs.YtfdjeaieddcgdabGreatDoor
