/-
  DERIVED. GIVEN WITH THE SEED: THE CARDS: each row of YtjjfmmimmfihgabGreatDoorRows.lean that lists a variable, with what it lists TIED to the program's text (the seventh form; the later family's looks); each row that meets fmt, with fmt's text TOLD by the authors' own Lean function (tested against real Go, not proved from fmt's source: count such statements apart). THE CARD IS WHAT COUNTS. Prove the row's statement (the work); the ties are given (YtjjfmmimmfihgabGreatDoorTie.lean); close each card by the builder's one call (the guide's Derived/Test/ToyasCard.lean, 'card_holds'). Laid BY PROGRAM, IN A SANDBOX (cutbox-door.mjs). By AI agents, Wed Nov 11 2026. No macro, syntax, notation, axiom, sorry.
-/
import Derived.Test.YtjjfmmimmfihgabGreatDoorRows
import GoSem.ClaimSeven
namespace Go.Proofs.YtjjfmmimmfihgabGreatDoor
namespace Rows

/-- THE TIED CARD OF 'folkmootlaw05.RowsLimits'. -/
def rowsLimitsCard : Claim7 := { stood := { row := rowsLimitsRow, standIns := [], harness := (true, "b8a27616cd3f1d9b8f59346c65f3f8e9d379b47fbfa25c1ef58dae1b36faa316"), looks := false }, kinds := [], alts := [], laidByText := true, laidKinds := [.data, .pinned], laidTests := true, laidLooks := .later }
def RowsLimitsCardSaid : Prop := Claim7.holds Tryz.pinned (.plain (OpenSpec.ofChange rowsLimitsSpec)) rowsLimitsCard

/-- THE TIED CARD OF 'folkmootlaw05.RowsJoin'. -/
def rowsJoinCard : Claim7 := { stood := { row := rowsJoinRow, standIns := [], harness := (true, "b8a27616cd3f1d9b8f59346c65f3f8e9d379b47fbfa25c1ef58dae1b36faa316"), looks := false }, kinds := [], alts := [], laidByText := true, laidKinds := [.data, .pinned], laidTests := true, laidLooks := .later }
def RowsJoinCardSaid : Prop := Claim7.holds Tryz.pinned (.plain (OpenSpec.ofChange rowsJoinSpec)) rowsJoinCard

/-- THE TIED CARD OF 'folkmootlaw05.RowsKeys'. -/
def rowsKeysCard : Claim7 := { stood := { row := rowsKeysRow, standIns := [], harness := (true, "b8a27616cd3f1d9b8f59346c65f3f8e9d379b47fbfa25c1ef58dae1b36faa316"), looks := false }, kinds := [], alts := [], laidByText := true, laidKinds := [.data, .pinned], laidTests := true, laidLooks := .later }
def RowsKeysCardSaid : Prop := Claim7.holds Tryz.pinned (.plain (OpenSpec.ofChange rowsKeysSpec)) rowsKeysCard

/-- THE TIED CARD OF 'folkmootlaw05.RowsTables'. -/
def rowsTablesCard : Claim7 := { stood := { row := rowsTablesRow, standIns := [], harness := (true, "b8a27616cd3f1d9b8f59346c65f3f8e9d379b47fbfa25c1ef58dae1b36faa316"), looks := false }, kinds := [], alts := [], laidByText := true, laidKinds := [.data, .pinned], laidTests := true, laidLooks := .later }
def RowsTablesCardSaid : Prop := Claim7.holds Tryz.pinned (.plain (OpenSpec.ofChange rowsTablesSpec)) rowsTablesCard

/-- THE SECOND FORM's CARD OF 'folkmootlaw05.RowsLimits'. -/
def rowsLimitsUptoCard : Claim7 := { stood := { row := rowsLimitsUptoRow, standIns := [], harness := (true, "b8a27616cd3f1d9b8f59346c65f3f8e9d379b47fbfa25c1ef58dae1b36faa316"), looks := false }, kinds := [], alts := [], laidByText := true, laidKinds := [.data, .pinned], laidTests := true, laidLooks := .later }
def RowsLimitsUptoCardSaid : Prop := Claim7.holds Tryz.pinned (.plain (OpenSpec.upto rowsLimitsSpec)) rowsLimitsUptoCard

/-- THE SECOND FORM's CARD OF 'folkmootlaw05.RowsJoin'. -/
def rowsJoinUptoCard : Claim7 := { stood := { row := rowsJoinUptoRow, standIns := [], harness := (true, "b8a27616cd3f1d9b8f59346c65f3f8e9d379b47fbfa25c1ef58dae1b36faa316"), looks := false }, kinds := [], alts := [], laidByText := true, laidKinds := [.data, .pinned], laidTests := true, laidLooks := .later }
def RowsJoinUptoCardSaid : Prop := Claim7.holds Tryz.pinned (.plain (OpenSpec.upto rowsJoinSpec)) rowsJoinUptoCard

/-- THE SECOND FORM's CARD OF 'folkmootlaw05.RowsKeys'. -/
def rowsKeysUptoCard : Claim7 := { stood := { row := rowsKeysUptoRow, standIns := [], harness := (true, "b8a27616cd3f1d9b8f59346c65f3f8e9d379b47fbfa25c1ef58dae1b36faa316"), looks := false }, kinds := [], alts := [], laidByText := true, laidKinds := [.data, .pinned], laidTests := true, laidLooks := .later }
def RowsKeysUptoCardSaid : Prop := Claim7.holds Tryz.pinned (.plain (OpenSpec.upto rowsKeysSpec)) rowsKeysUptoCard

/-- THE SECOND FORM's CARD OF 'folkmootlaw05.RowsTables'. -/
def rowsTablesUptoCard : Claim7 := { stood := { row := rowsTablesUptoRow, standIns := [], harness := (true, "b8a27616cd3f1d9b8f59346c65f3f8e9d379b47fbfa25c1ef58dae1b36faa316"), looks := false }, kinds := [], alts := [], laidByText := true, laidKinds := [.data, .pinned], laidTests := true, laidLooks := .later }
def RowsTablesUptoCardSaid : Prop := Claim7.holds Tryz.pinned (.plain (OpenSpec.upto rowsTablesSpec)) rowsTablesUptoCard
end Rows
end Go.Proofs.YtjjfmmimmfihgabGreatDoor
