/-
  DERIVED. GIVEN WITH THE SEED: THE CARDS: each row of YtjjfmmimmfihgaaDoorRows.lean that lists a variable, with what it lists TIED to the program's text (the seventh form; the later family's looks); each row that meets fmt, with fmt's text TOLD by the authors' own Lean function (tested against real Go, not proved from fmt's source: count such statements apart). THE CARD IS WHAT COUNTS. Prove the row's statement (the work); the ties are given (YtjjfmmimmfihgaaDoorTie.lean); close each card by the builder's one call (the guide's Derived/Test/ToyasCard.lean, 'card_holds'). Laid BY PROGRAM, IN A SANDBOX (cutbox-door.mjs). By AI agents, Wed Nov 11 2026. No macro, syntax, notation, axiom, sorry.
-/
import Derived.Test.YtjjfmmimmfihgaaDoorRows
import GoSem.ClaimSeven
namespace Go.Proofs.YtjjfmmimmfihgaaDoor
namespace Rows

/-- THE TIED CARD OF 'folkmootlaw04.ValuesTwo'. -/
def valuesTwoCard : Claim7 := { stood := { row := valuesTwoRow, standIns := [], harness := (true, "5f0f44e2284d21d8c4f5e065ad9e665f84b30595d74b0176f04c567b433a174a"), looks := false }, kinds := [], alts := [], laidByText := true, laidKinds := [.data, .data, .data], laidTests := true, laidLooks := .later }
def ValuesTwoCardSaid : Prop := Claim7.holds Tryd.pinned (.plain (OpenSpec.ofChange valuesTwoSpec)) valuesTwoCard

/-- THE TIED CARD OF 'folkmootlaw04.ValuesBack'. -/
def valuesBackCard : Claim7 := { stood := { row := valuesBackRow, standIns := [], harness := (true, "5f0f44e2284d21d8c4f5e065ad9e665f84b30595d74b0176f04c567b433a174a"), looks := false }, kinds := [], alts := [], laidByText := true, laidKinds := [.data, .data, .data, .data, .pinned], laidTests := true, laidLooks := .later }
def ValuesBackCardSaid : Prop := Claim7.holds Tryd.pinned (.plain (OpenSpec.ofChange valuesBackSpec)) valuesBackCard

/-- THE TIED CARD OF 'folkmootlaw04.ValuesNot'. -/
def valuesNotCard : Claim7 := { stood := { row := valuesNotRow, standIns := [], harness := (true, "5f0f44e2284d21d8c4f5e065ad9e665f84b30595d74b0176f04c567b433a174a"), looks := false }, kinds := [], alts := [], laidByText := true, laidKinds := [.data, .data, .data, .data, .pinned], laidTests := true, laidLooks := .later }
def ValuesNotCardSaid : Prop := Claim7.holds Tryd.pinned (.plain (OpenSpec.ofChange valuesNotSpec)) valuesNotCard

/-- THE TIED CARD OF 'folkmootlaw04.ValuesJoin'. -/
def valuesJoinCard : Claim7 := { stood := { row := valuesJoinRow, standIns := [], harness := (true, "5f0f44e2284d21d8c4f5e065ad9e665f84b30595d74b0176f04c567b433a174a"), looks := false }, kinds := [], alts := [], laidByText := true, laidKinds := [.data, .data, .data, .data, .pinned], laidTests := true, laidLooks := .later }
def ValuesJoinCardSaid : Prop := Claim7.holds Tryd.pinned (.plain (OpenSpec.ofChange valuesJoinSpec)) valuesJoinCard

/-- THE SECOND FORM's CARD OF 'folkmootlaw04.ValuesTwo'. -/
def valuesTwoUptoCard : Claim7 := { stood := { row := valuesTwoUptoRow, standIns := [], harness := (true, "5f0f44e2284d21d8c4f5e065ad9e665f84b30595d74b0176f04c567b433a174a"), looks := false }, kinds := [], alts := [], laidByText := true, laidKinds := [.data, .data, .data], laidTests := true, laidLooks := .later }
def ValuesTwoUptoCardSaid : Prop := Claim7.holds Tryd.pinned (.plain (OpenSpec.upto valuesTwoSpec)) valuesTwoUptoCard

/-- THE SECOND FORM's CARD OF 'folkmootlaw04.ValuesBack'. -/
def valuesBackUptoCard : Claim7 := { stood := { row := valuesBackUptoRow, standIns := [], harness := (true, "5f0f44e2284d21d8c4f5e065ad9e665f84b30595d74b0176f04c567b433a174a"), looks := false }, kinds := [], alts := [], laidByText := true, laidKinds := [.data, .data, .data, .data, .pinned], laidTests := true, laidLooks := .later }
def ValuesBackUptoCardSaid : Prop := Claim7.holds Tryd.pinned (.plain (OpenSpec.upto valuesBackSpec)) valuesBackUptoCard

/-- THE SECOND FORM's CARD OF 'folkmootlaw04.ValuesNot'. -/
def valuesNotUptoCard : Claim7 := { stood := { row := valuesNotUptoRow, standIns := [], harness := (true, "5f0f44e2284d21d8c4f5e065ad9e665f84b30595d74b0176f04c567b433a174a"), looks := false }, kinds := [], alts := [], laidByText := true, laidKinds := [.data, .data, .data, .data, .pinned], laidTests := true, laidLooks := .later }
def ValuesNotUptoCardSaid : Prop := Claim7.holds Tryd.pinned (.plain (OpenSpec.upto valuesNotSpec)) valuesNotUptoCard

/-- THE SECOND FORM's CARD OF 'folkmootlaw04.ValuesJoin'. -/
def valuesJoinUptoCard : Claim7 := { stood := { row := valuesJoinUptoRow, standIns := [], harness := (true, "5f0f44e2284d21d8c4f5e065ad9e665f84b30595d74b0176f04c567b433a174a"), looks := false }, kinds := [], alts := [], laidByText := true, laidKinds := [.data, .data, .data, .data, .pinned], laidTests := true, laidLooks := .later }
def ValuesJoinUptoCardSaid : Prop := Claim7.holds Tryd.pinned (.plain (OpenSpec.upto valuesJoinSpec)) valuesJoinUptoCard
end Rows
end Go.Proofs.YtjjfmmimmfihgaaDoor
