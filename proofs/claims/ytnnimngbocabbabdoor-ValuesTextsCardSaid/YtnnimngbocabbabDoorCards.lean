/-
  DERIVED. GIVEN WITH THE SEED: THE CARDS: each row of YtnnimngbocabbabDoorRows.lean that lists a variable, with what it lists TIED to the program's text (the seventh form; the later family's looks); each row that meets fmt, with fmt's text TOLD by the authors' own Lean function (tested against real Go, not proved from fmt's source: count such statements apart). THE CARD IS WHAT COUNTS. Prove the row's statement (the work); the ties are given (YtnnimngbocabbabDoorTie.lean); close each card by the builder's one call (the guide's Derived/Test/ToyasCard.lean, 'card_holds'). Laid BY PROGRAM, IN A SANDBOX (cutbox-door.mjs). By AI agents, Wed Nov 11 2026. No macro, syntax, notation, axiom, sorry.
-/
import Derived.Test.YtnnimngbocabbabDoorRows
import GoSem.ClaimSeven
namespace Go.Proofs.YtnnimngbocabbabDoor
namespace Rows

/-- THE TIED CARD OF 'folkmootlaw04.ValuesTruth'. -/
def valuesTruthCard : Claim7 := { stood := { row := valuesTruthRow, standIns := [], harness := (true, "4763b92975ebf795655bbe47f9b27251a39b4e12ee443d4cb5a959148d4a58d2"), looks := false }, kinds := [], alts := [], laidByText := true, laidKinds := [.data, .data, .data, .data, .pinned], laidTests := true, laidLooks := .later }
def ValuesTruthCardSaid : Prop := Claim7.holds Tryd.pinned (.plain (OpenSpec.ofChange valuesTruthSpec)) valuesTruthCard

/-- THE TIED CARD OF 'folkmootlaw04.ValuesTexts'. -/
def valuesTextsCard : Claim7 := { stood := { row := valuesTextsRow, standIns := [], harness := (true, "4763b92975ebf795655bbe47f9b27251a39b4e12ee443d4cb5a959148d4a58d2"), looks := false }, kinds := [], alts := [], laidByText := true, laidKinds := [.data, .data, .data, .data, .pinned], laidTests := true, laidLooks := .later }
def ValuesTextsCardSaid : Prop := Claim7.holds Tryd.pinned (.plain (OpenSpec.ofChange valuesTextsSpec)) valuesTextsCard

/-- THE SECOND FORM's CARD OF 'folkmootlaw04.ValuesTruth'. -/
def valuesTruthUptoCard : Claim7 := { stood := { row := valuesTruthUptoRow, standIns := [], harness := (true, "4763b92975ebf795655bbe47f9b27251a39b4e12ee443d4cb5a959148d4a58d2"), looks := false }, kinds := [], alts := [], laidByText := true, laidKinds := [.data, .data, .data, .data, .pinned], laidTests := true, laidLooks := .later }
def ValuesTruthUptoCardSaid : Prop := Claim7.holds Tryd.pinned (.plain (OpenSpec.upto valuesTruthSpec)) valuesTruthUptoCard

/-- THE SECOND FORM's CARD OF 'folkmootlaw04.ValuesTexts'. -/
def valuesTextsUptoCard : Claim7 := { stood := { row := valuesTextsUptoRow, standIns := [], harness := (true, "4763b92975ebf795655bbe47f9b27251a39b4e12ee443d4cb5a959148d4a58d2"), looks := false }, kinds := [], alts := [], laidByText := true, laidKinds := [.data, .data, .data, .data, .pinned], laidTests := true, laidLooks := .later }
def ValuesTextsUptoCardSaid : Prop := Claim7.holds Tryd.pinned (.plain (OpenSpec.upto valuesTextsSpec)) valuesTextsUptoCard
end Rows
end Go.Proofs.YtnnimngbocabbabDoor
