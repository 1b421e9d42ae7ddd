/-
  DERIVED. GIVEN WITH THE SEED: THE CARDS: each row of YtnnimngbocabbaaDoorRows.lean that lists a variable, with what it lists TIED to the program's text (the seventh form; the later family's looks); each row that meets fmt, with fmt's text TOLD by the authors' own Lean function (tested against real Go, not proved from fmt's source: count such statements apart). THE CARD IS WHAT COUNTS. Prove the row's statement (the work); the ties are given (YtnnimngbocabbaaDoorTie.lean); close each card by the builder's one call (the guide's Derived/Test/ToyasCard.lean, 'card_holds'). Laid BY PROGRAM, IN A SANDBOX (cutbox-door.mjs). By AI agents, Wed Nov 11 2026. No macro, syntax, notation, axiom, sorry.
-/
import Derived.Test.YtnnimngbocabbaaDoorRows
import GoSem.ClaimSeven
namespace Go.Proofs.YtnnimngbocabbaaDoor
namespace Rows

/-- THE TIED CARD OF 'folkmootlaw04.ValuesCmp'. -/
def valuesCmpCard : Claim7 := { stood := { row := valuesCmpRow, standIns := [], harness := (true, "f94044856a473a4904eebb35c39761281c649990e9ef22e85711a55b479b5cb4"), looks := false }, kinds := [], alts := [], laidByText := true, laidKinds := [.data, .data, .data, .data, .pinned], laidTests := true, laidLooks := .later }
def ValuesCmpCardSaid : Prop := Claim7.holds Tryd.pinned (.plain (OpenSpec.ofChange valuesCmpSpec)) valuesCmpCard

/-- THE TIED CARD OF 'folkmootlaw04.ValuesTwo'. -/
def valuesTwoCard : Claim7 := { stood := { row := valuesTwoRow, standIns := [], harness := (true, "f94044856a473a4904eebb35c39761281c649990e9ef22e85711a55b479b5cb4"), looks := false }, kinds := [], alts := [], laidByText := true, laidKinds := [.data, .data, .data], laidTests := true, laidLooks := .later }
def ValuesTwoCardSaid : Prop := Claim7.holds Tryd.pinned (.plain (OpenSpec.ofChange valuesTwoSpec)) valuesTwoCard

/-- THE TIED CARD OF 'folkmootlaw04.ValuesOrder'. -/
def valuesOrderCard : Claim7 := { stood := { row := valuesOrderRow, standIns := [], harness := (true, "f94044856a473a4904eebb35c39761281c649990e9ef22e85711a55b479b5cb4"), looks := false }, kinds := [], alts := [], laidByText := true, laidKinds := [.data, .data, .data, .data, .pinned], laidTests := true, laidLooks := .later }
def ValuesOrderCardSaid : Prop := Claim7.holds Tryd.pinned (.plain (OpenSpec.ofChange valuesOrderSpec)) valuesOrderCard

/-- THE TIED CARD OF 'folkmootlaw04.ValuesBack'. -/
def valuesBackCard : Claim7 := { stood := { row := valuesBackRow, standIns := [], harness := (true, "f94044856a473a4904eebb35c39761281c649990e9ef22e85711a55b479b5cb4"), looks := false }, kinds := [], alts := [], laidByText := true, laidKinds := [.data, .data, .data, .data, .pinned], laidTests := true, laidLooks := .later }
def ValuesBackCardSaid : Prop := Claim7.holds Tryd.pinned (.plain (OpenSpec.ofChange valuesBackSpec)) valuesBackCard

/-- THE TIED CARD OF 'folkmootlaw04.ValuesTurned'. -/
def valuesTurnedCard : Claim7 := { stood := { row := valuesTurnedRow, standIns := [], harness := (true, "f94044856a473a4904eebb35c39761281c649990e9ef22e85711a55b479b5cb4"), looks := false }, kinds := [], alts := [], laidByText := true, laidKinds := [.data, .data, .data, .data, .pinned], laidTests := true, laidLooks := .later }
def ValuesTurnedCardSaid : Prop := Claim7.holds Tryd.pinned (.plain (OpenSpec.ofChange valuesTurnedSpec)) valuesTurnedCard

/-- THE TIED CARD OF 'folkmootlaw04.ValuesNot'. -/
def valuesNotCard : Claim7 := { stood := { row := valuesNotRow, standIns := [], harness := (true, "f94044856a473a4904eebb35c39761281c649990e9ef22e85711a55b479b5cb4"), looks := false }, kinds := [], alts := [], laidByText := true, laidKinds := [.data, .data, .data, .data, .pinned], laidTests := true, laidLooks := .later }
def ValuesNotCardSaid : Prop := Claim7.holds Tryd.pinned (.plain (OpenSpec.ofChange valuesNotSpec)) valuesNotCard

/-- THE TIED CARD OF 'folkmootlaw04.ValuesJoin'. -/
def valuesJoinCard : Claim7 := { stood := { row := valuesJoinRow, standIns := [], harness := (true, "f94044856a473a4904eebb35c39761281c649990e9ef22e85711a55b479b5cb4"), looks := false }, kinds := [], alts := [], laidByText := true, laidKinds := [.data, .data, .data, .data, .pinned], laidTests := true, laidLooks := .later }
def ValuesJoinCardSaid : Prop := Claim7.holds Tryd.pinned (.plain (OpenSpec.ofChange valuesJoinSpec)) valuesJoinCard

/-- THE TIED CARD OF 'folkmootlaw04.ValuesNothing'. -/
def valuesNothingCard : Claim7 := { stood := { row := valuesNothingRow, standIns := [], harness := (true, "f94044856a473a4904eebb35c39761281c649990e9ef22e85711a55b479b5cb4"), looks := false }, kinds := [], alts := [], laidByText := true, laidKinds := [.data, .data, .data, .data, .pinned], laidTests := true, laidLooks := .later }
def ValuesNothingCardSaid : Prop := Claim7.holds Tryd.pinned (.plain (OpenSpec.ofChange valuesNothingSpec)) valuesNothingCard

/-- THE SECOND FORM's CARD OF 'folkmootlaw04.ValuesCmp'. -/
def valuesCmpUptoCard : Claim7 := { stood := { row := valuesCmpUptoRow, standIns := [], harness := (true, "f94044856a473a4904eebb35c39761281c649990e9ef22e85711a55b479b5cb4"), looks := false }, kinds := [], alts := [], laidByText := true, laidKinds := [.data, .data, .data, .data, .pinned], laidTests := true, laidLooks := .later }
def ValuesCmpUptoCardSaid : Prop := Claim7.holds Tryd.pinned (.plain (OpenSpec.upto valuesCmpSpec)) valuesCmpUptoCard

/-- THE SECOND FORM's CARD OF 'folkmootlaw04.ValuesTwo'. -/
def valuesTwoUptoCard : Claim7 := { stood := { row := valuesTwoUptoRow, standIns := [], harness := (true, "f94044856a473a4904eebb35c39761281c649990e9ef22e85711a55b479b5cb4"), looks := false }, kinds := [], alts := [], laidByText := true, laidKinds := [.data, .data, .data], laidTests := true, laidLooks := .later }
def ValuesTwoUptoCardSaid : Prop := Claim7.holds Tryd.pinned (.plain (OpenSpec.upto valuesTwoSpec)) valuesTwoUptoCard

/-- THE SECOND FORM's CARD OF 'folkmootlaw04.ValuesOrder'. -/
def valuesOrderUptoCard : Claim7 := { stood := { row := valuesOrderUptoRow, standIns := [], harness := (true, "f94044856a473a4904eebb35c39761281c649990e9ef22e85711a55b479b5cb4"), looks := false }, kinds := [], alts := [], laidByText := true, laidKinds := [.data, .data, .data, .data, .pinned], laidTests := true, laidLooks := .later }
def ValuesOrderUptoCardSaid : Prop := Claim7.holds Tryd.pinned (.plain (OpenSpec.upto valuesOrderSpec)) valuesOrderUptoCard

/-- THE SECOND FORM's CARD OF 'folkmootlaw04.ValuesBack'. -/
def valuesBackUptoCard : Claim7 := { stood := { row := valuesBackUptoRow, standIns := [], harness := (true, "f94044856a473a4904eebb35c39761281c649990e9ef22e85711a55b479b5cb4"), looks := false }, kinds := [], alts := [], laidByText := true, laidKinds := [.data, .data, .data, .data, .pinned], laidTests := true, laidLooks := .later }
def ValuesBackUptoCardSaid : Prop := Claim7.holds Tryd.pinned (.plain (OpenSpec.upto valuesBackSpec)) valuesBackUptoCard

/-- THE SECOND FORM's CARD OF 'folkmootlaw04.ValuesTurned'. -/
def valuesTurnedUptoCard : Claim7 := { stood := { row := valuesTurnedUptoRow, standIns := [], harness := (true, "f94044856a473a4904eebb35c39761281c649990e9ef22e85711a55b479b5cb4"), looks := false }, kinds := [], alts := [], laidByText := true, laidKinds := [.data, .data, .data, .data, .pinned], laidTests := true, laidLooks := .later }
def ValuesTurnedUptoCardSaid : Prop := Claim7.holds Tryd.pinned (.plain (OpenSpec.upto valuesTurnedSpec)) valuesTurnedUptoCard

/-- THE SECOND FORM's CARD OF 'folkmootlaw04.ValuesNot'. -/
def valuesNotUptoCard : Claim7 := { stood := { row := valuesNotUptoRow, standIns := [], harness := (true, "f94044856a473a4904eebb35c39761281c649990e9ef22e85711a55b479b5cb4"), looks := false }, kinds := [], alts := [], laidByText := true, laidKinds := [.data, .data, .data, .data, .pinned], laidTests := true, laidLooks := .later }
def ValuesNotUptoCardSaid : Prop := Claim7.holds Tryd.pinned (.plain (OpenSpec.upto valuesNotSpec)) valuesNotUptoCard

/-- THE SECOND FORM's CARD OF 'folkmootlaw04.ValuesJoin'. -/
def valuesJoinUptoCard : Claim7 := { stood := { row := valuesJoinUptoRow, standIns := [], harness := (true, "f94044856a473a4904eebb35c39761281c649990e9ef22e85711a55b479b5cb4"), looks := false }, kinds := [], alts := [], laidByText := true, laidKinds := [.data, .data, .data, .data, .pinned], laidTests := true, laidLooks := .later }
def ValuesJoinUptoCardSaid : Prop := Claim7.holds Tryd.pinned (.plain (OpenSpec.upto valuesJoinSpec)) valuesJoinUptoCard

/-- THE SECOND FORM's CARD OF 'folkmootlaw04.ValuesNothing'. -/
def valuesNothingUptoCard : Claim7 := { stood := { row := valuesNothingUptoRow, standIns := [], harness := (true, "f94044856a473a4904eebb35c39761281c649990e9ef22e85711a55b479b5cb4"), looks := false }, kinds := [], alts := [], laidByText := true, laidKinds := [.data, .data, .data, .data, .pinned], laidTests := true, laidLooks := .later }
def ValuesNothingUptoCardSaid : Prop := Claim7.holds Tryd.pinned (.plain (OpenSpec.upto valuesNothingSpec)) valuesNothingUptoCard
end Rows
end Go.Proofs.YtnnimngbocabbaaDoor
