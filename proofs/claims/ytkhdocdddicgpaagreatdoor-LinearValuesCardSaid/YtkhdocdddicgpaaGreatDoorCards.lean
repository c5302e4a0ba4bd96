/-
  DERIVED. GIVEN WITH THE SEED: THE CARDS: each row of YtkhdocdddicgpaaGreatDoorRows.lean that lists a variable, with what it lists TIED to the program's text (the seventh form; the later family's looks); each row that meets fmt, with fmt's text TOLD by the authors' own Lean function (tested against real Go, not proved from fmt's source: count such statements apart). THE CARD IS WHAT COUNTS. Prove the row's statement (the work); the ties are given (YtkhdocdddicgpaaGreatDoorTie.lean); close each card by the builder's one call (the guide's Derived/Test/ToyasCard.lean, 'card_holds'). Laid BY PROGRAM, IN A SANDBOX (cutbox-door.mjs). By AI agents, Wed Nov 11 2026. No macro, syntax, notation, axiom, sorry.
-/
import Derived.Test.YtkhdocdddicgpaaGreatDoorRows
import GoSem.ClaimSeven
namespace Go.Proofs.YtkhdocdddicgpaaGreatDoor
namespace Rows

/-- THE TIED CARD OF 'cellarerlaw04.LinearAdds'. -/
def linearAddsCard : Claim7 := { stood := { row := linearAddsRow, standIns := [], harness := (true, "4b57d272ccbb7f49f51e34f79c5dad0c6b087a370c11a561c1fb512d490f50f4"), looks := true }, kinds := [], alts := [], laidByText := true, laidKinds := [.data, .data, .data, .data, .sentinel, .sentinel, .pinned], laidTests := true, laidLooks := .later }
def LinearAddsCardSaid : Prop := Claim7.holds Tryz.pinned (.plain (OpenSpec.ofChange linearAddsSpec)) linearAddsCard

/-- THE TIED CARD OF 'cellarerlaw04.LinearEvals'. -/
def linearEvalsCard : Claim7 := { stood := { row := linearEvalsRow, standIns := [], harness := (true, "4b57d272ccbb7f49f51e34f79c5dad0c6b087a370c11a561c1fb512d490f50f4"), looks := true }, kinds := [], alts := [], laidByText := true, laidKinds := [.data, .data, .data, .data, .sentinel, .sentinel, .pinned], laidTests := true, laidLooks := .later }
def LinearEvalsCardSaid : Prop := Claim7.holds Tryz.pinned (.plain (OpenSpec.ofChange linearEvalsSpec)) linearEvalsCard

/-- THE TIED CARD OF 'cellarerlaw04.LinearPuts'. -/
def linearPutsCard : Claim7 := { stood := { row := linearPutsRow, standIns := [], harness := (true, "4b57d272ccbb7f49f51e34f79c5dad0c6b087a370c11a561c1fb512d490f50f4"), looks := true }, kinds := [], alts := [], laidByText := true, laidKinds := [.data, .data, .data, .data, .sentinel, .sentinel, .pinned], laidTests := true, laidLooks := .later }
def LinearPutsCardSaid : Prop := Claim7.holds Tryz.pinned (.plain (OpenSpec.ofChange linearPutsSpec)) linearPutsCard

/-- THE TIED CARD OF 'cellarerlaw04.LinearTexts'. -/
def linearTextsCard : Claim7 := { stood := { row := linearTextsRow, standIns := [], harness := (true, "4b57d272ccbb7f49f51e34f79c5dad0c6b087a370c11a561c1fb512d490f50f4"), looks := true }, kinds := [], alts := [], laidByText := true, laidKinds := [.data, .data, .data, .data, .sentinel, .sentinel, .pinned], laidTests := true, laidLooks := .later }
def LinearTextsCardSaid : Prop := Claim7.holds Tryz.pinned (.plain (OpenSpec.ofChange linearTextsSpec)) linearTextsCard

/-- THE TIED CARD OF 'cellarerlaw04.LinearParses'. -/
def linearParsesCard : Claim7 := { stood := { row := linearParsesRow, standIns := [], harness := (true, "4b57d272ccbb7f49f51e34f79c5dad0c6b087a370c11a561c1fb512d490f50f4"), looks := true }, kinds := [], alts := [], laidByText := true, laidKinds := [.data, .data, .data, .data, .sentinel, .sentinel, .pinned], laidTests := true, laidLooks := .later }
def LinearParsesCardSaid : Prop := Claim7.holds Tryz.pinned (.plain (OpenSpec.ofChange linearParsesSpec)) linearParsesCard

/-- THE TIED CARD OF 'cellarerlaw04.LinearValues'. -/
def linearValuesCard : Claim7 := { stood := { row := linearValuesRow, standIns := [], harness := (true, "4b57d272ccbb7f49f51e34f79c5dad0c6b087a370c11a561c1fb512d490f50f4"), looks := true }, kinds := [], alts := [], laidByText := true, laidKinds := [.data, .data, .data, .data, .sentinel, .sentinel, .pinned], laidTests := true, laidLooks := .later }
def LinearValuesCardSaid : Prop := Claim7.holds Tryz.pinned (.plain (OpenSpec.ofChange linearValuesSpec)) linearValuesCard

/-- THE SECOND FORM's CARD OF 'cellarerlaw04.LinearAdds'. -/
def linearAddsUptoCard : Claim7 := { stood := { row := linearAddsUptoRow, standIns := [], harness := (true, "4b57d272ccbb7f49f51e34f79c5dad0c6b087a370c11a561c1fb512d490f50f4"), looks := true }, kinds := [], alts := [], laidByText := true, laidKinds := [.data, .data, .data, .data, .sentinel, .sentinel, .pinned], laidTests := true, laidLooks := .later }
def LinearAddsUptoCardSaid : Prop := Claim7.holds Tryz.pinned (.plain (OpenSpec.upto linearAddsSpec)) linearAddsUptoCard

/-- THE SECOND FORM's CARD OF 'cellarerlaw04.LinearEvals'. -/
def linearEvalsUptoCard : Claim7 := { stood := { row := linearEvalsUptoRow, standIns := [], harness := (true, "4b57d272ccbb7f49f51e34f79c5dad0c6b087a370c11a561c1fb512d490f50f4"), looks := true }, kinds := [], alts := [], laidByText := true, laidKinds := [.data, .data, .data, .data, .sentinel, .sentinel, .pinned], laidTests := true, laidLooks := .later }
def LinearEvalsUptoCardSaid : Prop := Claim7.holds Tryz.pinned (.plain (OpenSpec.upto linearEvalsSpec)) linearEvalsUptoCard

/-- THE SECOND FORM's CARD OF 'cellarerlaw04.LinearPuts'. -/
def linearPutsUptoCard : Claim7 := { stood := { row := linearPutsUptoRow, standIns := [], harness := (true, "4b57d272ccbb7f49f51e34f79c5dad0c6b087a370c11a561c1fb512d490f50f4"), looks := true }, kinds := [], alts := [], laidByText := true, laidKinds := [.data, .data, .data, .data, .sentinel, .sentinel, .pinned], laidTests := true, laidLooks := .later }
def LinearPutsUptoCardSaid : Prop := Claim7.holds Tryz.pinned (.plain (OpenSpec.upto linearPutsSpec)) linearPutsUptoCard

/-- THE SECOND FORM's CARD OF 'cellarerlaw04.LinearTexts'. -/
def linearTextsUptoCard : Claim7 := { stood := { row := linearTextsUptoRow, standIns := [], harness := (true, "4b57d272ccbb7f49f51e34f79c5dad0c6b087a370c11a561c1fb512d490f50f4"), looks := true }, kinds := [], alts := [], laidByText := true, laidKinds := [.data, .data, .data, .data, .sentinel, .sentinel, .pinned], laidTests := true, laidLooks := .later }
def LinearTextsUptoCardSaid : Prop := Claim7.holds Tryz.pinned (.plain (OpenSpec.upto linearTextsSpec)) linearTextsUptoCard

/-- THE SECOND FORM's CARD OF 'cellarerlaw04.LinearParses'. -/
def linearParsesUptoCard : Claim7 := { stood := { row := linearParsesUptoRow, standIns := [], harness := (true, "4b57d272ccbb7f49f51e34f79c5dad0c6b087a370c11a561c1fb512d490f50f4"), looks := true }, kinds := [], alts := [], laidByText := true, laidKinds := [.data, .data, .data, .data, .sentinel, .sentinel, .pinned], laidTests := true, laidLooks := .later }
def LinearParsesUptoCardSaid : Prop := Claim7.holds Tryz.pinned (.plain (OpenSpec.upto linearParsesSpec)) linearParsesUptoCard

/-- THE SECOND FORM's CARD OF 'cellarerlaw04.LinearValues'. -/
def linearValuesUptoCard : Claim7 := { stood := { row := linearValuesUptoRow, standIns := [], harness := (true, "4b57d272ccbb7f49f51e34f79c5dad0c6b087a370c11a561c1fb512d490f50f4"), looks := true }, kinds := [], alts := [], laidByText := true, laidKinds := [.data, .data, .data, .data, .sentinel, .sentinel, .pinned], laidTests := true, laidLooks := .later }
def LinearValuesUptoCardSaid : Prop := Claim7.holds Tryz.pinned (.plain (OpenSpec.upto linearValuesSpec)) linearValuesUptoCard
end Rows
end Go.Proofs.YtkhdocdddicgpaaGreatDoor
