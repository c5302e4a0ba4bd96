/-
  DERIVED. GIVEN WITH THE SEED: THE CARDS: each row of YtpeihgbkolihgaaDoorRows.lean that lists a variable, with what it lists TIED to the program's text (the seventh form; the later family's looks); each row that meets fmt, with fmt's text TOLD by the authors' own Lean function (tested against real Go, not proved from fmt's source: count such statements apart). THE CARD IS WHAT COUNTS. Prove the row's statement (the work); the ties are given (YtpeihgbkolihgaaDoorTie.lean); close each card by the builder's one call (the guide's Derived/Test/ToyasCard.lean, 'card_holds'). Laid BY PROGRAM, IN A SANDBOX (cutbox-door.mjs). By AI agents, Wed Nov 11 2026. No macro, syntax, notation, axiom, sorry.
-/
import Derived.Test.YtpeihgbkolihgaaDoorRows
import GoSem.ClaimSeven
namespace Go.Proofs.YtpeihgbkolihgaaDoor
namespace Rows

/-- THE TIED CARD OF 'cellarerlaw14.SyntaxKids'. -/
def syntaxKidsCard : Claim7 := { stood := { row := syntaxKidsRow, standIns := [], harness := (true, "7f9c55252ae4272291ed9702dec568bbe88efd7eb810521f11b964e68bad0268"), looks := false }, kinds := [], alts := [], laidByText := true, laidKinds := [.data, .data, .data], laidTests := true, laidLooks := .later }
def SyntaxKidsCardSaid : Prop := Claim7.holds Tryd.pinned (.plain (OpenSpec.ofChange syntaxKidsSpec)) syntaxKidsCard

/-- THE TIED CARD OF 'cellarerlaw14.SyntaxSame'. -/
def syntaxSameCard : Claim7 := { stood := { row := syntaxSameRow, standIns := [], harness := (true, "7f9c55252ae4272291ed9702dec568bbe88efd7eb810521f11b964e68bad0268"), looks := false }, kinds := [], alts := [], laidByText := true, laidKinds := [.data, .data, .data], laidTests := true, laidLooks := .later }
def SyntaxSameCardSaid : Prop := Claim7.holds Tryd.pinned (.plain (OpenSpec.ofChange syntaxSameSpec)) syntaxSameCard

/-- THE TIED CARD OF 'cellarerlaw14.SyntaxDumps'. -/
def syntaxDumpsCard : Claim7 := { stood := { row := syntaxDumpsRow, standIns := [], harness := (true, "7f9c55252ae4272291ed9702dec568bbe88efd7eb810521f11b964e68bad0268"), looks := false }, kinds := [], alts := [], laidByText := true, laidKinds := [.data, .data, .data], laidTests := true, laidLooks := .later }
def SyntaxDumpsCardSaid : Prop := Claim7.holds Tryd.pinned (.plain (OpenSpec.ofChange syntaxDumpsSpec)) syntaxDumpsCard

/-- THE TIED CARD OF 'cellarerlaw14.SyntaxTexts'. -/
def syntaxTextsCard : Claim7 := { stood := { row := syntaxTextsRow, standIns := [], harness := (true, "7f9c55252ae4272291ed9702dec568bbe88efd7eb810521f11b964e68bad0268"), looks := false }, kinds := [], alts := [], laidByText := true, laidKinds := [.data, .data, .data], laidTests := true, laidLooks := .later }
def SyntaxTextsCardSaid : Prop := Claim7.holds Tryd.pinned (.plain (OpenSpec.ofChange syntaxTextsSpec)) syntaxTextsCard

/-- THE TIED CARD OF 'cellarerlaw14.SyntaxSubs'. -/
def syntaxSubsCard : Claim7 := { stood := { row := syntaxSubsRow, standIns := [], harness := (true, "7f9c55252ae4272291ed9702dec568bbe88efd7eb810521f11b964e68bad0268"), looks := false }, kinds := [], alts := [], laidByText := true, laidKinds := [.data, .data, .data], laidTests := true, laidLooks := .later }
def SyntaxSubsCardSaid : Prop := Claim7.holds Tryd.pinned (.plain (OpenSpec.ofChange syntaxSubsSpec)) syntaxSubsCard

/-- THE TIED CARD OF 'cellarerlaw14.SyntaxOrders'. -/
def syntaxOrdersCard : Claim7 := { stood := { row := syntaxOrdersRow, standIns := [], harness := (true, "7f9c55252ae4272291ed9702dec568bbe88efd7eb810521f11b964e68bad0268"), looks := false }, kinds := [], alts := [], laidByText := true, laidKinds := [.data, .data, .data], laidTests := true, laidLooks := .later }
def SyntaxOrdersCardSaid : Prop := Claim7.holds Tryd.pinned (.plain (OpenSpec.ofChange syntaxOrdersSpec)) syntaxOrdersCard

/-- THE TIED CARD OF 'cellarerlaw14.SyntaxDepths'. -/
def syntaxDepthsCard : Claim7 := { stood := { row := syntaxDepthsRow, standIns := [], harness := (true, "7f9c55252ae4272291ed9702dec568bbe88efd7eb810521f11b964e68bad0268"), looks := false }, kinds := [], alts := [], laidByText := true, laidKinds := [.data, .data, .data], laidTests := true, laidLooks := .later }
def SyntaxDepthsCardSaid : Prop := Claim7.holds Tryd.pinned (.plain (OpenSpec.ofChange syntaxDepthsSpec)) syntaxDepthsCard

/-- THE SECOND FORM's CARD OF 'cellarerlaw14.SyntaxKids'. -/
def syntaxKidsUptoCard : Claim7 := { stood := { row := syntaxKidsUptoRow, standIns := [], harness := (true, "7f9c55252ae4272291ed9702dec568bbe88efd7eb810521f11b964e68bad0268"), looks := false }, kinds := [], alts := [], laidByText := true, laidKinds := [.data, .data, .data], laidTests := true, laidLooks := .later }
def SyntaxKidsUptoCardSaid : Prop := Claim7.holds Tryd.pinned (.plain (OpenSpec.upto syntaxKidsSpec)) syntaxKidsUptoCard

/-- THE SECOND FORM's CARD OF 'cellarerlaw14.SyntaxSame'. -/
def syntaxSameUptoCard : Claim7 := { stood := { row := syntaxSameUptoRow, standIns := [], harness := (true, "7f9c55252ae4272291ed9702dec568bbe88efd7eb810521f11b964e68bad0268"), looks := false }, kinds := [], alts := [], laidByText := true, laidKinds := [.data, .data, .data], laidTests := true, laidLooks := .later }
def SyntaxSameUptoCardSaid : Prop := Claim7.holds Tryd.pinned (.plain (OpenSpec.upto syntaxSameSpec)) syntaxSameUptoCard

/-- THE SECOND FORM's CARD OF 'cellarerlaw14.SyntaxDumps'. -/
def syntaxDumpsUptoCard : Claim7 := { stood := { row := syntaxDumpsUptoRow, standIns := [], harness := (true, "7f9c55252ae4272291ed9702dec568bbe88efd7eb810521f11b964e68bad0268"), looks := false }, kinds := [], alts := [], laidByText := true, laidKinds := [.data, .data, .data], laidTests := true, laidLooks := .later }
def SyntaxDumpsUptoCardSaid : Prop := Claim7.holds Tryd.pinned (.plain (OpenSpec.upto syntaxDumpsSpec)) syntaxDumpsUptoCard

/-- THE SECOND FORM's CARD OF 'cellarerlaw14.SyntaxTexts'. -/
def syntaxTextsUptoCard : Claim7 := { stood := { row := syntaxTextsUptoRow, standIns := [], harness := (true, "7f9c55252ae4272291ed9702dec568bbe88efd7eb810521f11b964e68bad0268"), looks := false }, kinds := [], alts := [], laidByText := true, laidKinds := [.data, .data, .data], laidTests := true, laidLooks := .later }
def SyntaxTextsUptoCardSaid : Prop := Claim7.holds Tryd.pinned (.plain (OpenSpec.upto syntaxTextsSpec)) syntaxTextsUptoCard

/-- THE SECOND FORM's CARD OF 'cellarerlaw14.SyntaxSubs'. -/
def syntaxSubsUptoCard : Claim7 := { stood := { row := syntaxSubsUptoRow, standIns := [], harness := (true, "7f9c55252ae4272291ed9702dec568bbe88efd7eb810521f11b964e68bad0268"), looks := false }, kinds := [], alts := [], laidByText := true, laidKinds := [.data, .data, .data], laidTests := true, laidLooks := .later }
def SyntaxSubsUptoCardSaid : Prop := Claim7.holds Tryd.pinned (.plain (OpenSpec.upto syntaxSubsSpec)) syntaxSubsUptoCard

/-- THE SECOND FORM's CARD OF 'cellarerlaw14.SyntaxOrders'. -/
def syntaxOrdersUptoCard : Claim7 := { stood := { row := syntaxOrdersUptoRow, standIns := [], harness := (true, "7f9c55252ae4272291ed9702dec568bbe88efd7eb810521f11b964e68bad0268"), looks := false }, kinds := [], alts := [], laidByText := true, laidKinds := [.data, .data, .data], laidTests := true, laidLooks := .later }
def SyntaxOrdersUptoCardSaid : Prop := Claim7.holds Tryd.pinned (.plain (OpenSpec.upto syntaxOrdersSpec)) syntaxOrdersUptoCard

/-- THE SECOND FORM's CARD OF 'cellarerlaw14.SyntaxDepths'. -/
def syntaxDepthsUptoCard : Claim7 := { stood := { row := syntaxDepthsUptoRow, standIns := [], harness := (true, "7f9c55252ae4272291ed9702dec568bbe88efd7eb810521f11b964e68bad0268"), looks := false }, kinds := [], alts := [], laidByText := true, laidKinds := [.data, .data, .data], laidTests := true, laidLooks := .later }
def SyntaxDepthsUptoCardSaid : Prop := Claim7.holds Tryd.pinned (.plain (OpenSpec.upto syntaxDepthsSpec)) syntaxDepthsUptoCard
end Rows
end Go.Proofs.YtpeihgbkolihgaaDoor
