/-
  DERIVED. GIVEN WITH THE SEED: THE CARDS: each row of YtdkpcjfadabkbaaDoorRows.lean that lists a variable, with what it lists TIED to the program's text (the seventh form; the later family's looks); each row that meets fmt, with fmt's text TOLD by the authors' own Lean function (tested against real Go, not proved from fmt's source: count such statements apart). THE CARD IS WHAT COUNTS. Prove the row's statement (the work); the ties are given (YtdkpcjfadabkbaaDoorTie.lean); close each card by the builder's one call (the guide's Derived/Test/ToyasCard.lean, 'card_holds'). Laid BY PROGRAM, IN A SANDBOX (cutbox-door.mjs). By AI agents, Wed Nov 11 2026. No macro, syntax, notation, axiom, sorry.
-/
import Derived.Test.YtdkpcjfadabkbaaDoorRows
import GoSem.ClaimSeven
namespace Go.Proofs.YtdkpcjfadabkbaaDoor
namespace Rows

/-- THE TIED CARD OF 'cellarerlaw02.IntegerMultiplies'. -/
def integerMultipliesCard : Claim7 := { stood := { row := integerMultipliesRow, standIns := [], harness := (true, "ae86c7d4e184797dcf7c91bef3fc3e227c740919cc26c4884b2788613160daae"), looks := true }, kinds := [], alts := [], laidByText := true, laidKinds := [.data, .data, .data, .sentinel, .sentinel], laidTests := true, laidLooks := .later }
def IntegerMultipliesCardSaid : Prop := Claim7.holds Tryd.pinned (.plain (OpenSpec.ofChange integerMultipliesSpec)) integerMultipliesCard

/-- THE TIED CARD OF 'cellarerlaw02.IntegerQuotients'. -/
def integerQuotientsCard : Claim7 := { stood := { row := integerQuotientsRow, standIns := [], harness := (true, "ae86c7d4e184797dcf7c91bef3fc3e227c740919cc26c4884b2788613160daae"), looks := true }, kinds := [], alts := [], laidByText := true, laidKinds := [.data, .data, .data, .sentinel, .sentinel], laidTests := true, laidLooks := .later }
def IntegerQuotientsCardSaid : Prop := Claim7.holds Tryd.pinned (.plain (OpenSpec.ofChange integerQuotientsSpec)) integerQuotientsCard

/-- THE TIED CARD OF 'cellarerlaw02.IntegerDivisors'. -/
def integerDivisorsCard : Claim7 := { stood := { row := integerDivisorsRow, standIns := [], harness := (true, "ae86c7d4e184797dcf7c91bef3fc3e227c740919cc26c4884b2788613160daae"), looks := true }, kinds := [], alts := [], laidByText := true, laidKinds := [.data, .data, .data, .sentinel, .sentinel], laidTests := true, laidLooks := .later }
def IntegerDivisorsCardSaid : Prop := Claim7.holds Tryd.pinned (.plain (OpenSpec.ofChange integerDivisorsSpec)) integerDivisorsCard

/-- THE TIED CARD OF 'cellarerlaw02.IntegerRings'. -/
def integerRingsCard : Claim7 := { stood := { row := integerRingsRow, standIns := [], harness := (true, "ae86c7d4e184797dcf7c91bef3fc3e227c740919cc26c4884b2788613160daae"), looks := true }, kinds := [], alts := [], laidByText := true, laidKinds := [.data, .data, .data, .sentinel, .sentinel], laidTests := true, laidLooks := .later }
def IntegerRingsCardSaid : Prop := Claim7.holds Tryd.pinned (.plain (OpenSpec.ofChange integerRingsSpec)) integerRingsCard

/-- THE TIED CARD OF 'cellarerlaw02.IntegerSmalls'. -/
def integerSmallsCard : Claim7 := { stood := { row := integerSmallsRow, standIns := [], harness := (true, "ae86c7d4e184797dcf7c91bef3fc3e227c740919cc26c4884b2788613160daae"), looks := true }, kinds := [], alts := [], laidByText := true, laidKinds := [.data, .data, .data, .sentinel, .sentinel], laidTests := true, laidLooks := .later }
def IntegerSmallsCardSaid : Prop := Claim7.holds Tryd.pinned (.plain (OpenSpec.ofChange integerSmallsSpec)) integerSmallsCard

/-- THE SECOND FORM's CARD OF 'cellarerlaw02.IntegerMultiplies'. -/
def integerMultipliesUptoCard : Claim7 := { stood := { row := integerMultipliesUptoRow, standIns := [], harness := (true, "ae86c7d4e184797dcf7c91bef3fc3e227c740919cc26c4884b2788613160daae"), looks := true }, kinds := [], alts := [], laidByText := true, laidKinds := [.data, .data, .data, .sentinel, .sentinel], laidTests := true, laidLooks := .later }
def IntegerMultipliesUptoCardSaid : Prop := Claim7.holds Tryd.pinned (.plain (OpenSpec.upto integerMultipliesSpec)) integerMultipliesUptoCard

/-- THE SECOND FORM's CARD OF 'cellarerlaw02.IntegerQuotients'. -/
def integerQuotientsUptoCard : Claim7 := { stood := { row := integerQuotientsUptoRow, standIns := [], harness := (true, "ae86c7d4e184797dcf7c91bef3fc3e227c740919cc26c4884b2788613160daae"), looks := true }, kinds := [], alts := [], laidByText := true, laidKinds := [.data, .data, .data, .sentinel, .sentinel], laidTests := true, laidLooks := .later }
def IntegerQuotientsUptoCardSaid : Prop := Claim7.holds Tryd.pinned (.plain (OpenSpec.upto integerQuotientsSpec)) integerQuotientsUptoCard

/-- THE SECOND FORM's CARD OF 'cellarerlaw02.IntegerDivisors'. -/
def integerDivisorsUptoCard : Claim7 := { stood := { row := integerDivisorsUptoRow, standIns := [], harness := (true, "ae86c7d4e184797dcf7c91bef3fc3e227c740919cc26c4884b2788613160daae"), looks := true }, kinds := [], alts := [], laidByText := true, laidKinds := [.data, .data, .data, .sentinel, .sentinel], laidTests := true, laidLooks := .later }
def IntegerDivisorsUptoCardSaid : Prop := Claim7.holds Tryd.pinned (.plain (OpenSpec.upto integerDivisorsSpec)) integerDivisorsUptoCard

/-- THE SECOND FORM's CARD OF 'cellarerlaw02.IntegerRings'. -/
def integerRingsUptoCard : Claim7 := { stood := { row := integerRingsUptoRow, standIns := [], harness := (true, "ae86c7d4e184797dcf7c91bef3fc3e227c740919cc26c4884b2788613160daae"), looks := true }, kinds := [], alts := [], laidByText := true, laidKinds := [.data, .data, .data, .sentinel, .sentinel], laidTests := true, laidLooks := .later }
def IntegerRingsUptoCardSaid : Prop := Claim7.holds Tryd.pinned (.plain (OpenSpec.upto integerRingsSpec)) integerRingsUptoCard

/-- THE SECOND FORM's CARD OF 'cellarerlaw02.IntegerSmalls'. -/
def integerSmallsUptoCard : Claim7 := { stood := { row := integerSmallsUptoRow, standIns := [], harness := (true, "ae86c7d4e184797dcf7c91bef3fc3e227c740919cc26c4884b2788613160daae"), looks := true }, kinds := [], alts := [], laidByText := true, laidKinds := [.data, .data, .data, .sentinel, .sentinel], laidTests := true, laidLooks := .later }
def IntegerSmallsUptoCardSaid : Prop := Claim7.holds Tryd.pinned (.plain (OpenSpec.upto integerSmallsSpec)) integerSmallsUptoCard
end Rows
end Go.Proofs.YtdkpcjfadabkbaaDoor
