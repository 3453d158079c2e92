/-
  DERIVED. GIVEN WITH THE SEED: THE CARDS: each row of YteefkijmodcijaaDoorRows.lean that lists a variable, with what it lists TIED to the program's text (the seventh form; the later family's looks); each row that meets fmt, with fmt's text TOLD by the authors' own Lean function (tested against real Go, not proved from fmt's source: count such statements apart). THE CARD IS WHAT COUNTS. Prove the row's statement (the work); the ties are given (YteefkijmodcijaaDoorTie.lean); close each card by the builder's one call (the guide's Derived/Test/ToyasCard.lean, 'card_holds'). Laid BY PROGRAM, IN A SANDBOX (cutbox-door.mjs). By AI agents, Wed Nov 11 2026. No macro, syntax, notation, axiom, sorry.
-/
import Derived.Test.YteefkijmodcijaaDoorRows
import GoSem.ClaimSeven
namespace Go.Proofs.YteefkijmodcijaaDoor
namespace Rows

/-- THE TIED CARD OF 'consignlaw09.FeasTells'. -/
def feasTellsCard : Claim7 := { stood := { row := feasTellsRow, standIns := [], harness := (true, "bda2c9581356fe53fbfd76e26e615a935428645df940fda34bccc6b897ec1fc9"), looks := true }, kinds := [], alts := [], laidByText := true, laidKinds := [.handle], laidTests := true, laidLooks := .later }
def FeasTellsCardSaid : Prop := Claim7.holds Tryd.pinned (.plain (OpenSpec.ofChange feasTellsSpec)) feasTellsCard

/-- THE TIED CARD OF 'consignlaw09.FeasOdd'. -/
def feasOddCard : Claim7 := { stood := { row := feasOddRow, standIns := [], harness := (true, "bda2c9581356fe53fbfd76e26e615a935428645df940fda34bccc6b897ec1fc9"), looks := true }, kinds := [], alts := [], laidByText := true, laidKinds := [.handle], laidTests := true, laidLooks := .later }
def FeasOddCardSaid : Prop := Claim7.holds Tryd.pinned (.plain (OpenSpec.ofChange feasOddSpec)) feasOddCard

/-- THE TIED CARD OF 'consignlaw09.FeasSome'. -/
def feasSomeCard : Claim7 := { stood := { row := feasSomeRow, standIns := [], harness := (true, "bda2c9581356fe53fbfd76e26e615a935428645df940fda34bccc6b897ec1fc9"), looks := true }, kinds := [], alts := [], laidByText := true, laidKinds := [.handle], laidTests := true, laidLooks := .later }
def FeasSomeCardSaid : Prop := Claim7.holds Tryd.pinned (.plain (OpenSpec.ofChange feasSomeSpec)) feasSomeCard

/-- THE TIED CARD OF 'consignlaw09.FeasAgrees'. -/
def feasAgreesCard : Claim7 := { stood := { row := feasAgreesRow, standIns := [], harness := (true, "bda2c9581356fe53fbfd76e26e615a935428645df940fda34bccc6b897ec1fc9"), looks := true }, kinds := [], alts := [], laidByText := true, laidKinds := [.handle, .data], laidTests := true, laidLooks := .later }
def FeasAgreesCardSaid : Prop := Claim7.holds Tryd.pinned (.plain (OpenSpec.ofChange feasAgreesSpec)) feasAgreesCard

/-- THE TIED CARD OF 'consignlaw09.FeasMore'. -/
def feasMoreCard : Claim7 := { stood := { row := feasMoreRow, standIns := [], harness := (true, "bda2c9581356fe53fbfd76e26e615a935428645df940fda34bccc6b897ec1fc9"), looks := true }, kinds := [], alts := [], laidByText := true, laidKinds := [.handle], laidTests := true, laidLooks := .later }
def FeasMoreCardSaid : Prop := Claim7.holds Tryd.pinned (.plain (OpenSpec.ofChange feasMoreSpec)) feasMoreCard

/-- THE TIED CARD OF 'consignlaw09.FeasLess'. -/
def feasLessCard : Claim7 := { stood := { row := feasLessRow, standIns := [], harness := (true, "bda2c9581356fe53fbfd76e26e615a935428645df940fda34bccc6b897ec1fc9"), looks := true }, kinds := [], alts := [], laidByText := true, laidKinds := [.handle], laidTests := true, laidLooks := .later }
def FeasLessCardSaid : Prop := Claim7.holds Tryd.pinned (.plain (OpenSpec.ofChange feasLessSpec)) feasLessCard

/-- THE TIED CARD OF 'consignlaw09.FeasMoved'. -/
def feasMovedCard : Claim7 := { stood := { row := feasMovedRow, standIns := [], harness := (true, "bda2c9581356fe53fbfd76e26e615a935428645df940fda34bccc6b897ec1fc9"), looks := true }, kinds := [], alts := [], laidByText := true, laidKinds := [.handle], laidTests := true, laidLooks := .later }
def FeasMovedCardSaid : Prop := Claim7.holds Tryd.pinned (.plain (OpenSpec.ofChange feasMovedSpec)) feasMovedCard

/-- THE TIED CARD OF 'consignlaw09.FeasKnown'. -/
def feasKnownCard : Claim7 := { stood := { row := feasKnownRow, standIns := [], harness := (true, "bda2c9581356fe53fbfd76e26e615a935428645df940fda34bccc6b897ec1fc9"), looks := true }, kinds := [], alts := [], laidByText := true, laidKinds := [.handle], laidTests := true, laidLooks := .later }
def FeasKnownCardSaid : Prop := Claim7.holds Tryd.pinned (.plain (OpenSpec.ofChange feasKnownSpec)) feasKnownCard

/-- THE SECOND FORM's CARD OF 'consignlaw09.FeasTells'. -/
def feasTellsUptoCard : Claim7 := { stood := { row := feasTellsUptoRow, standIns := [], harness := (true, "bda2c9581356fe53fbfd76e26e615a935428645df940fda34bccc6b897ec1fc9"), looks := true }, kinds := [], alts := [], laidByText := true, laidKinds := [.handle], laidTests := true, laidLooks := .later }
def FeasTellsUptoCardSaid : Prop := Claim7.holds Tryd.pinned (.plain (OpenSpec.upto feasTellsSpec)) feasTellsUptoCard

/-- THE SECOND FORM's CARD OF 'consignlaw09.FeasOdd'. -/
def feasOddUptoCard : Claim7 := { stood := { row := feasOddUptoRow, standIns := [], harness := (true, "bda2c9581356fe53fbfd76e26e615a935428645df940fda34bccc6b897ec1fc9"), looks := true }, kinds := [], alts := [], laidByText := true, laidKinds := [.handle], laidTests := true, laidLooks := .later }
def FeasOddUptoCardSaid : Prop := Claim7.holds Tryd.pinned (.plain (OpenSpec.upto feasOddSpec)) feasOddUptoCard

/-- THE SECOND FORM's CARD OF 'consignlaw09.FeasSome'. -/
def feasSomeUptoCard : Claim7 := { stood := { row := feasSomeUptoRow, standIns := [], harness := (true, "bda2c9581356fe53fbfd76e26e615a935428645df940fda34bccc6b897ec1fc9"), looks := true }, kinds := [], alts := [], laidByText := true, laidKinds := [.handle], laidTests := true, laidLooks := .later }
def FeasSomeUptoCardSaid : Prop := Claim7.holds Tryd.pinned (.plain (OpenSpec.upto feasSomeSpec)) feasSomeUptoCard

/-- THE SECOND FORM's CARD OF 'consignlaw09.FeasAgrees'. -/
def feasAgreesUptoCard : Claim7 := { stood := { row := feasAgreesUptoRow, standIns := [], harness := (true, "bda2c9581356fe53fbfd76e26e615a935428645df940fda34bccc6b897ec1fc9"), looks := true }, kinds := [], alts := [], laidByText := true, laidKinds := [.handle, .data], laidTests := true, laidLooks := .later }
def FeasAgreesUptoCardSaid : Prop := Claim7.holds Tryd.pinned (.plain (OpenSpec.upto feasAgreesSpec)) feasAgreesUptoCard

/-- THE SECOND FORM's CARD OF 'consignlaw09.FeasMore'. -/
def feasMoreUptoCard : Claim7 := { stood := { row := feasMoreUptoRow, standIns := [], harness := (true, "bda2c9581356fe53fbfd76e26e615a935428645df940fda34bccc6b897ec1fc9"), looks := true }, kinds := [], alts := [], laidByText := true, laidKinds := [.handle], laidTests := true, laidLooks := .later }
def FeasMoreUptoCardSaid : Prop := Claim7.holds Tryd.pinned (.plain (OpenSpec.upto feasMoreSpec)) feasMoreUptoCard

/-- THE SECOND FORM's CARD OF 'consignlaw09.FeasLess'. -/
def feasLessUptoCard : Claim7 := { stood := { row := feasLessUptoRow, standIns := [], harness := (true, "bda2c9581356fe53fbfd76e26e615a935428645df940fda34bccc6b897ec1fc9"), looks := true }, kinds := [], alts := [], laidByText := true, laidKinds := [.handle], laidTests := true, laidLooks := .later }
def FeasLessUptoCardSaid : Prop := Claim7.holds Tryd.pinned (.plain (OpenSpec.upto feasLessSpec)) feasLessUptoCard

/-- THE SECOND FORM's CARD OF 'consignlaw09.FeasMoved'. -/
def feasMovedUptoCard : Claim7 := { stood := { row := feasMovedUptoRow, standIns := [], harness := (true, "bda2c9581356fe53fbfd76e26e615a935428645df940fda34bccc6b897ec1fc9"), looks := true }, kinds := [], alts := [], laidByText := true, laidKinds := [.handle], laidTests := true, laidLooks := .later }
def FeasMovedUptoCardSaid : Prop := Claim7.holds Tryd.pinned (.plain (OpenSpec.upto feasMovedSpec)) feasMovedUptoCard

/-- THE SECOND FORM's CARD OF 'consignlaw09.FeasKnown'. -/
def feasKnownUptoCard : Claim7 := { stood := { row := feasKnownUptoRow, standIns := [], harness := (true, "bda2c9581356fe53fbfd76e26e615a935428645df940fda34bccc6b897ec1fc9"), looks := true }, kinds := [], alts := [], laidByText := true, laidKinds := [.handle], laidTests := true, laidLooks := .later }
def FeasKnownUptoCardSaid : Prop := Claim7.holds Tryd.pinned (.plain (OpenSpec.upto feasKnownSpec)) feasKnownUptoCard
end Rows
end Go.Proofs.YteefkijmodcijaaDoor
