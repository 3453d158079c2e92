/-
  DERIVED. GIVEN WITH THE SEED: THE CARDS: each row of YthjdacbgcpldjaaDoorRows.lean that lists a variable, with what it lists TIED to the program's text (the seventh form; the later family's looks); each row that meets fmt, with fmt's text TOLD by the authors' own Lean function (tested against real Go, not proved from fmt's source: count such statements apart). THE CARD IS WHAT COUNTS. Prove the row's statement (the work); the ties are given (YthjdacbgcpldjaaDoorTie.lean); close each card by the builder's one call (the guide's Derived/Test/ToyasCard.lean, 'card_holds'). Laid BY PROGRAM, IN A SANDBOX (cutbox-door.mjs). By AI agents, Wed Nov 11 2026. No macro, syntax, notation, axiom, sorry.
-/
import Derived.Test.YthjdacbgcpldjaaDoorRows
import GoSem.ClaimSeven
namespace Go.Proofs.YthjdacbgcpldjaaDoor
namespace Rows

/-- THE TIED CARD OF 'consignlaw11.InsertTells'. -/
def insertTellsCard : Claim7 := { stood := { row := insertTellsRow, standIns := [], harness := (true, "dca3abdf66be07088c0781a6a398024b4bbc5edc5f89c4576e263e6a660c2fed"), looks := false }, kinds := [], alts := [], laidByText := true, laidKinds := [.data], laidTests := true, laidLooks := .later }
def InsertTellsCardSaid : Prop := Claim7.holds Tryd.pinned (.plain (OpenSpec.ofChange insertTellsSpec)) insertTellsCard

/-- THE TIED CARD OF 'consignlaw11.InsertOdd'. -/
def insertOddCard : Claim7 := { stood := { row := insertOddRow, standIns := [], harness := (true, "dca3abdf66be07088c0781a6a398024b4bbc5edc5f89c4576e263e6a660c2fed"), looks := false }, kinds := [], alts := [], laidByText := true, laidKinds := [.data], laidTests := true, laidLooks := .later }
def InsertOddCardSaid : Prop := Claim7.holds Tryd.pinned (.plain (OpenSpec.ofChange insertOddSpec)) insertOddCard

/-- THE TIED CARD OF 'consignlaw11.InsertPlaces'. -/
def insertPlacesCard : Claim7 := { stood := { row := insertPlacesRow, standIns := [], harness := (true, "dca3abdf66be07088c0781a6a398024b4bbc5edc5f89c4576e263e6a660c2fed"), looks := false }, kinds := [], alts := [], laidByText := true, laidKinds := [.data], laidTests := true, laidLooks := .later }
def InsertPlacesCardSaid : Prop := Claim7.holds Tryd.pinned (.plain (OpenSpec.ofChange insertPlacesSpec)) insertPlacesCard

/-- THE TIED CARD OF 'consignlaw11.InsertRight'. -/
def insertRightCard : Claim7 := { stood := { row := insertRightRow, standIns := [], harness := (true, "dca3abdf66be07088c0781a6a398024b4bbc5edc5f89c4576e263e6a660c2fed"), looks := false }, kinds := [], alts := [], laidByText := true, laidKinds := [.data], laidTests := true, laidLooks := .later }
def InsertRightCardSaid : Prop := Claim7.holds Tryd.pinned (.plain (OpenSpec.ofChange insertRightSpec)) insertRightCard

/-- THE TIED CARD OF 'consignlaw11.InsertOpen'. -/
def insertOpenCard : Claim7 := { stood := { row := insertOpenRow, standIns := [], harness := (true, "dca3abdf66be07088c0781a6a398024b4bbc5edc5f89c4576e263e6a660c2fed"), looks := false }, kinds := [], alts := [], laidByText := true, laidKinds := [.data], laidTests := true, laidLooks := .later }
def InsertOpenCardSaid : Prop := Claim7.holds Tryd.pinned (.plain (OpenSpec.ofChange insertOpenSpec)) insertOpenCard

/-- THE TIED CARD OF 'consignlaw11.InsertSums'. -/
def insertSumsCard : Claim7 := { stood := { row := insertSumsRow, standIns := [], harness := (true, "dca3abdf66be07088c0781a6a398024b4bbc5edc5f89c4576e263e6a660c2fed"), looks := false }, kinds := [], alts := [], laidByText := true, laidKinds := [.data], laidTests := true, laidLooks := .later }
def InsertSumsCardSaid : Prop := Claim7.holds Tryd.pinned (.plain (OpenSpec.ofChange insertSumsSpec)) insertSumsCard

/-- THE TIED CARD OF 'consignlaw11.InsertKnown'. -/
def insertKnownCard : Claim7 := { stood := { row := insertKnownRow, standIns := [], harness := (true, "dca3abdf66be07088c0781a6a398024b4bbc5edc5f89c4576e263e6a660c2fed"), looks := false }, kinds := [], alts := [], laidByText := true, laidKinds := [.data], laidTests := true, laidLooks := .later }
def InsertKnownCardSaid : Prop := Claim7.holds Tryd.pinned (.plain (OpenSpec.ofChange insertKnownSpec)) insertKnownCard

/-- THE SECOND FORM's CARD OF 'consignlaw11.InsertTells'. -/
def insertTellsUptoCard : Claim7 := { stood := { row := insertTellsUptoRow, standIns := [], harness := (true, "dca3abdf66be07088c0781a6a398024b4bbc5edc5f89c4576e263e6a660c2fed"), looks := false }, kinds := [], alts := [], laidByText := true, laidKinds := [.data], laidTests := true, laidLooks := .later }
def InsertTellsUptoCardSaid : Prop := Claim7.holds Tryd.pinned (.plain (OpenSpec.upto insertTellsSpec)) insertTellsUptoCard

/-- THE SECOND FORM's CARD OF 'consignlaw11.InsertOdd'. -/
def insertOddUptoCard : Claim7 := { stood := { row := insertOddUptoRow, standIns := [], harness := (true, "dca3abdf66be07088c0781a6a398024b4bbc5edc5f89c4576e263e6a660c2fed"), looks := false }, kinds := [], alts := [], laidByText := true, laidKinds := [.data], laidTests := true, laidLooks := .later }
def InsertOddUptoCardSaid : Prop := Claim7.holds Tryd.pinned (.plain (OpenSpec.upto insertOddSpec)) insertOddUptoCard

/-- THE SECOND FORM's CARD OF 'consignlaw11.InsertPlaces'. -/
def insertPlacesUptoCard : Claim7 := { stood := { row := insertPlacesUptoRow, standIns := [], harness := (true, "dca3abdf66be07088c0781a6a398024b4bbc5edc5f89c4576e263e6a660c2fed"), looks := false }, kinds := [], alts := [], laidByText := true, laidKinds := [.data], laidTests := true, laidLooks := .later }
def InsertPlacesUptoCardSaid : Prop := Claim7.holds Tryd.pinned (.plain (OpenSpec.upto insertPlacesSpec)) insertPlacesUptoCard

/-- THE SECOND FORM's CARD OF 'consignlaw11.InsertRight'. -/
def insertRightUptoCard : Claim7 := { stood := { row := insertRightUptoRow, standIns := [], harness := (true, "dca3abdf66be07088c0781a6a398024b4bbc5edc5f89c4576e263e6a660c2fed"), looks := false }, kinds := [], alts := [], laidByText := true, laidKinds := [.data], laidTests := true, laidLooks := .later }
def InsertRightUptoCardSaid : Prop := Claim7.holds Tryd.pinned (.plain (OpenSpec.upto insertRightSpec)) insertRightUptoCard

/-- THE SECOND FORM's CARD OF 'consignlaw11.InsertOpen'. -/
def insertOpenUptoCard : Claim7 := { stood := { row := insertOpenUptoRow, standIns := [], harness := (true, "dca3abdf66be07088c0781a6a398024b4bbc5edc5f89c4576e263e6a660c2fed"), looks := false }, kinds := [], alts := [], laidByText := true, laidKinds := [.data], laidTests := true, laidLooks := .later }
def InsertOpenUptoCardSaid : Prop := Claim7.holds Tryd.pinned (.plain (OpenSpec.upto insertOpenSpec)) insertOpenUptoCard

/-- THE SECOND FORM's CARD OF 'consignlaw11.InsertSums'. -/
def insertSumsUptoCard : Claim7 := { stood := { row := insertSumsUptoRow, standIns := [], harness := (true, "dca3abdf66be07088c0781a6a398024b4bbc5edc5f89c4576e263e6a660c2fed"), looks := false }, kinds := [], alts := [], laidByText := true, laidKinds := [.data], laidTests := true, laidLooks := .later }
def InsertSumsUptoCardSaid : Prop := Claim7.holds Tryd.pinned (.plain (OpenSpec.upto insertSumsSpec)) insertSumsUptoCard

/-- THE SECOND FORM's CARD OF 'consignlaw11.InsertKnown'. -/
def insertKnownUptoCard : Claim7 := { stood := { row := insertKnownUptoRow, standIns := [], harness := (true, "dca3abdf66be07088c0781a6a398024b4bbc5edc5f89c4576e263e6a660c2fed"), looks := false }, kinds := [], alts := [], laidByText := true, laidKinds := [.data], laidTests := true, laidLooks := .later }
def InsertKnownUptoCardSaid : Prop := Claim7.holds Tryd.pinned (.plain (OpenSpec.upto insertKnownSpec)) insertKnownUptoCard
end Rows
end Go.Proofs.YthjdacbgcpldjaaDoor
