/-
  DERIVED. GIVEN WITH THE SEED: THE CARDS: each row of YtphfjaelglafnaaDoorRows.lean that lists a variable, with what it lists TIED to the program's text (the seventh form; the later family's looks); each row that meets fmt, with fmt's text TOLD by the authors' own Lean function (tested against real Go, not proved from fmt's source: count such statements apart). THE CARD IS WHAT COUNTS. Prove the row's statement (the work); the ties are given (YtphfjaelglafnaaDoorTie.lean); close each card by the builder's one call (the guide's Derived/Test/ToyasCard.lean, 'card_holds'). Laid BY PROGRAM, IN A SANDBOX (cutbox-door.mjs). By AI agents, Wed Nov 11 2026. No macro, syntax, notation, axiom, sorry.
-/
import Derived.Test.YtphfjaelglafnaaDoorRows
import GoSem.ClaimSeven
namespace Go.Proofs.YtphfjaelglafnaaDoor
namespace Rows

/-- THE TIED CARD OF 'consignlaw08.LoadTells'. -/
def loadTellsCard : Claim7 := { stood := { row := loadTellsRow, standIns := [], harness := (true, "edc9f3551fa6d8926e667064b65d5ef48c20f937322d4a0e1ca8a27f956d0a70"), looks := false }, kinds := [], alts := [], laidByText := true, laidKinds := [.data], laidTests := true, laidLooks := .later }
def LoadTellsCardSaid : Prop := Claim7.holds Tryd.pinned (.plain (OpenSpec.ofChange loadTellsSpec)) loadTellsCard

/-- THE TIED CARD OF 'consignlaw08.LoadFlows'. -/
def loadFlowsCard : Claim7 := { stood := { row := loadFlowsRow, standIns := [], harness := (true, "edc9f3551fa6d8926e667064b65d5ef48c20f937322d4a0e1ca8a27f956d0a70"), looks := false }, kinds := [], alts := [], laidByText := true, laidKinds := [.data], laidTests := true, laidLooks := .later }
def LoadFlowsCardSaid : Prop := Claim7.holds Tryd.pinned (.plain (OpenSpec.ofChange loadFlowsSpec)) loadFlowsCard

/-- THE TIED CARD OF 'consignlaw08.LoadLess'. -/
def loadLessCard : Claim7 := { stood := { row := loadLessRow, standIns := [], harness := (true, "edc9f3551fa6d8926e667064b65d5ef48c20f937322d4a0e1ca8a27f956d0a70"), looks := false }, kinds := [], alts := [], laidByText := true, laidKinds := [.data], laidTests := true, laidLooks := .later }
def LoadLessCardSaid : Prop := Claim7.holds Tryd.pinned (.plain (OpenSpec.ofChange loadLessSpec)) loadLessCard

/-- THE TIED CARD OF 'consignlaw08.LoadKnown'. -/
def loadKnownCard : Claim7 := { stood := { row := loadKnownRow, standIns := [], harness := (true, "edc9f3551fa6d8926e667064b65d5ef48c20f937322d4a0e1ca8a27f956d0a70"), looks := false }, kinds := [], alts := [], laidByText := true, laidKinds := [.data], laidTests := true, laidLooks := .later }
def LoadKnownCardSaid : Prop := Claim7.holds Tryd.pinned (.plain (OpenSpec.ofChange loadKnownSpec)) loadKnownCard

/-- THE SECOND FORM's CARD OF 'consignlaw08.LoadTells'. -/
def loadTellsUptoCard : Claim7 := { stood := { row := loadTellsUptoRow, standIns := [], harness := (true, "edc9f3551fa6d8926e667064b65d5ef48c20f937322d4a0e1ca8a27f956d0a70"), looks := false }, kinds := [], alts := [], laidByText := true, laidKinds := [.data], laidTests := true, laidLooks := .later }
def LoadTellsUptoCardSaid : Prop := Claim7.holds Tryd.pinned (.plain (OpenSpec.upto loadTellsSpec)) loadTellsUptoCard

/-- THE SECOND FORM's CARD OF 'consignlaw08.LoadFlows'. -/
def loadFlowsUptoCard : Claim7 := { stood := { row := loadFlowsUptoRow, standIns := [], harness := (true, "edc9f3551fa6d8926e667064b65d5ef48c20f937322d4a0e1ca8a27f956d0a70"), looks := false }, kinds := [], alts := [], laidByText := true, laidKinds := [.data], laidTests := true, laidLooks := .later }
def LoadFlowsUptoCardSaid : Prop := Claim7.holds Tryd.pinned (.plain (OpenSpec.upto loadFlowsSpec)) loadFlowsUptoCard

/-- THE SECOND FORM's CARD OF 'consignlaw08.LoadLess'. -/
def loadLessUptoCard : Claim7 := { stood := { row := loadLessUptoRow, standIns := [], harness := (true, "edc9f3551fa6d8926e667064b65d5ef48c20f937322d4a0e1ca8a27f956d0a70"), looks := false }, kinds := [], alts := [], laidByText := true, laidKinds := [.data], laidTests := true, laidLooks := .later }
def LoadLessUptoCardSaid : Prop := Claim7.holds Tryd.pinned (.plain (OpenSpec.upto loadLessSpec)) loadLessUptoCard

/-- THE SECOND FORM's CARD OF 'consignlaw08.LoadKnown'. -/
def loadKnownUptoCard : Claim7 := { stood := { row := loadKnownUptoRow, standIns := [], harness := (true, "edc9f3551fa6d8926e667064b65d5ef48c20f937322d4a0e1ca8a27f956d0a70"), looks := false }, kinds := [], alts := [], laidByText := true, laidKinds := [.data], laidTests := true, laidLooks := .later }
def LoadKnownUptoCardSaid : Prop := Claim7.holds Tryd.pinned (.plain (OpenSpec.upto loadKnownSpec)) loadKnownUptoCard
end Rows
end Go.Proofs.YtphfjaelglafnaaDoor
