/-
  DERIVED. GIVEN WITH THE SEED: THE CARDS: each row of YtlbghdiebjldjaaGreatDoorRows.lean that lists a variable, with what it lists TIED to the program's text (the seventh form; the later family's looks); each row that meets fmt, with fmt's text TOLD by the authors' own Lean function (tested against real Go, not proved from fmt's source: count such statements apart). THE CARD IS WHAT COUNTS. Prove the row's statement (the work); the ties are given (YtlbghdiebjldjaaGreatDoorTie.lean); close each card by the builder's one call (the guide's Derived/Test/ToyasCard.lean, 'card_holds'). Laid BY PROGRAM, IN A SANDBOX (cutbox-door.mjs). By AI agents, Wed Nov 11 2026. No macro, syntax, notation, axiom, sorry.
-/
import Derived.Test.YtlbghdiebjldjaaGreatDoorRows
import GoSem.ClaimSeven
namespace Go.Proofs.YtlbghdiebjldjaaGreatDoor
namespace Rows

/-- THE TIED CARD OF 'consignlaw13.PlanTells'. -/
def planTellsCard : Claim7 := { stood := { row := planTellsRow, standIns := [], harness := (true, "e668552edf091549f3a33a44068f668d0797b8d5ae29daa3679ffd99e7045ff1"), looks := true }, kinds := [], alts := [], laidByText := true, laidKinds := [.data, .data], laidTests := true, laidLooks := .later }
def PlanTellsCardSaid : Prop := Claim7.holds Tryz.pinned (.plain (OpenSpec.ofChange planTellsSpec)) planTellsCard

/-- THE TIED CARD OF 'consignlaw13.PlanNew'. -/
def planNewCard : Claim7 := { stood := { row := planNewRow, standIns := [], harness := (true, "e668552edf091549f3a33a44068f668d0797b8d5ae29daa3679ffd99e7045ff1"), looks := true }, kinds := [], alts := [], laidByText := true, laidKinds := [.data, .data], laidTests := true, laidLooks := .later }
def PlanNewCardSaid : Prop := Claim7.holds Tryz.pinned (.plain (OpenSpec.ofChange planNewSpec)) planNewCard

/-- THE TIED CARD OF 'consignlaw13.PlanRight'. -/
def planRightCard : Claim7 := { stood := { row := planRightRow, standIns := [], harness := (true, "e668552edf091549f3a33a44068f668d0797b8d5ae29daa3679ffd99e7045ff1"), looks := true }, kinds := [], alts := [], laidByText := true, laidKinds := [.data, .data], laidTests := true, laidLooks := .later }
def PlanRightCardSaid : Prop := Claim7.holds Tryz.pinned (.plain (OpenSpec.ofChange planRightSpec)) planRightCard

/-- THE TIED CARD OF 'consignlaw13.PlanLeast'. -/
def planLeastCard : Claim7 := { stood := { row := planLeastRow, standIns := [], harness := (true, "e668552edf091549f3a33a44068f668d0797b8d5ae29daa3679ffd99e7045ff1"), looks := true }, kinds := [], alts := [], laidByText := true, laidKinds := [.data, .data], laidTests := true, laidLooks := .later }
def PlanLeastCardSaid : Prop := Claim7.holds Tryz.pinned (.plain (OpenSpec.ofChange planLeastSpec)) planLeastCard

/-- THE TIED CARD OF 'consignlaw13.PlanUndo'. -/
def planUndoCard : Claim7 := { stood := { row := planUndoRow, standIns := [], harness := (true, "e668552edf091549f3a33a44068f668d0797b8d5ae29daa3679ffd99e7045ff1"), looks := true }, kinds := [], alts := [], laidByText := true, laidKinds := [.data, .data], laidTests := true, laidLooks := .later }
def PlanUndoCardSaid : Prop := Claim7.holds Tryz.pinned (.plain (OpenSpec.ofChange planUndoSpec)) planUndoCard

/-- THE TIED CARD OF 'consignlaw13.PlanOwn'. -/
def planOwnCard : Claim7 := { stood := { row := planOwnRow, standIns := [], harness := (true, "e668552edf091549f3a33a44068f668d0797b8d5ae29daa3679ffd99e7045ff1"), looks := true }, kinds := [], alts := [], laidByText := true, laidKinds := [.data, .data], laidTests := true, laidLooks := .later }
def PlanOwnCardSaid : Prop := Claim7.holds Tryz.pinned (.plain (OpenSpec.ofChange planOwnSpec)) planOwnCard

/-- THE TIED CARD OF 'consignlaw13.PlanKnown'. -/
def planKnownCard : Claim7 := { stood := { row := planKnownRow, standIns := [], harness := (true, "e668552edf091549f3a33a44068f668d0797b8d5ae29daa3679ffd99e7045ff1"), looks := true }, kinds := [], alts := [], laidByText := true, laidKinds := [.data, .data], laidTests := true, laidLooks := .later }
def PlanKnownCardSaid : Prop := Claim7.holds Tryz.pinned (.plain (OpenSpec.ofChange planKnownSpec)) planKnownCard

/-- THE SECOND FORM's CARD OF 'consignlaw13.PlanTells'. -/
def planTellsUptoCard : Claim7 := { stood := { row := planTellsUptoRow, standIns := [], harness := (true, "e668552edf091549f3a33a44068f668d0797b8d5ae29daa3679ffd99e7045ff1"), looks := true }, kinds := [], alts := [], laidByText := true, laidKinds := [.data, .data], laidTests := true, laidLooks := .later }
def PlanTellsUptoCardSaid : Prop := Claim7.holds Tryz.pinned (.plain (OpenSpec.upto planTellsSpec)) planTellsUptoCard

/-- THE SECOND FORM's CARD OF 'consignlaw13.PlanNew'. -/
def planNewUptoCard : Claim7 := { stood := { row := planNewUptoRow, standIns := [], harness := (true, "e668552edf091549f3a33a44068f668d0797b8d5ae29daa3679ffd99e7045ff1"), looks := true }, kinds := [], alts := [], laidByText := true, laidKinds := [.data, .data], laidTests := true, laidLooks := .later }
def PlanNewUptoCardSaid : Prop := Claim7.holds Tryz.pinned (.plain (OpenSpec.upto planNewSpec)) planNewUptoCard

/-- THE SECOND FORM's CARD OF 'consignlaw13.PlanRight'. -/
def planRightUptoCard : Claim7 := { stood := { row := planRightUptoRow, standIns := [], harness := (true, "e668552edf091549f3a33a44068f668d0797b8d5ae29daa3679ffd99e7045ff1"), looks := true }, kinds := [], alts := [], laidByText := true, laidKinds := [.data, .data], laidTests := true, laidLooks := .later }
def PlanRightUptoCardSaid : Prop := Claim7.holds Tryz.pinned (.plain (OpenSpec.upto planRightSpec)) planRightUptoCard

/-- THE SECOND FORM's CARD OF 'consignlaw13.PlanLeast'. -/
def planLeastUptoCard : Claim7 := { stood := { row := planLeastUptoRow, standIns := [], harness := (true, "e668552edf091549f3a33a44068f668d0797b8d5ae29daa3679ffd99e7045ff1"), looks := true }, kinds := [], alts := [], laidByText := true, laidKinds := [.data, .data], laidTests := true, laidLooks := .later }
def PlanLeastUptoCardSaid : Prop := Claim7.holds Tryz.pinned (.plain (OpenSpec.upto planLeastSpec)) planLeastUptoCard

/-- THE SECOND FORM's CARD OF 'consignlaw13.PlanUndo'. -/
def planUndoUptoCard : Claim7 := { stood := { row := planUndoUptoRow, standIns := [], harness := (true, "e668552edf091549f3a33a44068f668d0797b8d5ae29daa3679ffd99e7045ff1"), looks := true }, kinds := [], alts := [], laidByText := true, laidKinds := [.data, .data], laidTests := true, laidLooks := .later }
def PlanUndoUptoCardSaid : Prop := Claim7.holds Tryz.pinned (.plain (OpenSpec.upto planUndoSpec)) planUndoUptoCard

/-- THE SECOND FORM's CARD OF 'consignlaw13.PlanOwn'. -/
def planOwnUptoCard : Claim7 := { stood := { row := planOwnUptoRow, standIns := [], harness := (true, "e668552edf091549f3a33a44068f668d0797b8d5ae29daa3679ffd99e7045ff1"), looks := true }, kinds := [], alts := [], laidByText := true, laidKinds := [.data, .data], laidTests := true, laidLooks := .later }
def PlanOwnUptoCardSaid : Prop := Claim7.holds Tryz.pinned (.plain (OpenSpec.upto planOwnSpec)) planOwnUptoCard

/-- THE SECOND FORM's CARD OF 'consignlaw13.PlanKnown'. -/
def planKnownUptoCard : Claim7 := { stood := { row := planKnownUptoRow, standIns := [], harness := (true, "e668552edf091549f3a33a44068f668d0797b8d5ae29daa3679ffd99e7045ff1"), looks := true }, kinds := [], alts := [], laidByText := true, laidKinds := [.data, .data], laidTests := true, laidLooks := .later }
def PlanKnownUptoCardSaid : Prop := Claim7.holds Tryz.pinned (.plain (OpenSpec.upto planKnownSpec)) planKnownUptoCard
end Rows
end Go.Proofs.YtlbghdiebjldjaaGreatDoor
