/-
  DERIVED. GIVEN WITH THE SEED: THE CARDS: each row of YteclpblfleakhaaGreatDoorRows.lean that lists a variable, with what it lists TIED to the program's text (the seventh form; the later family's looks); each row that meets fmt, with fmt's text TOLD by the authors' own Lean function (tested against real Go, not proved from fmt's source: count such statements apart). THE CARD IS WHAT COUNTS. Prove the row's statement (the work); the ties are given (YteclpblfleakhaaGreatDoorTie.lean); close each card by the builder's one call (the guide's Derived/Test/ToyasCard.lean, 'card_holds'). Laid BY PROGRAM, IN A SANDBOX (cutbox-door.mjs). By AI agents, Wed Nov 11 2026. No macro, syntax, notation, axiom, sorry.
-/
import Derived.Test.YteclpblfleakhaaGreatDoorRows
import GoSem.ClaimSeven
namespace Go.Proofs.YteclpblfleakhaaGreatDoor
namespace Rows

/-- THE TIED CARD OF 'consignlaw14.PriceTells'. -/
def priceTellsCard : Claim7 := { stood := { row := priceTellsRow, standIns := [], harness := (true, "6cc6d720fdb0347ce8fdc63e5f08b6c919ec5a82abf33398c69b0ef9e3aa89d5"), looks := false }, kinds := [], alts := [], laidByText := true, laidKinds := [.data, .data, .data], laidTests := true, laidLooks := .later }
def PriceTellsCardSaid : Prop := Claim7.holds Tryz.pinned (.plain (OpenSpec.ofChange priceTellsSpec)) priceTellsCard

/-- THE TIED CARD OF 'consignlaw14.PriceBids'. -/
def priceBidsCard : Claim7 := { stood := { row := priceBidsRow, standIns := [], harness := (true, "6cc6d720fdb0347ce8fdc63e5f08b6c919ec5a82abf33398c69b0ef9e3aa89d5"), looks := false }, kinds := [], alts := [], laidByText := true, laidKinds := [.data, .data, .data], laidTests := true, laidLooks := .later }
def PriceBidsCardSaid : Prop := Claim7.holds Tryz.pinned (.plain (OpenSpec.ofChange priceBidsSpec)) priceBidsCard

/-- THE SECOND FORM's CARD OF 'consignlaw14.PriceTells'. -/
def priceTellsUptoCard : Claim7 := { stood := { row := priceTellsUptoRow, standIns := [], harness := (true, "6cc6d720fdb0347ce8fdc63e5f08b6c919ec5a82abf33398c69b0ef9e3aa89d5"), looks := false }, kinds := [], alts := [], laidByText := true, laidKinds := [.data, .data, .data], laidTests := true, laidLooks := .later }
def PriceTellsUptoCardSaid : Prop := Claim7.holds Tryz.pinned (.plain (OpenSpec.upto priceTellsSpec)) priceTellsUptoCard

/-- THE SECOND FORM's CARD OF 'consignlaw14.PriceBids'. -/
def priceBidsUptoCard : Claim7 := { stood := { row := priceBidsUptoRow, standIns := [], harness := (true, "6cc6d720fdb0347ce8fdc63e5f08b6c919ec5a82abf33398c69b0ef9e3aa89d5"), looks := false }, kinds := [], alts := [], laidByText := true, laidKinds := [.data, .data, .data], laidTests := true, laidLooks := .later }
def PriceBidsUptoCardSaid : Prop := Claim7.holds Tryz.pinned (.plain (OpenSpec.upto priceBidsSpec)) priceBidsUptoCard
end Rows
end Go.Proofs.YteclpblfleakhaaGreatDoor
