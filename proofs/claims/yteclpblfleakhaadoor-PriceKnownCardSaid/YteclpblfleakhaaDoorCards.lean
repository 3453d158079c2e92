/-
  DERIVED. GIVEN WITH THE SEED: THE CARDS: each row of YteclpblfleakhaaDoorRows.lean that lists a variable, with what it lists TIED to the program's text (the seventh form; the later family's looks); each row that meets fmt, with fmt's text TOLD by the authors' own Lean function (tested against real Go, not proved from fmt's source: count such statements apart). THE CARD IS WHAT COUNTS. Prove the row's statement (the work); the ties are given (YteclpblfleakhaaDoorTie.lean); close each card by the builder's one call (the guide's Derived/Test/ToyasCard.lean, 'card_holds'). Laid BY PROGRAM, IN A SANDBOX (cutbox-door.mjs). By AI agents, Wed Nov 11 2026. No macro, syntax, notation, axiom, sorry.
-/
import Derived.Test.YteclpblfleakhaaDoorRows
import GoSem.ClaimSeven
namespace Go.Proofs.YteclpblfleakhaaDoor
namespace Rows

/-- THE TIED CARD OF 'consignlaw14.PriceLeast'. -/
def priceLeastCard : Claim7 := { stood := { row := priceLeastRow, standIns := [], harness := (true, "1ca01e46e6a1680efaf2cd5a721b3d3d0c579c25cc0efc216c20249d2f05a4d0"), looks := false }, kinds := [], alts := [], laidByText := true, laidKinds := [.data, .data, .data], laidTests := true, laidLooks := .later }
def PriceLeastCardSaid : Prop := Claim7.holds Tryd.pinned (.plain (OpenSpec.ofChange priceLeastSpec)) priceLeastCard

/-- THE TIED CARD OF 'consignlaw14.PricePlace'. -/
def pricePlaceCard : Claim7 := { stood := { row := pricePlaceRow, standIns := [], harness := (true, "1ca01e46e6a1680efaf2cd5a721b3d3d0c579c25cc0efc216c20249d2f05a4d0"), looks := false }, kinds := [], alts := [], laidByText := true, laidKinds := [.data, .data, .data], laidTests := true, laidLooks := .later }
def PricePlaceCardSaid : Prop := Claim7.holds Tryd.pinned (.plain (OpenSpec.ofChange pricePlaceSpec)) pricePlaceCard

/-- THE TIED CARD OF 'consignlaw14.PriceMore'. -/
def priceMoreCard : Claim7 := { stood := { row := priceMoreRow, standIns := [], harness := (true, "1ca01e46e6a1680efaf2cd5a721b3d3d0c579c25cc0efc216c20249d2f05a4d0"), looks := false }, kinds := [], alts := [], laidByText := true, laidKinds := [.data, .data, .data], laidTests := true, laidLooks := .later }
def PriceMoreCardSaid : Prop := Claim7.holds Tryd.pinned (.plain (OpenSpec.ofChange priceMoreSpec)) priceMoreCard

/-- THE TIED CARD OF 'consignlaw14.PriceKnown'. -/
def priceKnownCard : Claim7 := { stood := { row := priceKnownRow, standIns := [], harness := (true, "1ca01e46e6a1680efaf2cd5a721b3d3d0c579c25cc0efc216c20249d2f05a4d0"), looks := false }, kinds := [], alts := [], laidByText := true, laidKinds := [.data, .data, .data], laidTests := true, laidLooks := .later }
def PriceKnownCardSaid : Prop := Claim7.holds Tryd.pinned (.plain (OpenSpec.ofChange priceKnownSpec)) priceKnownCard

/-- THE SECOND FORM's CARD OF 'consignlaw14.PriceLeast'. -/
def priceLeastUptoCard : Claim7 := { stood := { row := priceLeastUptoRow, standIns := [], harness := (true, "1ca01e46e6a1680efaf2cd5a721b3d3d0c579c25cc0efc216c20249d2f05a4d0"), looks := false }, kinds := [], alts := [], laidByText := true, laidKinds := [.data, .data, .data], laidTests := true, laidLooks := .later }
def PriceLeastUptoCardSaid : Prop := Claim7.holds Tryd.pinned (.plain (OpenSpec.upto priceLeastSpec)) priceLeastUptoCard

/-- THE SECOND FORM's CARD OF 'consignlaw14.PricePlace'. -/
def pricePlaceUptoCard : Claim7 := { stood := { row := pricePlaceUptoRow, standIns := [], harness := (true, "1ca01e46e6a1680efaf2cd5a721b3d3d0c579c25cc0efc216c20249d2f05a4d0"), looks := false }, kinds := [], alts := [], laidByText := true, laidKinds := [.data, .data, .data], laidTests := true, laidLooks := .later }
def PricePlaceUptoCardSaid : Prop := Claim7.holds Tryd.pinned (.plain (OpenSpec.upto pricePlaceSpec)) pricePlaceUptoCard

/-- THE SECOND FORM's CARD OF 'consignlaw14.PriceMore'. -/
def priceMoreUptoCard : Claim7 := { stood := { row := priceMoreUptoRow, standIns := [], harness := (true, "1ca01e46e6a1680efaf2cd5a721b3d3d0c579c25cc0efc216c20249d2f05a4d0"), looks := false }, kinds := [], alts := [], laidByText := true, laidKinds := [.data, .data, .data], laidTests := true, laidLooks := .later }
def PriceMoreUptoCardSaid : Prop := Claim7.holds Tryd.pinned (.plain (OpenSpec.upto priceMoreSpec)) priceMoreUptoCard

/-- THE SECOND FORM's CARD OF 'consignlaw14.PriceKnown'. -/
def priceKnownUptoCard : Claim7 := { stood := { row := priceKnownUptoRow, standIns := [], harness := (true, "1ca01e46e6a1680efaf2cd5a721b3d3d0c579c25cc0efc216c20249d2f05a4d0"), looks := false }, kinds := [], alts := [], laidByText := true, laidKinds := [.data, .data, .data], laidTests := true, laidLooks := .later }
def PriceKnownUptoCardSaid : Prop := Claim7.holds Tryd.pinned (.plain (OpenSpec.upto priceKnownSpec)) priceKnownUptoCard
end Rows
end Go.Proofs.YteclpblfleakhaaDoor
