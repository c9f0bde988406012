/-
  DERIVED. GIVEN WITH THE SEED: THE CARDS: each row of YtblkbonedgofiaaDoorRows.lean that lists a variable, with what it lists TIED to the program's text (the seventh form; the later family's looks); each row that meets fmt, with fmt's text TOLD by the authors' own Lean function (tested against real Go, not proved from fmt's source: count such statements apart). THE CARD IS WHAT COUNTS. Prove the row's statement (the work); the ties are given (YtblkbonedgofiaaDoorTie.lean); close each card by the builder's one call (the guide's Derived/Test/ToyasCard.lean, 'card_holds'). Laid BY PROGRAM, IN A SANDBOX (cutbox-door.mjs). By AI agents, Wed Nov 11 2026. No macro, syntax, notation, axiom, sorry.
-/
import Derived.Test.YtblkbonedgofiaaDoorRows
import GoSem.ClaimSeven
namespace Go.Proofs.YtblkbonedgofiaaDoor
namespace Rows

/-- THE TIED CARD OF 'laws.FnFuel'. -/
def fnFuelCard : Claim7 := { stood := { row := fnFuelRow, standIns := [], harness := (true, "e4e250e52996bd4ae217f18bfc73458b08ed3c97ab7b62f3d955e5e731187ab6"), looks := true }, kinds := [], alts := [], laidByText := true, laidKinds := [.handle], laidTests := true, laidLooks := .later }
def FnFuelCardSaid : Prop := Claim7.holds Tryd.pinned (.plain (OpenSpec.ofChange fnFuelSpec)) fnFuelCard

/-- THE TIED CARD OF 'laws.FnExactPumped'. -/
def fnExactPumpedCard : Claim7 := { stood := { row := fnExactPumpedRow, standIns := [], harness := (true, "e4e250e52996bd4ae217f18bfc73458b08ed3c97ab7b62f3d955e5e731187ab6"), looks := true }, kinds := [], alts := [], laidByText := true, laidKinds := [.handle], laidTests := true, laidLooks := .later }
def FnExactPumpedCardSaid : Prop := Claim7.holds Tryd.pinned (.plain (OpenSpec.ofChange fnExactPumpedSpec)) fnExactPumpedCard

/-- THE TIED CARD OF 'laws.FnExactPumpAll'. -/
def fnExactPumpAllCard : Claim7 := { stood := { row := fnExactPumpAllRow, standIns := [], harness := (true, "e4e250e52996bd4ae217f18bfc73458b08ed3c97ab7b62f3d955e5e731187ab6"), looks := true }, kinds := [], alts := [], laidByText := true, laidKinds := [.handle], laidTests := true, laidLooks := .later }
def FnExactPumpAllCardSaid : Prop := Claim7.holds Tryd.pinned (.plain (OpenSpec.ofChange fnExactPumpAllSpec)) fnExactPumpAllCard

/-- THE SECOND FORM's CARD OF 'laws.FnFuel'. -/
def fnFuelUptoCard : Claim7 := { stood := { row := fnFuelUptoRow, standIns := [], harness := (true, "e4e250e52996bd4ae217f18bfc73458b08ed3c97ab7b62f3d955e5e731187ab6"), looks := true }, kinds := [], alts := [], laidByText := true, laidKinds := [.handle], laidTests := true, laidLooks := .later }
def FnFuelUptoCardSaid : Prop := Claim7.holds Tryd.pinned (.plain (OpenSpec.upto fnFuelSpec)) fnFuelUptoCard

/-- THE SECOND FORM's CARD OF 'laws.FnExactPumped'. -/
def fnExactPumpedUptoCard : Claim7 := { stood := { row := fnExactPumpedUptoRow, standIns := [], harness := (true, "e4e250e52996bd4ae217f18bfc73458b08ed3c97ab7b62f3d955e5e731187ab6"), looks := true }, kinds := [], alts := [], laidByText := true, laidKinds := [.handle], laidTests := true, laidLooks := .later }
def FnExactPumpedUptoCardSaid : Prop := Claim7.holds Tryd.pinned (.plain (OpenSpec.upto fnExactPumpedSpec)) fnExactPumpedUptoCard

/-- THE SECOND FORM's CARD OF 'laws.FnExactPumpAll'. -/
def fnExactPumpAllUptoCard : Claim7 := { stood := { row := fnExactPumpAllUptoRow, standIns := [], harness := (true, "e4e250e52996bd4ae217f18bfc73458b08ed3c97ab7b62f3d955e5e731187ab6"), looks := true }, kinds := [], alts := [], laidByText := true, laidKinds := [.handle], laidTests := true, laidLooks := .later }
def FnExactPumpAllUptoCardSaid : Prop := Claim7.holds Tryd.pinned (.plain (OpenSpec.upto fnExactPumpAllSpec)) fnExactPumpAllUptoCard
end Rows
end Go.Proofs.YtblkbonedgofiaaDoor
