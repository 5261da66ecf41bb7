/-
  DERIVED. GIVEN WITH THE SEED: THE CARDS: each row of YtomoemgoglghlaaGreatDoorRows.lean that lists a variable, with what it lists TIED to the program's text (the seventh form; the later family's looks); each row that meets fmt, with fmt's text TOLD by the authors' own Lean function (tested against real Go, not proved from fmt's source: count such statements apart). THE CARD IS WHAT COUNTS. Prove the row's statement (the work); the ties are given (YtomoemgoglghlaaGreatDoorTie.lean); close each card by the builder's one call (the guide's Derived/Test/ToyasCard.lean, 'card_holds'). Laid BY PROGRAM, IN A SANDBOX (cutbox-door.mjs). By AI agents, Wed Nov 11 2026. No macro, syntax, notation, axiom, sorry.
-/
import Derived.Test.YtomoemgoglghlaaGreatDoorRows
import GoSem.ClaimSeven
namespace Go.Proofs.YtomoemgoglghlaaGreatDoor
namespace Rows

/-- THE TIED CARD OF 'steelyardlaw02.RatioTold'. -/
def ratioToldCard : Claim7 := { stood := { row := ratioToldRow, standIns := [], harness := (true, "8d53b6869c31e6e586e6bfad205b00bb664af6e8373c0cb6170cd67ddcddef2f"), looks := true }, kinds := [], alts := [], laidByText := true, laidKinds := [.data, .data, .data, .data, .sentinel, .sentinel, .pinned], laidTests := true, laidLooks := .later }
def RatioToldCardSaid : Prop := Claim7.holds Tryz.pinned (.plain (OpenSpec.ofChange ratioToldSpec)) ratioToldCard

/-- THE TIED CARD OF 'steelyardlaw02.RatioMakes'. -/
def ratioMakesCard : Claim7 := { stood := { row := ratioMakesRow, standIns := [], harness := (true, "8d53b6869c31e6e586e6bfad205b00bb664af6e8373c0cb6170cd67ddcddef2f"), looks := true }, kinds := [], alts := [], laidByText := true, laidKinds := [.data, .data, .data, .data, .sentinel, .sentinel, .pinned], laidTests := true, laidLooks := .later }
def RatioMakesCardSaid : Prop := Claim7.holds Tryz.pinned (.plain (OpenSpec.ofChange ratioMakesSpec)) ratioMakesCard

/-- THE TIED CARD OF 'steelyardlaw02.RatioReads'. -/
def ratioReadsCard : Claim7 := { stood := { row := ratioReadsRow, standIns := [], harness := (true, "8d53b6869c31e6e586e6bfad205b00bb664af6e8373c0cb6170cd67ddcddef2f"), looks := true }, kinds := [], alts := [], laidByText := true, laidKinds := [.data, .data, .data, .data, .sentinel, .sentinel, .pinned], laidTests := true, laidLooks := .later }
def RatioReadsCardSaid : Prop := Claim7.holds Tryz.pinned (.plain (OpenSpec.ofChange ratioReadsSpec)) ratioReadsCard

/-- THE TIED CARD OF 'steelyardlaw02.RatioRules'. -/
def ratioRulesCard : Claim7 := { stood := { row := ratioRulesRow, standIns := [], harness := (true, "8d53b6869c31e6e586e6bfad205b00bb664af6e8373c0cb6170cd67ddcddef2f"), looks := true }, kinds := [], alts := [], laidByText := true, laidKinds := [.data, .data, .data, .data, .sentinel, .sentinel, .pinned], laidTests := true, laidLooks := .later }
def RatioRulesCardSaid : Prop := Claim7.holds Tryz.pinned (.plain (OpenSpec.ofChange ratioRulesSpec)) ratioRulesCard

/-- THE TIED CARD OF 'steelyardlaw02.RatioOver'. -/
def ratioOverCard : Claim7 := { stood := { row := ratioOverRow, standIns := [], harness := (true, "8d53b6869c31e6e586e6bfad205b00bb664af6e8373c0cb6170cd67ddcddef2f"), looks := true }, kinds := [], alts := [], laidByText := true, laidKinds := [.data, .data, .data, .data, .sentinel, .sentinel, .pinned], laidTests := true, laidLooks := .later }
def RatioOverCardSaid : Prop := Claim7.holds Tryz.pinned (.plain (OpenSpec.ofChange ratioOverSpec)) ratioOverCard

/-- THE TIED CARD OF 'steelyardlaw03.DeltaTold'. -/
def deltaToldCard : Claim7 := { stood := { row := deltaToldRow, standIns := [], harness := (true, "8d53b6869c31e6e586e6bfad205b00bb664af6e8373c0cb6170cd67ddcddef2f"), looks := true }, kinds := [], alts := [], laidByText := true, laidKinds := [.data, .data, .pinned], laidTests := true, laidLooks := .later }
def DeltaToldCardSaid : Prop := Claim7.holds Tryz.pinned (.plain (OpenSpec.ofChange deltaToldSpec)) deltaToldCard

/-- THE TIED CARD OF 'steelyardlaw03.DeltaSmall'. -/
def deltaSmallCard : Claim7 := { stood := { row := deltaSmallRow, standIns := [], harness := (true, "8d53b6869c31e6e586e6bfad205b00bb664af6e8373c0cb6170cd67ddcddef2f"), looks := true }, kinds := [], alts := [], laidByText := true, laidKinds := [.data, .data, .pinned], laidTests := true, laidLooks := .later }
def DeltaSmallCardSaid : Prop := Claim7.holds Tryz.pinned (.plain (OpenSpec.ofChange deltaSmallSpec)) deltaSmallCard

/-- THE SECOND FORM's CARD OF 'steelyardlaw02.RatioTold'. -/
def ratioToldUptoCard : Claim7 := { stood := { row := ratioToldUptoRow, standIns := [], harness := (true, "8d53b6869c31e6e586e6bfad205b00bb664af6e8373c0cb6170cd67ddcddef2f"), looks := true }, kinds := [], alts := [], laidByText := true, laidKinds := [.data, .data, .data, .data, .sentinel, .sentinel, .pinned], laidTests := true, laidLooks := .later }
def RatioToldUptoCardSaid : Prop := Claim7.holds Tryz.pinned (.plain (OpenSpec.upto ratioToldSpec)) ratioToldUptoCard

/-- THE SECOND FORM's CARD OF 'steelyardlaw02.RatioMakes'. -/
def ratioMakesUptoCard : Claim7 := { stood := { row := ratioMakesUptoRow, standIns := [], harness := (true, "8d53b6869c31e6e586e6bfad205b00bb664af6e8373c0cb6170cd67ddcddef2f"), looks := true }, kinds := [], alts := [], laidByText := true, laidKinds := [.data, .data, .data, .data, .sentinel, .sentinel, .pinned], laidTests := true, laidLooks := .later }
def RatioMakesUptoCardSaid : Prop := Claim7.holds Tryz.pinned (.plain (OpenSpec.upto ratioMakesSpec)) ratioMakesUptoCard

/-- THE SECOND FORM's CARD OF 'steelyardlaw02.RatioReads'. -/
def ratioReadsUptoCard : Claim7 := { stood := { row := ratioReadsUptoRow, standIns := [], harness := (true, "8d53b6869c31e6e586e6bfad205b00bb664af6e8373c0cb6170cd67ddcddef2f"), looks := true }, kinds := [], alts := [], laidByText := true, laidKinds := [.data, .data, .data, .data, .sentinel, .sentinel, .pinned], laidTests := true, laidLooks := .later }
def RatioReadsUptoCardSaid : Prop := Claim7.holds Tryz.pinned (.plain (OpenSpec.upto ratioReadsSpec)) ratioReadsUptoCard

/-- THE SECOND FORM's CARD OF 'steelyardlaw02.RatioRules'. -/
def ratioRulesUptoCard : Claim7 := { stood := { row := ratioRulesUptoRow, standIns := [], harness := (true, "8d53b6869c31e6e586e6bfad205b00bb664af6e8373c0cb6170cd67ddcddef2f"), looks := true }, kinds := [], alts := [], laidByText := true, laidKinds := [.data, .data, .data, .data, .sentinel, .sentinel, .pinned], laidTests := true, laidLooks := .later }
def RatioRulesUptoCardSaid : Prop := Claim7.holds Tryz.pinned (.plain (OpenSpec.upto ratioRulesSpec)) ratioRulesUptoCard

/-- THE SECOND FORM's CARD OF 'steelyardlaw02.RatioOver'. -/
def ratioOverUptoCard : Claim7 := { stood := { row := ratioOverUptoRow, standIns := [], harness := (true, "8d53b6869c31e6e586e6bfad205b00bb664af6e8373c0cb6170cd67ddcddef2f"), looks := true }, kinds := [], alts := [], laidByText := true, laidKinds := [.data, .data, .data, .data, .sentinel, .sentinel, .pinned], laidTests := true, laidLooks := .later }
def RatioOverUptoCardSaid : Prop := Claim7.holds Tryz.pinned (.plain (OpenSpec.upto ratioOverSpec)) ratioOverUptoCard

/-- THE SECOND FORM's CARD OF 'steelyardlaw03.DeltaTold'. -/
def deltaToldUptoCard : Claim7 := { stood := { row := deltaToldUptoRow, standIns := [], harness := (true, "8d53b6869c31e6e586e6bfad205b00bb664af6e8373c0cb6170cd67ddcddef2f"), looks := true }, kinds := [], alts := [], laidByText := true, laidKinds := [.data, .data, .pinned], laidTests := true, laidLooks := .later }
def DeltaToldUptoCardSaid : Prop := Claim7.holds Tryz.pinned (.plain (OpenSpec.upto deltaToldSpec)) deltaToldUptoCard

/-- THE SECOND FORM's CARD OF 'steelyardlaw03.DeltaSmall'. -/
def deltaSmallUptoCard : Claim7 := { stood := { row := deltaSmallUptoRow, standIns := [], harness := (true, "8d53b6869c31e6e586e6bfad205b00bb664af6e8373c0cb6170cd67ddcddef2f"), looks := true }, kinds := [], alts := [], laidByText := true, laidKinds := [.data, .data, .pinned], laidTests := true, laidLooks := .later }
def DeltaSmallUptoCardSaid : Prop := Claim7.holds Tryz.pinned (.plain (OpenSpec.upto deltaSmallSpec)) deltaSmallUptoCard
end Rows
end Go.Proofs.YtomoemgoglghlaaGreatDoor
