/-
  DERIVED. GIVEN WITH THE SEED: THE CARDS: each row of YtknackfmepkiaaaGreatDoorRows.lean that lists a variable, with what it lists TIED to the program's text (the seventh form; the later family's looks); each row that meets fmt, with fmt's text TOLD by the authors' own Lean function (tested against real Go, not proved from fmt's source: count such statements apart). THE CARD IS WHAT COUNTS. Prove the row's statement (the work); the ties are given (YtknackfmepkiaaaGreatDoorTie.lean); close each card by the builder's one call (the guide's Derived/Test/ToyasCard.lean, 'card_holds'). Laid BY PROGRAM, IN A SANDBOX (cutbox-door.mjs). By AI agents, Wed Nov 11 2026. No macro, syntax, notation, axiom, sorry.
-/
import Derived.Test.YtknackfmepkiaaaGreatDoorRows
import GoSem.ClaimSeven
namespace Go.Proofs.YtknackfmepkiaaaGreatDoor
namespace Rows

/-- THE TIED CARD OF 'steelyardlaw03.DeltaSmall'. -/
def deltaSmallCard : Claim7 := { stood := { row := deltaSmallRow, standIns := [], harness := (true, "fb9c88dd93ec856d73a0a50084c59f6620d75f57dd7940607a2b56131f355c1a"), looks := false }, kinds := [], alts := [], laidByText := true, laidKinds := [.data, .data, .pinned], laidTests := true, laidLooks := .later }
def DeltaSmallCardSaid : Prop := Claim7.holds Tryz.pinned (.plain (OpenSpec.ofChange deltaSmallSpec)) deltaSmallCard

/-- THE TIED CARD OF 'steelyardlaw04.PackPuts'. -/
def packPutsCard : Claim7 := { stood := { row := packPutsRow, standIns := [], harness := (true, "fb9c88dd93ec856d73a0a50084c59f6620d75f57dd7940607a2b56131f355c1a"), looks := false }, kinds := [], alts := [], laidByText := true, laidKinds := [.data], laidTests := true, laidLooks := .later }
def PackPutsCardSaid : Prop := Claim7.holds Tryz.pinned (.plain (OpenSpec.ofChange packPutsSpec)) packPutsCard

/-- THE TIED CARD OF 'steelyardlaw04.PackCut'. -/
def packCutCard : Claim7 := { stood := { row := packCutRow, standIns := [], harness := (true, "fb9c88dd93ec856d73a0a50084c59f6620d75f57dd7940607a2b56131f355c1a"), looks := false }, kinds := [], alts := [], laidByText := true, laidKinds := [.data], laidTests := true, laidLooks := .later }
def PackCutCardSaid : Prop := Claim7.holds Tryz.pinned (.plain (OpenSpec.ofChange packCutSpec)) packCutCard

/-- THE SECOND FORM's CARD OF 'steelyardlaw03.DeltaSmall'. -/
def deltaSmallUptoCard : Claim7 := { stood := { row := deltaSmallUptoRow, standIns := [], harness := (true, "fb9c88dd93ec856d73a0a50084c59f6620d75f57dd7940607a2b56131f355c1a"), looks := false }, kinds := [], alts := [], laidByText := true, laidKinds := [.data, .data, .pinned], laidTests := true, laidLooks := .later }
def DeltaSmallUptoCardSaid : Prop := Claim7.holds Tryz.pinned (.plain (OpenSpec.upto deltaSmallSpec)) deltaSmallUptoCard

/-- THE SECOND FORM's CARD OF 'steelyardlaw04.PackPuts'. -/
def packPutsUptoCard : Claim7 := { stood := { row := packPutsUptoRow, standIns := [], harness := (true, "fb9c88dd93ec856d73a0a50084c59f6620d75f57dd7940607a2b56131f355c1a"), looks := false }, kinds := [], alts := [], laidByText := true, laidKinds := [.data], laidTests := true, laidLooks := .later }
def PackPutsUptoCardSaid : Prop := Claim7.holds Tryz.pinned (.plain (OpenSpec.upto packPutsSpec)) packPutsUptoCard

/-- THE SECOND FORM's CARD OF 'steelyardlaw04.PackCut'. -/
def packCutUptoCard : Claim7 := { stood := { row := packCutUptoRow, standIns := [], harness := (true, "fb9c88dd93ec856d73a0a50084c59f6620d75f57dd7940607a2b56131f355c1a"), looks := false }, kinds := [], alts := [], laidByText := true, laidKinds := [.data], laidTests := true, laidLooks := .later }
def PackCutUptoCardSaid : Prop := Claim7.holds Tryz.pinned (.plain (OpenSpec.upto packCutSpec)) packCutUptoCard
end Rows
end Go.Proofs.YtknackfmepkiaaaGreatDoor
