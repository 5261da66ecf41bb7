/-
  DERIVED. GIVEN WITH THE SEED: THE CARDS: each row of YtmiocohlklnglaaDoorRows.lean that lists a variable, with what it lists TIED to the program's text (the seventh form; the later family's looks); each row that meets fmt, with fmt's text TOLD by the authors' own Lean function (tested against real Go, not proved from fmt's source: count such statements apart). THE CARD IS WHAT COUNTS. Prove the row's statement (the work); the ties are given (YtmiocohlklnglaaDoorTie.lean); close each card by the builder's one call (the guide's Derived/Test/ToyasCard.lean, 'card_holds'). Laid BY PROGRAM, IN A SANDBOX (cutbox-door.mjs). By AI agents, Wed Nov 11 2026. No macro, syntax, notation, axiom, sorry.
-/
import Derived.Test.YtmiocohlklnglaaDoorRows
import GoSem.ClaimSeven
namespace Go.Proofs.YtmiocohlklnglaaDoor
namespace Rows

/-- THE TIED CARD OF 'steelyardlaw09.TermGrows'. -/
def termGrowsCard : Claim7 := { stood := { row := termGrowsRow, standIns := [], harness := (true, "8be2f79519645ae2f7f88f0069d95aaee8d175e53e8f0b5d44cc7eb255de52d8"), looks := false }, kinds := [], alts := [], laidByText := true, laidKinds := [.data], laidTests := true, laidLooks := .later }
def TermGrowsCardSaid : Prop := Claim7.holds Tryd.pinned (.plain (OpenSpec.ofChange termGrowsSpec)) termGrowsCard

/-- THE TIED CARD OF 'steelyardlaw09.TermBeginnings'. -/
def termBeginningsCard : Claim7 := { stood := { row := termBeginningsRow, standIns := [], harness := (true, "8be2f79519645ae2f7f88f0069d95aaee8d175e53e8f0b5d44cc7eb255de52d8"), looks := false }, kinds := [], alts := [], laidByText := true, laidKinds := [.data], laidTests := true, laidLooks := .later }
def TermBeginningsCardSaid : Prop := Claim7.holds Tryd.pinned (.plain (OpenSpec.ofChange termBeginningsSpec)) termBeginningsCard

/-- THE SECOND FORM's CARD OF 'steelyardlaw09.TermGrows'. -/
def termGrowsUptoCard : Claim7 := { stood := { row := termGrowsUptoRow, standIns := [], harness := (true, "8be2f79519645ae2f7f88f0069d95aaee8d175e53e8f0b5d44cc7eb255de52d8"), looks := false }, kinds := [], alts := [], laidByText := true, laidKinds := [.data], laidTests := true, laidLooks := .later }
def TermGrowsUptoCardSaid : Prop := Claim7.holds Tryd.pinned (.plain (OpenSpec.upto termGrowsSpec)) termGrowsUptoCard

/-- THE SECOND FORM's CARD OF 'steelyardlaw09.TermBeginnings'. -/
def termBeginningsUptoCard : Claim7 := { stood := { row := termBeginningsUptoRow, standIns := [], harness := (true, "8be2f79519645ae2f7f88f0069d95aaee8d175e53e8f0b5d44cc7eb255de52d8"), looks := false }, kinds := [], alts := [], laidByText := true, laidKinds := [.data], laidTests := true, laidLooks := .later }
def TermBeginningsUptoCardSaid : Prop := Claim7.holds Tryd.pinned (.plain (OpenSpec.upto termBeginningsSpec)) termBeginningsUptoCard
end Rows
end Go.Proofs.YtmiocohlklnglaaDoor
