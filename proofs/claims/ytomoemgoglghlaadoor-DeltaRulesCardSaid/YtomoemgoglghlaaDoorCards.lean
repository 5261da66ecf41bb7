/-
  DERIVED. GIVEN WITH THE SEED: THE CARDS: each row of YtomoemgoglghlaaDoorRows.lean that lists a variable, with what it lists TIED to the program's text (the seventh form; the later family's looks); each row that meets fmt, with fmt's text TOLD by the authors' own Lean function (tested against real Go, not proved from fmt's source: count such statements apart). THE CARD IS WHAT COUNTS. Prove the row's statement (the work); the ties are given (YtomoemgoglghlaaDoorTie.lean); close each card by the builder's one call (the guide's Derived/Test/ToyasCard.lean, 'card_holds'). Laid BY PROGRAM, IN A SANDBOX (cutbox-door.mjs). By AI agents, Wed Nov 11 2026. No macro, syntax, notation, axiom, sorry.
-/
import Derived.Test.YtomoemgoglghlaaDoorRows
import GoSem.ClaimSeven
namespace Go.Proofs.YtomoemgoglghlaaDoor
namespace Rows

/-- THE TIED CARD OF 'steelyardlaw03.DeltaRules'. -/
def deltaRulesCard : Claim7 := { stood := { row := deltaRulesRow, standIns := [], harness := (true, "059de4ffd4a286baf8e004dba898de76314ed2e6ab302d54906f767b7368969d"), looks := false }, kinds := [], alts := [], laidByText := true, laidKinds := [.data, .data, .pinned], laidTests := true, laidLooks := .later }
def DeltaRulesCardSaid : Prop := Claim7.holds Tryd.pinned (.plain (OpenSpec.ofChange deltaRulesSpec)) deltaRulesCard

/-- THE SECOND FORM's CARD OF 'steelyardlaw03.DeltaRules'. -/
def deltaRulesUptoCard : Claim7 := { stood := { row := deltaRulesUptoRow, standIns := [], harness := (true, "059de4ffd4a286baf8e004dba898de76314ed2e6ab302d54906f767b7368969d"), looks := false }, kinds := [], alts := [], laidByText := true, laidKinds := [.data, .data, .pinned], laidTests := true, laidLooks := .later }
def DeltaRulesUptoCardSaid : Prop := Claim7.holds Tryd.pinned (.plain (OpenSpec.upto deltaRulesSpec)) deltaRulesUptoCard
end Rows
end Go.Proofs.YtomoemgoglghlaaDoor
