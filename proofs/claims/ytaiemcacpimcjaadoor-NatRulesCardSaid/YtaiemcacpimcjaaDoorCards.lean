/-
  DERIVED. GIVEN WITH THE SEED: THE CARDS: each row of YtaiemcacpimcjaaDoorRows.lean that lists a variable, with what it lists TIED to the program's text (the seventh form; the later family's looks); each row that meets fmt, with fmt's text TOLD by the authors' own Lean function (tested against real Go, not proved from fmt's source: count such statements apart). THE CARD IS WHAT COUNTS. Prove the row's statement (the work); the ties are given (YtaiemcacpimcjaaDoorTie.lean); close each card by the builder's one call (the guide's Derived/Test/ToyasCard.lean, 'card_holds'). Laid BY PROGRAM, IN A SANDBOX (cutbox-door.mjs). By AI agents, Wed Nov 11 2026. No macro, syntax, notation, axiom, sorry.
-/
import Derived.Test.YtaiemcacpimcjaaDoorRows
import GoSem.ClaimSeven
namespace Go.Proofs.YtaiemcacpimcjaaDoor
namespace Rows

/-- THE TIED CARD OF 'steelyardlaw01.NatTold'. -/
def natToldCard : Claim7 := { stood := { row := natToldRow, standIns := [], harness := (true, "5aa707f426fd04732dea8602be7149890b64e4cb5a5877e4fe792ccbafc5c35c"), looks := true }, kinds := [], alts := [], laidByText := true, laidKinds := [.data, .data, .pinned], laidTests := true, laidLooks := .later }
def NatToldCardSaid : Prop := Claim7.holds Tryd.pinned (.plain (OpenSpec.ofChange natToldSpec)) natToldCard

/-- THE TIED CARD OF 'steelyardlaw01.NatReads'. -/
def natReadsCard : Claim7 := { stood := { row := natReadsRow, standIns := [], harness := (true, "5aa707f426fd04732dea8602be7149890b64e4cb5a5877e4fe792ccbafc5c35c"), looks := true }, kinds := [], alts := [], laidByText := true, laidKinds := [.data, .data, .data, .data, .sentinel, .sentinel, .pinned], laidTests := true, laidLooks := .later }
def NatReadsCardSaid : Prop := Claim7.holds Tryd.pinned (.plain (OpenSpec.ofChange natReadsSpec)) natReadsCard

/-- THE TIED CARD OF 'steelyardlaw01.NatOver'. -/
def natOverCard : Claim7 := { stood := { row := natOverRow, standIns := [], harness := (true, "5aa707f426fd04732dea8602be7149890b64e4cb5a5877e4fe792ccbafc5c35c"), looks := true }, kinds := [], alts := [], laidByText := true, laidKinds := [.data, .data, .data, .data, .sentinel, .sentinel, .pinned], laidTests := true, laidLooks := .later }
def NatOverCardSaid : Prop := Claim7.holds Tryd.pinned (.plain (OpenSpec.ofChange natOverSpec)) natOverCard

/-- THE TIED CARD OF 'steelyardlaw01.NatRules'. -/
def natRulesCard : Claim7 := { stood := { row := natRulesRow, standIns := [], harness := (true, "5aa707f426fd04732dea8602be7149890b64e4cb5a5877e4fe792ccbafc5c35c"), looks := true }, kinds := [], alts := [], laidByText := true, laidKinds := [.data, .data, .pinned], laidTests := true, laidLooks := .later }
def NatRulesCardSaid : Prop := Claim7.holds Tryd.pinned (.plain (OpenSpec.ofChange natRulesSpec)) natRulesCard

/-- THE SECOND FORM's CARD OF 'steelyardlaw01.NatTold'. -/
def natToldUptoCard : Claim7 := { stood := { row := natToldUptoRow, standIns := [], harness := (true, "5aa707f426fd04732dea8602be7149890b64e4cb5a5877e4fe792ccbafc5c35c"), looks := true }, kinds := [], alts := [], laidByText := true, laidKinds := [.data, .data, .pinned], laidTests := true, laidLooks := .later }
def NatToldUptoCardSaid : Prop := Claim7.holds Tryd.pinned (.plain (OpenSpec.upto natToldSpec)) natToldUptoCard

/-- THE SECOND FORM's CARD OF 'steelyardlaw01.NatReads'. -/
def natReadsUptoCard : Claim7 := { stood := { row := natReadsUptoRow, standIns := [], harness := (true, "5aa707f426fd04732dea8602be7149890b64e4cb5a5877e4fe792ccbafc5c35c"), looks := true }, kinds := [], alts := [], laidByText := true, laidKinds := [.data, .data, .data, .data, .sentinel, .sentinel, .pinned], laidTests := true, laidLooks := .later }
def NatReadsUptoCardSaid : Prop := Claim7.holds Tryd.pinned (.plain (OpenSpec.upto natReadsSpec)) natReadsUptoCard

/-- THE SECOND FORM's CARD OF 'steelyardlaw01.NatOver'. -/
def natOverUptoCard : Claim7 := { stood := { row := natOverUptoRow, standIns := [], harness := (true, "5aa707f426fd04732dea8602be7149890b64e4cb5a5877e4fe792ccbafc5c35c"), looks := true }, kinds := [], alts := [], laidByText := true, laidKinds := [.data, .data, .data, .data, .sentinel, .sentinel, .pinned], laidTests := true, laidLooks := .later }
def NatOverUptoCardSaid : Prop := Claim7.holds Tryd.pinned (.plain (OpenSpec.upto natOverSpec)) natOverUptoCard

/-- THE SECOND FORM's CARD OF 'steelyardlaw01.NatRules'. -/
def natRulesUptoCard : Claim7 := { stood := { row := natRulesUptoRow, standIns := [], harness := (true, "5aa707f426fd04732dea8602be7149890b64e4cb5a5877e4fe792ccbafc5c35c"), looks := true }, kinds := [], alts := [], laidByText := true, laidKinds := [.data, .data, .pinned], laidTests := true, laidLooks := .later }
def NatRulesUptoCardSaid : Prop := Claim7.holds Tryd.pinned (.plain (OpenSpec.upto natRulesSpec)) natRulesUptoCard
end Rows
end Go.Proofs.YtaiemcacpimcjaaDoor
