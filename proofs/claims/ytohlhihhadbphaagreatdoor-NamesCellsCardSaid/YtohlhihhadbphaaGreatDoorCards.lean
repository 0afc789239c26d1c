/-
  DERIVED. GIVEN WITH THE SEED: THE CARDS: each row of YtohlhihhadbphaaGreatDoorRows.lean that lists a variable, with what it lists TIED to the program's text (the seventh form; the later family's looks); each row that meets fmt, with fmt's text TOLD by the authors' own Lean function (tested against real Go, not proved from fmt's source: count such statements apart). THE CARD IS WHAT COUNTS. Prove the row's statement (the work); the ties are given (YtohlhihhadbphaaGreatDoorTie.lean); close each card by the builder's one call (the guide's Derived/Test/ToyasCard.lean, 'card_holds'). Laid BY PROGRAM, IN A SANDBOX (cutbox-door.mjs). By AI agents, Wed Nov 11 2026. No macro, syntax, notation, axiom, sorry.
-/
import Derived.Test.YtohlhihhadbphaaGreatDoorRows
import GoSem.ClaimSeven
namespace Go.Proofs.YtohlhihhadbphaaGreatDoor
namespace Rows

/-- THE TIED CARD OF 'gabaritlaw01.NamesSets'. -/
def namesSetsCard : Claim7 := { stood := { row := namesSetsRow, standIns := [], harness := (true, "88d9c48dd2d3f38fb41dfcc6d7e5e26a3b850f3d25b00cd5bc41c4d5f0c7f0d9"), looks := false }, kinds := [], alts := [], laidByText := true, laidKinds := [.data, .data, .data], laidTests := true, laidLooks := .later }
def NamesSetsCardSaid : Prop := Claim7.holds Tryz.pinned (.plain (OpenSpec.ofChange namesSetsSpec)) namesSetsCard

/-- THE TIED CARD OF 'gabaritlaw01.NamesAsks'. -/
def namesAsksCard : Claim7 := { stood := { row := namesAsksRow, standIns := [], harness := (true, "88d9c48dd2d3f38fb41dfcc6d7e5e26a3b850f3d25b00cd5bc41c4d5f0c7f0d9"), looks := false }, kinds := [], alts := [], laidByText := true, laidKinds := [.data, .data, .data], laidTests := true, laidLooks := .later }
def NamesAsksCardSaid : Prop := Claim7.holds Tryz.pinned (.plain (OpenSpec.ofChange namesAsksSpec)) namesAsksCard

/-- THE TIED CARD OF 'gabaritlaw01.NamesCells'. -/
def namesCellsCard : Claim7 := { stood := { row := namesCellsRow, standIns := [], harness := (true, "88d9c48dd2d3f38fb41dfcc6d7e5e26a3b850f3d25b00cd5bc41c4d5f0c7f0d9"), looks := false }, kinds := [], alts := [], laidByText := true, laidKinds := [.data, .data, .data], laidTests := true, laidLooks := .later }
def NamesCellsCardSaid : Prop := Claim7.holds Tryz.pinned (.plain (OpenSpec.ofChange namesCellsSpec)) namesCellsCard

/-- THE TIED CARD OF 'gabaritlaw01.NamesLaws'. -/
def namesLawsCard : Claim7 := { stood := { row := namesLawsRow, standIns := [], harness := (true, "88d9c48dd2d3f38fb41dfcc6d7e5e26a3b850f3d25b00cd5bc41c4d5f0c7f0d9"), looks := false }, kinds := [], alts := [], laidByText := true, laidKinds := [.data, .data, .data], laidTests := true, laidLooks := .later }
def NamesLawsCardSaid : Prop := Claim7.holds Tryz.pinned (.plain (OpenSpec.ofChange namesLawsSpec)) namesLawsCard

/-- THE SECOND FORM's CARD OF 'gabaritlaw01.NamesSets'. -/
def namesSetsUptoCard : Claim7 := { stood := { row := namesSetsUptoRow, standIns := [], harness := (true, "88d9c48dd2d3f38fb41dfcc6d7e5e26a3b850f3d25b00cd5bc41c4d5f0c7f0d9"), looks := false }, kinds := [], alts := [], laidByText := true, laidKinds := [.data, .data, .data], laidTests := true, laidLooks := .later }
def NamesSetsUptoCardSaid : Prop := Claim7.holds Tryz.pinned (.plain (OpenSpec.upto namesSetsSpec)) namesSetsUptoCard

/-- THE SECOND FORM's CARD OF 'gabaritlaw01.NamesAsks'. -/
def namesAsksUptoCard : Claim7 := { stood := { row := namesAsksUptoRow, standIns := [], harness := (true, "88d9c48dd2d3f38fb41dfcc6d7e5e26a3b850f3d25b00cd5bc41c4d5f0c7f0d9"), looks := false }, kinds := [], alts := [], laidByText := true, laidKinds := [.data, .data, .data], laidTests := true, laidLooks := .later }
def NamesAsksUptoCardSaid : Prop := Claim7.holds Tryz.pinned (.plain (OpenSpec.upto namesAsksSpec)) namesAsksUptoCard

/-- THE SECOND FORM's CARD OF 'gabaritlaw01.NamesCells'. -/
def namesCellsUptoCard : Claim7 := { stood := { row := namesCellsUptoRow, standIns := [], harness := (true, "88d9c48dd2d3f38fb41dfcc6d7e5e26a3b850f3d25b00cd5bc41c4d5f0c7f0d9"), looks := false }, kinds := [], alts := [], laidByText := true, laidKinds := [.data, .data, .data], laidTests := true, laidLooks := .later }
def NamesCellsUptoCardSaid : Prop := Claim7.holds Tryz.pinned (.plain (OpenSpec.upto namesCellsSpec)) namesCellsUptoCard

/-- THE SECOND FORM's CARD OF 'gabaritlaw01.NamesLaws'. -/
def namesLawsUptoCard : Claim7 := { stood := { row := namesLawsUptoRow, standIns := [], harness := (true, "88d9c48dd2d3f38fb41dfcc6d7e5e26a3b850f3d25b00cd5bc41c4d5f0c7f0d9"), looks := false }, kinds := [], alts := [], laidByText := true, laidKinds := [.data, .data, .data], laidTests := true, laidLooks := .later }
def NamesLawsUptoCardSaid : Prop := Claim7.holds Tryz.pinned (.plain (OpenSpec.upto namesLawsSpec)) namesLawsUptoCard
end Rows
end Go.Proofs.YtohlhihhadbphaaGreatDoor
