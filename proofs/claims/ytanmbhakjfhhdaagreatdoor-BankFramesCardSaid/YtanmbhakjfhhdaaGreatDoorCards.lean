/-
  DERIVED. GIVEN WITH THE SEED: THE CARDS: each row of YtanmbhakjfhhdaaGreatDoorRows.lean that lists a variable, with what it lists TIED to the program's text (the seventh form; the later family's looks); each row that meets fmt, with fmt's text TOLD by the authors' own Lean function (tested against real Go, not proved from fmt's source: count such statements apart). THE CARD IS WHAT COUNTS. Prove the row's statement (the work); the ties are given (YtanmbhakjfhhdaaGreatDoorTie.lean); close each card by the builder's one call (the guide's Derived/Test/ToyasCard.lean, 'card_holds'). Laid BY PROGRAM, IN A SANDBOX (cutbox-door.mjs). By AI agents, Wed Nov 11 2026. No macro, syntax, notation, axiom, sorry.
-/
import Derived.Test.YtanmbhakjfhhdaaGreatDoorRows
import GoSem.ClaimSeven
namespace Go.Proofs.YtanmbhakjfhhdaaGreatDoor
namespace Rows

/-- THE TIED CARD OF 'calliopelaw15.BankPacks'. -/
def bankPacksCard : Claim7 := { stood := { row := bankPacksRow, standIns := [], harness := (true, "958cad0b8e46c3416780a3f893212c7ae10be3f5886b3d44263c6418568e1244"), looks := false }, kinds := [], alts := [], laidByText := true, laidKinds := [.data, .pinned], laidTests := true, laidLooks := .later }
def BankPacksCardSaid : Prop := Claim7.holds Tryz.pinned (.plain (OpenSpec.ofChange bankPacksSpec)) bankPacksCard

/-- THE TIED CARD OF 'calliopelaw15.BankBack'. -/
def bankBackCard : Claim7 := { stood := { row := bankBackRow, standIns := [], harness := (true, "958cad0b8e46c3416780a3f893212c7ae10be3f5886b3d44263c6418568e1244"), looks := false }, kinds := [], alts := [], laidByText := true, laidKinds := [.data, .pinned], laidTests := true, laidLooks := .later }
def BankBackCardSaid : Prop := Claim7.holds Tryz.pinned (.plain (OpenSpec.ofChange bankBackSpec)) bankBackCard

/-- THE TIED CARD OF 'calliopelaw15.BankBuilds'. -/
def bankBuildsCard : Claim7 := { stood := { row := bankBuildsRow, standIns := [], harness := (true, "958cad0b8e46c3416780a3f893212c7ae10be3f5886b3d44263c6418568e1244"), looks := false }, kinds := [], alts := [], laidByText := true, laidKinds := [.data, .pinned], laidTests := true, laidLooks := .later }
def BankBuildsCardSaid : Prop := Claim7.holds Tryz.pinned (.plain (OpenSpec.ofChange bankBuildsSpec)) bankBuildsCard

/-- THE TIED CARD OF 'calliopelaw15.BankFrames'. -/
def bankFramesCard : Claim7 := { stood := { row := bankFramesRow, standIns := [], harness := (true, "958cad0b8e46c3416780a3f893212c7ae10be3f5886b3d44263c6418568e1244"), looks := false }, kinds := [], alts := [], laidByText := true, laidKinds := [.data, .pinned], laidTests := true, laidLooks := .later }
def BankFramesCardSaid : Prop := Claim7.holds Tryz.pinned (.plain (OpenSpec.ofChange bankFramesSpec)) bankFramesCard

/-- THE TIED CARD OF 'calliopelaw18.FetchClean'. -/
def fetchCleanCard : Claim7 := { stood := { row := fetchCleanRow, standIns := [], harness := (true, "958cad0b8e46c3416780a3f893212c7ae10be3f5886b3d44263c6418568e1244"), looks := false }, kinds := [], alts := [], laidByText := true, laidKinds := [.data, .pinned], laidTests := true, laidLooks := .later }
def FetchCleanCardSaid : Prop := Claim7.holds Tryz.pinned (.plain (OpenSpec.ofChange fetchCleanSpec)) fetchCleanCard

/-- THE TIED CARD OF 'calliopelaw18.FetchFaults'. -/
def fetchFaultsCard : Claim7 := { stood := { row := fetchFaultsRow, standIns := [], harness := (true, "958cad0b8e46c3416780a3f893212c7ae10be3f5886b3d44263c6418568e1244"), looks := false }, kinds := [], alts := [], laidByText := true, laidKinds := [.data, .pinned], laidTests := true, laidLooks := .later }
def FetchFaultsCardSaid : Prop := Claim7.holds Tryz.pinned (.plain (OpenSpec.ofChange fetchFaultsSpec)) fetchFaultsCard

/-- THE TIED CARD OF 'calliopelaw18.FetchNobody'. -/
def fetchNobodyCard : Claim7 := { stood := { row := fetchNobodyRow, standIns := [], harness := (true, "958cad0b8e46c3416780a3f893212c7ae10be3f5886b3d44263c6418568e1244"), looks := false }, kinds := [], alts := [], laidByText := true, laidKinds := [.data, .pinned], laidTests := true, laidLooks := .later }
def FetchNobodyCardSaid : Prop := Claim7.holds Tryz.pinned (.plain (OpenSpec.ofChange fetchNobodySpec)) fetchNobodyCard

/-- THE SECOND FORM's CARD OF 'calliopelaw15.BankPacks'. -/
def bankPacksUptoCard : Claim7 := { stood := { row := bankPacksUptoRow, standIns := [], harness := (true, "958cad0b8e46c3416780a3f893212c7ae10be3f5886b3d44263c6418568e1244"), looks := false }, kinds := [], alts := [], laidByText := true, laidKinds := [.data, .pinned], laidTests := true, laidLooks := .later }
def BankPacksUptoCardSaid : Prop := Claim7.holds Tryz.pinned (.plain (OpenSpec.upto bankPacksSpec)) bankPacksUptoCard

/-- THE SECOND FORM's CARD OF 'calliopelaw15.BankBack'. -/
def bankBackUptoCard : Claim7 := { stood := { row := bankBackUptoRow, standIns := [], harness := (true, "958cad0b8e46c3416780a3f893212c7ae10be3f5886b3d44263c6418568e1244"), looks := false }, kinds := [], alts := [], laidByText := true, laidKinds := [.data, .pinned], laidTests := true, laidLooks := .later }
def BankBackUptoCardSaid : Prop := Claim7.holds Tryz.pinned (.plain (OpenSpec.upto bankBackSpec)) bankBackUptoCard

/-- THE SECOND FORM's CARD OF 'calliopelaw15.BankBuilds'. -/
def bankBuildsUptoCard : Claim7 := { stood := { row := bankBuildsUptoRow, standIns := [], harness := (true, "958cad0b8e46c3416780a3f893212c7ae10be3f5886b3d44263c6418568e1244"), looks := false }, kinds := [], alts := [], laidByText := true, laidKinds := [.data, .pinned], laidTests := true, laidLooks := .later }
def BankBuildsUptoCardSaid : Prop := Claim7.holds Tryz.pinned (.plain (OpenSpec.upto bankBuildsSpec)) bankBuildsUptoCard

/-- THE SECOND FORM's CARD OF 'calliopelaw15.BankFrames'. -/
def bankFramesUptoCard : Claim7 := { stood := { row := bankFramesUptoRow, standIns := [], harness := (true, "958cad0b8e46c3416780a3f893212c7ae10be3f5886b3d44263c6418568e1244"), looks := false }, kinds := [], alts := [], laidByText := true, laidKinds := [.data, .pinned], laidTests := true, laidLooks := .later }
def BankFramesUptoCardSaid : Prop := Claim7.holds Tryz.pinned (.plain (OpenSpec.upto bankFramesSpec)) bankFramesUptoCard

/-- THE SECOND FORM's CARD OF 'calliopelaw18.FetchClean'. -/
def fetchCleanUptoCard : Claim7 := { stood := { row := fetchCleanUptoRow, standIns := [], harness := (true, "958cad0b8e46c3416780a3f893212c7ae10be3f5886b3d44263c6418568e1244"), looks := false }, kinds := [], alts := [], laidByText := true, laidKinds := [.data, .pinned], laidTests := true, laidLooks := .later }
def FetchCleanUptoCardSaid : Prop := Claim7.holds Tryz.pinned (.plain (OpenSpec.upto fetchCleanSpec)) fetchCleanUptoCard

/-- THE SECOND FORM's CARD OF 'calliopelaw18.FetchFaults'. -/
def fetchFaultsUptoCard : Claim7 := { stood := { row := fetchFaultsUptoRow, standIns := [], harness := (true, "958cad0b8e46c3416780a3f893212c7ae10be3f5886b3d44263c6418568e1244"), looks := false }, kinds := [], alts := [], laidByText := true, laidKinds := [.data, .pinned], laidTests := true, laidLooks := .later }
def FetchFaultsUptoCardSaid : Prop := Claim7.holds Tryz.pinned (.plain (OpenSpec.upto fetchFaultsSpec)) fetchFaultsUptoCard

/-- THE SECOND FORM's CARD OF 'calliopelaw18.FetchNobody'. -/
def fetchNobodyUptoCard : Claim7 := { stood := { row := fetchNobodyUptoRow, standIns := [], harness := (true, "958cad0b8e46c3416780a3f893212c7ae10be3f5886b3d44263c6418568e1244"), looks := false }, kinds := [], alts := [], laidByText := true, laidKinds := [.data, .pinned], laidTests := true, laidLooks := .later }
def FetchNobodyUptoCardSaid : Prop := Claim7.holds Tryz.pinned (.plain (OpenSpec.upto fetchNobodySpec)) fetchNobodyUptoCard
end Rows
end Go.Proofs.YtanmbhakjfhhdaaGreatDoor
