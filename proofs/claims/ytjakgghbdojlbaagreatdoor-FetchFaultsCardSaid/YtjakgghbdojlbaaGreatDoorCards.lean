/-
  DERIVED. GIVEN WITH THE SEED: THE CARDS: each row of YtjakgghbdojlbaaGreatDoorRows.lean that lists a variable, with what it lists TIED to the program's text (the seventh form; the later family's looks); each row that meets fmt, with fmt's text TOLD by the authors' own Lean function (tested against real Go, not proved from fmt's source: count such statements apart). THE CARD IS WHAT COUNTS. Prove the row's statement (the work); the ties are given (YtjakgghbdojlbaaGreatDoorTie.lean); close each card by the builder's one call (the guide's Derived/Test/ToyasCard.lean, 'card_holds'). Laid BY PROGRAM, IN A SANDBOX (cutbox-door.mjs). By AI agents, Wed Nov 11 2026. No macro, syntax, notation, axiom, sorry.
-/
import Derived.Test.YtjakgghbdojlbaaGreatDoorRows
import GoSem.ClaimSeven
namespace Go.Proofs.YtjakgghbdojlbaaGreatDoor
namespace Rows

/-- THE TIED CARD OF 'calliopelaw15.BankPacks'. -/
def bankPacksCard : Claim7 := { stood := { row := bankPacksRow, standIns := [], harness := (true, "1e69979c78544f6c0b18766587651258e500d67afac998b3fcf04ea17eb72059"), looks := false }, kinds := [], alts := [], laidByText := true, laidKinds := [.data, .pinned], laidTests := true, laidLooks := .later }
def BankPacksCardSaid : Prop := Claim7.holds Tryz.pinned (.plain (OpenSpec.ofChange bankPacksSpec)) bankPacksCard

/-- THE TIED CARD OF 'calliopelaw15.BankBack'. -/
def bankBackCard : Claim7 := { stood := { row := bankBackRow, standIns := [], harness := (true, "1e69979c78544f6c0b18766587651258e500d67afac998b3fcf04ea17eb72059"), looks := false }, kinds := [], alts := [], laidByText := true, laidKinds := [.data, .pinned], laidTests := true, laidLooks := .later }
def BankBackCardSaid : Prop := Claim7.holds Tryz.pinned (.plain (OpenSpec.ofChange bankBackSpec)) bankBackCard

/-- THE TIED CARD OF 'calliopelaw18.FetchFaults'. -/
def fetchFaultsCard : Claim7 := { stood := { row := fetchFaultsRow, standIns := [], harness := (true, "1e69979c78544f6c0b18766587651258e500d67afac998b3fcf04ea17eb72059"), looks := false }, kinds := [], alts := [], laidByText := true, laidKinds := [.data, .pinned], laidTests := true, laidLooks := .later }
def FetchFaultsCardSaid : Prop := Claim7.holds Tryz.pinned (.plain (OpenSpec.ofChange fetchFaultsSpec)) fetchFaultsCard

/-- THE SECOND FORM's CARD OF 'calliopelaw15.BankPacks'. -/
def bankPacksUptoCard : Claim7 := { stood := { row := bankPacksUptoRow, standIns := [], harness := (true, "1e69979c78544f6c0b18766587651258e500d67afac998b3fcf04ea17eb72059"), looks := false }, kinds := [], alts := [], laidByText := true, laidKinds := [.data, .pinned], laidTests := true, laidLooks := .later }
def BankPacksUptoCardSaid : Prop := Claim7.holds Tryz.pinned (.plain (OpenSpec.upto bankPacksSpec)) bankPacksUptoCard

/-- THE SECOND FORM's CARD OF 'calliopelaw15.BankBack'. -/
def bankBackUptoCard : Claim7 := { stood := { row := bankBackUptoRow, standIns := [], harness := (true, "1e69979c78544f6c0b18766587651258e500d67afac998b3fcf04ea17eb72059"), looks := false }, kinds := [], alts := [], laidByText := true, laidKinds := [.data, .pinned], laidTests := true, laidLooks := .later }
def BankBackUptoCardSaid : Prop := Claim7.holds Tryz.pinned (.plain (OpenSpec.upto bankBackSpec)) bankBackUptoCard

/-- THE SECOND FORM's CARD OF 'calliopelaw18.FetchFaults'. -/
def fetchFaultsUptoCard : Claim7 := { stood := { row := fetchFaultsUptoRow, standIns := [], harness := (true, "1e69979c78544f6c0b18766587651258e500d67afac998b3fcf04ea17eb72059"), looks := false }, kinds := [], alts := [], laidByText := true, laidKinds := [.data, .pinned], laidTests := true, laidLooks := .later }
def FetchFaultsUptoCardSaid : Prop := Claim7.holds Tryz.pinned (.plain (OpenSpec.upto fetchFaultsSpec)) fetchFaultsUptoCard
end Rows
end Go.Proofs.YtjakgghbdojlbaaGreatDoor
