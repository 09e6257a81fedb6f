/-
  DERIVED. GIVEN WITH THE SEED: THE CARDS: each row of YtgmdolpjkaajfaaGreatDoorRows.lean that lists a variable, with what it lists TIED to the program's text (the seventh form; the later family's looks); each row that meets fmt, with fmt's text TOLD by the authors' own Lean function (tested against real Go, not proved from fmt's source: count such statements apart). THE CARD IS WHAT COUNTS. Prove the row's statement (the work); the ties are given (YtgmdolpjkaajfaaGreatDoorTie.lean); close each card by the builder's one call (the guide's Derived/Test/ToyasCard.lean, 'card_holds'). Laid BY PROGRAM, IN A SANDBOX (cutbox-door.mjs). By AI agents, Wed Nov 11 2026. No macro, syntax, notation, axiom, sorry.
-/
import Derived.Test.YtgmdolpjkaajfaaGreatDoorRows
import GoSem.ClaimSeven
namespace Go.Proofs.YtgmdolpjkaajfaaGreatDoor
namespace Rows

/-- THE TIED CARD OF 'stemmalaw08.ChangeChecks'. -/
def changeChecksCard : Claim7 := { stood := { row := changeChecksRow, standIns := [], harness := (true, "2e2669e1c2384be866e65e0785bab6b0f061ff115191511494bcd3be218ce903"), looks := false }, kinds := [], alts := [], laidByText := true, laidKinds := [.data], laidTests := true, laidLooks := .later }
def ChangeChecksCardSaid : Prop := Claim7.holds Tryz.pinned (.plain (OpenSpec.ofChange changeChecksSpec)) changeChecksCard

/-- THE TIED CARD OF 'stemmalaw08.ChangePuts'. -/
def changePutsCard : Claim7 := { stood := { row := changePutsRow, standIns := [], harness := (true, "2e2669e1c2384be866e65e0785bab6b0f061ff115191511494bcd3be218ce903"), looks := false }, kinds := [], alts := [], laidByText := true, laidKinds := [.data], laidTests := true, laidLooks := .later }
def ChangePutsCardSaid : Prop := Claim7.holds Tryz.pinned (.plain (OpenSpec.ofChange changePutsSpec)) changePutsCard

/-- THE TIED CARD OF 'stemmalaw08.ChangeGets'. -/
def changeGetsCard : Claim7 := { stood := { row := changeGetsRow, standIns := [], harness := (true, "2e2669e1c2384be866e65e0785bab6b0f061ff115191511494bcd3be218ce903"), looks := false }, kinds := [], alts := [], laidByText := true, laidKinds := [.data], laidTests := true, laidLooks := .later }
def ChangeGetsCardSaid : Prop := Claim7.holds Tryz.pinned (.plain (OpenSpec.ofChange changeGetsSpec)) changeGetsCard

/-- THE TIED CARD OF 'stemmalaw08.ChangeBack'. -/
def changeBackCard : Claim7 := { stood := { row := changeBackRow, standIns := [], harness := (true, "2e2669e1c2384be866e65e0785bab6b0f061ff115191511494bcd3be218ce903"), looks := false }, kinds := [], alts := [], laidByText := true, laidKinds := [.data], laidTests := true, laidLooks := .later }
def ChangeBackCardSaid : Prop := Claim7.holds Tryz.pinned (.plain (OpenSpec.ofChange changeBackSpec)) changeBackCard

/-- THE TIED CARD OF 'stemmalaw08.ChangeApart'. -/
def changeApartCard : Claim7 := { stood := { row := changeApartRow, standIns := [], harness := (true, "2e2669e1c2384be866e65e0785bab6b0f061ff115191511494bcd3be218ce903"), looks := false }, kinds := [], alts := [], laidByText := true, laidKinds := [.data], laidTests := true, laidLooks := .later }
def ChangeApartCardSaid : Prop := Claim7.holds Tryz.pinned (.plain (OpenSpec.ofChange changeApartSpec)) changeApartCard

/-- THE TIED CARD OF 'stemmalaw08.ChangeLong'. -/
def changeLongCard : Claim7 := { stood := { row := changeLongRow, standIns := [], harness := (true, "2e2669e1c2384be866e65e0785bab6b0f061ff115191511494bcd3be218ce903"), looks := false }, kinds := [], alts := [], laidByText := true, laidKinds := [.data], laidTests := true, laidLooks := .later }
def ChangeLongCardSaid : Prop := Claim7.holds Tryz.pinned (.plain (OpenSpec.ofChange changeLongSpec)) changeLongCard

/-- THE SECOND FORM's CARD OF 'stemmalaw08.ChangeChecks'. -/
def changeChecksUptoCard : Claim7 := { stood := { row := changeChecksUptoRow, standIns := [], harness := (true, "2e2669e1c2384be866e65e0785bab6b0f061ff115191511494bcd3be218ce903"), looks := false }, kinds := [], alts := [], laidByText := true, laidKinds := [.data], laidTests := true, laidLooks := .later }
def ChangeChecksUptoCardSaid : Prop := Claim7.holds Tryz.pinned (.plain (OpenSpec.upto changeChecksSpec)) changeChecksUptoCard

/-- THE SECOND FORM's CARD OF 'stemmalaw08.ChangePuts'. -/
def changePutsUptoCard : Claim7 := { stood := { row := changePutsUptoRow, standIns := [], harness := (true, "2e2669e1c2384be866e65e0785bab6b0f061ff115191511494bcd3be218ce903"), looks := false }, kinds := [], alts := [], laidByText := true, laidKinds := [.data], laidTests := true, laidLooks := .later }
def ChangePutsUptoCardSaid : Prop := Claim7.holds Tryz.pinned (.plain (OpenSpec.upto changePutsSpec)) changePutsUptoCard

/-- THE SECOND FORM's CARD OF 'stemmalaw08.ChangeGets'. -/
def changeGetsUptoCard : Claim7 := { stood := { row := changeGetsUptoRow, standIns := [], harness := (true, "2e2669e1c2384be866e65e0785bab6b0f061ff115191511494bcd3be218ce903"), looks := false }, kinds := [], alts := [], laidByText := true, laidKinds := [.data], laidTests := true, laidLooks := .later }
def ChangeGetsUptoCardSaid : Prop := Claim7.holds Tryz.pinned (.plain (OpenSpec.upto changeGetsSpec)) changeGetsUptoCard

/-- THE SECOND FORM's CARD OF 'stemmalaw08.ChangeBack'. -/
def changeBackUptoCard : Claim7 := { stood := { row := changeBackUptoRow, standIns := [], harness := (true, "2e2669e1c2384be866e65e0785bab6b0f061ff115191511494bcd3be218ce903"), looks := false }, kinds := [], alts := [], laidByText := true, laidKinds := [.data], laidTests := true, laidLooks := .later }
def ChangeBackUptoCardSaid : Prop := Claim7.holds Tryz.pinned (.plain (OpenSpec.upto changeBackSpec)) changeBackUptoCard

/-- THE SECOND FORM's CARD OF 'stemmalaw08.ChangeApart'. -/
def changeApartUptoCard : Claim7 := { stood := { row := changeApartUptoRow, standIns := [], harness := (true, "2e2669e1c2384be866e65e0785bab6b0f061ff115191511494bcd3be218ce903"), looks := false }, kinds := [], alts := [], laidByText := true, laidKinds := [.data], laidTests := true, laidLooks := .later }
def ChangeApartUptoCardSaid : Prop := Claim7.holds Tryz.pinned (.plain (OpenSpec.upto changeApartSpec)) changeApartUptoCard

/-- THE SECOND FORM's CARD OF 'stemmalaw08.ChangeLong'. -/
def changeLongUptoCard : Claim7 := { stood := { row := changeLongUptoRow, standIns := [], harness := (true, "2e2669e1c2384be866e65e0785bab6b0f061ff115191511494bcd3be218ce903"), looks := false }, kinds := [], alts := [], laidByText := true, laidKinds := [.data], laidTests := true, laidLooks := .later }
def ChangeLongUptoCardSaid : Prop := Claim7.holds Tryz.pinned (.plain (OpenSpec.upto changeLongSpec)) changeLongUptoCard
end Rows
end Go.Proofs.YtgmdolpjkaajfaaGreatDoor
