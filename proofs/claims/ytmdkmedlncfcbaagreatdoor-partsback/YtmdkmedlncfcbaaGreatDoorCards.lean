/-
  DERIVED. GIVEN WITH THE SEED: THE CARDS: each row of YtmdkmedlncfcbaaGreatDoorRows.lean that lists a variable, with what it lists TIED to the program's text (the seventh form; the later family's looks); each row that meets fmt, with fmt's text TOLD by the authors' own Lean function (tested against real Go, not proved from fmt's source: count such statements apart). THE CARD IS WHAT COUNTS. Prove the row's statement (the work); the ties are given (YtmdkmedlncfcbaaGreatDoorTie.lean); close each card by the builder's one call (the guide's Derived/Test/ToyasCard.lean, 'card_holds'). Laid BY PROGRAM, IN A SANDBOX (cutbox-door.mjs). By AI agents, Wed Nov 11 2026. No macro, syntax, notation, axiom, sorry.
-/
import Derived.Test.YtmdkmedlncfcbaaGreatDoorRows
import GoSem.ClaimSeven
namespace Go.Proofs.YtmdkmedlncfcbaaGreatDoor
namespace Rows

/-- THE TIED CARD OF 'posthornlaw09.PartsParses'. -/
def partsParsesCard : Claim7 := { stood := { row := partsParsesRow, standIns := [], harness := (true, "8f05586fa62217afa3f1b489b511c3da6af2cccf767112724532e8d4e399a417"), looks := false }, kinds := [], alts := [], laidByText := true, laidKinds := [.data, .pinned], laidTests := true, laidLooks := .later }
def PartsParsesCardSaid : Prop := Claim7.holds Tryz.pinned (.plain (OpenSpec.ofChange partsParsesSpec)) partsParsesCard

/-- THE TIED CARD OF 'posthornlaw09.PartsWrites'. -/
def partsWritesCard : Claim7 := { stood := { row := partsWritesRow, standIns := [], harness := (true, "8f05586fa62217afa3f1b489b511c3da6af2cccf767112724532e8d4e399a417"), looks := false }, kinds := [], alts := [], laidByText := true, laidKinds := [.data, .pinned], laidTests := true, laidLooks := .later }
def PartsWritesCardSaid : Prop := Claim7.holds Tryz.pinned (.plain (OpenSpec.ofChange partsWritesSpec)) partsWritesCard

/-- THE TIED CARD OF 'posthornlaw09.PartsContents'. -/
def partsContentsCard : Claim7 := { stood := { row := partsContentsRow, standIns := [], harness := (true, "8f05586fa62217afa3f1b489b511c3da6af2cccf767112724532e8d4e399a417"), looks := false }, kinds := [], alts := [], laidByText := true, laidKinds := [.data, .data, .data, .data, .pinned], laidTests := true, laidLooks := .later }
def PartsContentsCardSaid : Prop := Claim7.holds Tryz.pinned (.plain (OpenSpec.ofChange partsContentsSpec)) partsContentsCard

/-- THE TIED CARD OF 'posthornlaw09.PartsBack'. -/
def partsBackCard : Claim7 := { stood := { row := partsBackRow, standIns := [], harness := (true, "8f05586fa62217afa3f1b489b511c3da6af2cccf767112724532e8d4e399a417"), looks := false }, kinds := [], alts := [], laidByText := true, laidKinds := [.data, .pinned], laidTests := true, laidLooks := .later }
def PartsBackCardSaid : Prop := Claim7.holds Tryz.pinned (.plain (OpenSpec.ofChange partsBackSpec)) partsBackCard

/-- THE TIED CARD OF 'posthornlaw09.PartsAgain'. -/
def partsAgainCard : Claim7 := { stood := { row := partsAgainRow, standIns := [], harness := (true, "8f05586fa62217afa3f1b489b511c3da6af2cccf767112724532e8d4e399a417"), looks := false }, kinds := [], alts := [], laidByText := true, laidKinds := [.data, .pinned], laidTests := true, laidLooks := .later }
def PartsAgainCardSaid : Prop := Claim7.holds Tryz.pinned (.plain (OpenSpec.ofChange partsAgainSpec)) partsAgainCard

/-- THE TIED CARD OF 'posthornlaw09.PartsKnots'. -/
def partsKnotsCard : Claim7 := { stood := { row := partsKnotsRow, standIns := [], harness := (true, "8f05586fa62217afa3f1b489b511c3da6af2cccf767112724532e8d4e399a417"), looks := false }, kinds := [], alts := [], laidByText := true, laidKinds := [.data, .data, .data, .data, .pinned], laidTests := true, laidLooks := .later }
def PartsKnotsCardSaid : Prop := Claim7.holds Tryz.pinned (.plain (OpenSpec.ofChange partsKnotsSpec)) partsKnotsCard

/-- THE SECOND FORM's CARD OF 'posthornlaw09.PartsParses'. -/
def partsParsesUptoCard : Claim7 := { stood := { row := partsParsesUptoRow, standIns := [], harness := (true, "8f05586fa62217afa3f1b489b511c3da6af2cccf767112724532e8d4e399a417"), looks := false }, kinds := [], alts := [], laidByText := true, laidKinds := [.data, .pinned], laidTests := true, laidLooks := .later }
def PartsParsesUptoCardSaid : Prop := Claim7.holds Tryz.pinned (.plain (OpenSpec.upto partsParsesSpec)) partsParsesUptoCard

/-- THE SECOND FORM's CARD OF 'posthornlaw09.PartsWrites'. -/
def partsWritesUptoCard : Claim7 := { stood := { row := partsWritesUptoRow, standIns := [], harness := (true, "8f05586fa62217afa3f1b489b511c3da6af2cccf767112724532e8d4e399a417"), looks := false }, kinds := [], alts := [], laidByText := true, laidKinds := [.data, .pinned], laidTests := true, laidLooks := .later }
def PartsWritesUptoCardSaid : Prop := Claim7.holds Tryz.pinned (.plain (OpenSpec.upto partsWritesSpec)) partsWritesUptoCard

/-- THE SECOND FORM's CARD OF 'posthornlaw09.PartsContents'. -/
def partsContentsUptoCard : Claim7 := { stood := { row := partsContentsUptoRow, standIns := [], harness := (true, "8f05586fa62217afa3f1b489b511c3da6af2cccf767112724532e8d4e399a417"), looks := false }, kinds := [], alts := [], laidByText := true, laidKinds := [.data, .data, .data, .data, .pinned], laidTests := true, laidLooks := .later }
def PartsContentsUptoCardSaid : Prop := Claim7.holds Tryz.pinned (.plain (OpenSpec.upto partsContentsSpec)) partsContentsUptoCard

/-- THE SECOND FORM's CARD OF 'posthornlaw09.PartsBack'. -/
def partsBackUptoCard : Claim7 := { stood := { row := partsBackUptoRow, standIns := [], harness := (true, "8f05586fa62217afa3f1b489b511c3da6af2cccf767112724532e8d4e399a417"), looks := false }, kinds := [], alts := [], laidByText := true, laidKinds := [.data, .pinned], laidTests := true, laidLooks := .later }
def PartsBackUptoCardSaid : Prop := Claim7.holds Tryz.pinned (.plain (OpenSpec.upto partsBackSpec)) partsBackUptoCard

/-- THE SECOND FORM's CARD OF 'posthornlaw09.PartsAgain'. -/
def partsAgainUptoCard : Claim7 := { stood := { row := partsAgainUptoRow, standIns := [], harness := (true, "8f05586fa62217afa3f1b489b511c3da6af2cccf767112724532e8d4e399a417"), looks := false }, kinds := [], alts := [], laidByText := true, laidKinds := [.data, .pinned], laidTests := true, laidLooks := .later }
def PartsAgainUptoCardSaid : Prop := Claim7.holds Tryz.pinned (.plain (OpenSpec.upto partsAgainSpec)) partsAgainUptoCard

/-- THE SECOND FORM's CARD OF 'posthornlaw09.PartsKnots'. -/
def partsKnotsUptoCard : Claim7 := { stood := { row := partsKnotsUptoRow, standIns := [], harness := (true, "8f05586fa62217afa3f1b489b511c3da6af2cccf767112724532e8d4e399a417"), looks := false }, kinds := [], alts := [], laidByText := true, laidKinds := [.data, .data, .data, .data, .pinned], laidTests := true, laidLooks := .later }
def PartsKnotsUptoCardSaid : Prop := Claim7.holds Tryz.pinned (.plain (OpenSpec.upto partsKnotsSpec)) partsKnotsUptoCard
end Rows
end Go.Proofs.YtmdkmedlncfcbaaGreatDoor
