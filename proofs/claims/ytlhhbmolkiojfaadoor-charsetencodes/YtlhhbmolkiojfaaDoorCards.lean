/-
  DERIVED. GIVEN WITH THE SEED: THE CARDS: each row of YtlhhbmolkiojfaaDoorRows.lean that lists a variable, with what it lists TIED to the program's text (the seventh form; the later family's looks); each row that meets fmt, with fmt's text TOLD by the authors' own Lean function (tested against real Go, not proved from fmt's source: count such statements apart). THE CARD IS WHAT COUNTS. Prove the row's statement (the work); the ties are given (YtlhhbmolkiojfaaDoorTie.lean); close each card by the builder's one call (the guide's Derived/Test/ToyasCard.lean, 'card_holds'). Laid BY PROGRAM, IN A SANDBOX (cutbox-door.mjs). By AI agents, Wed Nov 11 2026. No macro, syntax, notation, axiom, sorry.
-/
import Derived.Test.YtlhhbmolkiojfaaDoorRows
import GoSem.ClaimSeven
namespace Go.Proofs.YtlhhbmolkiojfaaDoor
namespace Rows

/-- THE TIED CARD OF 'posthornlaw18.CharsetDecodes'. -/
def charsetDecodesCard : Claim7 := { stood := { row := charsetDecodesRow, standIns := [], harness := (true, "3fc03e3cf6e397b35123c17dcb43d8622cadf28911f55ca9c522b4b9e8c1995f"), looks := false }, kinds := [], alts := [], laidByText := true, laidKinds := [.data, .data], laidTests := true, laidLooks := .later }
def CharsetDecodesCardSaid : Prop := Claim7.holds Tryd.pinned (.plain (OpenSpec.ofChange charsetDecodesSpec)) charsetDecodesCard

/-- THE TIED CARD OF 'posthornlaw18.CharsetEncodes'. -/
def charsetEncodesCard : Claim7 := { stood := { row := charsetEncodesRow, standIns := [], harness := (true, "3fc03e3cf6e397b35123c17dcb43d8622cadf28911f55ca9c522b4b9e8c1995f"), looks := false }, kinds := [], alts := [], laidByText := true, laidKinds := [.data, .data], laidTests := true, laidLooks := .later }
def CharsetEncodesCardSaid : Prop := Claim7.holds Tryd.pinned (.plain (OpenSpec.ofChange charsetEncodesSpec)) charsetEncodesCard

/-- THE TIED CARD OF 'posthornlaw18.CharsetBack'. -/
def charsetBackCard : Claim7 := { stood := { row := charsetBackRow, standIns := [], harness := (true, "3fc03e3cf6e397b35123c17dcb43d8622cadf28911f55ca9c522b4b9e8c1995f"), looks := false }, kinds := [], alts := [], laidByText := true, laidKinds := [.data, .data], laidTests := true, laidLooks := .later }
def CharsetBackCardSaid : Prop := Claim7.holds Tryd.pinned (.plain (OpenSpec.ofChange charsetBackSpec)) charsetBackCard

/-- THE TIED CARD OF 'posthornlaw18.CharsetBytes'. -/
def charsetBytesCard : Claim7 := { stood := { row := charsetBytesRow, standIns := [], harness := (true, "3fc03e3cf6e397b35123c17dcb43d8622cadf28911f55ca9c522b4b9e8c1995f"), looks := false }, kinds := [], alts := [], laidByText := true, laidKinds := [.data, .data], laidTests := true, laidLooks := .later }
def CharsetBytesCardSaid : Prop := Claim7.holds Tryd.pinned (.plain (OpenSpec.ofChange charsetBytesSpec)) charsetBytesCard

/-- THE TIED CARD OF 'posthornlaw18.CharsetAscii'. -/
def charsetAsciiCard : Claim7 := { stood := { row := charsetAsciiRow, standIns := [], harness := (true, "3fc03e3cf6e397b35123c17dcb43d8622cadf28911f55ca9c522b4b9e8c1995f"), looks := false }, kinds := [], alts := [], laidByText := true, laidKinds := [.data, .data], laidTests := true, laidLooks := .later }
def CharsetAsciiCardSaid : Prop := Claim7.holds Tryd.pinned (.plain (OpenSpec.ofChange charsetAsciiSpec)) charsetAsciiCard

/-- THE TIED CARD OF 'posthornlaw18.CharsetWide'. -/
def charsetWideCard : Claim7 := { stood := { row := charsetWideRow, standIns := [], harness := (true, "3fc03e3cf6e397b35123c17dcb43d8622cadf28911f55ca9c522b4b9e8c1995f"), looks := false }, kinds := [], alts := [], laidByText := true, laidKinds := [.data, .data], laidTests := true, laidLooks := .later }
def CharsetWideCardSaid : Prop := Claim7.holds Tryd.pinned (.plain (OpenSpec.ofChange charsetWideSpec)) charsetWideCard

/-- THE SECOND FORM's CARD OF 'posthornlaw18.CharsetDecodes'. -/
def charsetDecodesUptoCard : Claim7 := { stood := { row := charsetDecodesUptoRow, standIns := [], harness := (true, "3fc03e3cf6e397b35123c17dcb43d8622cadf28911f55ca9c522b4b9e8c1995f"), looks := false }, kinds := [], alts := [], laidByText := true, laidKinds := [.data, .data], laidTests := true, laidLooks := .later }
def CharsetDecodesUptoCardSaid : Prop := Claim7.holds Tryd.pinned (.plain (OpenSpec.upto charsetDecodesSpec)) charsetDecodesUptoCard

/-- THE SECOND FORM's CARD OF 'posthornlaw18.CharsetEncodes'. -/
def charsetEncodesUptoCard : Claim7 := { stood := { row := charsetEncodesUptoRow, standIns := [], harness := (true, "3fc03e3cf6e397b35123c17dcb43d8622cadf28911f55ca9c522b4b9e8c1995f"), looks := false }, kinds := [], alts := [], laidByText := true, laidKinds := [.data, .data], laidTests := true, laidLooks := .later }
def CharsetEncodesUptoCardSaid : Prop := Claim7.holds Tryd.pinned (.plain (OpenSpec.upto charsetEncodesSpec)) charsetEncodesUptoCard

/-- THE SECOND FORM's CARD OF 'posthornlaw18.CharsetBack'. -/
def charsetBackUptoCard : Claim7 := { stood := { row := charsetBackUptoRow, standIns := [], harness := (true, "3fc03e3cf6e397b35123c17dcb43d8622cadf28911f55ca9c522b4b9e8c1995f"), looks := false }, kinds := [], alts := [], laidByText := true, laidKinds := [.data, .data], laidTests := true, laidLooks := .later }
def CharsetBackUptoCardSaid : Prop := Claim7.holds Tryd.pinned (.plain (OpenSpec.upto charsetBackSpec)) charsetBackUptoCard

/-- THE SECOND FORM's CARD OF 'posthornlaw18.CharsetBytes'. -/
def charsetBytesUptoCard : Claim7 := { stood := { row := charsetBytesUptoRow, standIns := [], harness := (true, "3fc03e3cf6e397b35123c17dcb43d8622cadf28911f55ca9c522b4b9e8c1995f"), looks := false }, kinds := [], alts := [], laidByText := true, laidKinds := [.data, .data], laidTests := true, laidLooks := .later }
def CharsetBytesUptoCardSaid : Prop := Claim7.holds Tryd.pinned (.plain (OpenSpec.upto charsetBytesSpec)) charsetBytesUptoCard

/-- THE SECOND FORM's CARD OF 'posthornlaw18.CharsetAscii'. -/
def charsetAsciiUptoCard : Claim7 := { stood := { row := charsetAsciiUptoRow, standIns := [], harness := (true, "3fc03e3cf6e397b35123c17dcb43d8622cadf28911f55ca9c522b4b9e8c1995f"), looks := false }, kinds := [], alts := [], laidByText := true, laidKinds := [.data, .data], laidTests := true, laidLooks := .later }
def CharsetAsciiUptoCardSaid : Prop := Claim7.holds Tryd.pinned (.plain (OpenSpec.upto charsetAsciiSpec)) charsetAsciiUptoCard

/-- THE SECOND FORM's CARD OF 'posthornlaw18.CharsetWide'. -/
def charsetWideUptoCard : Claim7 := { stood := { row := charsetWideUptoRow, standIns := [], harness := (true, "3fc03e3cf6e397b35123c17dcb43d8622cadf28911f55ca9c522b4b9e8c1995f"), looks := false }, kinds := [], alts := [], laidByText := true, laidKinds := [.data, .data], laidTests := true, laidLooks := .later }
def CharsetWideUptoCardSaid : Prop := Claim7.holds Tryd.pinned (.plain (OpenSpec.upto charsetWideSpec)) charsetWideUptoCard
end Rows
end Go.Proofs.YtlhhbmolkiojfaaDoor
