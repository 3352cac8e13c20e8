/-
  DERIVED. GIVEN WITH THE SEED: THE CARDS: each row of YtkbkajipkdlmbaaDoorRows.lean that lists a variable, with what it lists TIED to the program's text (the seventh form; the later family's looks); each row that meets fmt, with fmt's text TOLD by the authors' own Lean function (tested against real Go, not proved from fmt's source: count such statements apart). THE CARD IS WHAT COUNTS. Prove the row's statement (the work); the ties are given (YtkbkajipkdlmbaaDoorTie.lean); close each card by the builder's one call (the guide's Derived/Test/ToyasCard.lean, 'card_holds'). Laid BY PROGRAM, IN A SANDBOX (cutbox-door.mjs). By AI agents, Wed Nov 11 2026. No macro, syntax, notation, axiom, sorry.
-/
import Derived.Test.YtkbkajipkdlmbaaDoorRows
import GoSem.ClaimSeven
namespace Go.Proofs.YtkbkajipkdlmbaaDoor
namespace Rows

/-- THE TIED CARD OF 'posthornlaw08.KindWrites'. -/
def kindWritesCard : Claim7 := { stood := { row := kindWritesRow, standIns := [], harness := (true, "a34ed0cbbdc7737052c026eb5e8a88df30c8a94f8bd95244329b1f2811930e41"), looks := false }, kinds := [], alts := [], laidByText := true, laidKinds := [.data, .pinned], laidTests := true, laidLooks := .later }
def KindWritesCardSaid : Prop := Claim7.holds Tryd.pinned (.plain (OpenSpec.ofChange kindWritesSpec)) kindWritesCard

/-- THE TIED CARD OF 'posthornlaw08.KindReads'. -/
def kindReadsCard : Claim7 := { stood := { row := kindReadsRow, standIns := [], harness := (true, "a34ed0cbbdc7737052c026eb5e8a88df30c8a94f8bd95244329b1f2811930e41"), looks := false }, kinds := [], alts := [], laidByText := true, laidKinds := [.data, .pinned], laidTests := true, laidLooks := .later }
def KindReadsCardSaid : Prop := Claim7.holds Tryd.pinned (.plain (OpenSpec.ofChange kindReadsSpec)) kindReadsCard

/-- THE TIED CARD OF 'posthornlaw08.KindBack'. -/
def kindBackCard : Claim7 := { stood := { row := kindBackRow, standIns := [], harness := (true, "a34ed0cbbdc7737052c026eb5e8a88df30c8a94f8bd95244329b1f2811930e41"), looks := false }, kinds := [], alts := [], laidByText := true, laidKinds := [.data, .pinned], laidTests := true, laidLooks := .later }
def KindBackCardSaid : Prop := Claim7.holds Tryd.pinned (.plain (OpenSpec.ofChange kindBackSpec)) kindBackCard

/-- THE TIED CARD OF 'posthornlaw08.KindRight'. -/
def kindRightCard : Claim7 := { stood := { row := kindRightRow, standIns := [], harness := (true, "a34ed0cbbdc7737052c026eb5e8a88df30c8a94f8bd95244329b1f2811930e41"), looks := false }, kinds := [], alts := [], laidByText := true, laidKinds := [.data, .pinned], laidTests := true, laidLooks := .later }
def KindRightCardSaid : Prop := Claim7.holds Tryd.pinned (.plain (OpenSpec.ofChange kindRightSpec)) kindRightCard

/-- THE TIED CARD OF 'posthornlaw08.KindLetters'. -/
def kindLettersCard : Claim7 := { stood := { row := kindLettersRow, standIns := [], harness := (true, "a34ed0cbbdc7737052c026eb5e8a88df30c8a94f8bd95244329b1f2811930e41"), looks := false }, kinds := [], alts := [], laidByText := true, laidKinds := [.data, .pinned], laidTests := true, laidLooks := .later }
def KindLettersCardSaid : Prop := Claim7.holds Tryd.pinned (.plain (OpenSpec.ofChange kindLettersSpec)) kindLettersCard

/-- THE SECOND FORM's CARD OF 'posthornlaw08.KindWrites'. -/
def kindWritesUptoCard : Claim7 := { stood := { row := kindWritesUptoRow, standIns := [], harness := (true, "a34ed0cbbdc7737052c026eb5e8a88df30c8a94f8bd95244329b1f2811930e41"), looks := false }, kinds := [], alts := [], laidByText := true, laidKinds := [.data, .pinned], laidTests := true, laidLooks := .later }
def KindWritesUptoCardSaid : Prop := Claim7.holds Tryd.pinned (.plain (OpenSpec.upto kindWritesSpec)) kindWritesUptoCard

/-- THE SECOND FORM's CARD OF 'posthornlaw08.KindReads'. -/
def kindReadsUptoCard : Claim7 := { stood := { row := kindReadsUptoRow, standIns := [], harness := (true, "a34ed0cbbdc7737052c026eb5e8a88df30c8a94f8bd95244329b1f2811930e41"), looks := false }, kinds := [], alts := [], laidByText := true, laidKinds := [.data, .pinned], laidTests := true, laidLooks := .later }
def KindReadsUptoCardSaid : Prop := Claim7.holds Tryd.pinned (.plain (OpenSpec.upto kindReadsSpec)) kindReadsUptoCard

/-- THE SECOND FORM's CARD OF 'posthornlaw08.KindBack'. -/
def kindBackUptoCard : Claim7 := { stood := { row := kindBackUptoRow, standIns := [], harness := (true, "a34ed0cbbdc7737052c026eb5e8a88df30c8a94f8bd95244329b1f2811930e41"), looks := false }, kinds := [], alts := [], laidByText := true, laidKinds := [.data, .pinned], laidTests := true, laidLooks := .later }
def KindBackUptoCardSaid : Prop := Claim7.holds Tryd.pinned (.plain (OpenSpec.upto kindBackSpec)) kindBackUptoCard

/-- THE SECOND FORM's CARD OF 'posthornlaw08.KindRight'. -/
def kindRightUptoCard : Claim7 := { stood := { row := kindRightUptoRow, standIns := [], harness := (true, "a34ed0cbbdc7737052c026eb5e8a88df30c8a94f8bd95244329b1f2811930e41"), looks := false }, kinds := [], alts := [], laidByText := true, laidKinds := [.data, .pinned], laidTests := true, laidLooks := .later }
def KindRightUptoCardSaid : Prop := Claim7.holds Tryd.pinned (.plain (OpenSpec.upto kindRightSpec)) kindRightUptoCard

/-- THE SECOND FORM's CARD OF 'posthornlaw08.KindLetters'. -/
def kindLettersUptoCard : Claim7 := { stood := { row := kindLettersUptoRow, standIns := [], harness := (true, "a34ed0cbbdc7737052c026eb5e8a88df30c8a94f8bd95244329b1f2811930e41"), looks := false }, kinds := [], alts := [], laidByText := true, laidKinds := [.data, .pinned], laidTests := true, laidLooks := .later }
def KindLettersUptoCardSaid : Prop := Claim7.holds Tryd.pinned (.plain (OpenSpec.upto kindLettersSpec)) kindLettersUptoCard
end Rows
end Go.Proofs.YtkbkajipkdlmbaaDoor
