/-
  DERIVED. GIVEN WITH THE SEED: THE CARDS: each row of YtnpjffpioimcdaaDoorRows.lean that lists a variable, with what it lists TIED to the program's text (the seventh form; the later family's looks); each row that meets fmt, with fmt's text TOLD by the authors' own Lean function (tested against real Go, not proved from fmt's source: count such statements apart). THE CARD IS WHAT COUNTS. Prove the row's statement (the work); the ties are given (YtnpjffpioimcdaaDoorTie.lean); close each card by the builder's one call (the guide's Derived/Test/ToyasCard.lean, 'card_holds'). Laid BY PROGRAM, IN A SANDBOX (cutbox-door.mjs). By AI agents, Wed Nov 11 2026. No macro, syntax, notation, axiom, sorry.
-/
import Derived.Test.YtnpjffpioimcdaaDoorRows
import GoSem.ClaimSeven
namespace Go.Proofs.YtnpjffpioimcdaaDoor
namespace Rows

/-- THE TIED CARD OF 'posthornlaw06.FieldsParses'. -/
def fieldsParsesCard : Claim7 := { stood := { row := fieldsParsesRow, standIns := [], harness := (true, "5c655c3ff8b31a3e66d750996a390ebe9e985f4ee6100dad1a0ddab854473c09"), looks := false }, kinds := [], alts := [], laidByText := true, laidKinds := [.data, .pinned], laidTests := true, laidLooks := .later }
def FieldsParsesCardSaid : Prop := Claim7.holds Tryd.pinned (.plain (OpenSpec.ofChange fieldsParsesSpec)) fieldsParsesCard

/-- THE TIED CARD OF 'posthornlaw06.FieldsWrites'. -/
def fieldsWritesCard : Claim7 := { stood := { row := fieldsWritesRow, standIns := [], harness := (true, "5c655c3ff8b31a3e66d750996a390ebe9e985f4ee6100dad1a0ddab854473c09"), looks := false }, kinds := [], alts := [], laidByText := true, laidKinds := [.data, .pinned], laidTests := true, laidLooks := .later }
def FieldsWritesCardSaid : Prop := Claim7.holds Tryd.pinned (.plain (OpenSpec.ofChange fieldsWritesSpec)) fieldsWritesCard

/-- THE TIED CARD OF 'posthornlaw06.FieldsBack'. -/
def fieldsBackCard : Claim7 := { stood := { row := fieldsBackRow, standIns := [], harness := (true, "5c655c3ff8b31a3e66d750996a390ebe9e985f4ee6100dad1a0ddab854473c09"), looks := false }, kinds := [], alts := [], laidByText := true, laidKinds := [.data, .pinned], laidTests := true, laidLooks := .later }
def FieldsBackCardSaid : Prop := Claim7.holds Tryd.pinned (.plain (OpenSpec.ofChange fieldsBackSpec)) fieldsBackCard

/-- THE TIED CARD OF 'posthornlaw06.FieldsAgain'. -/
def fieldsAgainCard : Claim7 := { stood := { row := fieldsAgainRow, standIns := [], harness := (true, "5c655c3ff8b31a3e66d750996a390ebe9e985f4ee6100dad1a0ddab854473c09"), looks := false }, kinds := [], alts := [], laidByText := true, laidKinds := [.data, .pinned], laidTests := true, laidLooks := .later }
def FieldsAgainCardSaid : Prop := Claim7.holds Tryd.pinned (.plain (OpenSpec.ofChange fieldsAgainSpec)) fieldsAgainCard

/-- THE TIED CARD OF 'posthornlaw06.FieldsFolds'. -/
def fieldsFoldsCard : Claim7 := { stood := { row := fieldsFoldsRow, standIns := [], harness := (true, "5c655c3ff8b31a3e66d750996a390ebe9e985f4ee6100dad1a0ddab854473c09"), looks := false }, kinds := [], alts := [], laidByText := true, laidKinds := [.data, .pinned], laidTests := true, laidLooks := .later }
def FieldsFoldsCardSaid : Prop := Claim7.holds Tryd.pinned (.plain (OpenSpec.ofChange fieldsFoldsSpec)) fieldsFoldsCard

/-- THE TIED CARD OF 'posthornlaw06.FieldsNames'. -/
def fieldsNamesCard : Claim7 := { stood := { row := fieldsNamesRow, standIns := [], harness := (true, "5c655c3ff8b31a3e66d750996a390ebe9e985f4ee6100dad1a0ddab854473c09"), looks := false }, kinds := [], alts := [], laidByText := true, laidKinds := [.data, .pinned], laidTests := true, laidLooks := .later }
def FieldsNamesCardSaid : Prop := Claim7.holds Tryd.pinned (.plain (OpenSpec.ofChange fieldsNamesSpec)) fieldsNamesCard

/-- THE SECOND FORM's CARD OF 'posthornlaw06.FieldsParses'. -/
def fieldsParsesUptoCard : Claim7 := { stood := { row := fieldsParsesUptoRow, standIns := [], harness := (true, "5c655c3ff8b31a3e66d750996a390ebe9e985f4ee6100dad1a0ddab854473c09"), looks := false }, kinds := [], alts := [], laidByText := true, laidKinds := [.data, .pinned], laidTests := true, laidLooks := .later }
def FieldsParsesUptoCardSaid : Prop := Claim7.holds Tryd.pinned (.plain (OpenSpec.upto fieldsParsesSpec)) fieldsParsesUptoCard

/-- THE SECOND FORM's CARD OF 'posthornlaw06.FieldsWrites'. -/
def fieldsWritesUptoCard : Claim7 := { stood := { row := fieldsWritesUptoRow, standIns := [], harness := (true, "5c655c3ff8b31a3e66d750996a390ebe9e985f4ee6100dad1a0ddab854473c09"), looks := false }, kinds := [], alts := [], laidByText := true, laidKinds := [.data, .pinned], laidTests := true, laidLooks := .later }
def FieldsWritesUptoCardSaid : Prop := Claim7.holds Tryd.pinned (.plain (OpenSpec.upto fieldsWritesSpec)) fieldsWritesUptoCard

/-- THE SECOND FORM's CARD OF 'posthornlaw06.FieldsBack'. -/
def fieldsBackUptoCard : Claim7 := { stood := { row := fieldsBackUptoRow, standIns := [], harness := (true, "5c655c3ff8b31a3e66d750996a390ebe9e985f4ee6100dad1a0ddab854473c09"), looks := false }, kinds := [], alts := [], laidByText := true, laidKinds := [.data, .pinned], laidTests := true, laidLooks := .later }
def FieldsBackUptoCardSaid : Prop := Claim7.holds Tryd.pinned (.plain (OpenSpec.upto fieldsBackSpec)) fieldsBackUptoCard

/-- THE SECOND FORM's CARD OF 'posthornlaw06.FieldsAgain'. -/
def fieldsAgainUptoCard : Claim7 := { stood := { row := fieldsAgainUptoRow, standIns := [], harness := (true, "5c655c3ff8b31a3e66d750996a390ebe9e985f4ee6100dad1a0ddab854473c09"), looks := false }, kinds := [], alts := [], laidByText := true, laidKinds := [.data, .pinned], laidTests := true, laidLooks := .later }
def FieldsAgainUptoCardSaid : Prop := Claim7.holds Tryd.pinned (.plain (OpenSpec.upto fieldsAgainSpec)) fieldsAgainUptoCard

/-- THE SECOND FORM's CARD OF 'posthornlaw06.FieldsFolds'. -/
def fieldsFoldsUptoCard : Claim7 := { stood := { row := fieldsFoldsUptoRow, standIns := [], harness := (true, "5c655c3ff8b31a3e66d750996a390ebe9e985f4ee6100dad1a0ddab854473c09"), looks := false }, kinds := [], alts := [], laidByText := true, laidKinds := [.data, .pinned], laidTests := true, laidLooks := .later }
def FieldsFoldsUptoCardSaid : Prop := Claim7.holds Tryd.pinned (.plain (OpenSpec.upto fieldsFoldsSpec)) fieldsFoldsUptoCard

/-- THE SECOND FORM's CARD OF 'posthornlaw06.FieldsNames'. -/
def fieldsNamesUptoCard : Claim7 := { stood := { row := fieldsNamesUptoRow, standIns := [], harness := (true, "5c655c3ff8b31a3e66d750996a390ebe9e985f4ee6100dad1a0ddab854473c09"), looks := false }, kinds := [], alts := [], laidByText := true, laidKinds := [.data, .pinned], laidTests := true, laidLooks := .later }
def FieldsNamesUptoCardSaid : Prop := Claim7.holds Tryd.pinned (.plain (OpenSpec.upto fieldsNamesSpec)) fieldsNamesUptoCard
end Rows
end Go.Proofs.YtnpjffpioimcdaaDoor
