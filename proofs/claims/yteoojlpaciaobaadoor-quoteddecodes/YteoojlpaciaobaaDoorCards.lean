/-
  DERIVED. GIVEN WITH THE SEED: THE CARDS: each row of YteoojlpaciaobaaDoorRows.lean that lists a variable, with what it lists TIED to the program's text (the seventh form; the later family's looks); each row that meets fmt, with fmt's text TOLD by the authors' own Lean function (tested against real Go, not proved from fmt's source: count such statements apart). THE CARD IS WHAT COUNTS. Prove the row's statement (the work); the ties are given (YteoojlpaciaobaaDoorTie.lean); close each card by the builder's one call (the guide's Derived/Test/ToyasCard.lean, 'card_holds'). Laid BY PROGRAM, IN A SANDBOX (cutbox-door.mjs). By AI agents, Wed Nov 11 2026. No macro, syntax, notation, axiom, sorry.
-/
import Derived.Test.YteoojlpaciaobaaDoorRows
import GoSem.ClaimSeven
namespace Go.Proofs.YteoojlpaciaobaaDoor
namespace Rows

/-- THE TIED CARD OF 'posthornlaw03.QuotedEncodes'. -/
def quotedEncodesCard : Claim7 := { stood := { row := quotedEncodesRow, standIns := [], harness := (true, "16a4ee8d066c19e8efa5a52a08ebebdc26f8156b9ce135e5fc4381d00a2c6800"), looks := false }, kinds := [], alts := [], laidByText := true, laidKinds := [.data, .pinned], laidTests := true, laidLooks := .later }
def QuotedEncodesCardSaid : Prop := Claim7.holds Tryd.pinned (.plain (OpenSpec.ofChange quotedEncodesSpec)) quotedEncodesCard

/-- THE TIED CARD OF 'posthornlaw03.QuotedDecodes'. -/
def quotedDecodesCard : Claim7 := { stood := { row := quotedDecodesRow, standIns := [], harness := (true, "16a4ee8d066c19e8efa5a52a08ebebdc26f8156b9ce135e5fc4381d00a2c6800"), looks := false }, kinds := [], alts := [], laidByText := true, laidKinds := [.data, .pinned], laidTests := true, laidLooks := .later }
def QuotedDecodesCardSaid : Prop := Claim7.holds Tryd.pinned (.plain (OpenSpec.ofChange quotedDecodesSpec)) quotedDecodesCard

/-- THE TIED CARD OF 'posthornlaw03.QuotedBack'. -/
def quotedBackCard : Claim7 := { stood := { row := quotedBackRow, standIns := [], harness := (true, "16a4ee8d066c19e8efa5a52a08ebebdc26f8156b9ce135e5fc4381d00a2c6800"), looks := false }, kinds := [], alts := [], laidByText := true, laidKinds := [.data, .pinned], laidTests := true, laidLooks := .later }
def QuotedBackCardSaid : Prop := Claim7.holds Tryd.pinned (.plain (OpenSpec.ofChange quotedBackSpec)) quotedBackCard

/-- THE TIED CARD OF 'posthornlaw03.QuotedLines'. -/
def quotedLinesCard : Claim7 := { stood := { row := quotedLinesRow, standIns := [], harness := (true, "16a4ee8d066c19e8efa5a52a08ebebdc26f8156b9ce135e5fc4381d00a2c6800"), looks := false }, kinds := [], alts := [], laidByText := true, laidKinds := [.data, .pinned], laidTests := true, laidLooks := .later }
def QuotedLinesCardSaid : Prop := Claim7.holds Tryd.pinned (.plain (OpenSpec.ofChange quotedLinesSpec)) quotedLinesCard

/-- THE TIED CARD OF 'posthornlaw03.QuotedAgain'. -/
def quotedAgainCard : Claim7 := { stood := { row := quotedAgainRow, standIns := [], harness := (true, "16a4ee8d066c19e8efa5a52a08ebebdc26f8156b9ce135e5fc4381d00a2c6800"), looks := false }, kinds := [], alts := [], laidByText := true, laidKinds := [.data, .pinned], laidTests := true, laidLooks := .later }
def QuotedAgainCardSaid : Prop := Claim7.holds Tryd.pinned (.plain (OpenSpec.ofChange quotedAgainSpec)) quotedAgainCard

/-- THE TIED CARD OF 'posthornlaw03.QuotedPlain'. -/
def quotedPlainCard : Claim7 := { stood := { row := quotedPlainRow, standIns := [], harness := (true, "16a4ee8d066c19e8efa5a52a08ebebdc26f8156b9ce135e5fc4381d00a2c6800"), looks := false }, kinds := [], alts := [], laidByText := true, laidKinds := [.data, .pinned], laidTests := true, laidLooks := .later }
def QuotedPlainCardSaid : Prop := Claim7.holds Tryd.pinned (.plain (OpenSpec.ofChange quotedPlainSpec)) quotedPlainCard

/-- THE SECOND FORM's CARD OF 'posthornlaw03.QuotedEncodes'. -/
def quotedEncodesUptoCard : Claim7 := { stood := { row := quotedEncodesUptoRow, standIns := [], harness := (true, "16a4ee8d066c19e8efa5a52a08ebebdc26f8156b9ce135e5fc4381d00a2c6800"), looks := false }, kinds := [], alts := [], laidByText := true, laidKinds := [.data, .pinned], laidTests := true, laidLooks := .later }
def QuotedEncodesUptoCardSaid : Prop := Claim7.holds Tryd.pinned (.plain (OpenSpec.upto quotedEncodesSpec)) quotedEncodesUptoCard

/-- THE SECOND FORM's CARD OF 'posthornlaw03.QuotedDecodes'. -/
def quotedDecodesUptoCard : Claim7 := { stood := { row := quotedDecodesUptoRow, standIns := [], harness := (true, "16a4ee8d066c19e8efa5a52a08ebebdc26f8156b9ce135e5fc4381d00a2c6800"), looks := false }, kinds := [], alts := [], laidByText := true, laidKinds := [.data, .pinned], laidTests := true, laidLooks := .later }
def QuotedDecodesUptoCardSaid : Prop := Claim7.holds Tryd.pinned (.plain (OpenSpec.upto quotedDecodesSpec)) quotedDecodesUptoCard

/-- THE SECOND FORM's CARD OF 'posthornlaw03.QuotedBack'. -/
def quotedBackUptoCard : Claim7 := { stood := { row := quotedBackUptoRow, standIns := [], harness := (true, "16a4ee8d066c19e8efa5a52a08ebebdc26f8156b9ce135e5fc4381d00a2c6800"), looks := false }, kinds := [], alts := [], laidByText := true, laidKinds := [.data, .pinned], laidTests := true, laidLooks := .later }
def QuotedBackUptoCardSaid : Prop := Claim7.holds Tryd.pinned (.plain (OpenSpec.upto quotedBackSpec)) quotedBackUptoCard

/-- THE SECOND FORM's CARD OF 'posthornlaw03.QuotedLines'. -/
def quotedLinesUptoCard : Claim7 := { stood := { row := quotedLinesUptoRow, standIns := [], harness := (true, "16a4ee8d066c19e8efa5a52a08ebebdc26f8156b9ce135e5fc4381d00a2c6800"), looks := false }, kinds := [], alts := [], laidByText := true, laidKinds := [.data, .pinned], laidTests := true, laidLooks := .later }
def QuotedLinesUptoCardSaid : Prop := Claim7.holds Tryd.pinned (.plain (OpenSpec.upto quotedLinesSpec)) quotedLinesUptoCard

/-- THE SECOND FORM's CARD OF 'posthornlaw03.QuotedAgain'. -/
def quotedAgainUptoCard : Claim7 := { stood := { row := quotedAgainUptoRow, standIns := [], harness := (true, "16a4ee8d066c19e8efa5a52a08ebebdc26f8156b9ce135e5fc4381d00a2c6800"), looks := false }, kinds := [], alts := [], laidByText := true, laidKinds := [.data, .pinned], laidTests := true, laidLooks := .later }
def QuotedAgainUptoCardSaid : Prop := Claim7.holds Tryd.pinned (.plain (OpenSpec.upto quotedAgainSpec)) quotedAgainUptoCard

/-- THE SECOND FORM's CARD OF 'posthornlaw03.QuotedPlain'. -/
def quotedPlainUptoCard : Claim7 := { stood := { row := quotedPlainUptoRow, standIns := [], harness := (true, "16a4ee8d066c19e8efa5a52a08ebebdc26f8156b9ce135e5fc4381d00a2c6800"), looks := false }, kinds := [], alts := [], laidByText := true, laidKinds := [.data, .pinned], laidTests := true, laidLooks := .later }
def QuotedPlainUptoCardSaid : Prop := Claim7.holds Tryd.pinned (.plain (OpenSpec.upto quotedPlainSpec)) quotedPlainUptoCard
end Rows
end Go.Proofs.YteoojlpaciaobaaDoor
