/-
  DERIVED. GIVEN WITH THE SEED: THE CARDS: each row of YtfhgkkdbkbbpkaaDoorRows.lean that lists a variable, with what it lists TIED to the program's text (the seventh form; the later family's looks); each row that meets fmt, with fmt's text TOLD by the authors' own Lean function (tested against real Go, not proved from fmt's source: count such statements apart). THE CARD IS WHAT COUNTS. Prove the row's statement (the work); the ties are given (YtfhgkkdbkbbpkaaDoorTie.lean); close each card by the builder's one call (the guide's Derived/Test/ToyasCard.lean, 'card_holds'). Laid BY PROGRAM, IN A SANDBOX (cutbox-door.mjs). By AI agents, Wed Nov 11 2026. No macro, syntax, notation, axiom, sorry.
-/
import Derived.Test.YtfhgkkdbkbbpkaaDoorRows
import GoSem.ClaimSeven
namespace Go.Proofs.YtfhgkkdbkbbpkaaDoor
namespace Rows

/-- THE TIED CARD OF 'posthornlaw19.ExtraSplits'. -/
def extraSplitsCard : Claim7 := { stood := { row := extraSplitsRow, standIns := [], harness := (true, "02b3d07317dfd81e545aa614197f0593fca6caac5c9ccb44ddc80b6add6d337d"), looks := false }, kinds := [], alts := [], laidByText := true, laidKinds := [.data, .data, .data, .data, .data], laidTests := true, laidLooks := .later }
def ExtraSplitsCardSaid : Prop := Claim7.holds Tryd.pinned (.plain (OpenSpec.ofChange extraSplitsSpec)) extraSplitsCard

/-- THE TIED CARD OF 'posthornlaw19.ExtraCodes'. -/
def extraCodesCard : Claim7 := { stood := { row := extraCodesRow, standIns := [], harness := (true, "02b3d07317dfd81e545aa614197f0593fca6caac5c9ccb44ddc80b6add6d337d"), looks := false }, kinds := [], alts := [], laidByText := true, laidKinds := [.data, .data], laidTests := true, laidLooks := .later }
def ExtraCodesCardSaid : Prop := Claim7.holds Tryd.pinned (.plain (OpenSpec.ofChange extraCodesSpec)) extraCodesCard

/-- THE TIED CARD OF 'posthornlaw19.ExtraBack'. -/
def extraBackCard : Claim7 := { stood := { row := extraBackRow, standIns := [], harness := (true, "02b3d07317dfd81e545aa614197f0593fca6caac5c9ccb44ddc80b6add6d337d"), looks := false }, kinds := [], alts := [], laidByText := true, laidKinds := [.data, .data, .data, .data, .data, .data, .pinned], laidTests := true, laidLooks := .later }
def ExtraBackCardSaid : Prop := Claim7.holds Tryd.pinned (.plain (OpenSpec.ofChange extraBackSpec)) extraBackCard

/-- THE TIED CARD OF 'posthornlaw19.ExtraCodeBack'. -/
def extraCodeBackCard : Claim7 := { stood := { row := extraCodeBackRow, standIns := [], harness := (true, "02b3d07317dfd81e545aa614197f0593fca6caac5c9ccb44ddc80b6add6d337d"), looks := false }, kinds := [], alts := [], laidByText := true, laidKinds := [.data, .data], laidTests := true, laidLooks := .later }
def ExtraCodeBackCardSaid : Prop := Claim7.holds Tryd.pinned (.plain (OpenSpec.ofChange extraCodeBackSpec)) extraCodeBackCard

/-- THE TIED CARD OF 'posthornlaw19.ExtraPlain'. -/
def extraPlainCard : Claim7 := { stood := { row := extraPlainRow, standIns := [], harness := (true, "02b3d07317dfd81e545aa614197f0593fca6caac5c9ccb44ddc80b6add6d337d"), looks := false }, kinds := [], alts := [], laidByText := true, laidKinds := [.data, .data, .data, .data, .data], laidTests := true, laidLooks := .later }
def ExtraPlainCardSaid : Prop := Claim7.holds Tryd.pinned (.plain (OpenSpec.ofChange extraPlainSpec)) extraPlainCard

/-- THE SECOND FORM's CARD OF 'posthornlaw19.ExtraSplits'. -/
def extraSplitsUptoCard : Claim7 := { stood := { row := extraSplitsUptoRow, standIns := [], harness := (true, "02b3d07317dfd81e545aa614197f0593fca6caac5c9ccb44ddc80b6add6d337d"), looks := false }, kinds := [], alts := [], laidByText := true, laidKinds := [.data, .data, .data, .data, .data], laidTests := true, laidLooks := .later }
def ExtraSplitsUptoCardSaid : Prop := Claim7.holds Tryd.pinned (.plain (OpenSpec.upto extraSplitsSpec)) extraSplitsUptoCard

/-- THE SECOND FORM's CARD OF 'posthornlaw19.ExtraCodes'. -/
def extraCodesUptoCard : Claim7 := { stood := { row := extraCodesUptoRow, standIns := [], harness := (true, "02b3d07317dfd81e545aa614197f0593fca6caac5c9ccb44ddc80b6add6d337d"), looks := false }, kinds := [], alts := [], laidByText := true, laidKinds := [.data, .data], laidTests := true, laidLooks := .later }
def ExtraCodesUptoCardSaid : Prop := Claim7.holds Tryd.pinned (.plain (OpenSpec.upto extraCodesSpec)) extraCodesUptoCard

/-- THE SECOND FORM's CARD OF 'posthornlaw19.ExtraBack'. -/
def extraBackUptoCard : Claim7 := { stood := { row := extraBackUptoRow, standIns := [], harness := (true, "02b3d07317dfd81e545aa614197f0593fca6caac5c9ccb44ddc80b6add6d337d"), looks := false }, kinds := [], alts := [], laidByText := true, laidKinds := [.data, .data, .data, .data, .data, .data, .pinned], laidTests := true, laidLooks := .later }
def ExtraBackUptoCardSaid : Prop := Claim7.holds Tryd.pinned (.plain (OpenSpec.upto extraBackSpec)) extraBackUptoCard

/-- THE SECOND FORM's CARD OF 'posthornlaw19.ExtraCodeBack'. -/
def extraCodeBackUptoCard : Claim7 := { stood := { row := extraCodeBackUptoRow, standIns := [], harness := (true, "02b3d07317dfd81e545aa614197f0593fca6caac5c9ccb44ddc80b6add6d337d"), looks := false }, kinds := [], alts := [], laidByText := true, laidKinds := [.data, .data], laidTests := true, laidLooks := .later }
def ExtraCodeBackUptoCardSaid : Prop := Claim7.holds Tryd.pinned (.plain (OpenSpec.upto extraCodeBackSpec)) extraCodeBackUptoCard

/-- THE SECOND FORM's CARD OF 'posthornlaw19.ExtraPlain'. -/
def extraPlainUptoCard : Claim7 := { stood := { row := extraPlainUptoRow, standIns := [], harness := (true, "02b3d07317dfd81e545aa614197f0593fca6caac5c9ccb44ddc80b6add6d337d"), looks := false }, kinds := [], alts := [], laidByText := true, laidKinds := [.data, .data, .data, .data, .data], laidTests := true, laidLooks := .later }
def ExtraPlainUptoCardSaid : Prop := Claim7.holds Tryd.pinned (.plain (OpenSpec.upto extraPlainSpec)) extraPlainUptoCard
end Rows
end Go.Proofs.YtfhgkkdbkbbpkaaDoor
