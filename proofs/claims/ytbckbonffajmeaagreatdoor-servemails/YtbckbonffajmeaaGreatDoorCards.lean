/-
  DERIVED. GIVEN WITH THE SEED: THE CARDS: each row of YtbckbonffajmeaaGreatDoorRows.lean that lists a variable, with what it lists TIED to the program's text (the seventh form; the later family's looks); each row that meets fmt, with fmt's text TOLD by the authors' own Lean function (tested against real Go, not proved from fmt's source: count such statements apart). THE CARD IS WHAT COUNTS. Prove the row's statement (the work); the ties are given (YtbckbonffajmeaaGreatDoorTie.lean); close each card by the builder's one call (the guide's Derived/Test/ToyasCard.lean, 'card_holds'). Laid BY PROGRAM, IN A SANDBOX (cutbox-door.mjs). By AI agents, Wed Nov 11 2026. No macro, syntax, notation, axiom, sorry.
-/
import Derived.Test.YtbckbonffajmeaaGreatDoorRows
import GoSem.ClaimSeven
namespace Go.Proofs.YtbckbonffajmeaaGreatDoor
namespace Rows

/-- THE TIED CARD OF 'posthornlaw16.ServeLives'. -/
def serveLivesCard : Claim7 := { stood := { row := serveLivesRow, standIns := [], harness := (true, "3ae49d6ea0e638f0073f4c0e2b5da317a6520efe44cfd5cf1b16cc6764284392"), looks := false }, kinds := [], alts := [], laidByText := true, laidKinds := [.data, .data, .data, .data, .data, .data, .pinned, .pinned], laidTests := true, laidLooks := .later }
def ServeLivesCardSaid : Prop := Claim7.holds Tryz.pinned (.plain (OpenSpec.ofChange serveLivesSpec)) serveLivesCard

/-- THE TIED CARD OF 'posthornlaw16.ServeNobody'. -/
def serveNobodyCard : Claim7 := { stood := { row := serveNobodyRow, standIns := [], harness := (true, "3ae49d6ea0e638f0073f4c0e2b5da317a6520efe44cfd5cf1b16cc6764284392"), looks := false }, kinds := [], alts := [], laidByText := true, laidKinds := [.data, .data, .data, .data, .data, .data, .pinned, .pinned], laidTests := true, laidLooks := .later }
def ServeNobodyCardSaid : Prop := Claim7.holds Tryz.pinned (.plain (OpenSpec.ofChange serveNobodySpec)) serveNobodyCard

/-- THE TIED CARD OF 'posthornlaw16.ServeCuts'. -/
def serveCutsCard : Claim7 := { stood := { row := serveCutsRow, standIns := [], harness := (true, "3ae49d6ea0e638f0073f4c0e2b5da317a6520efe44cfd5cf1b16cc6764284392"), looks := false }, kinds := [], alts := [], laidByText := true, laidKinds := [.data, .data, .data, .data, .data, .data, .pinned, .pinned], laidTests := true, laidLooks := .later }
def ServeCutsCardSaid : Prop := Claim7.holds Tryz.pinned (.plain (OpenSpec.ofChange serveCutsSpec)) serveCutsCard

/-- THE TIED CARD OF 'posthornlaw16.ServeReplies'. -/
def serveRepliesCard : Claim7 := { stood := { row := serveRepliesRow, standIns := [], harness := (true, "3ae49d6ea0e638f0073f4c0e2b5da317a6520efe44cfd5cf1b16cc6764284392"), looks := false }, kinds := [], alts := [], laidByText := true, laidKinds := [.data, .data, .data, .data, .data, .data, .pinned, .pinned], laidTests := true, laidLooks := .later }
def ServeRepliesCardSaid : Prop := Claim7.holds Tryz.pinned (.plain (OpenSpec.ofChange serveRepliesSpec)) serveRepliesCard

/-- THE TIED CARD OF 'posthornlaw16.ServeMails'. -/
def serveMailsCard : Claim7 := { stood := { row := serveMailsRow, standIns := [], harness := (true, "3ae49d6ea0e638f0073f4c0e2b5da317a6520efe44cfd5cf1b16cc6764284392"), looks := false }, kinds := [], alts := [], laidByText := true, laidKinds := [.data, .data, .data, .data, .data, .data, .pinned, .pinned], laidTests := true, laidLooks := .later }
def ServeMailsCardSaid : Prop := Claim7.holds Tryz.pinned (.plain (OpenSpec.ofChange serveMailsSpec)) serveMailsCard

/-- THE SECOND FORM's CARD OF 'posthornlaw16.ServeLives'. -/
def serveLivesUptoCard : Claim7 := { stood := { row := serveLivesUptoRow, standIns := [], harness := (true, "3ae49d6ea0e638f0073f4c0e2b5da317a6520efe44cfd5cf1b16cc6764284392"), looks := false }, kinds := [], alts := [], laidByText := true, laidKinds := [.data, .data, .data, .data, .data, .data, .pinned, .pinned], laidTests := true, laidLooks := .later }
def ServeLivesUptoCardSaid : Prop := Claim7.holds Tryz.pinned (.plain (OpenSpec.upto serveLivesSpec)) serveLivesUptoCard

/-- THE SECOND FORM's CARD OF 'posthornlaw16.ServeNobody'. -/
def serveNobodyUptoCard : Claim7 := { stood := { row := serveNobodyUptoRow, standIns := [], harness := (true, "3ae49d6ea0e638f0073f4c0e2b5da317a6520efe44cfd5cf1b16cc6764284392"), looks := false }, kinds := [], alts := [], laidByText := true, laidKinds := [.data, .data, .data, .data, .data, .data, .pinned, .pinned], laidTests := true, laidLooks := .later }
def ServeNobodyUptoCardSaid : Prop := Claim7.holds Tryz.pinned (.plain (OpenSpec.upto serveNobodySpec)) serveNobodyUptoCard

/-- THE SECOND FORM's CARD OF 'posthornlaw16.ServeCuts'. -/
def serveCutsUptoCard : Claim7 := { stood := { row := serveCutsUptoRow, standIns := [], harness := (true, "3ae49d6ea0e638f0073f4c0e2b5da317a6520efe44cfd5cf1b16cc6764284392"), looks := false }, kinds := [], alts := [], laidByText := true, laidKinds := [.data, .data, .data, .data, .data, .data, .pinned, .pinned], laidTests := true, laidLooks := .later }
def ServeCutsUptoCardSaid : Prop := Claim7.holds Tryz.pinned (.plain (OpenSpec.upto serveCutsSpec)) serveCutsUptoCard

/-- THE SECOND FORM's CARD OF 'posthornlaw16.ServeReplies'. -/
def serveRepliesUptoCard : Claim7 := { stood := { row := serveRepliesUptoRow, standIns := [], harness := (true, "3ae49d6ea0e638f0073f4c0e2b5da317a6520efe44cfd5cf1b16cc6764284392"), looks := false }, kinds := [], alts := [], laidByText := true, laidKinds := [.data, .data, .data, .data, .data, .data, .pinned, .pinned], laidTests := true, laidLooks := .later }
def ServeRepliesUptoCardSaid : Prop := Claim7.holds Tryz.pinned (.plain (OpenSpec.upto serveRepliesSpec)) serveRepliesUptoCard

/-- THE SECOND FORM's CARD OF 'posthornlaw16.ServeMails'. -/
def serveMailsUptoCard : Claim7 := { stood := { row := serveMailsUptoRow, standIns := [], harness := (true, "3ae49d6ea0e638f0073f4c0e2b5da317a6520efe44cfd5cf1b16cc6764284392"), looks := false }, kinds := [], alts := [], laidByText := true, laidKinds := [.data, .data, .data, .data, .data, .data, .pinned, .pinned], laidTests := true, laidLooks := .later }
def ServeMailsUptoCardSaid : Prop := Claim7.holds Tryz.pinned (.plain (OpenSpec.upto serveMailsSpec)) serveMailsUptoCard
end Rows
end Go.Proofs.YtbckbonffajmeaaGreatDoor
