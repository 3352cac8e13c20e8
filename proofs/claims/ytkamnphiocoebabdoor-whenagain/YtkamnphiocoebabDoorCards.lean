/-
  DERIVED. GIVEN WITH THE SEED: THE CARDS: each row of YtkamnphiocoebabDoorRows.lean that lists a variable, with what it lists TIED to the program's text (the seventh form; the later family's looks); each row that meets fmt, with fmt's text TOLD by the authors' own Lean function (tested against real Go, not proved from fmt's source: count such statements apart). THE CARD IS WHAT COUNTS. Prove the row's statement (the work); the ties are given (YtkamnphiocoebabDoorTie.lean); close each card by the builder's one call (the guide's Derived/Test/ToyasCard.lean, 'card_holds'). Laid BY PROGRAM, IN A SANDBOX (cutbox-door.mjs). By AI agents, Wed Nov 11 2026. No macro, syntax, notation, axiom, sorry.
-/
import Derived.Test.YtkamnphiocoebabDoorRows
import GoSem.ClaimSeven
namespace Go.Proofs.YtkamnphiocoebabDoor
namespace Rows

/-- THE TIED CARD OF 'posthornlaw12.WhenAgain'. -/
def whenAgainCard : Claim7 := { stood := { row := whenAgainRow, standIns := [], harness := (true, "9cd27c14969b944cacaa04694b64676319e6827649cc521995b82c73bdaf6a0f"), looks := false }, kinds := [], alts := [], laidByText := true, laidKinds := [.data, .data, .data, .data, .data, .data], laidTests := true, laidLooks := .later }
def WhenAgainCardSaid : Prop := Claim7.holds Tryd.pinned (.plain (OpenSpec.ofChange whenAgainSpec)) whenAgainCard

/-- THE SECOND FORM's CARD OF 'posthornlaw12.WhenAgain'. -/
def whenAgainUptoCard : Claim7 := { stood := { row := whenAgainUptoRow, standIns := [], harness := (true, "9cd27c14969b944cacaa04694b64676319e6827649cc521995b82c73bdaf6a0f"), looks := false }, kinds := [], alts := [], laidByText := true, laidKinds := [.data, .data, .data, .data, .data, .data], laidTests := true, laidLooks := .later }
def WhenAgainUptoCardSaid : Prop := Claim7.holds Tryd.pinned (.plain (OpenSpec.upto whenAgainSpec)) whenAgainUptoCard
end Rows
end Go.Proofs.YtkamnphiocoebabDoor
