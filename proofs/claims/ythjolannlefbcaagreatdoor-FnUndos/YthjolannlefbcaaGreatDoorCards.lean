/-
  DERIVED. GIVEN WITH THE SEED: THE CARDS: each row of YthjolannlefbcaaGreatDoorRows.lean that lists a variable, with what it lists TIED to the program's text (the seventh form; the later family's looks); each row that meets fmt, with fmt's text TOLD by the authors' own Lean function (tested against real Go, not proved from fmt's source: count such statements apart). THE CARD IS WHAT COUNTS. Prove the row's statement (the work); the ties are given (YthjolannlefbcaaGreatDoorTie.lean); close each card by the builder's one call (the guide's Derived/Test/ToyasCard.lean, 'card_holds'). Laid BY PROGRAM, IN A SANDBOX (cutbox-door.mjs). By AI agents, Wed Nov 11 2026. No macro, syntax, notation, axiom, sorry.
-/
import Derived.Test.YthjolannlefbcaaGreatDoorRows
import GoSem.ClaimSeven
namespace Go.Proofs.YthjolannlefbcaaGreatDoor
namespace Rows

/-- THE TIED CARD OF 'laws.FnUndos'. -/
def fnUndosCard : Claim7 := { stood := { row := fnUndosRow, standIns := [], harness := (true, "172218f4db12c5189635f45e66450fb64400cf8d3dedc0d82dbd229ca8acfd01"), looks := true }, kinds := [], alts := [], laidByText := true, laidKinds := [.handle], laidTests := true, laidLooks := .later }
def FnUndosCardSaid : Prop := Claim7.holds Tryz.pinned (.plain (OpenSpec.ofChange fnUndosSpec)) fnUndosCard

/-- THE SECOND FORM's CARD OF 'laws.FnUndos'. -/
def fnUndosUptoCard : Claim7 := { stood := { row := fnUndosUptoRow, standIns := [], harness := (true, "172218f4db12c5189635f45e66450fb64400cf8d3dedc0d82dbd229ca8acfd01"), looks := true }, kinds := [], alts := [], laidByText := true, laidKinds := [.handle], laidTests := true, laidLooks := .later }
def FnUndosUptoCardSaid : Prop := Claim7.holds Tryz.pinned (.plain (OpenSpec.upto fnUndosSpec)) fnUndosUptoCard
end Rows
end Go.Proofs.YthjolannlefbcaaGreatDoor
