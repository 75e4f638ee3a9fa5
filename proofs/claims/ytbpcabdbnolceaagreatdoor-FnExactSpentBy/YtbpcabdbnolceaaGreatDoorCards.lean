/-
  DERIVED. GIVEN WITH THE SEED: THE CARDS: each row of YtbpcabdbnolceaaGreatDoorRows.lean that lists a variable, with what it lists TIED to the program's text (the seventh form; the later family's looks); each row that meets fmt, with fmt's text TOLD by the authors' own Lean function (tested against real Go, not proved from fmt's source: count such statements apart). THE CARD IS WHAT COUNTS. Prove the row's statement (the work); the ties are given (YtbpcabdbnolceaaGreatDoorTie.lean); close each card by the builder's one call (the guide's Derived/Test/ToyasCard.lean, 'card_holds'). Laid BY PROGRAM, IN A SANDBOX (cutbox-door.mjs). By AI agents, Wed Nov 11 2026. No macro, syntax, notation, axiom, sorry.
-/
import Derived.Test.YtbpcabdbnolceaaGreatDoorRows
import GoSem.ClaimSeven
namespace Go.Proofs.YtbpcabdbnolceaaGreatDoor
namespace Rows

/-- THE TIED CARD OF 'laws.FnExactSpentBy'. -/
def fnExactSpentByCard : Claim7 := { stood := { row := fnExactSpentByRow, standIns := [], harness := (true, "e057a2e23d048d2c35ba9a1e9eb35eb04d4a4f1670bb13d9fa963a86b149e12c"), looks := true }, kinds := [], alts := [], laidByText := true, laidKinds := [.handle], laidTests := true, laidLooks := .later }
def FnExactSpentByCardSaid : Prop := Claim7.holds Tryz.pinned (.plain (OpenSpec.ofChange fnExactSpentBySpec)) fnExactSpentByCard

/-- THE SECOND FORM's CARD OF 'laws.FnExactSpentBy'. -/
def fnExactSpentByUptoCard : Claim7 := { stood := { row := fnExactSpentByUptoRow, standIns := [], harness := (true, "e057a2e23d048d2c35ba9a1e9eb35eb04d4a4f1670bb13d9fa963a86b149e12c"), looks := true }, kinds := [], alts := [], laidByText := true, laidKinds := [.handle], laidTests := true, laidLooks := .later }
def FnExactSpentByUptoCardSaid : Prop := Claim7.holds Tryz.pinned (.plain (OpenSpec.upto fnExactSpentBySpec)) fnExactSpentByUptoCard
end Rows
end Go.Proofs.YtbpcabdbnolceaaGreatDoor
