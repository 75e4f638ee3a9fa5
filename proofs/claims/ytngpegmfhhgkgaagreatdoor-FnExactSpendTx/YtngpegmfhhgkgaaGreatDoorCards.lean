/-
  DERIVED. GIVEN WITH THE SEED: THE CARDS: each row of YtngpegmfhhgkgaaGreatDoorRows.lean that lists a variable, with what it lists TIED to the program's text (the seventh form; the later family's looks); each row that meets fmt, with fmt's text TOLD by the authors' own Lean function (tested against real Go, not proved from fmt's source: count such statements apart). THE CARD IS WHAT COUNTS. Prove the row's statement (the work); the ties are given (YtngpegmfhhgkgaaGreatDoorTie.lean); close each card by the builder's one call (the guide's Derived/Test/ToyasCard.lean, 'card_holds'). Laid BY PROGRAM, IN A SANDBOX (cutbox-door.mjs). By AI agents, Wed Nov 11 2026. No macro, syntax, notation, axiom, sorry.
-/
import Derived.Test.YtngpegmfhhgkgaaGreatDoorRows
import GoSem.ClaimSeven
namespace Go.Proofs.YtngpegmfhhgkgaaGreatDoor
namespace Rows

/-- THE TIED CARD OF 'laws.FnExactSpendTx'. -/
def fnExactSpendTxCard : Claim7 := { stood := { row := fnExactSpendTxRow, standIns := [], harness := (true, "02b434b2d7b274d92beecc433f0b758395dd97f67f4ce5b06f47b5dfa555c5c1"), looks := true }, kinds := [], alts := [], laidByText := true, laidKinds := [.handle], laidTests := true, laidLooks := .later }
def FnExactSpendTxCardSaid : Prop := Claim7.holds Tryz.pinned (.plain (OpenSpec.ofChange fnExactSpendTxSpec)) fnExactSpendTxCard

/-- THE SECOND FORM's CARD OF 'laws.FnExactSpendTx'. -/
def fnExactSpendTxUptoCard : Claim7 := { stood := { row := fnExactSpendTxUptoRow, standIns := [], harness := (true, "02b434b2d7b274d92beecc433f0b758395dd97f67f4ce5b06f47b5dfa555c5c1"), looks := true }, kinds := [], alts := [], laidByText := true, laidKinds := [.handle], laidTests := true, laidLooks := .later }
def FnExactSpendTxUptoCardSaid : Prop := Claim7.holds Tryz.pinned (.plain (OpenSpec.upto fnExactSpendTxSpec)) fnExactSpendTxUptoCard
end Rows
end Go.Proofs.YtngpegmfhhgkgaaGreatDoor
