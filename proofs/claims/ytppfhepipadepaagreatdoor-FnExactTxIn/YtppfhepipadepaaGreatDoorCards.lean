/-
  DERIVED. GIVEN WITH THE SEED: THE CARDS: each row of YtppfhepipadepaaGreatDoorRows.lean that lists a variable, with what it lists TIED to the program's text (the seventh form; the later family's looks); each row that meets fmt, with fmt's text TOLD by the authors' own Lean function (tested against real Go, not proved from fmt's source: count such statements apart). THE CARD IS WHAT COUNTS. Prove the row's statement (the work); the ties are given (YtppfhepipadepaaGreatDoorTie.lean); close each card by the builder's one call (the guide's Derived/Test/ToyasCard.lean, 'card_holds'). Laid BY PROGRAM, IN A SANDBOX (cutbox-door.mjs). By AI agents, Wed Nov 11 2026. No macro, syntax, notation, axiom, sorry.
-/
import Derived.Test.YtppfhepipadepaaGreatDoorRows
import GoSem.ClaimSeven
namespace Go.Proofs.YtppfhepipadepaaGreatDoor
namespace Rows

/-- THE TIED CARD OF 'laws.FnExactTxIn'. -/
def fnExactTxInCard : Claim7 := { stood := { row := fnExactTxInRow, standIns := [], harness := (true, "122b9d2d1ce91c3eb01d98f633e1cdb7f441c6888cd989dccdfad0fa3bc12ef4"), looks := true }, kinds := [], alts := [], laidByText := true, laidKinds := [.data, .data, .data, .data, .sentinel, .sentinel, .data, .pinned], laidTests := true, laidLooks := .later }
def FnExactTxInCardSaid : Prop := Claim7.holds Tryz.pinned (.plain (OpenSpec.ofChange fnExactTxInSpec)) fnExactTxInCard

/-- THE SECOND FORM's CARD OF 'laws.FnExactTxIn'. -/
def fnExactTxInUptoCard : Claim7 := { stood := { row := fnExactTxInUptoRow, standIns := [], harness := (true, "122b9d2d1ce91c3eb01d98f633e1cdb7f441c6888cd989dccdfad0fa3bc12ef4"), looks := true }, kinds := [], alts := [], laidByText := true, laidKinds := [.data, .data, .data, .data, .sentinel, .sentinel, .data, .pinned], laidTests := true, laidLooks := .later }
def FnExactTxInUptoCardSaid : Prop := Claim7.holds Tryz.pinned (.plain (OpenSpec.upto fnExactTxInSpec)) fnExactTxInUptoCard
end Rows
end Go.Proofs.YtppfhepipadepaaGreatDoor
