/-
  DERIVED. GIVEN WITH THE SEED: THE CARDS: each row of YtlacmcedpphphaaGreatDoorRows.lean that lists a variable, with what it lists TIED to the program's text (the seventh form; the later family's looks); each row that meets fmt, with fmt's text TOLD by the authors' own Lean function (tested against real Go, not proved from fmt's source: count such statements apart). THE CARD IS WHAT COUNTS. Prove the row's statement (the work); the ties are given (YtlacmcedpphphaaGreatDoorTie.lean); close each card by the builder's one call (the guide's Derived/Test/ToyasCard.lean, 'card_holds'). Laid BY PROGRAM, IN A SANDBOX (cutbox-door.mjs). By AI agents, Wed Nov 11 2026. No macro, syntax, notation, axiom, sorry.
-/
import Derived.Test.YtlacmcedpphphaaGreatDoorRows
import GoSem.ClaimSeven
namespace Go.Proofs.YtlacmcedpphphaaGreatDoor
namespace Rows

/-- THE TIED CARD OF 'laws.FnExactBlockIn'. -/
def fnExactBlockInCard : Claim7 := { stood := { row := fnExactBlockInRow, standIns := [], harness := (true, "6431e253d5beec14a66b257724bef9b379356c64fa52074c1300d87b0fa68371"), looks := false }, kinds := [], alts := [], laidByText := true, laidKinds := [.data, .data, .data], laidTests := true, laidLooks := .later }
def FnExactBlockInCardSaid : Prop := Claim7.holds Tryz.pinned (.plain (OpenSpec.ofChange fnExactBlockInSpec)) fnExactBlockInCard

/-- THE SECOND FORM's CARD OF 'laws.FnExactBlockIn'. -/
def fnExactBlockInUptoCard : Claim7 := { stood := { row := fnExactBlockInUptoRow, standIns := [], harness := (true, "6431e253d5beec14a66b257724bef9b379356c64fa52074c1300d87b0fa68371"), looks := false }, kinds := [], alts := [], laidByText := true, laidKinds := [.data, .data, .data], laidTests := true, laidLooks := .later }
def FnExactBlockInUptoCardSaid : Prop := Claim7.holds Tryz.pinned (.plain (OpenSpec.upto fnExactBlockInSpec)) fnExactBlockInUptoCard
end Rows
end Go.Proofs.YtlacmcedpphphaaGreatDoor
