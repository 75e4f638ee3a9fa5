/-
  DERIVED. GIVEN WITH THE SEED: THE CARDS: each row of YtobmongmmnldpaaDoorRows.lean that lists a variable, with what it lists TIED to the program's text (the seventh form; the later family's looks); each row that meets fmt, with fmt's text TOLD by the authors' own Lean function (tested against real Go, not proved from fmt's source: count such statements apart). THE CARD IS WHAT COUNTS. Prove the row's statement (the work); the ties are given (YtobmongmmnldpaaDoorTie.lean); close each card by the builder's one call (the guide's Derived/Test/ToyasCard.lean, 'card_holds'). Laid BY PROGRAM, IN A SANDBOX (cutbox-door.mjs). By AI agents, Wed Nov 11 2026. No macro, syntax, notation, axiom, sorry.
-/
import Derived.Test.YtobmongmmnldpaaDoorRows
import GoSem.ClaimSeven
namespace Go.Proofs.YtobmongmmnldpaaDoor
namespace Rows

/-- THE TIED CARD OF 'laws.FnExactCoinsText'. -/
def fnExactCoinsTextCard : Claim7 := { stood := { row := fnExactCoinsTextRow, standIns := [], harness := (true, "56e1f9d51314bb5cbb05e317c5cb56a116ba9f765a6f93ba6322355baf47f3ea"), looks := false }, kinds := [], alts := [], laidByText := true, laidKinds := [.data, .data, .data], laidTests := true, laidLooks := .later }
def FnExactCoinsTextCardSaid : Prop := Claim7.holds Tryd.pinned (.plain (OpenSpec.ofChange fnExactCoinsTextSpec)) fnExactCoinsTextCard

/-- THE SECOND FORM's CARD OF 'laws.FnExactCoinsText'. -/
def fnExactCoinsTextUptoCard : Claim7 := { stood := { row := fnExactCoinsTextUptoRow, standIns := [], harness := (true, "56e1f9d51314bb5cbb05e317c5cb56a116ba9f765a6f93ba6322355baf47f3ea"), looks := false }, kinds := [], alts := [], laidByText := true, laidKinds := [.data, .data, .data], laidTests := true, laidLooks := .later }
def FnExactCoinsTextUptoCardSaid : Prop := Claim7.holds Tryd.pinned (.plain (OpenSpec.upto fnExactCoinsTextSpec)) fnExactCoinsTextUptoCard
end Rows
end Go.Proofs.YtobmongmmnldpaaDoor
