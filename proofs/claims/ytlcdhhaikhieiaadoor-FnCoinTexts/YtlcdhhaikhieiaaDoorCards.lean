/-
  DERIVED. GIVEN WITH THE SEED: THE CARDS: each row of YtlcdhhaikhieiaaDoorRows.lean that lists a variable, with what it lists TIED to the program's text (the seventh form; the later family's looks); each row that meets fmt, with fmt's text TOLD by the authors' own Lean function (tested against real Go, not proved from fmt's source: count such statements apart). THE CARD IS WHAT COUNTS. Prove the row's statement (the work); the ties are given (YtlcdhhaikhieiaaDoorTie.lean); close each card by the builder's one call (the guide's Derived/Test/ToyasCard.lean, 'card_holds'). Laid BY PROGRAM, IN A SANDBOX (cutbox-door.mjs). By AI agents, Wed Nov 11 2026. No macro, syntax, notation, axiom, sorry.
-/
import Derived.Test.YtlcdhhaikhieiaaDoorRows
import GoSem.ClaimSeven
namespace Go.Proofs.YtlcdhhaikhieiaaDoor
namespace Rows

/-- THE TIED CARD OF 'laws.FnCoinTexts'. -/
def fnCoinTextsCard : Claim7 := { stood := { row := fnCoinTextsRow, standIns := [], harness := (true, "422cf8357efd1ffbb5e01b7b4018b3ca77e6b8626a7663024e5e6617c53b9e92"), looks := false }, kinds := [], alts := [], laidByText := true, laidKinds := [.data, .data, .data, .data, .pinned], laidTests := true, laidLooks := .later }
def FnCoinTextsCardSaid : Prop := Claim7.holds Tryd.pinned (.plain (OpenSpec.ofChange fnCoinTextsSpec)) fnCoinTextsCard

/-- THE SECOND FORM's CARD OF 'laws.FnCoinTexts'. -/
def fnCoinTextsUptoCard : Claim7 := { stood := { row := fnCoinTextsUptoRow, standIns := [], harness := (true, "422cf8357efd1ffbb5e01b7b4018b3ca77e6b8626a7663024e5e6617c53b9e92"), looks := false }, kinds := [], alts := [], laidByText := true, laidKinds := [.data, .data, .data, .data, .pinned], laidTests := true, laidLooks := .later }
def FnCoinTextsUptoCardSaid : Prop := Claim7.holds Tryd.pinned (.plain (OpenSpec.upto fnCoinTextsSpec)) fnCoinTextsUptoCard
end Rows
end Go.Proofs.YtlcdhhaikhieiaaDoor
