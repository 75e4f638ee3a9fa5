/-
  No cell of these rows narrows 'for every input' (looked for: loops, veiled, ifaces, maps, wideKeys, modest, calm, conditions, laid).
  DERIVED. THE GIVEN ROWS OF THIS SEAT. 4 by the template 'for every input the law returns true; each argument reads behind the call as it read before'; 0 by the template 'total and deterministic' (their statements: YtdnjckeajfbmfaaTotals.lean).
  GIVEN WITH THE SEED: the statements are not yours to turn. If you find one false, say at which input.
  Laid BY PROGRAM, IN A SANDBOX (cutbox-rows.mjs): the forced cells as the released guide's own fill.sh prints them over the translation cdcd7120edb97ac0… (all of the seat's roots in one cut). By AI agents, Wed Nov 11 2026. No macro, syntax, notation, axiom, sorry.
-/
import Derived.Test.YtdnjckeajfbmfaaChecked
import GoSem.Claim
import GoSem.ClaimJoined
import GoSem.ClaimMapViews
import Derived.JoinedTies
import Derived.KernelRfl
namespace Go.Proofs.Ytdnjckeajfbmfaa
/- THE CELL 'sum', in the pinned program and in every row, IS THE sha256 OF THE DUMP (.gsa) THAT YtdnjckeajfbmfaaProg.lean LOADS. Nothing in Lean hashes anything: it is a label: what it is worth is what the hold of that sum in a sandbox is worth. -/
noncomputable def Try.pinned : Pinned := { name := "ytdnjckeajfbmfaa", sum := "cdcd7120edb97ac04bafc7bfbb3145d2730af7032b756e7f05548e95f2fd8933", checked := Try.checked }
namespace Rows
def none {H : Type} : Left H := { results := [], args := [] }

/-- 'laws.FnExactVoterFault': WHATEVER THE INPUT: true; the input reads as it did. -/
def fnExactVoterFaultSpec : ChangeSpec := { name := "fnExactVoterFault", fn := fun _ => fun
  | [d] => { results := [.lit (.bool true)], args := [d] }
  | _ => none }
def fnExactVoterFaultRow : OpenClaim := { program := "ytdnjckeajfbmfaa", sum := "cdcd7120edb97ac04bafc7bfbb3145d2730af7032b756e7f05548e95f2fd8933", func := "loop.example/g00304/laws.FnExactVoterFault", spec := "fnExactVoterFault", apart := false }
def FnExactVoterFaultSaid : Prop := fnExactVoterFaultRow.holds Try.pinned (OpenSpec.ofChange fnExactVoterFaultSpec)

/-- ITS FALSE NEIGHBOUR: 'it returns false'. Refute it at one input. -/
def fnExactVoterFaultWrong : ChangeSpec := { name := "fnExactVoterFault", fn := fun _ => fun
  | [d] => { results := [.lit (.bool false)], args := [d] }
  | _ => none }
def FnExactVoterFaultWrongFalsely : Prop := fnExactVoterFaultRow.holds Try.pinned (OpenSpec.ofChange fnExactVoterFaultWrong)

/-- 'laws.FnExactNewVoter': WHATEVER THE INPUT: true; the input reads as it did. -/
def fnExactNewVoterSpec : ChangeSpec := { name := "fnExactNewVoter", fn := fun _ => fun
  | [d] => { results := [.lit (.bool true)], args := [d] }
  | _ => none }
def fnExactNewVoterRow : OpenClaim := { program := "ytdnjckeajfbmfaa", sum := "cdcd7120edb97ac04bafc7bfbb3145d2730af7032b756e7f05548e95f2fd8933", func := "loop.example/g00304/laws.FnExactNewVoter", spec := "fnExactNewVoter", apart := false }
def FnExactNewVoterSaid : Prop := fnExactNewVoterRow.holds Try.pinned (OpenSpec.ofChange fnExactNewVoterSpec)

/-- ITS FALSE NEIGHBOUR: 'it returns false'. Refute it at one input. -/
def fnExactNewVoterWrong : ChangeSpec := { name := "fnExactNewVoter", fn := fun _ => fun
  | [d] => { results := [.lit (.bool false)], args := [d] }
  | _ => none }
def FnExactNewVoterWrongFalsely : Prop := fnExactNewVoterRow.holds Try.pinned (OpenSpec.ofChange fnExactNewVoterWrong)

/-- 'laws.FnExactCastFor': WHATEVER THE INPUT: true; the input reads as it did. -/
def fnExactCastForSpec : ChangeSpec := { name := "fnExactCastFor", fn := fun _ => fun
  | [d1, d2, d3] => { results := [.lit (.bool true)], args := [d1, d2, d3] }
  | _ => none }
def fnExactCastForRow : OpenClaim := { program := "ytdnjckeajfbmfaa", sum := "cdcd7120edb97ac04bafc7bfbb3145d2730af7032b756e7f05548e95f2fd8933", func := "loop.example/g00304/laws.FnExactCastFor", spec := "fnExactCastFor", apart := false }
def FnExactCastForSaid : Prop := fnExactCastForRow.holds Try.pinned (OpenSpec.ofChange fnExactCastForSpec)

/-- ITS FALSE NEIGHBOUR: 'it returns false'. Refute it at one input. -/
def fnExactCastForWrong : ChangeSpec := { name := "fnExactCastFor", fn := fun _ => fun
  | [d1, d2, d3] => { results := [.lit (.bool false)], args := [d1, d2, d3] }
  | _ => none }
def FnExactCastForWrongFalsely : Prop := fnExactCastForRow.holds Try.pinned (OpenSpec.ofChange fnExactCastForWrong)

/-- 'laws.FnExactChooseFor': WHATEVER THE INPUT: true; the input reads as it did. -/
def fnExactChooseForSpec : ChangeSpec := { name := "fnExactChooseFor", fn := fun _ => fun
  | [d1, d2, d3] => { results := [.lit (.bool true)], args := [d1, d2, d3] }
  | _ => none }
def fnExactChooseForRow : OpenClaim := { program := "ytdnjckeajfbmfaa", sum := "cdcd7120edb97ac04bafc7bfbb3145d2730af7032b756e7f05548e95f2fd8933", func := "loop.example/g00304/laws.FnExactChooseFor", spec := "fnExactChooseFor", apart := false }
def FnExactChooseForSaid : Prop := fnExactChooseForRow.holds Try.pinned (OpenSpec.ofChange fnExactChooseForSpec)

/-- ITS FALSE NEIGHBOUR: 'it returns false'. Refute it at one input. -/
def fnExactChooseForWrong : ChangeSpec := { name := "fnExactChooseFor", fn := fun _ => fun
  | [d1, d2, d3] => { results := [.lit (.bool false)], args := [d1, d2, d3] }
  | _ => none }
def FnExactChooseForWrongFalsely : Prop := fnExactChooseForRow.holds Try.pinned (OpenSpec.ofChange fnExactChooseForWrong)

/- THE SECOND FORM. 'bulk': how many values and letters a reading holds, each counted each time it is reached (what is shared counts as often as it is met; a slice's spare places count too). A statement '..UptoSaid' is the law's where the arguments, and the package variables that the reading takes, are together of bulk at most 1048576: NARROWER than '..Said'. Prove '..Said' where nothing that the law and all that it calls make is longer than what came in: it says more and counts as full. Else prove '..UptoSaid'. A law counts once. -/
mutual
def uptoBulk {H : Type} : DataW H → Nat
  | .lit (.string bytes) => bytes.length + 1
  | .lit _ => 1
  | .nil => 1
  | .ptr d => uptoBulk d + 1
  | .slice elems spare => uptoBulkAll elems + uptoBulkAll spare + 1
  | .agg parts => uptoBulkAll parts + 1
  | .iface _ d => uptoBulk d + 1
  | .map entries => uptoBulkEntries entries + 1
  | .held _ => 1
def uptoBulkAll {H : Type} : List (DataW H) → Nat
  | [] => 0
  | d :: r => uptoBulk d + uptoBulkAll r
def uptoBulkEntries {H : Type} : List (Lit × DataW H) → Nat
  | [] => 0
  | x :: r => uptoBulkEntry x + uptoBulkEntries r
def uptoBulkEntry {H : Type} : Lit × DataW H → Nat
  | (.string bytes, d) => bytes.length + uptoBulk d + 1
  | (_, d) => uptoBulk d + 1
 end
def uptoSmall : (H : Type) → List (DataW H) → Bool := fun _ ds => decide (uptoBulkAll ds ≤ 1048576)
def OpenSpec.upto (s : _root_.Go.ChangeSpec) : _root_.Go.OpenSpec := { _root_.Go.OpenSpec.ofChange s with cond := some uptoSmall }

/-- 'laws.FnExactVoterFault', WHERE WHAT IT READS IS OF BULK AT MOST 1048576: true; the input reads as it did. -/
def fnExactVoterFaultUptoRow : OpenClaim := { program := "ytdnjckeajfbmfaa", sum := "cdcd7120edb97ac04bafc7bfbb3145d2730af7032b756e7f05548e95f2fd8933", func := "loop.example/g00304/laws.FnExactVoterFault", spec := "fnExactVoterFault", apart := false, narrowed := true }
def FnExactVoterFaultUptoSaid : Prop := fnExactVoterFaultUptoRow.holds Try.pinned (OpenSpec.upto fnExactVoterFaultSpec)

/-- 'laws.FnExactNewVoter', WHERE WHAT IT READS IS OF BULK AT MOST 1048576: true; the input reads as it did. -/
def fnExactNewVoterUptoRow : OpenClaim := { program := "ytdnjckeajfbmfaa", sum := "cdcd7120edb97ac04bafc7bfbb3145d2730af7032b756e7f05548e95f2fd8933", func := "loop.example/g00304/laws.FnExactNewVoter", spec := "fnExactNewVoter", apart := false, narrowed := true }
def FnExactNewVoterUptoSaid : Prop := fnExactNewVoterUptoRow.holds Try.pinned (OpenSpec.upto fnExactNewVoterSpec)

/-- 'laws.FnExactCastFor', WHERE WHAT IT READS IS OF BULK AT MOST 1048576: true; the input reads as it did. -/
def fnExactCastForUptoRow : OpenClaim := { program := "ytdnjckeajfbmfaa", sum := "cdcd7120edb97ac04bafc7bfbb3145d2730af7032b756e7f05548e95f2fd8933", func := "loop.example/g00304/laws.FnExactCastFor", spec := "fnExactCastFor", apart := false, narrowed := true }
def FnExactCastForUptoSaid : Prop := fnExactCastForUptoRow.holds Try.pinned (OpenSpec.upto fnExactCastForSpec)

/-- 'laws.FnExactChooseFor', WHERE WHAT IT READS IS OF BULK AT MOST 1048576: true; the input reads as it did. -/
def fnExactChooseForUptoRow : OpenClaim := { program := "ytdnjckeajfbmfaa", sum := "cdcd7120edb97ac04bafc7bfbb3145d2730af7032b756e7f05548e95f2fd8933", func := "loop.example/g00304/laws.FnExactChooseFor", spec := "fnExactChooseFor", apart := false, narrowed := true }
def FnExactChooseForUptoSaid : Prop := fnExactChooseForUptoRow.holds Try.pinned (OpenSpec.upto fnExactChooseForSpec)

end Rows
end Go.Proofs.Ytdnjckeajfbmfaa
