/-
  No cell of these rows narrows 'for every input' (looked for: loops, veiled, ifaces, maps, wideKeys, modest, calm, conditions, laid).
  DERIVED. THE GIVEN ROWS OF THIS SEAT. 9 by the template 'for every input the law returns true; each argument reads behind the call as it read before'; 0 by the template 'total and deterministic' (their statements: YthmlglmhiekocaaTotals.lean).
  GIVEN WITH THE SEED: the statements are not yours to turn. If you find one false, say at which input.
  Laid BY PROGRAM, IN A SANDBOX (cutbox-rows.mjs): the forced cells as the released guide's own fill.sh prints them over the translation 805330fff33428f5… (all of the seat's roots in one cut). By AI agents, Wed Nov 11 2026. No macro, syntax, notation, axiom, sorry.
-/
import Derived.Test.YthmlglmhiekocaaChecked
import GoSem.Claim
import GoSem.ClaimJoined
import GoSem.ClaimMapViews
import Derived.JoinedTies
import Derived.KernelRfl
namespace Go.Proofs.Ythmlglmhiekocaa
/- THE CELL 'sum', in the pinned program and in every row, IS THE sha256 OF THE DUMP (.gsa) THAT YthmlglmhiekocaaProg.lean LOADS. Nothing in Lean hashes anything: it is a label: what it is worth is what the hold of that sum in a sandbox is worth. -/
noncomputable def Try.pinned : Pinned := { name := "ythmlglmhiekocaa", sum := "805330fff33428f5eba0ccdffdf7d2ca0445106e9af41220ad86f6d00276c9a2", checked := Try.checked }
namespace Rows
def none {H : Type} : Left H := { results := [], args := [] }

/-- 'laws.FnLedgers': WHATEVER THE INPUT: true; the input reads as it did. -/
def fnLedgersSpec : ChangeSpec := { name := "fnLedgers", fn := fun _ => fun
  | [d] => { results := [.lit (.bool true)], args := [d] }
  | _ => none }
def fnLedgersRow : OpenClaim := { program := "ythmlglmhiekocaa", sum := "805330fff33428f5eba0ccdffdf7d2ca0445106e9af41220ad86f6d00276c9a2", func := "loop.example/g00304/laws.FnLedgers", spec := "fnLedgers", plainKeys := false, apart := false }
def FnLedgersSaid : Prop := fnLedgersRow.holds Try.pinned (OpenSpec.ofChange fnLedgersSpec)

/-- ITS FALSE NEIGHBOUR: 'it returns false'. Refute it at one input. -/
def fnLedgersWrong : ChangeSpec := { name := "fnLedgers", fn := fun _ => fun
  | [d] => { results := [.lit (.bool false)], args := [d] }
  | _ => none }
def FnLedgersWrongFalsely : Prop := fnLedgersRow.holds Try.pinned (OpenSpec.ofChange fnLedgersWrong)

/-- 'laws.FnSigns': WHATEVER THE INPUT: true; the input reads as it did. -/
def fnSignsSpec : ChangeSpec := { name := "fnSigns", fn := fun _ => fun
  | [d] => { results := [.lit (.bool true)], args := [d] }
  | _ => none }
def fnSignsRow : OpenClaim := { program := "ythmlglmhiekocaa", sum := "805330fff33428f5eba0ccdffdf7d2ca0445106e9af41220ad86f6d00276c9a2", func := "loop.example/g00304/laws.FnSigns", spec := "fnSigns", plainKeys := false, apart := false }
def FnSignsSaid : Prop := fnSignsRow.holds Try.pinned (OpenSpec.ofChange fnSignsSpec)

/-- ITS FALSE NEIGHBOUR: 'it returns false'. Refute it at one input. -/
def fnSignsWrong : ChangeSpec := { name := "fnSigns", fn := fun _ => fun
  | [d] => { results := [.lit (.bool false)], args := [d] }
  | _ => none }
def FnSignsWrongFalsely : Prop := fnSignsRow.holds Try.pinned (OpenSpec.ofChange fnSignsWrong)

/-- 'laws.FnExactLedgerFault': WHATEVER THE INPUT: true; the input reads as it did. -/
def fnExactLedgerFaultSpec : ChangeSpec := { name := "fnExactLedgerFault", fn := fun _ => fun
  | [d] => { results := [.lit (.bool true)], args := [d] }
  | _ => none }
def fnExactLedgerFaultRow : OpenClaim := { program := "ythmlglmhiekocaa", sum := "805330fff33428f5eba0ccdffdf7d2ca0445106e9af41220ad86f6d00276c9a2", func := "loop.example/g00304/laws.FnExactLedgerFault", spec := "fnExactLedgerFault", plainKeys := false, apart := false }
def FnExactLedgerFaultSaid : Prop := fnExactLedgerFaultRow.holds Try.pinned (OpenSpec.ofChange fnExactLedgerFaultSpec)

/-- ITS FALSE NEIGHBOUR: 'it returns false'. Refute it at one input. -/
def fnExactLedgerFaultWrong : ChangeSpec := { name := "fnExactLedgerFault", fn := fun _ => fun
  | [d] => { results := [.lit (.bool false)], args := [d] }
  | _ => none }
def FnExactLedgerFaultWrongFalsely : Prop := fnExactLedgerFaultRow.holds Try.pinned (OpenSpec.ofChange fnExactLedgerFaultWrong)

/-- 'laws.FnExactIdOf': WHATEVER THE INPUT: true; the input reads as it did. -/
def fnExactIdOfSpec : ChangeSpec := { name := "fnExactIdOf", fn := fun _ => fun
  | [d1, d2] => { results := [.lit (.bool true)], args := [d1, d2] }
  | _ => none }
def fnExactIdOfRow : OpenClaim := { program := "ythmlglmhiekocaa", sum := "805330fff33428f5eba0ccdffdf7d2ca0445106e9af41220ad86f6d00276c9a2", func := "loop.example/g00304/laws.FnExactIdOf", spec := "fnExactIdOf", plainKeys := false, apart := false }
def FnExactIdOfSaid : Prop := fnExactIdOfRow.holds Try.pinned (OpenSpec.ofChange fnExactIdOfSpec)

/-- ITS FALSE NEIGHBOUR: 'it returns false'. Refute it at one input. -/
def fnExactIdOfWrong : ChangeSpec := { name := "fnExactIdOf", fn := fun _ => fun
  | [d1, d2] => { results := [.lit (.bool false)], args := [d1, d2] }
  | _ => none }
def FnExactIdOfWrongFalsely : Prop := fnExactIdOfRow.holds Try.pinned (OpenSpec.ofChange fnExactIdOfWrong)

/-- 'laws.FnExactNoteText': WHATEVER THE INPUT: true; the input reads as it did. -/
def fnExactNoteTextSpec : ChangeSpec := { name := "fnExactNoteText", fn := fun _ => fun
  | [d1, d2] => { results := [.lit (.bool true)], args := [d1, d2] }
  | _ => none }
def fnExactNoteTextRow : OpenClaim := { program := "ythmlglmhiekocaa", sum := "805330fff33428f5eba0ccdffdf7d2ca0445106e9af41220ad86f6d00276c9a2", func := "loop.example/g00304/laws.FnExactNoteText", spec := "fnExactNoteText", plainKeys := false, apart := false }
def FnExactNoteTextSaid : Prop := fnExactNoteTextRow.holds Try.pinned (OpenSpec.ofChange fnExactNoteTextSpec)

/-- ITS FALSE NEIGHBOUR: 'it returns false'. Refute it at one input. -/
def fnExactNoteTextWrong : ChangeSpec := { name := "fnExactNoteText", fn := fun _ => fun
  | [d1, d2] => { results := [.lit (.bool false)], args := [d1, d2] }
  | _ => none }
def FnExactNoteTextWrongFalsely : Prop := fnExactNoteTextRow.holds Try.pinned (OpenSpec.ofChange fnExactNoteTextWrong)

/-- 'laws.FnExactTextOf': WHATEVER THE INPUT: true; the input reads as it did. -/
def fnExactTextOfSpec : ChangeSpec := { name := "fnExactTextOf", fn := fun _ => fun
  | [d1, d2] => { results := [.lit (.bool true)], args := [d1, d2] }
  | _ => none }
def fnExactTextOfRow : OpenClaim := { program := "ythmlglmhiekocaa", sum := "805330fff33428f5eba0ccdffdf7d2ca0445106e9af41220ad86f6d00276c9a2", func := "loop.example/g00304/laws.FnExactTextOf", spec := "fnExactTextOf", plainKeys := false, apart := false }
def FnExactTextOfSaid : Prop := fnExactTextOfRow.holds Try.pinned (OpenSpec.ofChange fnExactTextOfSpec)

/-- ITS FALSE NEIGHBOUR: 'it returns false'. Refute it at one input. -/
def fnExactTextOfWrong : ChangeSpec := { name := "fnExactTextOf", fn := fun _ => fun
  | [d1, d2] => { results := [.lit (.bool false)], args := [d1, d2] }
  | _ => none }
def FnExactTextOfWrongFalsely : Prop := fnExactTextOfRow.holds Try.pinned (OpenSpec.ofChange fnExactTextOfWrong)

/-- 'laws.FnExactSignId': WHATEVER THE INPUT: true; the input reads as it did. -/
def fnExactSignIdSpec : ChangeSpec := { name := "fnExactSignId", fn := fun _ => fun
  | [d1, d2, d3] => { results := [.lit (.bool true)], args := [d1, d2, d3] }
  | _ => none }
def fnExactSignIdRow : OpenClaim := { program := "ythmlglmhiekocaa", sum := "805330fff33428f5eba0ccdffdf7d2ca0445106e9af41220ad86f6d00276c9a2", func := "loop.example/g00304/laws.FnExactSignId", spec := "fnExactSignId", plainKeys := false, apart := false }
def FnExactSignIdSaid : Prop := fnExactSignIdRow.holds Try.pinned (OpenSpec.ofChange fnExactSignIdSpec)

/-- ITS FALSE NEIGHBOUR: 'it returns false'. Refute it at one input. -/
def fnExactSignIdWrong : ChangeSpec := { name := "fnExactSignId", fn := fun _ => fun
  | [d1, d2, d3] => { results := [.lit (.bool false)], args := [d1, d2, d3] }
  | _ => none }
def FnExactSignIdWrongFalsely : Prop := fnExactSignIdRow.holds Try.pinned (OpenSpec.ofChange fnExactSignIdWrong)

/-- 'laws.FnExactHasSign': WHATEVER THE INPUT: true; the input reads as it did. -/
def fnExactHasSignSpec : ChangeSpec := { name := "fnExactHasSign", fn := fun _ => fun
  | [d1, d2, d3] => { results := [.lit (.bool true)], args := [d1, d2, d3] }
  | _ => none }
def fnExactHasSignRow : OpenClaim := { program := "ythmlglmhiekocaa", sum := "805330fff33428f5eba0ccdffdf7d2ca0445106e9af41220ad86f6d00276c9a2", func := "loop.example/g00304/laws.FnExactHasSign", spec := "fnExactHasSign", plainKeys := false, apart := false }
def FnExactHasSignSaid : Prop := fnExactHasSignRow.holds Try.pinned (OpenSpec.ofChange fnExactHasSignSpec)

/-- ITS FALSE NEIGHBOUR: 'it returns false'. Refute it at one input. -/
def fnExactHasSignWrong : ChangeSpec := { name := "fnExactHasSign", fn := fun _ => fun
  | [d1, d2, d3] => { results := [.lit (.bool false)], args := [d1, d2, d3] }
  | _ => none }
def FnExactHasSignWrongFalsely : Prop := fnExactHasSignRow.holds Try.pinned (OpenSpec.ofChange fnExactHasSignWrong)

/-- 'laws.FnExactSignsOf': WHATEVER THE INPUT: true; the input reads as it did. -/
def fnExactSignsOfSpec : ChangeSpec := { name := "fnExactSignsOf", fn := fun _ => fun
  | [d1, d2] => { results := [.lit (.bool true)], args := [d1, d2] }
  | _ => none }
def fnExactSignsOfRow : OpenClaim := { program := "ythmlglmhiekocaa", sum := "805330fff33428f5eba0ccdffdf7d2ca0445106e9af41220ad86f6d00276c9a2", func := "loop.example/g00304/laws.FnExactSignsOf", spec := "fnExactSignsOf", plainKeys := false, apart := false }
def FnExactSignsOfSaid : Prop := fnExactSignsOfRow.holds Try.pinned (OpenSpec.ofChange fnExactSignsOfSpec)

/-- ITS FALSE NEIGHBOUR: 'it returns false'. Refute it at one input. -/
def fnExactSignsOfWrong : ChangeSpec := { name := "fnExactSignsOf", fn := fun _ => fun
  | [d1, d2] => { results := [.lit (.bool false)], args := [d1, d2] }
  | _ => none }
def FnExactSignsOfWrongFalsely : Prop := fnExactSignsOfRow.holds Try.pinned (OpenSpec.ofChange fnExactSignsOfWrong)

/- THE SECOND FORM. 'bulk': how many values and letters a reading holds, each counted each time it is reached (what is shared counts as often as it is met; a slice's spare places count too). A statement '..UptoSaid' is the law's where the arguments, and the package variables that the reading takes, are together of bulk at most 1048576: NARROWER than '..Said'. Prove '..Said' where nothing that the law and all that it calls make is longer than what came in: it says more and counts as full. Else prove '..UptoSaid'. A law counts once. -/
mutual
def uptoBulk {H : Type} : DataW H → Nat
  | .lit (.string bytes) => bytes.length + 1
  | .lit _ => 1
  | .nil => 1
  | .ptr d => uptoBulk d + 1
  | .slice elems spare => uptoBulkAll elems + uptoBulkAll spare + 1
  | .agg parts => uptoBulkAll parts + 1
  | .iface _ d => uptoBulk d + 1
  | .map entries => uptoBulkEntries entries + 1
  | .held _ => 1
def uptoBulkAll {H : Type} : List (DataW H) → Nat
  | [] => 0
  | d :: r => uptoBulk d + uptoBulkAll r
def uptoBulkEntries {H : Type} : List (Lit × DataW H) → Nat
  | [] => 0
  | x :: r => uptoBulkEntry x + uptoBulkEntries r
def uptoBulkEntry {H : Type} : Lit × DataW H → Nat
  | (.string bytes, d) => bytes.length + uptoBulk d + 1
  | (_, d) => uptoBulk d + 1
 end
def uptoSmall : (H : Type) → List (DataW H) → Bool := fun _ ds => decide (uptoBulkAll ds ≤ 1048576)
def OpenSpec.upto (s : _root_.Go.ChangeSpec) : _root_.Go.OpenSpec := { _root_.Go.OpenSpec.ofChange s with cond := some uptoSmall }

/-- 'laws.FnLedgers', WHERE WHAT IT READS IS OF BULK AT MOST 1048576: true; the input reads as it did. -/
def fnLedgersUptoRow : OpenClaim := { program := "ythmlglmhiekocaa", sum := "805330fff33428f5eba0ccdffdf7d2ca0445106e9af41220ad86f6d00276c9a2", func := "loop.example/g00304/laws.FnLedgers", spec := "fnLedgers", plainKeys := false, apart := false, narrowed := true }
def FnLedgersUptoSaid : Prop := fnLedgersUptoRow.holds Try.pinned (OpenSpec.upto fnLedgersSpec)

/-- 'laws.FnSigns', WHERE WHAT IT READS IS OF BULK AT MOST 1048576: true; the input reads as it did. -/
def fnSignsUptoRow : OpenClaim := { program := "ythmlglmhiekocaa", sum := "805330fff33428f5eba0ccdffdf7d2ca0445106e9af41220ad86f6d00276c9a2", func := "loop.example/g00304/laws.FnSigns", spec := "fnSigns", plainKeys := false, apart := false, narrowed := true }
def FnSignsUptoSaid : Prop := fnSignsUptoRow.holds Try.pinned (OpenSpec.upto fnSignsSpec)

/-- 'laws.FnExactLedgerFault', WHERE WHAT IT READS IS OF BULK AT MOST 1048576: true; the input reads as it did. -/
def fnExactLedgerFaultUptoRow : OpenClaim := { program := "ythmlglmhiekocaa", sum := "805330fff33428f5eba0ccdffdf7d2ca0445106e9af41220ad86f6d00276c9a2", func := "loop.example/g00304/laws.FnExactLedgerFault", spec := "fnExactLedgerFault", plainKeys := false, apart := false, narrowed := true }
def FnExactLedgerFaultUptoSaid : Prop := fnExactLedgerFaultUptoRow.holds Try.pinned (OpenSpec.upto fnExactLedgerFaultSpec)

/-- 'laws.FnExactIdOf', WHERE WHAT IT READS IS OF BULK AT MOST 1048576: true; the input reads as it did. -/
def fnExactIdOfUptoRow : OpenClaim := { program := "ythmlglmhiekocaa", sum := "805330fff33428f5eba0ccdffdf7d2ca0445106e9af41220ad86f6d00276c9a2", func := "loop.example/g00304/laws.FnExactIdOf", spec := "fnExactIdOf", plainKeys := false, apart := false, narrowed := true }
def FnExactIdOfUptoSaid : Prop := fnExactIdOfUptoRow.holds Try.pinned (OpenSpec.upto fnExactIdOfSpec)

/-- 'laws.FnExactNoteText', WHERE WHAT IT READS IS OF BULK AT MOST 1048576: true; the input reads as it did. -/
def fnExactNoteTextUptoRow : OpenClaim := { program := "ythmlglmhiekocaa", sum := "805330fff33428f5eba0ccdffdf7d2ca0445106e9af41220ad86f6d00276c9a2", func := "loop.example/g00304/laws.FnExactNoteText", spec := "fnExactNoteText", plainKeys := false, apart := false, narrowed := true }
def FnExactNoteTextUptoSaid : Prop := fnExactNoteTextUptoRow.holds Try.pinned (OpenSpec.upto fnExactNoteTextSpec)

/-- 'laws.FnExactTextOf', WHERE WHAT IT READS IS OF BULK AT MOST 1048576: true; the input reads as it did. -/
def fnExactTextOfUptoRow : OpenClaim := { program := "ythmlglmhiekocaa", sum := "805330fff33428f5eba0ccdffdf7d2ca0445106e9af41220ad86f6d00276c9a2", func := "loop.example/g00304/laws.FnExactTextOf", spec := "fnExactTextOf", plainKeys := false, apart := false, narrowed := true }
def FnExactTextOfUptoSaid : Prop := fnExactTextOfUptoRow.holds Try.pinned (OpenSpec.upto fnExactTextOfSpec)

/-- 'laws.FnExactSignId', WHERE WHAT IT READS IS OF BULK AT MOST 1048576: true; the input reads as it did. -/
def fnExactSignIdUptoRow : OpenClaim := { program := "ythmlglmhiekocaa", sum := "805330fff33428f5eba0ccdffdf7d2ca0445106e9af41220ad86f6d00276c9a2", func := "loop.example/g00304/laws.FnExactSignId", spec := "fnExactSignId", plainKeys := false, apart := false, narrowed := true }
def FnExactSignIdUptoSaid : Prop := fnExactSignIdUptoRow.holds Try.pinned (OpenSpec.upto fnExactSignIdSpec)

/-- 'laws.FnExactHasSign', WHERE WHAT IT READS IS OF BULK AT MOST 1048576: true; the input reads as it did. -/
def fnExactHasSignUptoRow : OpenClaim := { program := "ythmlglmhiekocaa", sum := "805330fff33428f5eba0ccdffdf7d2ca0445106e9af41220ad86f6d00276c9a2", func := "loop.example/g00304/laws.FnExactHasSign", spec := "fnExactHasSign", plainKeys := false, apart := false, narrowed := true }
def FnExactHasSignUptoSaid : Prop := fnExactHasSignUptoRow.holds Try.pinned (OpenSpec.upto fnExactHasSignSpec)

/-- 'laws.FnExactSignsOf', WHERE WHAT IT READS IS OF BULK AT MOST 1048576: true; the input reads as it did. -/
def fnExactSignsOfUptoRow : OpenClaim := { program := "ythmlglmhiekocaa", sum := "805330fff33428f5eba0ccdffdf7d2ca0445106e9af41220ad86f6d00276c9a2", func := "loop.example/g00304/laws.FnExactSignsOf", spec := "fnExactSignsOf", plainKeys := false, apart := false, narrowed := true }
def FnExactSignsOfUptoSaid : Prop := fnExactSignsOfUptoRow.holds Try.pinned (OpenSpec.upto fnExactSignsOfSpec)

end Rows
end Go.Proofs.Ythmlglmhiekocaa
