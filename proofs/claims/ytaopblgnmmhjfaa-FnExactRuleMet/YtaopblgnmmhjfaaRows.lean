/-
  No cell of these rows narrows 'for every input' (looked for: loops, veiled, ifaces, maps, wideKeys, modest, calm, conditions, laid).
  DERIVED. THE GIVEN ROWS OF THIS SEAT. 16 by the template 'for every input the law returns true; each argument reads behind the call as it read before'; 0 by the template 'total and deterministic' (their statements: YtaopblgnmmhjfaaTotals.lean).
  GIVEN WITH THE SEED: the statements are not yours to turn. If you find one false, say at which input.
  Laid BY PROGRAM, IN A SANDBOX (cutbox-rows.mjs): the forced cells as the released guide's own fill.sh prints them over the translation ee4ede69be19bbd4… (all of the seat's roots in one cut). By AI agents, Wed Nov 11 2026. No macro, syntax, notation, axiom, sorry.
-/
import Derived.Test.YtaopblgnmmhjfaaChecked
import GoSem.Claim
import GoSem.ClaimJoined
import GoSem.ClaimMapViews
import Derived.JoinedTies
import Derived.KernelRfl
namespace Go.Proofs.Ytaopblgnmmhjfaa
/- THE CELL 'sum', in the pinned program and in every row, IS THE sha256 OF THE DUMP (.gsa) THAT YtaopblgnmmhjfaaProg.lean LOADS. Nothing in Lean hashes anything: it is a label: what it is worth is what the hold of that sum in a sandbox is worth. -/
noncomputable def Try.pinned : Pinned := { name := "ytaopblgnmmhjfaa", sum := "ee4ede69be19bbd4e9f2447958a1d6fe2c0a8b114cb6e1cedb6431662b1d1101", checked := Try.checked }
namespace Rows
def none {H : Type} : Left H := { results := [], args := [] }

/-- 'laws.FnLedgers': WHATEVER THE INPUT: true; the input reads as it did. -/
def fnLedgersSpec : ChangeSpec := { name := "fnLedgers", fn := fun _ => fun
  | [d] => { results := [.lit (.bool true)], args := [d] }
  | _ => none }
def fnLedgersRow : OpenClaim := { program := "ytaopblgnmmhjfaa", sum := "ee4ede69be19bbd4e9f2447958a1d6fe2c0a8b114cb6e1cedb6431662b1d1101", func := "loop.example/g00304/laws.FnLedgers", spec := "fnLedgers", plainKeys := false, apart := false }
def FnLedgersSaid : Prop := fnLedgersRow.holds Try.pinned (OpenSpec.ofChange fnLedgersSpec)

/-- ITS FALSE NEIGHBOUR: 'it returns false'. Refute it at one input. -/
def fnLedgersWrong : ChangeSpec := { name := "fnLedgers", fn := fun _ => fun
  | [d] => { results := [.lit (.bool false)], args := [d] }
  | _ => none }
def FnLedgersWrongFalsely : Prop := fnLedgersRow.holds Try.pinned (OpenSpec.ofChange fnLedgersWrong)

/-- 'laws.FnSigns': WHATEVER THE INPUT: true; the input reads as it did. -/
def fnSignsSpec : ChangeSpec := { name := "fnSigns", fn := fun _ => fun
  | [d] => { results := [.lit (.bool true)], args := [d] }
  | _ => none }
def fnSignsRow : OpenClaim := { program := "ytaopblgnmmhjfaa", sum := "ee4ede69be19bbd4e9f2447958a1d6fe2c0a8b114cb6e1cedb6431662b1d1101", func := "loop.example/g00304/laws.FnSigns", spec := "fnSigns", plainKeys := false, apart := false }
def FnSignsSaid : Prop := fnSignsRow.holds Try.pinned (OpenSpec.ofChange fnSignsSpec)

/-- ITS FALSE NEIGHBOUR: 'it returns false'. Refute it at one input. -/
def fnSignsWrong : ChangeSpec := { name := "fnSigns", fn := fun _ => fun
  | [d] => { results := [.lit (.bool false)], args := [d] }
  | _ => none }
def FnSignsWrongFalsely : Prop := fnSignsRow.holds Try.pinned (OpenSpec.ofChange fnSignsWrong)

/-- 'laws.FnExactLedgerFault': WHATEVER THE INPUT: true; the input reads as it did. -/
def fnExactLedgerFaultSpec : ChangeSpec := { name := "fnExactLedgerFault", fn := fun _ => fun
  | [d] => { results := [.lit (.bool true)], args := [d] }
  | _ => none }
def fnExactLedgerFaultRow : OpenClaim := { program := "ytaopblgnmmhjfaa", sum := "ee4ede69be19bbd4e9f2447958a1d6fe2c0a8b114cb6e1cedb6431662b1d1101", func := "loop.example/g00304/laws.FnExactLedgerFault", spec := "fnExactLedgerFault", plainKeys := false, apart := false }
def FnExactLedgerFaultSaid : Prop := fnExactLedgerFaultRow.holds Try.pinned (OpenSpec.ofChange fnExactLedgerFaultSpec)

/-- ITS FALSE NEIGHBOUR: 'it returns false'. Refute it at one input. -/
def fnExactLedgerFaultWrong : ChangeSpec := { name := "fnExactLedgerFault", fn := fun _ => fun
  | [d] => { results := [.lit (.bool false)], args := [d] }
  | _ => none }
def FnExactLedgerFaultWrongFalsely : Prop := fnExactLedgerFaultRow.holds Try.pinned (OpenSpec.ofChange fnExactLedgerFaultWrong)

/-- 'laws.FnExactIdOf': WHATEVER THE INPUT: true; the input reads as it did. -/
def fnExactIdOfSpec : ChangeSpec := { name := "fnExactIdOf", fn := fun _ => fun
  | [d1, d2] => { results := [.lit (.bool true)], args := [d1, d2] }
  | _ => none }
def fnExactIdOfRow : OpenClaim := { program := "ytaopblgnmmhjfaa", sum := "ee4ede69be19bbd4e9f2447958a1d6fe2c0a8b114cb6e1cedb6431662b1d1101", func := "loop.example/g00304/laws.FnExactIdOf", spec := "fnExactIdOf", plainKeys := false, apart := false }
def FnExactIdOfSaid : Prop := fnExactIdOfRow.holds Try.pinned (OpenSpec.ofChange fnExactIdOfSpec)

/-- ITS FALSE NEIGHBOUR: 'it returns false'. Refute it at one input. -/
def fnExactIdOfWrong : ChangeSpec := { name := "fnExactIdOf", fn := fun _ => fun
  | [d1, d2] => { results := [.lit (.bool false)], args := [d1, d2] }
  | _ => none }
def FnExactIdOfWrongFalsely : Prop := fnExactIdOfRow.holds Try.pinned (OpenSpec.ofChange fnExactIdOfWrong)

/-- 'laws.FnExactNoteText': WHATEVER THE INPUT: true; the input reads as it did. -/
def fnExactNoteTextSpec : ChangeSpec := { name := "fnExactNoteText", fn := fun _ => fun
  | [d1, d2] => { results := [.lit (.bool true)], args := [d1, d2] }
  | _ => none }
def fnExactNoteTextRow : OpenClaim := { program := "ytaopblgnmmhjfaa", sum := "ee4ede69be19bbd4e9f2447958a1d6fe2c0a8b114cb6e1cedb6431662b1d1101", func := "loop.example/g00304/laws.FnExactNoteText", spec := "fnExactNoteText", plainKeys := false, apart := false }
def FnExactNoteTextSaid : Prop := fnExactNoteTextRow.holds Try.pinned (OpenSpec.ofChange fnExactNoteTextSpec)

/-- ITS FALSE NEIGHBOUR: 'it returns false'. Refute it at one input. -/
def fnExactNoteTextWrong : ChangeSpec := { name := "fnExactNoteText", fn := fun _ => fun
  | [d1, d2] => { results := [.lit (.bool false)], args := [d1, d2] }
  | _ => none }
def FnExactNoteTextWrongFalsely : Prop := fnExactNoteTextRow.holds Try.pinned (OpenSpec.ofChange fnExactNoteTextWrong)

/-- 'laws.FnExactTextOf': WHATEVER THE INPUT: true; the input reads as it did. -/
def fnExactTextOfSpec : ChangeSpec := { name := "fnExactTextOf", fn := fun _ => fun
  | [d1, d2] => { results := [.lit (.bool true)], args := [d1, d2] }
  | _ => none }
def fnExactTextOfRow : OpenClaim := { program := "ytaopblgnmmhjfaa", sum := "ee4ede69be19bbd4e9f2447958a1d6fe2c0a8b114cb6e1cedb6431662b1d1101", func := "loop.example/g00304/laws.FnExactTextOf", spec := "fnExactTextOf", plainKeys := false, apart := false }
def FnExactTextOfSaid : Prop := fnExactTextOfRow.holds Try.pinned (OpenSpec.ofChange fnExactTextOfSpec)

/-- ITS FALSE NEIGHBOUR: 'it returns false'. Refute it at one input. -/
def fnExactTextOfWrong : ChangeSpec := { name := "fnExactTextOf", fn := fun _ => fun
  | [d1, d2] => { results := [.lit (.bool false)], args := [d1, d2] }
  | _ => none }
def FnExactTextOfWrongFalsely : Prop := fnExactTextOfRow.holds Try.pinned (OpenSpec.ofChange fnExactTextOfWrong)

/-- 'laws.FnExactSignId': WHATEVER THE INPUT: true; the input reads as it did. -/
def fnExactSignIdSpec : ChangeSpec := { name := "fnExactSignId", fn := fun _ => fun
  | [d1, d2, d3] => { results := [.lit (.bool true)], args := [d1, d2, d3] }
  | _ => none }
def fnExactSignIdRow : OpenClaim := { program := "ytaopblgnmmhjfaa", sum := "ee4ede69be19bbd4e9f2447958a1d6fe2c0a8b114cb6e1cedb6431662b1d1101", func := "loop.example/g00304/laws.FnExactSignId", spec := "fnExactSignId", plainKeys := false, apart := false }
def FnExactSignIdSaid : Prop := fnExactSignIdRow.holds Try.pinned (OpenSpec.ofChange fnExactSignIdSpec)

/-- ITS FALSE NEIGHBOUR: 'it returns false'. Refute it at one input. -/
def fnExactSignIdWrong : ChangeSpec := { name := "fnExactSignId", fn := fun _ => fun
  | [d1, d2, d3] => { results := [.lit (.bool false)], args := [d1, d2, d3] }
  | _ => none }
def FnExactSignIdWrongFalsely : Prop := fnExactSignIdRow.holds Try.pinned (OpenSpec.ofChange fnExactSignIdWrong)

/-- 'laws.FnExactHasSign': WHATEVER THE INPUT: true; the input reads as it did. -/
def fnExactHasSignSpec : ChangeSpec := { name := "fnExactHasSign", fn := fun _ => fun
  | [d1, d2, d3] => { results := [.lit (.bool true)], args := [d1, d2, d3] }
  | _ => none }
def fnExactHasSignRow : OpenClaim := { program := "ytaopblgnmmhjfaa", sum := "ee4ede69be19bbd4e9f2447958a1d6fe2c0a8b114cb6e1cedb6431662b1d1101", func := "loop.example/g00304/laws.FnExactHasSign", spec := "fnExactHasSign", plainKeys := false, apart := false }
def FnExactHasSignSaid : Prop := fnExactHasSignRow.holds Try.pinned (OpenSpec.ofChange fnExactHasSignSpec)

/-- ITS FALSE NEIGHBOUR: 'it returns false'. Refute it at one input. -/
def fnExactHasSignWrong : ChangeSpec := { name := "fnExactHasSign", fn := fun _ => fun
  | [d1, d2, d3] => { results := [.lit (.bool false)], args := [d1, d2, d3] }
  | _ => none }
def FnExactHasSignWrongFalsely : Prop := fnExactHasSignRow.holds Try.pinned (OpenSpec.ofChange fnExactHasSignWrong)

/-- 'laws.FnExactSignsOf': WHATEVER THE INPUT: true; the input reads as it did. -/
def fnExactSignsOfSpec : ChangeSpec := { name := "fnExactSignsOf", fn := fun _ => fun
  | [d1, d2] => { results := [.lit (.bool true)], args := [d1, d2] }
  | _ => none }
def fnExactSignsOfRow : OpenClaim := { program := "ytaopblgnmmhjfaa", sum := "ee4ede69be19bbd4e9f2447958a1d6fe2c0a8b114cb6e1cedb6431662b1d1101", func := "loop.example/g00304/laws.FnExactSignsOf", spec := "fnExactSignsOf", plainKeys := false, apart := false }
def FnExactSignsOfSaid : Prop := fnExactSignsOfRow.holds Try.pinned (OpenSpec.ofChange fnExactSignsOfSpec)

/-- ITS FALSE NEIGHBOUR: 'it returns false'. Refute it at one input. -/
def fnExactSignsOfWrong : ChangeSpec := { name := "fnExactSignsOf", fn := fun _ => fun
  | [d1, d2] => { results := [.lit (.bool false)], args := [d1, d2] }
  | _ => none }
def FnExactSignsOfWrongFalsely : Prop := fnExactSignsOfRow.holds Try.pinned (OpenSpec.ofChange fnExactSignsOfWrong)

/-- 'laws.FnExactRuleFault': WHATEVER THE INPUT: true; the input reads as it did. -/
def fnExactRuleFaultSpec : ChangeSpec := { name := "fnExactRuleFault", fn := fun _ => fun
  | [d] => { results := [.lit (.bool true)], args := [d] }
  | _ => none }
def fnExactRuleFaultRow : OpenClaim := { program := "ytaopblgnmmhjfaa", sum := "ee4ede69be19bbd4e9f2447958a1d6fe2c0a8b114cb6e1cedb6431662b1d1101", func := "loop.example/g00304/laws.FnExactRuleFault", spec := "fnExactRuleFault", unfollowed := true, recurses := true, plainKeys := false, apart := false }
def FnExactRuleFaultSaid : Prop := fnExactRuleFaultRow.holds Try.pinned (OpenSpec.ofChange fnExactRuleFaultSpec)

/-- ITS FALSE NEIGHBOUR: 'it returns false'. Refute it at one input. -/
def fnExactRuleFaultWrong : ChangeSpec := { name := "fnExactRuleFault", fn := fun _ => fun
  | [d] => { results := [.lit (.bool false)], args := [d] }
  | _ => none }
def FnExactRuleFaultWrongFalsely : Prop := fnExactRuleFaultRow.holds Try.pinned (OpenSpec.ofChange fnExactRuleFaultWrong)

/-- 'laws.FnExactRuleMet': WHATEVER THE INPUT: true; the input reads as it did. -/
def fnExactRuleMetSpec : ChangeSpec := { name := "fnExactRuleMet", fn := fun _ => fun
  | [d1, d2, d3, d4] => { results := [.lit (.bool true)], args := [d1, d2, d3, d4] }
  | _ => none }
def fnExactRuleMetRow : OpenClaim := { program := "ytaopblgnmmhjfaa", sum := "ee4ede69be19bbd4e9f2447958a1d6fe2c0a8b114cb6e1cedb6431662b1d1101", func := "loop.example/g00304/laws.FnExactRuleMet", spec := "fnExactRuleMet", unfollowed := true, recurses := true, plainKeys := false, apart := false }
def FnExactRuleMetSaid : Prop := fnExactRuleMetRow.holds Try.pinned (OpenSpec.ofChange fnExactRuleMetSpec)

/-- ITS FALSE NEIGHBOUR: 'it returns false'. Refute it at one input. -/
def fnExactRuleMetWrong : ChangeSpec := { name := "fnExactRuleMet", fn := fun _ => fun
  | [d1, d2, d3, d4] => { results := [.lit (.bool false)], args := [d1, d2, d3, d4] }
  | _ => none }
def FnExactRuleMetWrongFalsely : Prop := fnExactRuleMetRow.holds Try.pinned (OpenSpec.ofChange fnExactRuleMetWrong)

/-- 'laws.FnExactSameRules': WHATEVER THE INPUT: true; the input reads as it did. -/
def fnExactSameRulesSpec : ChangeSpec := { name := "fnExactSameRules", fn := fun _ => fun
  | [d1, d2] => { results := [.lit (.bool true)], args := [d1, d2] }
  | _ => none }
def fnExactSameRulesRow : OpenClaim := { program := "ytaopblgnmmhjfaa", sum := "ee4ede69be19bbd4e9f2447958a1d6fe2c0a8b114cb6e1cedb6431662b1d1101", func := "loop.example/g00304/laws.FnExactSameRules", spec := "fnExactSameRules", plainKeys := false, apart := false }
def FnExactSameRulesSaid : Prop := fnExactSameRulesRow.holds Try.pinned (OpenSpec.ofChange fnExactSameRulesSpec)

/-- ITS FALSE NEIGHBOUR: 'it returns false'. Refute it at one input. -/
def fnExactSameRulesWrong : ChangeSpec := { name := "fnExactSameRules", fn := fun _ => fun
  | [d1, d2] => { results := [.lit (.bool false)], args := [d1, d2] }
  | _ => none }
def FnExactSameRulesWrongFalsely : Prop := fnExactSameRulesRow.holds Try.pinned (OpenSpec.ofChange fnExactSameRulesWrong)

/-- 'laws.FnExactTxFault': WHATEVER THE INPUT: true; the input reads as it did. -/
def fnExactTxFaultSpec : ChangeSpec := { name := "fnExactTxFault", fn := fun _ => fun
  | [d] => { results := [.lit (.bool true)], args := [d] }
  | _ => none }
def fnExactTxFaultRow : OpenClaim := { program := "ytaopblgnmmhjfaa", sum := "ee4ede69be19bbd4e9f2447958a1d6fe2c0a8b114cb6e1cedb6431662b1d1101", func := "loop.example/g00304/laws.FnExactTxFault", spec := "fnExactTxFault", unfollowed := true, recurses := true, plainKeys := false, apart := false }
def FnExactTxFaultSaid : Prop := fnExactTxFaultRow.holds Try.pinned (OpenSpec.ofChange fnExactTxFaultSpec)

/-- ITS FALSE NEIGHBOUR: 'it returns false'. Refute it at one input. -/
def fnExactTxFaultWrong : ChangeSpec := { name := "fnExactTxFault", fn := fun _ => fun
  | [d] => { results := [.lit (.bool false)], args := [d] }
  | _ => none }
def FnExactTxFaultWrongFalsely : Prop := fnExactTxFaultRow.holds Try.pinned (OpenSpec.ofChange fnExactTxFaultWrong)

/-- 'laws.FnExactOutSum': WHATEVER THE INPUT: true; the input reads as it did. -/
def fnExactOutSumSpec : ChangeSpec := { name := "fnExactOutSum", fn := fun _ => fun
  | [d] => { results := [.lit (.bool true)], args := [d] }
  | _ => none }
def fnExactOutSumRow : OpenClaim := { program := "ytaopblgnmmhjfaa", sum := "ee4ede69be19bbd4e9f2447958a1d6fe2c0a8b114cb6e1cedb6431662b1d1101", func := "loop.example/g00304/laws.FnExactOutSum", spec := "fnExactOutSum", unfollowed := true, recurses := true, plainKeys := false, apart := false }
def FnExactOutSumSaid : Prop := fnExactOutSumRow.holds Try.pinned (OpenSpec.ofChange fnExactOutSumSpec)

/-- ITS FALSE NEIGHBOUR: 'it returns false'. Refute it at one input. -/
def fnExactOutSumWrong : ChangeSpec := { name := "fnExactOutSum", fn := fun _ => fun
  | [d] => { results := [.lit (.bool false)], args := [d] }
  | _ => none }
def FnExactOutSumWrongFalsely : Prop := fnExactOutSumRow.holds Try.pinned (OpenSpec.ofChange fnExactOutSumWrong)

/-- 'laws.FnExactClashTx': WHATEVER THE INPUT: true; the input reads as it did. -/
def fnExactClashTxSpec : ChangeSpec := { name := "fnExactClashTx", fn := fun _ => fun
  | [d1, d2] => { results := [.lit (.bool true)], args := [d1, d2] }
  | _ => none }
def fnExactClashTxRow : OpenClaim := { program := "ytaopblgnmmhjfaa", sum := "ee4ede69be19bbd4e9f2447958a1d6fe2c0a8b114cb6e1cedb6431662b1d1101", func := "loop.example/g00304/laws.FnExactClashTx", spec := "fnExactClashTx", unfollowed := true, recurses := true, plainKeys := false, apart := false }
def FnExactClashTxSaid : Prop := fnExactClashTxRow.holds Try.pinned (OpenSpec.ofChange fnExactClashTxSpec)

/-- ITS FALSE NEIGHBOUR: 'it returns false'. Refute it at one input. -/
def fnExactClashTxWrong : ChangeSpec := { name := "fnExactClashTx", fn := fun _ => fun
  | [d1, d2] => { results := [.lit (.bool false)], args := [d1, d2] }
  | _ => none }
def FnExactClashTxWrongFalsely : Prop := fnExactClashTxRow.holds Try.pinned (OpenSpec.ofChange fnExactClashTxWrong)

/-- 'laws.FnExactSameTxs': WHATEVER THE INPUT: true; the input reads as it did. -/
def fnExactSameTxsSpec : ChangeSpec := { name := "fnExactSameTxs", fn := fun _ => fun
  | [d1, d2] => { results := [.lit (.bool true)], args := [d1, d2] }
  | _ => none }
def fnExactSameTxsRow : OpenClaim := { program := "ytaopblgnmmhjfaa", sum := "ee4ede69be19bbd4e9f2447958a1d6fe2c0a8b114cb6e1cedb6431662b1d1101", func := "loop.example/g00304/laws.FnExactSameTxs", spec := "fnExactSameTxs", unfollowed := true, recurses := true, plainKeys := false, apart := false }
def FnExactSameTxsSaid : Prop := fnExactSameTxsRow.holds Try.pinned (OpenSpec.ofChange fnExactSameTxsSpec)

/-- ITS FALSE NEIGHBOUR: 'it returns false'. Refute it at one input. -/
def fnExactSameTxsWrong : ChangeSpec := { name := "fnExactSameTxs", fn := fun _ => fun
  | [d1, d2] => { results := [.lit (.bool false)], args := [d1, d2] }
  | _ => none }
def FnExactSameTxsWrongFalsely : Prop := fnExactSameTxsRow.holds Try.pinned (OpenSpec.ofChange fnExactSameTxsWrong)

/- THE SECOND FORM. 'bulk': how many values and letters a reading holds, each counted each time it is reached (what is shared counts as often as it is met; a slice's spare places count too). A statement '..UptoSaid' is the law's where the arguments, and the package variables that the reading takes, are together of bulk at most 1048576: NARROWER than '..Said'. Prove '..Said' where nothing that the law and all that it calls make is longer than what came in: it says more and counts as full. Else prove '..UptoSaid'. A law counts once. -/
mutual
def uptoBulk {H : Type} : DataW H → Nat
  | .lit (.string bytes) => bytes.length + 1
  | .lit _ => 1
  | .nil => 1
  | .ptr d => uptoBulk d + 1
  | .slice elems spare => uptoBulkAll elems + uptoBulkAll spare + 1
  | .agg parts => uptoBulkAll parts + 1
  | .iface _ d => uptoBulk d + 1
  | .map entries => uptoBulkEntries entries + 1
  | .held _ => 1
def uptoBulkAll {H : Type} : List (DataW H) → Nat
  | [] => 0
  | d :: r => uptoBulk d + uptoBulkAll r
def uptoBulkEntries {H : Type} : List (Lit × DataW H) → Nat
  | [] => 0
  | x :: r => uptoBulkEntry x + uptoBulkEntries r
def uptoBulkEntry {H : Type} : Lit × DataW H → Nat
  | (.string bytes, d) => bytes.length + uptoBulk d + 1
  | (_, d) => uptoBulk d + 1
 end
def uptoSmall : (H : Type) → List (DataW H) → Bool := fun _ ds => decide (uptoBulkAll ds ≤ 1048576)
def OpenSpec.upto (s : _root_.Go.ChangeSpec) : _root_.Go.OpenSpec := { _root_.Go.OpenSpec.ofChange s with cond := some uptoSmall }

/-- 'laws.FnLedgers', WHERE WHAT IT READS IS OF BULK AT MOST 1048576: true; the input reads as it did. -/
def fnLedgersUptoRow : OpenClaim := { program := "ytaopblgnmmhjfaa", sum := "ee4ede69be19bbd4e9f2447958a1d6fe2c0a8b114cb6e1cedb6431662b1d1101", func := "loop.example/g00304/laws.FnLedgers", spec := "fnLedgers", plainKeys := false, apart := false, narrowed := true }
def FnLedgersUptoSaid : Prop := fnLedgersUptoRow.holds Try.pinned (OpenSpec.upto fnLedgersSpec)

/-- 'laws.FnSigns', WHERE WHAT IT READS IS OF BULK AT MOST 1048576: true; the input reads as it did. -/
def fnSignsUptoRow : OpenClaim := { program := "ytaopblgnmmhjfaa", sum := "ee4ede69be19bbd4e9f2447958a1d6fe2c0a8b114cb6e1cedb6431662b1d1101", func := "loop.example/g00304/laws.FnSigns", spec := "fnSigns", plainKeys := false, apart := false, narrowed := true }
def FnSignsUptoSaid : Prop := fnSignsUptoRow.holds Try.pinned (OpenSpec.upto fnSignsSpec)

/-- 'laws.FnExactLedgerFault', WHERE WHAT IT READS IS OF BULK AT MOST 1048576: true; the input reads as it did. -/
def fnExactLedgerFaultUptoRow : OpenClaim := { program := "ytaopblgnmmhjfaa", sum := "ee4ede69be19bbd4e9f2447958a1d6fe2c0a8b114cb6e1cedb6431662b1d1101", func := "loop.example/g00304/laws.FnExactLedgerFault", spec := "fnExactLedgerFault", plainKeys := false, apart := false, narrowed := true }
def FnExactLedgerFaultUptoSaid : Prop := fnExactLedgerFaultUptoRow.holds Try.pinned (OpenSpec.upto fnExactLedgerFaultSpec)

/-- 'laws.FnExactIdOf', WHERE WHAT IT READS IS OF BULK AT MOST 1048576: true; the input reads as it did. -/
def fnExactIdOfUptoRow : OpenClaim := { program := "ytaopblgnmmhjfaa", sum := "ee4ede69be19bbd4e9f2447958a1d6fe2c0a8b114cb6e1cedb6431662b1d1101", func := "loop.example/g00304/laws.FnExactIdOf", spec := "fnExactIdOf", plainKeys := false, apart := false, narrowed := true }
def FnExactIdOfUptoSaid : Prop := fnExactIdOfUptoRow.holds Try.pinned (OpenSpec.upto fnExactIdOfSpec)

/-- 'laws.FnExactNoteText', WHERE WHAT IT READS IS OF BULK AT MOST 1048576: true; the input reads as it did. -/
def fnExactNoteTextUptoRow : OpenClaim := { program := "ytaopblgnmmhjfaa", sum := "ee4ede69be19bbd4e9f2447958a1d6fe2c0a8b114cb6e1cedb6431662b1d1101", func := "loop.example/g00304/laws.FnExactNoteText", spec := "fnExactNoteText", plainKeys := false, apart := false, narrowed := true }
def FnExactNoteTextUptoSaid : Prop := fnExactNoteTextUptoRow.holds Try.pinned (OpenSpec.upto fnExactNoteTextSpec)

/-- 'laws.FnExactTextOf', WHERE WHAT IT READS IS OF BULK AT MOST 1048576: true; the input reads as it did. -/
def fnExactTextOfUptoRow : OpenClaim := { program := "ytaopblgnmmhjfaa", sum := "ee4ede69be19bbd4e9f2447958a1d6fe2c0a8b114cb6e1cedb6431662b1d1101", func := "loop.example/g00304/laws.FnExactTextOf", spec := "fnExactTextOf", plainKeys := false, apart := false, narrowed := true }
def FnExactTextOfUptoSaid : Prop := fnExactTextOfUptoRow.holds Try.pinned (OpenSpec.upto fnExactTextOfSpec)

/-- 'laws.FnExactSignId', WHERE WHAT IT READS IS OF BULK AT MOST 1048576: true; the input reads as it did. -/
def fnExactSignIdUptoRow : OpenClaim := { program := "ytaopblgnmmhjfaa", sum := "ee4ede69be19bbd4e9f2447958a1d6fe2c0a8b114cb6e1cedb6431662b1d1101", func := "loop.example/g00304/laws.FnExactSignId", spec := "fnExactSignId", plainKeys := false, apart := false, narrowed := true }
def FnExactSignIdUptoSaid : Prop := fnExactSignIdUptoRow.holds Try.pinned (OpenSpec.upto fnExactSignIdSpec)

/-- 'laws.FnExactHasSign', WHERE WHAT IT READS IS OF BULK AT MOST 1048576: true; the input reads as it did. -/
def fnExactHasSignUptoRow : OpenClaim := { program := "ytaopblgnmmhjfaa", sum := "ee4ede69be19bbd4e9f2447958a1d6fe2c0a8b114cb6e1cedb6431662b1d1101", func := "loop.example/g00304/laws.FnExactHasSign", spec := "fnExactHasSign", plainKeys := false, apart := false, narrowed := true }
def FnExactHasSignUptoSaid : Prop := fnExactHasSignUptoRow.holds Try.pinned (OpenSpec.upto fnExactHasSignSpec)

/-- 'laws.FnExactSignsOf', WHERE WHAT IT READS IS OF BULK AT MOST 1048576: true; the input reads as it did. -/
def fnExactSignsOfUptoRow : OpenClaim := { program := "ytaopblgnmmhjfaa", sum := "ee4ede69be19bbd4e9f2447958a1d6fe2c0a8b114cb6e1cedb6431662b1d1101", func := "loop.example/g00304/laws.FnExactSignsOf", spec := "fnExactSignsOf", plainKeys := false, apart := false, narrowed := true }
def FnExactSignsOfUptoSaid : Prop := fnExactSignsOfUptoRow.holds Try.pinned (OpenSpec.upto fnExactSignsOfSpec)

/-- 'laws.FnExactRuleFault', WHERE WHAT IT READS IS OF BULK AT MOST 1048576: true; the input reads as it did. -/
def fnExactRuleFaultUptoRow : OpenClaim := { program := "ytaopblgnmmhjfaa", sum := "ee4ede69be19bbd4e9f2447958a1d6fe2c0a8b114cb6e1cedb6431662b1d1101", func := "loop.example/g00304/laws.FnExactRuleFault", spec := "fnExactRuleFault", unfollowed := true, recurses := true, plainKeys := false, apart := false, narrowed := true }
def FnExactRuleFaultUptoSaid : Prop := fnExactRuleFaultUptoRow.holds Try.pinned (OpenSpec.upto fnExactRuleFaultSpec)

/-- 'laws.FnExactRuleMet', WHERE WHAT IT READS IS OF BULK AT MOST 1048576: true; the input reads as it did. -/
def fnExactRuleMetUptoRow : OpenClaim := { program := "ytaopblgnmmhjfaa", sum := "ee4ede69be19bbd4e9f2447958a1d6fe2c0a8b114cb6e1cedb6431662b1d1101", func := "loop.example/g00304/laws.FnExactRuleMet", spec := "fnExactRuleMet", unfollowed := true, recurses := true, plainKeys := false, apart := false, narrowed := true }
def FnExactRuleMetUptoSaid : Prop := fnExactRuleMetUptoRow.holds Try.pinned (OpenSpec.upto fnExactRuleMetSpec)

/-- 'laws.FnExactSameRules', WHERE WHAT IT READS IS OF BULK AT MOST 1048576: true; the input reads as it did. -/
def fnExactSameRulesUptoRow : OpenClaim := { program := "ytaopblgnmmhjfaa", sum := "ee4ede69be19bbd4e9f2447958a1d6fe2c0a8b114cb6e1cedb6431662b1d1101", func := "loop.example/g00304/laws.FnExactSameRules", spec := "fnExactSameRules", plainKeys := false, apart := false, narrowed := true }
def FnExactSameRulesUptoSaid : Prop := fnExactSameRulesUptoRow.holds Try.pinned (OpenSpec.upto fnExactSameRulesSpec)

/-- 'laws.FnExactTxFault', WHERE WHAT IT READS IS OF BULK AT MOST 1048576: true; the input reads as it did. -/
def fnExactTxFaultUptoRow : OpenClaim := { program := "ytaopblgnmmhjfaa", sum := "ee4ede69be19bbd4e9f2447958a1d6fe2c0a8b114cb6e1cedb6431662b1d1101", func := "loop.example/g00304/laws.FnExactTxFault", spec := "fnExactTxFault", unfollowed := true, recurses := true, plainKeys := false, apart := false, narrowed := true }
def FnExactTxFaultUptoSaid : Prop := fnExactTxFaultUptoRow.holds Try.pinned (OpenSpec.upto fnExactTxFaultSpec)

/-- 'laws.FnExactOutSum', WHERE WHAT IT READS IS OF BULK AT MOST 1048576: true; the input reads as it did. -/
def fnExactOutSumUptoRow : OpenClaim := { program := "ytaopblgnmmhjfaa", sum := "ee4ede69be19bbd4e9f2447958a1d6fe2c0a8b114cb6e1cedb6431662b1d1101", func := "loop.example/g00304/laws.FnExactOutSum", spec := "fnExactOutSum", unfollowed := true, recurses := true, plainKeys := false, apart := false, narrowed := true }
def FnExactOutSumUptoSaid : Prop := fnExactOutSumUptoRow.holds Try.pinned (OpenSpec.upto fnExactOutSumSpec)

/-- 'laws.FnExactClashTx', WHERE WHAT IT READS IS OF BULK AT MOST 1048576: true; the input reads as it did. -/
def fnExactClashTxUptoRow : OpenClaim := { program := "ytaopblgnmmhjfaa", sum := "ee4ede69be19bbd4e9f2447958a1d6fe2c0a8b114cb6e1cedb6431662b1d1101", func := "loop.example/g00304/laws.FnExactClashTx", spec := "fnExactClashTx", unfollowed := true, recurses := true, plainKeys := false, apart := false, narrowed := true }
def FnExactClashTxUptoSaid : Prop := fnExactClashTxUptoRow.holds Try.pinned (OpenSpec.upto fnExactClashTxSpec)

/-- 'laws.FnExactSameTxs', WHERE WHAT IT READS IS OF BULK AT MOST 1048576: true; the input reads as it did. -/
def fnExactSameTxsUptoRow : OpenClaim := { program := "ytaopblgnmmhjfaa", sum := "ee4ede69be19bbd4e9f2447958a1d6fe2c0a8b114cb6e1cedb6431662b1d1101", func := "loop.example/g00304/laws.FnExactSameTxs", spec := "fnExactSameTxs", unfollowed := true, recurses := true, plainKeys := false, apart := false, narrowed := true }
def FnExactSameTxsUptoSaid : Prop := fnExactSameTxsUptoRow.holds Try.pinned (OpenSpec.upto fnExactSameTxsSpec)

end Rows
end Go.Proofs.Ytaopblgnmmhjfaa
