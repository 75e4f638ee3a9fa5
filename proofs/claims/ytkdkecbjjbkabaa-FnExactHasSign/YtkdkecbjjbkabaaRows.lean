/-
  No cell of these rows narrows 'for every input' (looked for: loops, veiled, ifaces, maps, wideKeys, modest, calm, conditions, laid).
  DERIVED. THE GIVEN ROWS OF THIS SEAT. 3 by the template 'for every input the law returns true; each argument reads behind the call as it read before'; 0 by the template 'total and deterministic' (their statements: YtkdkecbjjbkabaaTotals.lean).
  GIVEN WITH THE SEED: the statements are not yours to turn. If you find one false, say at which input.
  Laid BY PROGRAM, IN A SANDBOX (cutbox-rows.mjs): the forced cells as the released guide's own fill.sh prints them over the translation a8b5b646b1f27aa0… (all of the seat's roots in one cut). By AI agents, Wed Nov 11 2026. No macro, syntax, notation, axiom, sorry.
-/
import Derived.Test.YtkdkecbjjbkabaaChecked
import GoSem.Claim
import GoSem.ClaimJoined
import GoSem.ClaimMapViews
import Derived.JoinedTies
import Derived.KernelRfl
namespace Go.Proofs.Ytkdkecbjjbkabaa
/- THE CELL 'sum', in the pinned program and in every row, IS THE sha256 OF THE DUMP (.gsa) THAT YtkdkecbjjbkabaaProg.lean LOADS. Nothing in Lean hashes anything: it is a label: what it is worth is what the hold of that sum in a sandbox is worth. -/
noncomputable def Try.pinned : Pinned := { name := "ytkdkecbjjbkabaa", sum := "a8b5b646b1f27aa0d1ddac18e91e70a0c8813934e69d16e9baa02a49276c4516", checked := Try.checked }
namespace Rows
def none {H : Type} : Left H := { results := [], args := [] }

/-- 'laws.FnExactIsRipe': WHATEVER THE INPUT: true; the input reads as it did. -/
def fnExactIsRipeSpec : ChangeSpec := { name := "fnExactIsRipe", fn := fun _ => fun
  | [d1, d2] => { results := [.lit (.bool true)], args := [d1, d2] }
  | _ => none }
def fnExactIsRipeRow : OpenClaim := { program := "ytkdkecbjjbkabaa", sum := "a8b5b646b1f27aa0d1ddac18e91e70a0c8813934e69d16e9baa02a49276c4516", func := "loop.example/g00304/laws.FnExactIsRipe", spec := "fnExactIsRipe", plainKeys := false, apart := false }
def FnExactIsRipeSaid : Prop := fnExactIsRipeRow.holds Try.pinned (OpenSpec.ofChange fnExactIsRipeSpec)

/-- ITS FALSE NEIGHBOUR: 'it returns false'. Refute it at one input. -/
def fnExactIsRipeWrong : ChangeSpec := { name := "fnExactIsRipe", fn := fun _ => fun
  | [d1, d2] => { results := [.lit (.bool false)], args := [d1, d2] }
  | _ => none }
def FnExactIsRipeWrongFalsely : Prop := fnExactIsRipeRow.holds Try.pinned (OpenSpec.ofChange fnExactIsRipeWrong)

/-- 'laws.FnExactHasSign': WHATEVER THE INPUT: true; the input reads as it did. -/
def fnExactHasSignSpec : ChangeSpec := { name := "fnExactHasSign", fn := fun _ => fun
  | [d1, d2, d3] => { results := [.lit (.bool true)], args := [d1, d2, d3] }
  | _ => none }
def fnExactHasSignRow : OpenClaim := { program := "ytkdkecbjjbkabaa", sum := "a8b5b646b1f27aa0d1ddac18e91e70a0c8813934e69d16e9baa02a49276c4516", func := "loop.example/g00304/laws.FnExactHasSign", spec := "fnExactHasSign", plainKeys := false, apart := false }
def FnExactHasSignSaid : Prop := fnExactHasSignRow.holds Try.pinned (OpenSpec.ofChange fnExactHasSignSpec)

/-- ITS FALSE NEIGHBOUR: 'it returns false'. Refute it at one input. -/
def fnExactHasSignWrong : ChangeSpec := { name := "fnExactHasSign", fn := fun _ => fun
  | [d1, d2, d3] => { results := [.lit (.bool false)], args := [d1, d2, d3] }
  | _ => none }
def FnExactHasSignWrongFalsely : Prop := fnExactHasSignRow.holds Try.pinned (OpenSpec.ofChange fnExactHasSignWrong)

/-- 'laws.FnExactRuleMet': WHATEVER THE INPUT: true; the input reads as it did. -/
def fnExactRuleMetSpec : ChangeSpec := { name := "fnExactRuleMet", fn := fun _ => fun
  | [d1, d2, d3, d4] => { results := [.lit (.bool true)], args := [d1, d2, d3, d4] }
  | _ => none }
def fnExactRuleMetRow : OpenClaim := { program := "ytkdkecbjjbkabaa", sum := "a8b5b646b1f27aa0d1ddac18e91e70a0c8813934e69d16e9baa02a49276c4516", func := "loop.example/g00304/laws.FnExactRuleMet", spec := "fnExactRuleMet", unfollowed := true, recurses := true, plainKeys := false, apart := false }
def FnExactRuleMetSaid : Prop := fnExactRuleMetRow.holds Try.pinned (OpenSpec.ofChange fnExactRuleMetSpec)

/-- ITS FALSE NEIGHBOUR: 'it returns false'. Refute it at one input. -/
def fnExactRuleMetWrong : ChangeSpec := { name := "fnExactRuleMet", fn := fun _ => fun
  | [d1, d2, d3, d4] => { results := [.lit (.bool false)], args := [d1, d2, d3, d4] }
  | _ => none }
def FnExactRuleMetWrongFalsely : Prop := fnExactRuleMetRow.holds Try.pinned (OpenSpec.ofChange fnExactRuleMetWrong)

/- THE SECOND FORM. 'bulk': how many values and letters a reading holds, each counted each time it is reached (what is shared counts as often as it is met; a slice's spare places count too). A statement '..UptoSaid' is the law's where the arguments, and the package variables that the reading takes, are together of bulk at most 1048576: NARROWER than '..Said'. Prove '..Said' where nothing that the law and all that it calls make is longer than what came in: it says more and counts as full. Else prove '..UptoSaid'. A law counts once. -/
mutual
def uptoBulk {H : Type} : DataW H → Nat
  | .lit (.string bytes) => bytes.length + 1
  | .lit _ => 1
  | .nil => 1
  | .ptr d => uptoBulk d + 1
  | .slice elems spare => uptoBulkAll elems + uptoBulkAll spare + 1
  | .agg parts => uptoBulkAll parts + 1
  | .iface _ d => uptoBulk d + 1
  | .map entries => uptoBulkEntries entries + 1
  | .held _ => 1
def uptoBulkAll {H : Type} : List (DataW H) → Nat
  | [] => 0
  | d :: r => uptoBulk d + uptoBulkAll r
def uptoBulkEntries {H : Type} : List (Lit × DataW H) → Nat
  | [] => 0
  | x :: r => uptoBulkEntry x + uptoBulkEntries r
def uptoBulkEntry {H : Type} : Lit × DataW H → Nat
  | (.string bytes, d) => bytes.length + uptoBulk d + 1
  | (_, d) => uptoBulk d + 1
 end
def uptoSmall : (H : Type) → List (DataW H) → Bool := fun _ ds => decide (uptoBulkAll ds ≤ 1048576)
def OpenSpec.upto (s : _root_.Go.ChangeSpec) : _root_.Go.OpenSpec := { _root_.Go.OpenSpec.ofChange s with cond := some uptoSmall }

/-- 'laws.FnExactIsRipe', WHERE WHAT IT READS IS OF BULK AT MOST 1048576: true; the input reads as it did. -/
def fnExactIsRipeUptoRow : OpenClaim := { program := "ytkdkecbjjbkabaa", sum := "a8b5b646b1f27aa0d1ddac18e91e70a0c8813934e69d16e9baa02a49276c4516", func := "loop.example/g00304/laws.FnExactIsRipe", spec := "fnExactIsRipe", plainKeys := false, apart := false, narrowed := true }
def FnExactIsRipeUptoSaid : Prop := fnExactIsRipeUptoRow.holds Try.pinned (OpenSpec.upto fnExactIsRipeSpec)

/-- 'laws.FnExactHasSign', WHERE WHAT IT READS IS OF BULK AT MOST 1048576: true; the input reads as it did. -/
def fnExactHasSignUptoRow : OpenClaim := { program := "ytkdkecbjjbkabaa", sum := "a8b5b646b1f27aa0d1ddac18e91e70a0c8813934e69d16e9baa02a49276c4516", func := "loop.example/g00304/laws.FnExactHasSign", spec := "fnExactHasSign", plainKeys := false, apart := false, narrowed := true }
def FnExactHasSignUptoSaid : Prop := fnExactHasSignUptoRow.holds Try.pinned (OpenSpec.upto fnExactHasSignSpec)

/-- 'laws.FnExactRuleMet', WHERE WHAT IT READS IS OF BULK AT MOST 1048576: true; the input reads as it did. -/
def fnExactRuleMetUptoRow : OpenClaim := { program := "ytkdkecbjjbkabaa", sum := "a8b5b646b1f27aa0d1ddac18e91e70a0c8813934e69d16e9baa02a49276c4516", func := "loop.example/g00304/laws.FnExactRuleMet", spec := "fnExactRuleMet", unfollowed := true, recurses := true, plainKeys := false, apart := false, narrowed := true }
def FnExactRuleMetUptoSaid : Prop := fnExactRuleMetUptoRow.holds Try.pinned (OpenSpec.upto fnExactRuleMetSpec)

end Rows
end Go.Proofs.Ytkdkecbjjbkabaa
