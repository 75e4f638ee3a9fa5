/-
  No cell of these rows narrows 'for every input' (looked for: loops, veiled, ifaces, maps, wideKeys, modest, calm, conditions, laid).
  DERIVED. THE GIVEN ROWS OF THIS SEAT. 4 by the template 'for every input the law returns true; each argument reads behind the call as it read before'; 0 by the template 'total and deterministic' (their statements: YtbjgngabdcknnaaTotals.lean).
  GIVEN WITH THE SEED: the statements are not yours to turn. If you find one false, say at which input.
  Laid BY PROGRAM, IN A SANDBOX (cutbox-rows.mjs): the forced cells as the released guide's own fill.sh prints them over the translation 920407be44208486… (all of the seat's roots in one cut). By AI agents, Wed Nov 11 2026. No macro, syntax, notation, axiom, sorry.
-/
import Derived.Test.YtbjgngabdcknnaaChecked
import GoSem.Claim
import GoSem.ClaimJoined
import GoSem.ClaimMapViews
import Derived.JoinedTies
import Derived.KernelRfl
namespace Go.Proofs.Ytbjgngabdcknnaa
/- THE CELL 'sum', in the pinned program and in every row, IS THE sha256 OF THE DUMP (.gsa) THAT YtbjgngabdcknnaaProg.lean LOADS. Nothing in Lean hashes anything: it is a label: what it is worth is what the hold of that sum in a sandbox is worth. -/
noncomputable def Try.pinned : Pinned := { name := "ytbjgngabdcknnaa", sum := "920407be44208486abe0c844b0c738119df5437f02ec3c797a193bc918a8c7ec", checked := Try.checked }
namespace Rows
def none {H : Type} : Left H := { results := [], args := [] }

/-- 'laws.FnExactCoinAt': WHATEVER THE INPUT: true; the input reads as it did. -/
def fnExactCoinAtSpec : ChangeSpec := { name := "fnExactCoinAt", fn := fun _ => fun
  | [d1, d2] => { results := [.lit (.bool true)], args := [d1, d2] }
  | _ => none }
def fnExactCoinAtRow : OpenClaim := { program := "ytbjgngabdcknnaa", sum := "920407be44208486abe0c844b0c738119df5437f02ec3c797a193bc918a8c7ec", func := "loop.example/g00304/laws.FnExactCoinAt", spec := "fnExactCoinAt", unfollowed := true, recurses := true, plainKeys := false, apart := false }
def FnExactCoinAtSaid : Prop := fnExactCoinAtRow.holds Try.pinned (OpenSpec.ofChange fnExactCoinAtSpec)

/-- ITS FALSE NEIGHBOUR: 'it returns false'. Refute it at one input. -/
def fnExactCoinAtWrong : ChangeSpec := { name := "fnExactCoinAt", fn := fun _ => fun
  | [d1, d2] => { results := [.lit (.bool false)], args := [d1, d2] }
  | _ => none }
def FnExactCoinAtWrongFalsely : Prop := fnExactCoinAtRow.holds Try.pinned (OpenSpec.ofChange fnExactCoinAtWrong)

/-- 'laws.FnExactTakeCoins': WHATEVER THE INPUT: true; the input reads as it did. -/
def fnExactTakeCoinsSpec : ChangeSpec := { name := "fnExactTakeCoins", fn := fun _ => fun
  | [d1, d2] => { results := [.lit (.bool true)], args := [d1, d2] }
  | _ => none }
def fnExactTakeCoinsRow : OpenClaim := { program := "ytbjgngabdcknnaa", sum := "920407be44208486abe0c844b0c738119df5437f02ec3c797a193bc918a8c7ec", func := "loop.example/g00304/laws.FnExactTakeCoins", spec := "fnExactTakeCoins", unfollowed := true, recurses := true, plainKeys := false, apart := false }
def FnExactTakeCoinsSaid : Prop := fnExactTakeCoinsRow.holds Try.pinned (OpenSpec.ofChange fnExactTakeCoinsSpec)

/-- ITS FALSE NEIGHBOUR: 'it returns false'. Refute it at one input. -/
def fnExactTakeCoinsWrong : ChangeSpec := { name := "fnExactTakeCoins", fn := fun _ => fun
  | [d1, d2] => { results := [.lit (.bool false)], args := [d1, d2] }
  | _ => none }
def FnExactTakeCoinsWrongFalsely : Prop := fnExactTakeCoinsRow.holds Try.pinned (OpenSpec.ofChange fnExactTakeCoinsWrong)

/-- 'laws.FnExactPutCoins': WHATEVER THE INPUT: true; the input reads as it did. -/
def fnExactPutCoinsSpec : ChangeSpec := { name := "fnExactPutCoins", fn := fun _ => fun
  | [d1, d2, d3, d4, d5] => { results := [.lit (.bool true)], args := [d1, d2, d3, d4, d5] }
  | _ => none }
def fnExactPutCoinsRow : OpenClaim := { program := "ytbjgngabdcknnaa", sum := "920407be44208486abe0c844b0c738119df5437f02ec3c797a193bc918a8c7ec", func := "loop.example/g00304/laws.FnExactPutCoins", spec := "fnExactPutCoins", unfollowed := true, recurses := true, plainKeys := false, apart := false }
def FnExactPutCoinsSaid : Prop := fnExactPutCoinsRow.holds Try.pinned (OpenSpec.ofChange fnExactPutCoinsSpec)

/-- ITS FALSE NEIGHBOUR: 'it returns false'. Refute it at one input. -/
def fnExactPutCoinsWrong : ChangeSpec := { name := "fnExactPutCoins", fn := fun _ => fun
  | [d1, d2, d3, d4, d5] => { results := [.lit (.bool false)], args := [d1, d2, d3, d4, d5] }
  | _ => none }
def FnExactPutCoinsWrongFalsely : Prop := fnExactPutCoinsRow.holds Try.pinned (OpenSpec.ofChange fnExactPutCoinsWrong)

/-- 'laws.FnExactStateFault': WHATEVER THE INPUT: true; the input reads as it did. -/
def fnExactStateFaultSpec : ChangeSpec := { name := "fnExactStateFault", fn := fun _ => fun
  | [d] => { results := [.lit (.bool true)], args := [d] }
  | _ => none }
def fnExactStateFaultRow : OpenClaim := { program := "ytbjgngabdcknnaa", sum := "920407be44208486abe0c844b0c738119df5437f02ec3c797a193bc918a8c7ec", func := "loop.example/g00304/laws.FnExactStateFault", spec := "fnExactStateFault", unfollowed := true, recurses := true, plainKeys := false, apart := false }
def FnExactStateFaultSaid : Prop := fnExactStateFaultRow.holds Try.pinned (OpenSpec.ofChange fnExactStateFaultSpec)

/-- ITS FALSE NEIGHBOUR: 'it returns false'. Refute it at one input. -/
def fnExactStateFaultWrong : ChangeSpec := { name := "fnExactStateFault", fn := fun _ => fun
  | [d] => { results := [.lit (.bool false)], args := [d] }
  | _ => none }
def FnExactStateFaultWrongFalsely : Prop := fnExactStateFaultRow.holds Try.pinned (OpenSpec.ofChange fnExactStateFaultWrong)

/- THE SECOND FORM. 'bulk': how many values and letters a reading holds, each counted each time it is reached (what is shared counts as often as it is met; a slice's spare places count too). A statement '..UptoSaid' is the law's where the arguments, and the package variables that the reading takes, are together of bulk at most 1048576: NARROWER than '..Said'. Prove '..Said' where nothing that the law and all that it calls make is longer than what came in: it says more and counts as full. Else prove '..UptoSaid'. A law counts once. -/
mutual
def uptoBulk {H : Type} : DataW H → Nat
  | .lit (.string bytes) => bytes.length + 1
  | .lit _ => 1
  | .nil => 1
  | .ptr d => uptoBulk d + 1
  | .slice elems spare => uptoBulkAll elems + uptoBulkAll spare + 1
  | .agg parts => uptoBulkAll parts + 1
  | .iface _ d => uptoBulk d + 1
  | .map entries => uptoBulkEntries entries + 1
  | .held _ => 1
def uptoBulkAll {H : Type} : List (DataW H) → Nat
  | [] => 0
  | d :: r => uptoBulk d + uptoBulkAll r
def uptoBulkEntries {H : Type} : List (Lit × DataW H) → Nat
  | [] => 0
  | x :: r => uptoBulkEntry x + uptoBulkEntries r
def uptoBulkEntry {H : Type} : Lit × DataW H → Nat
  | (.string bytes, d) => bytes.length + uptoBulk d + 1
  | (_, d) => uptoBulk d + 1
 end
def uptoSmall : (H : Type) → List (DataW H) → Bool := fun _ ds => decide (uptoBulkAll ds ≤ 1048576)
def OpenSpec.upto (s : _root_.Go.ChangeSpec) : _root_.Go.OpenSpec := { _root_.Go.OpenSpec.ofChange s with cond := some uptoSmall }

/-- 'laws.FnExactCoinAt', WHERE WHAT IT READS IS OF BULK AT MOST 1048576: true; the input reads as it did. -/
def fnExactCoinAtUptoRow : OpenClaim := { program := "ytbjgngabdcknnaa", sum := "920407be44208486abe0c844b0c738119df5437f02ec3c797a193bc918a8c7ec", func := "loop.example/g00304/laws.FnExactCoinAt", spec := "fnExactCoinAt", unfollowed := true, recurses := true, plainKeys := false, apart := false, narrowed := true }
def FnExactCoinAtUptoSaid : Prop := fnExactCoinAtUptoRow.holds Try.pinned (OpenSpec.upto fnExactCoinAtSpec)

/-- 'laws.FnExactTakeCoins', WHERE WHAT IT READS IS OF BULK AT MOST 1048576: true; the input reads as it did. -/
def fnExactTakeCoinsUptoRow : OpenClaim := { program := "ytbjgngabdcknnaa", sum := "920407be44208486abe0c844b0c738119df5437f02ec3c797a193bc918a8c7ec", func := "loop.example/g00304/laws.FnExactTakeCoins", spec := "fnExactTakeCoins", unfollowed := true, recurses := true, plainKeys := false, apart := false, narrowed := true }
def FnExactTakeCoinsUptoSaid : Prop := fnExactTakeCoinsUptoRow.holds Try.pinned (OpenSpec.upto fnExactTakeCoinsSpec)

/-- 'laws.FnExactPutCoins', WHERE WHAT IT READS IS OF BULK AT MOST 1048576: true; the input reads as it did. -/
def fnExactPutCoinsUptoRow : OpenClaim := { program := "ytbjgngabdcknnaa", sum := "920407be44208486abe0c844b0c738119df5437f02ec3c797a193bc918a8c7ec", func := "loop.example/g00304/laws.FnExactPutCoins", spec := "fnExactPutCoins", unfollowed := true, recurses := true, plainKeys := false, apart := false, narrowed := true }
def FnExactPutCoinsUptoSaid : Prop := fnExactPutCoinsUptoRow.holds Try.pinned (OpenSpec.upto fnExactPutCoinsSpec)

/-- 'laws.FnExactStateFault', WHERE WHAT IT READS IS OF BULK AT MOST 1048576: true; the input reads as it did. -/
def fnExactStateFaultUptoRow : OpenClaim := { program := "ytbjgngabdcknnaa", sum := "920407be44208486abe0c844b0c738119df5437f02ec3c797a193bc918a8c7ec", func := "loop.example/g00304/laws.FnExactStateFault", spec := "fnExactStateFault", unfollowed := true, recurses := true, plainKeys := false, apart := false, narrowed := true }
def FnExactStateFaultUptoSaid : Prop := fnExactStateFaultUptoRow.holds Try.pinned (OpenSpec.upto fnExactStateFaultSpec)

end Rows
end Go.Proofs.Ytbjgngabdcknnaa
