/- A voter, a ref and a number that were drawn. -/
import Derived.Test.YtpcgkgjmcnncdaaZe
namespace Go.Proofs.Ytpcgkgjmcnncdaa
open Go.RowKit Go.Maps Go.WideMaps

def OutCf (w w' : World) (e : Ending) : Prop :=
  ∃ (k l : Int) (va : Option Addr) (n vc : Nat) (ms : List Mb) (p q x : Int), e = .returned (.tuple #[.agg #[.int .i64 k, .int .i64 l, .slice va n vc], .agg #[.int .i64 p, .int .i64 q], .int .i64 x]) ∧ n ≤ 41 ∧ Hid (n ≤ vc ∧ vc ≤ maxLen ∧ MAt w' va n ms) ∧ Hid (Below w.heap.size w w')

end Go.Proofs.Ytpcgkgjmcnncdaa
