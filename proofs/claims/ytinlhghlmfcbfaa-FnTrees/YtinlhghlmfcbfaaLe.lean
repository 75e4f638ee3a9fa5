/- IsAbove and Related: the specification's. -/
import Derived.Test.YtinlhghlmfcbfaaLd
namespace Go.Proofs.Ytinlhghlmfcbfaa
open Go.RowKit Go.Maps Go.WideMaps

def isAboveR (ms : List Mb) (a b : Int) : Bool := if treeR ms = 0 then aboveB ms a b else false
def relB (ms : List Mb) (a b : Int) : Bool := aboveB ms a b || aboveB ms b a
def relatedR (ms : List Mb) (a b : Int) : Bool := if treeR ms = 0 then relB ms a b else false

end Go.Proofs.Ytinlhghlmfcbfaa
