/- Whatever two transactions it is given, the law FnExactSameTxs returns true and leaves its arguments as they were: no condition. -/
import Derived.Test.YtaopblgnmmhjfaaPSameTxs
import Derived.Test.YtaopblgnmmhjfaaISm
namespace Go.Proofs.Ytaopblgnmmhjfaa

theorem sameTxs_holds : Rows.FnExactSameTxsSaid := sameTxs_holds_of iSameTxs

#print axioms sameTxs_holds
end Go.Proofs.Ytaopblgnmmhjfaa
