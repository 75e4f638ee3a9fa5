/- Whatever two transactions it is given, the law FnExactClashTx returns true and leaves its arguments as they were: no condition. -/
import Derived.Test.YtaopblgnmmhjfaaPClashTx
import Derived.Test.YtaopblgnmmhjfaaIOs
namespace Go.Proofs.Ytaopblgnmmhjfaa

theorem clashTx_holds : Rows.FnExactClashTxSaid := clashTx_holds_of iClashTx

#print axioms clashTx_holds
end Go.Proofs.Ytaopblgnmmhjfaa
