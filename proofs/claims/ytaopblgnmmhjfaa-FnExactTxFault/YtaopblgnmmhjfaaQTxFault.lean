/- Whatever transaction it is given, the law FnExactTxFault returns true and leaves its arguments as they were: no condition. -/
import Derived.Test.YtaopblgnmmhjfaaPTxFault
import Derived.Test.YtaopblgnmmhjfaaITz
namespace Go.Proofs.Ytaopblgnmmhjfaa

theorem txFault_holds : Rows.FnExactTxFaultSaid := txFault_holds_of iTxFault

#print axioms txFault_holds
end Go.Proofs.Ytaopblgnmmhjfaa
