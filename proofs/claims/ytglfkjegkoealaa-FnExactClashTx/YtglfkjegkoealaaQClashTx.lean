/- Whatever two transactions it is given, the law FnExactClashTx returns true and leaves its arguments as they were: no condition. -/
import Derived.Test.YtglfkjegkoealaaPClashTx
import Derived.Test.YtglfkjegkoealaaIOs
namespace Go.Proofs.Ytglfkjegkoealaa

theorem clashTx_holds : Rows.FnExactClashTxSaid := clashTx_holds_of iClashTx

#print axioms clashTx_holds
end Go.Proofs.Ytglfkjegkoealaa
