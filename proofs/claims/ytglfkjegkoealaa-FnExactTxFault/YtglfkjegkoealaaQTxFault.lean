/- Whatever transaction it is given, the law FnExactTxFault returns true and leaves its arguments as they were: no condition. -/
import Derived.Test.YtglfkjegkoealaaPTxFault
import Derived.Test.YtglfkjegkoealaaITx
namespace Go.Proofs.Ytglfkjegkoealaa

theorem txFault_holds : Rows.FnExactTxFaultSaid := txFault_holds_of iTxFault

#print axioms txFault_holds
end Go.Proofs.Ytglfkjegkoealaa
