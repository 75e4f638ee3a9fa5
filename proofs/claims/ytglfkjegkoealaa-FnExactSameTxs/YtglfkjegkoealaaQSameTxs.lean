/- Whatever two transactions it is given, the law FnExactSameTxs returns true and leaves its arguments as they were: no condition. -/
import Derived.Test.YtglfkjegkoealaaPSameTxs
import Derived.Test.YtglfkjegkoealaaISm
namespace Go.Proofs.Ytglfkjegkoealaa

theorem sameTxs_holds : Rows.FnExactSameTxsSaid := sameTxs_holds_of iSameTxs

#print axioms sameTxs_holds
end Go.Proofs.Ytglfkjegkoealaa
