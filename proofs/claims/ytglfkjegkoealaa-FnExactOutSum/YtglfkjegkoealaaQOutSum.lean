/- Whatever transaction it is given, the law FnExactOutSum returns true and leaves its arguments as they were: no condition. -/
import Derived.Test.YtglfkjegkoealaaPOutSum
import Derived.Test.YtglfkjegkoealaaIOs
namespace Go.Proofs.Ytglfkjegkoealaa

theorem outSum_holds : Rows.FnExactOutSumSaid := outSum_holds_of iOutSum

#print axioms outSum_holds
end Go.Proofs.Ytglfkjegkoealaa
