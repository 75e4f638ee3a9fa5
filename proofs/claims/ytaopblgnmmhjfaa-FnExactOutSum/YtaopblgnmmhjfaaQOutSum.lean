/- Whatever transaction it is given, the law FnExactOutSum returns true and leaves its arguments as they were: no condition. -/
import Derived.Test.YtaopblgnmmhjfaaPOutSum
import Derived.Test.YtaopblgnmmhjfaaIOs
namespace Go.Proofs.Ytaopblgnmmhjfaa

theorem outSum_holds : Rows.FnExactOutSumSaid := outSum_holds_of iOutSum

#print axioms outSum_holds
end Go.Proofs.Ytaopblgnmmhjfaa
