/- Contracts of the functions of chapter 1 in the program: ExcessAt, BalancedOk, HoldsOk. -/
import Derived.Test.YtaohjhehlkeckaaW2
namespace Go.Proofs.Ytaohjhehlkeckaa
open Go.RowKit

end Go.Proofs.Ytaohjhehlkeckaa
