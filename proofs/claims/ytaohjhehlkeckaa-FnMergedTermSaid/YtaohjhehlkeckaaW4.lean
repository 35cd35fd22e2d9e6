/- Contracts of the functions of chapter 1 in the program: BothFlows. -/
import Derived.Test.YtaohjhehlkeckaaW3
import Derived.StillTailTactics
namespace Go.Proofs.Ytaohjhehlkeckaa
open Go.RowKit

end Go.Proofs.Ytaohjhehlkeckaa
