/- Contracts of the functions of chapter 3 in the program: steps. -/
import Derived.Test.YtaohjhehlkeckaaWC
import Derived.Test.YtaohjhehlkeckaaW9
import Derived.Test.YtaohjhehlkeckaaMG
import Derived.Deep.RegionHeld3
namespace Go.Proofs.Ytaohjhehlkeckaa
open Go.RowKit

end Go.Proofs.Ytaohjhehlkeckaa
