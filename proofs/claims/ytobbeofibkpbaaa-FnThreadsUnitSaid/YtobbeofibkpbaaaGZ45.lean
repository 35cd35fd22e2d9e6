/- Plain facts. -/
import Derived.Test.YtobbeofibkpbaaaGZ13
import Derived.Deep.AppendLies
import Derived.Deep.RegionHeld3
/- Contracts of the functions of chapter 2 in the program: sides between two nodes, pipes that leave a side. -/
namespace Go.Proofs.Ytobbeofibkpbaaa
open Go.RowKit

end Go.Proofs.Ytobbeofibkpbaaa

/- Contracts of the functions of chapter 2 in the program: LeastRoom. -/
namespace Go.Proofs.Ytobbeofibkpbaaa
open Go.RowKit

end Go.Proofs.Ytobbeofibkpbaaa
