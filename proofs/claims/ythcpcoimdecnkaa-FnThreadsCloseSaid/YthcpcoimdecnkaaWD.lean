/- Contracts of the functions of chapter 3 in the program: steps. -/
import Derived.Test.YthcpcoimdecnkaaWC
import Derived.Test.YthcpcoimdecnkaaW9
import Derived.Test.YthcpcoimdecnkaaMG
import Derived.Deep.RegionHeld3
namespace Go.Proofs.Ythcpcoimdecnkaa
open Go.RowKit

end Go.Proofs.Ythcpcoimdecnkaa
