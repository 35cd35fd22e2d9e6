/- Contracts of the functions of chapter 3 in the program: steps. -/
import Derived.Test.YtlaeckjfjleplaaWC
import Derived.Test.YtlaeckjfjleplaaW9
import Derived.Test.YtlaeckjfjleplaaMG
import Derived.Deep.RegionHeld3
namespace Go.Proofs.Ytlaeckjfjleplaa
open Go.RowKit

end Go.Proofs.Ytlaeckjfjleplaa
