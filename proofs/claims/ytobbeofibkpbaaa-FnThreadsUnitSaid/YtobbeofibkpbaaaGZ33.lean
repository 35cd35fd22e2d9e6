/- Plain facts. -/
import Derived.Test.YtobbeofibkpbaaaGZ21
import Derived.Test.YtobbeofibkpbaaaMG
import Derived.Deep.RegionHeld3
import Derived.BigQuiet
/- Contracts of the functions of chapter 3 in the model: FreeOk. -/
namespace Go.Proofs.Ytobbeofibkpbaaa
open Go.RowKit

end Go.Proofs.Ytobbeofibkpbaaa

/- Contracts of the functions of chapter 3 in the model: steps. -/
namespace Go.Proofs.Ytobbeofibkpbaaa
open Go.RowKit

end Go.Proofs.Ytobbeofibkpbaaa
