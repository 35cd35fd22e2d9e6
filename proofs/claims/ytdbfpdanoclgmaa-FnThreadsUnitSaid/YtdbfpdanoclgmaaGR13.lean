/- Plain facts. -/
import Derived.Test.YtdbfpdanoclgmaaS1
import Derived.Test.YtdbfpdanoclgmaaMG
import Derived.Deep.RegionHeld3
import Derived.BigQuiet
/- Contracts of the functions of chapter 3 in the model: FreeOk. -/
namespace Go.Proofs.Ytdbfpdanoclgmaa
open Go.RowKit

end Go.Proofs.Ytdbfpdanoclgmaa

/- Contracts of the functions of chapter 3 in the model: steps. -/
namespace Go.Proofs.Ytdbfpdanoclgmaa
open Go.RowKit

end Go.Proofs.Ytdbfpdanoclgmaa
