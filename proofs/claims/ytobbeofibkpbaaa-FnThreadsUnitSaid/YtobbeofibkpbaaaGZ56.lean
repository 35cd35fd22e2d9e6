/- Plain facts. -/
import Derived.Test.YtobbeofibkpbaaaMG
import Derived.Test.YtobbeofibkpbaaaGZ35
import Derived.Test.YtobbeofibkpbaaaD4
import Derived.Test.YtobbeofibkpbaaaGZ15
import Derived.Deep.RegionHeld3
import Derived.Laws.StructEq
/- Contracts of what the exact laws call: equality. -/
namespace Go.Proofs.Ytobbeofibkpbaaa
open Go.RowKit

end Go.Proofs.Ytobbeofibkpbaaa

/- What the laws of promises call: equality, and a fixed answer. -/
namespace Go.Proofs.Ytobbeofibkpbaaa
open Go.RowKit

end Go.Proofs.Ytobbeofibkpbaaa

/- What the laws of promises call: equality of nets. -/
namespace Go.Proofs.Ytobbeofibkpbaaa
open Go.RowKit

end Go.Proofs.Ytobbeofibkpbaaa
