/- Plain facts. -/
import Derived.Test.YtobbeofibkpbaaaMG
import Derived.Test.YtobbeofibkpbaaaGZ36
import Derived.Test.YtobbeofibkpbaaaGZ23
/- Plain facts, chapter 6: costs. -/
namespace Go.Proofs.Ytobbeofibkpbaaa
open Go.RowKit

end Go.Proofs.Ytobbeofibkpbaaa

/- Contracts of the functions of chapter 6 in the program: CostOf. -/
namespace Go.Proofs.Ytobbeofibkpbaaa
open Go.RowKit

end Go.Proofs.Ytobbeofibkpbaaa
