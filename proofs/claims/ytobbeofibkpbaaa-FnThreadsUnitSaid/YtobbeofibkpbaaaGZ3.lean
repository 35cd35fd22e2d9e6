/- Plain facts. -/
import Derived.Test.YtobbeofibkpbaaaGZ41
import Derived.Test.YtobbeofibkpbaaaGZ15
import Derived.Test.YtobbeofibkpbaaaGZ40
import Derived.Test.YtobbeofibkpbaaaGZ33
import Derived.Test.YtobbeofibkpbaaaMG
/- Contracts of the functions of chapter 2 in the model: LeastRoom. -/
namespace Go.Proofs.Ytobbeofibkpbaaa
open Go.RowKit

end Go.Proofs.Ytobbeofibkpbaaa

/- Contracts of the functions of chapter 3 in the model: WayFrom, PushedOn, GreatestFlow, GreatestValue. -/
namespace Go.Proofs.Ytobbeofibkpbaaa
open Go.RowKit

end Go.Proofs.Ytobbeofibkpbaaa
