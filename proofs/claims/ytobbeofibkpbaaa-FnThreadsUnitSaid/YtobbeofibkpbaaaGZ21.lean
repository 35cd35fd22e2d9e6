/- Plain facts. -/
import Derived.Test.YtobbeofibkpbaaaMG
import Derived.Deep.AppendLies
import Derived.Deep.RegionHeld3
/- Contracts of the functions of chapter 1 in the model: NetOk, FlowOk. -/
namespace Go.Proofs.Ytobbeofibkpbaaa
open Go.RowKit

end Go.Proofs.Ytobbeofibkpbaaa

/- Contracts of the functions of chapter 1 in the model: TurnedNet. -/
namespace Go.Proofs.Ytobbeofibkpbaaa
open Go.RowKit

end Go.Proofs.Ytobbeofibkpbaaa
