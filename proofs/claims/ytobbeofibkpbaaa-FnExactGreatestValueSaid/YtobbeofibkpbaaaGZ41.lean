/- Plain facts. -/
import Derived.Test.YtobbeofibkpbaaaGZ42
import Derived.Deep.AppendLies
import Derived.Test.YtobbeofibkpbaaaGZ46
/- Contracts of the functions of chapter 2 in the model: RoomOf, LeavingOf. -/
namespace Go.Proofs.Ytobbeofibkpbaaa
open Go.RowKit

end Go.Proofs.Ytobbeofibkpbaaa

/- Contracts of the functions of chapter 2 in the model: LeavingOf. -/
namespace Go.Proofs.Ytobbeofibkpbaaa
open Go.RowKit

end Go.Proofs.Ytobbeofibkpbaaa
