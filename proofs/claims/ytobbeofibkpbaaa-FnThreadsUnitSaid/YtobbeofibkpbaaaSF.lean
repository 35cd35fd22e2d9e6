/- Contracts of the functions of chapter 1 in the model: FlowOk. -/
import Derived.Test.YtobbeofibkpbaaaGZ21
namespace Go.Proofs.Ytobbeofibkpbaaa
open Go.RowKit

end Go.Proofs.Ytobbeofibkpbaaa
