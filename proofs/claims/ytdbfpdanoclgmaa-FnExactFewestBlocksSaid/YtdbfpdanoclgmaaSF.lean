/- Contracts of the functions of chapter 1 in the model: FlowOk. -/
import Derived.Test.YtdbfpdanoclgmaaS1
namespace Go.Proofs.Ytdbfpdanoclgmaa
open Go.RowKit

end Go.Proofs.Ytdbfpdanoclgmaa
