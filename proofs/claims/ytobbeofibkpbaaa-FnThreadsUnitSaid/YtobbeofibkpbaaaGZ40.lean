/- Plain facts. -/
import Derived.Test.YtobbeofibkpbaaaSF
/- Contracts of the functions of chapter 1 in the model: ExcessAt, HoldsOk. -/
namespace Go.Proofs.Ytobbeofibkpbaaa
open Go.RowKit

end Go.Proofs.Ytobbeofibkpbaaa

/- Contracts of the functions of chapter 1 in the model: BalancedOk. -/
namespace Go.Proofs.Ytobbeofibkpbaaa
open Go.RowKit

end Go.Proofs.Ytobbeofibkpbaaa
