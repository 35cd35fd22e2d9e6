/- Contracts of the functions of chapter 3 in the model: the first way. -/
import Derived.Test.YtobbeofibkpbaaaGZ43
namespace Go.Proofs.Ytobbeofibkpbaaa
open Go.RowKit

end Go.Proofs.Ytobbeofibkpbaaa
