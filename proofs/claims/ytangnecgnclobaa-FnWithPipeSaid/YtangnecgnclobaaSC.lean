/- Contracts of the functions of chapter 3 in the model: FreeOk. -/
import Derived.Test.YtangnecgnclobaaS1
import Derived.Test.YtangnecgnclobaaMG
namespace Go.Proofs.Ytangnecgnclobaa
open Go.RowKit

end Go.Proofs.Ytangnecgnclobaa
