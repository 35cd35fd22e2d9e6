/- Contracts of the functions of chapter 3 in the model: FreeOk. -/
import Derived.Test.YthkkejpofelejaaS1
import Derived.Test.YthkkejpofelejaaMG
namespace Go.Proofs.Ythkkejpofelejaa
open Go.RowKit

end Go.Proofs.Ythkkejpofelejaa
