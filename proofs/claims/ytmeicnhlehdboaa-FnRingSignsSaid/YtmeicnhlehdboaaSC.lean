/- Contracts of the functions of chapter 3 in the model: FreeOk. -/
import Derived.Test.YtmeicnhlehdboaaS1
import Derived.Test.YtmeicnhlehdboaaMG
namespace Go.Proofs.Ytmeicnhlehdboaa
open Go.RowKit

end Go.Proofs.Ytmeicnhlehdboaa
