/- Contracts of the functions of chapter 3 in the model: FreeOk. -/
import Derived.Test.YtdlgjmjgelginaaS1
import Derived.Test.YtdlgjmjgelginaaMG
namespace Go.Proofs.Ytdlgjmjgelginaa
open Go.RowKit

end Go.Proofs.Ytdlgjmjgelginaa
