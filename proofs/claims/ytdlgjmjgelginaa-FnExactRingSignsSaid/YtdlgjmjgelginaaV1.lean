/- Contracts of the functions of chapter 4 in the program: walks along pipes. -/
import Derived.Test.YtdlgjmjgelginaaN1
import Derived.Test.YtdlgjmjgelginaaW6
import Derived.Test.YtdlgjmjgelginaaRW
import Derived.Test.YtdlgjmjgelginaaRD
import Derived.Deep.QuietTactic
import Derived.Deep.AppendLies
namespace Go.Proofs.Ytdlgjmjgelginaa
open Go.RowKit

end Go.Proofs.Ytdlgjmjgelginaa
