/- Contracts of the functions of chapter 4 in the program: walks along pipes. -/
import Derived.Test.YtokfojnonkiffaaN1
import Derived.Test.YtokfojnonkiffaaW6
import Derived.Test.YtokfojnonkiffaaRW
import Derived.Test.YtokfojnonkiffaaRD
import Derived.Deep.QuietTactic
import Derived.Deep.AppendLies
namespace Go.Proofs.Ytokfojnonkiffaa
open Go.RowKit

end Go.Proofs.Ytokfojnonkiffaa
