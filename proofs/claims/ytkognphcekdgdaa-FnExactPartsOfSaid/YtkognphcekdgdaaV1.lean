/- Contracts of the functions of chapter 4 in the program: walks along pipes. -/
import Derived.Test.YtkognphcekdgdaaN1
import Derived.Test.YtkognphcekdgdaaW6
import Derived.Test.YtkognphcekdgdaaRW
import Derived.Test.YtkognphcekdgdaaRD
import Derived.Deep.QuietTactic
import Derived.Deep.AppendLies
namespace Go.Proofs.Ytkognphcekdgdaa
open Go.RowKit

end Go.Proofs.Ytkognphcekdgdaa
