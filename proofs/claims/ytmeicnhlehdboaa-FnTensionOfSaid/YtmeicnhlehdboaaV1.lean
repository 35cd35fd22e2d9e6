/- Contracts of the functions of chapter 4 in the program: walks along pipes. -/
import Derived.Test.YtmeicnhlehdboaaN1
import Derived.Test.YtmeicnhlehdboaaW6
import Derived.Test.YtmeicnhlehdboaaRW
import Derived.Test.YtmeicnhlehdboaaRD
import Derived.Deep.QuietTactic
import Derived.Deep.AppendLies
namespace Go.Proofs.Ytmeicnhlehdboaa
open Go.RowKit

end Go.Proofs.Ytmeicnhlehdboaa
