/- Contracts of the functions of chapter 3 in the program: steps. -/
import Derived.Test.YtcmjekpgobddeaaWC
import Derived.Test.YtcmjekpgobddeaaW9
import Derived.Test.YtcmjekpgobddeaaMG
import Derived.Deep.RegionHeld3
namespace Go.Proofs.Ytcmjekpgobddeaa
open Go.RowKit

end Go.Proofs.Ytcmjekpgobddeaa
