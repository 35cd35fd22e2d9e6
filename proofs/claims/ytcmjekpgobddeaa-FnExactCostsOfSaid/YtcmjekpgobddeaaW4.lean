/- Contracts of the functions of chapter 1 in the program: BothFlows. -/
import Derived.Test.YtcmjekpgobddeaaW3
import Derived.StillTailTactics
namespace Go.Proofs.Ytcmjekpgobddeaa
open Go.RowKit

end Go.Proofs.Ytcmjekpgobddeaa
