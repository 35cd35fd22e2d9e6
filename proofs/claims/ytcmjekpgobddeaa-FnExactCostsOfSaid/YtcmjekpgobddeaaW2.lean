/- Contracts of the functions of chapter 1 in the program: excess. -/
import Derived.Test.YtcmjekpgobddeaaW1
namespace Go.Proofs.Ytcmjekpgobddeaa
open Go.RowKit

end Go.Proofs.Ytcmjekpgobddeaa
