/- Contracts of the functions of chapter 1 in the program: ExcessAt, BalancedOk, HoldsOk. -/
import Derived.Test.YtcmjekpgobddeaaW2
namespace Go.Proofs.Ytcmjekpgobddeaa
open Go.RowKit

end Go.Proofs.Ytcmjekpgobddeaa
