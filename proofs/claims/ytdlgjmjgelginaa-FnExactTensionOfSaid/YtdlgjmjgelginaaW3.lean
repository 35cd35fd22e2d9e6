/- Contracts of the functions of chapter 1 in the program: ExcessAt, BalancedOk, HoldsOk. -/
import Derived.Test.YtdlgjmjgelginaaW2
namespace Go.Proofs.Ytdlgjmjgelginaa
open Go.RowKit

end Go.Proofs.Ytdlgjmjgelginaa
