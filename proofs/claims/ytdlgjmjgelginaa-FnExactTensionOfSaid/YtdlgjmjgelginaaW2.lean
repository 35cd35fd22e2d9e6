/- Contracts of the functions of chapter 1 in the program: excess. -/
import Derived.Test.YtdlgjmjgelginaaW1
namespace Go.Proofs.Ytdlgjmjgelginaa
open Go.RowKit

end Go.Proofs.Ytdlgjmjgelginaa
