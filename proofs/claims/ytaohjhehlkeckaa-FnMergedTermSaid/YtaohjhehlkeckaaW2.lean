/- Contracts of the functions of chapter 1 in the program: excess. -/
import Derived.Test.YtaohjhehlkeckaaW1
namespace Go.Proofs.Ytaohjhehlkeckaa
open Go.RowKit

end Go.Proofs.Ytaohjhehlkeckaa
