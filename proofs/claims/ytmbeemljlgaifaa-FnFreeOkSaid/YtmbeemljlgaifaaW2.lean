/- Contracts of the functions of chapter 1 in the program: excess. -/
import Derived.Test.YtmbeemljlgaifaaW1
namespace Go.Proofs.Ytmbeemljlgaifaa
open Go.RowKit

end Go.Proofs.Ytmbeemljlgaifaa
