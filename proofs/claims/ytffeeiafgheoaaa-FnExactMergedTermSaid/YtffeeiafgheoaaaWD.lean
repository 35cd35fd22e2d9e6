/- Contracts of the functions of chapter 3 in the program: steps. -/
import Derived.Test.YtffeeiafgheoaaaWC
import Derived.Test.YtffeeiafgheoaaaW9
import Derived.Test.YtffeeiafgheoaaaMG
import Derived.Deep.RegionHeld3
namespace Go.Proofs.Ytffeeiafgheoaaa
open Go.RowKit

end Go.Proofs.Ytffeeiafgheoaaa
