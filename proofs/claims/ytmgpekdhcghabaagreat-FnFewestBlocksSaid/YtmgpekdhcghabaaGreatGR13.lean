/- Plain facts. -/
import Derived.Test.YtmgpekdhcghabaaGreatS1
import Derived.Test.YtmgpekdhcghabaaGreatMG
import Derived.Deep.RegionHeld3
import Derived.BigQuiet
/- Contracts of the functions of chapter 3 in the model: FreeOk. -/
namespace Go.Proofs.YtmgpekdhcghabaaGreat
open Go.RowKit

end Go.Proofs.YtmgpekdhcghabaaGreat

/- Contracts of the functions of chapter 3 in the model: steps. -/
namespace Go.Proofs.YtmgpekdhcghabaaGreat
open Go.RowKit

end Go.Proofs.YtmgpekdhcghabaaGreat
