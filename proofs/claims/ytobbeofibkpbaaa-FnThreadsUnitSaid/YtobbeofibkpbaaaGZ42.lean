/- Plain facts. -/
import Derived.Test.YtobbeofibkpbaaaSF
import Derived.Test.YtobbeofibkpbaaaMG
import Derived.IntWalk
import Derived.Deep.RegionHeld3
/- Contracts of the functions of chapter 2 in the model: SideOk, how a pipe leads. -/
namespace Go.Proofs.Ytobbeofibkpbaaa
open Go.RowKit

end Go.Proofs.Ytobbeofibkpbaaa

/- Contracts of the functions of chapter 2 in the model: AcrossOf. -/
namespace Go.Proofs.Ytobbeofibkpbaaa
open Go.RowKit


end Go.Proofs.Ytobbeofibkpbaaa
