/- Plain facts. -/
import Derived.Test.YtmgpekdhcghabaaGreatGR21
import Derived.Test.YtmgpekdhcghabaaGreatGR7
/- Contracts of the functions of chapter 2 in the model: LeavingOf. -/
namespace Go.Proofs.YtmgpekdhcghabaaGreat
open Go.RowKit

end Go.Proofs.YtmgpekdhcghabaaGreat

/- Contracts of the functions of chapter 2 in the model: LeastRoom. -/
namespace Go.Proofs.YtmgpekdhcghabaaGreat
open Go.RowKit

end Go.Proofs.YtmgpekdhcghabaaGreat

/- Contracts of the functions of chapter 2 in the model: NarrowestOf. -/
namespace Go.Proofs.YtmgpekdhcghabaaGreat
open Go.RowKit

end Go.Proofs.YtmgpekdhcghabaaGreat
