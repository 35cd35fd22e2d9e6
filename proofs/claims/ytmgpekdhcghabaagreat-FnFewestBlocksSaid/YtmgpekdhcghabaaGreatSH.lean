/- Contracts of the functions of chapter 3 in the model: pushes along a way. -/
import Derived.Test.YtmgpekdhcghabaaGreatSG
import Derived.Test.YtmgpekdhcghabaaGreatGR26
import Derived.Test.YtmgpekdhcghabaaGreatGR5
namespace Go.Proofs.YtmgpekdhcghabaaGreat
open Go.RowKit

end Go.Proofs.YtmgpekdhcghabaaGreat
