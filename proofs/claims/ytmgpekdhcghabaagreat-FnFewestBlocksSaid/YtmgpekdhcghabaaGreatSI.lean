/- Contracts of the functions of chapter 3 in the model: WayFrom, PushedOn, GreatestFlow, GreatestValue. -/
import Derived.Test.YtmgpekdhcghabaaGreatSH
import Derived.Test.YtmgpekdhcghabaaGreatGR15
import Derived.Test.YtmgpekdhcghabaaGreatGR24
import Derived.Test.YtmgpekdhcghabaaGreatGR13
import Derived.Test.YtmgpekdhcghabaaGreatMG
namespace Go.Proofs.YtmgpekdhcghabaaGreat
open Go.RowKit

end Go.Proofs.YtmgpekdhcghabaaGreat
