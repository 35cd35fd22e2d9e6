/- Contracts of the functions of chapter 3 in the model: the first way. -/
import Derived.Test.YtmgpekdhcghabaaGreatGR7
namespace Go.Proofs.YtmgpekdhcghabaaGreat
open Go.RowKit

end Go.Proofs.YtmgpekdhcghabaaGreat
