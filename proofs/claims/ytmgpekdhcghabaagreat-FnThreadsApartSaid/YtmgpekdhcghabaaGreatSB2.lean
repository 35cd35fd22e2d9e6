/- Contracts of the functions of chapter 2 in the model: NarrowestOf, by the number of nodes. -/
import Derived.Test.YtmgpekdhcghabaaGreatGR24
namespace Go.Proofs.YtmgpekdhcghabaaGreat
open Go.RowKit

end Go.Proofs.YtmgpekdhcghabaaGreat
