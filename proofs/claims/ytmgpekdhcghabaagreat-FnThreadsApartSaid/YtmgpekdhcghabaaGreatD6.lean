/- Contracts of the laws' draws that give a net and a flow. -/
import Derived.Test.YtmgpekdhcghabaaGreatD5
namespace Go.Proofs.YtmgpekdhcghabaaGreat
open Go.RowKit

end Go.Proofs.YtmgpekdhcghabaaGreat
