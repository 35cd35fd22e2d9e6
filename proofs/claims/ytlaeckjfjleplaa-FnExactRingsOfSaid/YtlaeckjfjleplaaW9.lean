/- Contracts of the functions of chapter 2 in the program: sides between two nodes, pipes that leave a side. -/
import Derived.Test.YtlaeckjfjleplaaW7
import Derived.Deep.AppendLies
import Derived.Deep.RegionHeld3
namespace Go.Proofs.Ytlaeckjfjleplaa
open Go.RowKit

def betwF (a b : Int) (k : Nat) : Bool := partsB (k : Int) a b

end Go.Proofs.Ytlaeckjfjleplaa
