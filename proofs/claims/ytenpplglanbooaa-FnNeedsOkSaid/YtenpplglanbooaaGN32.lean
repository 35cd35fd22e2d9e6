/- Plain facts. -/
import Derived.Test.YtenpplglanbooaaGN9
import Derived.Deep.AppendLies
import Derived.Deep.RegionHeld3
/- Contracts of the functions of chapter 2 in the program: sides between two nodes, pipes that leave a side. -/
namespace Go.Proofs.Ytenpplglanbooaa
open Go.RowKit

def betwF (a b : Int) (k : Nat) : Bool := partsB (k : Int) a b

end Go.Proofs.Ytenpplglanbooaa

/- Contracts of the functions of chapter 2 in the program: LeastRoom. -/
namespace Go.Proofs.Ytenpplglanbooaa
open Go.RowKit

theorem min_if (a b : Int) : (if b < a then b else a) = min a b := by split <;> omega
theorem int_eq {a b : Int} (h : a = b) : Value.int .i64 a = .int .i64 b := by rw [h]
theorem leastR_yes {n : Int} {ps : List Pp} {a b : Int} (h : endsB n ps a b = true) : leastR n ps a b = (leastI n ps a b, true) := by rw [leastR, if_pos h]
theorem leastR_no {n : Int} {ps : List Pp} {a b : Int} (h : endsB n ps a b = false) : leastR n ps a b = (0, false) := by rw [leastR, if_neg (by simp [h])]

end Go.Proofs.Ytenpplglanbooaa
