/- Contracts of the functions of chapter 3 in the program: FreeOk. -/
import Derived.Test.YtlaeckjfjleplaaW6
import Derived.Test.YtlaeckjfjleplaaMG
namespace Go.Proofs.Ytlaeckjfjleplaa
open Go.RowKit

/-- the place of the first pipe that may not be empty, -1 if there is none -/
def notFree : List Pp → Nat → Int
  | [], _ => -1
  | p :: ps, k => if p.le = 0 then notFree ps (k + 1) else (k : Int)
theorem notFree_nn (ps : List Pp) (k : Nat) : decide (0 ≤ notFree ps k) = !(ps.all fun p => decide (p.le = 0)) := by
  induction ps generalizing k with
  | nil => rfl
  | cons p ps ih =>
    rw [notFree, List.all_cons]
    split
    · rename_i h; rw [ih]; simp [h]
    · rename_i h; simp [h]

end Go.Proofs.Ytlaeckjfjleplaa
